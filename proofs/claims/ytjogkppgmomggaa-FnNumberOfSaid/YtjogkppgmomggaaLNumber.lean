/-
  The law of NumberOf, walked.
-/
import Derived.Test.YtjogkppgmomggaaD10
import Derived.Test.YtjogkppgmomggaaL1
import Derived.Test.YtjogkppgmomggaaS6
import Derived.Test.YtjogkppgmomggaaS7
import Derived.Test.YtjogkppgmomggaaOpsB
namespace Go.Proofs.Ytjogkppgmomggaa
open Go.RowKit

theorem num_zeros (c : Nat) : ∀ n, Nt.num c (List.replicate n 0) = 0
  | 0 => rfl
  | n + 1 => by rw [List.replicate_succ, Nt.num, num_zeros c n]; simp
theorem st_zeros {c n : Nat} (h3 : 3 ≤ c) (h5 : c ≤ 5) (h1 : 1 ≤ n) (h6 : n ≤ 6) : Nt.St c (List.replicate n 0) :=
  ⟨h3, h5, by simpa using h1, by simpa using h6, fun k _ => by
    rw [List.getD_eq_getElem?_getD, List.getElem?_replicate]; split <;> simp <;> omega⟩

set_option maxHeartbeats 4000000 in
theorem FnNumberOf_calls (w : World) (v : Value) (ha : ArgB w v) :
    Calls Try.prog 8 #[v] w fun e w' => e = .returned (.bool true) ∧ Kept [] w w' := by
  have HA := Lib.hid ha
  obtain ⟨a, len, cap, rfl, hlc, hcm, _⟩ := ha
  by_cases hbig : 1048576 < len
  · have hb : (1048576 : Int) < (len : Int) := by omega
    clear hbig
    go_enter Try.func8, Try.ntmps8
    go_wp2
    go_ret
    exact ⟨rfl, Kept.refl _ _⟩
  have hb : ¬ (1048576 : Int) < (len : Int) := by omega
  clear hbig
  go_enter Try.func8, Try.ntmps8
  go_wp2_with fail
  refine (drawNumberOf_any _ _ HA.out).mono ?_
  rintro e w1 ⟨u, xs, c0, rfl, hc0, hc1, hs, hl, hk⟩
  have HS := Lib.hid hs
  have HK := Lib.hid hk
  clear hk hb hc0 hc1
  by_cases ho : Nt.stB c0 xs = true
  · obtain ⟨c, ks, rfl, rfl, hst⟩ := Nt.stB_st ho
    obtain ⟨n, hn⟩ : ∃ n, n = ks.length := ⟨_, rfl⟩
    have hp := hst.some
    have h6 := hst.few
    have c3 := hst.c3
    have c5 := hst.c5
    rw [← hn] at hp h6
    obtain ⟨g, cap1, rfl, hg, _⟩ := hs.row hn.symm hp
    have HST := Lib.hid hst
    have HN := Lib.hid hn
    have HYES := Lib.hid ho
    clear hs hst hn ho hg hl
    have HV := Lib.hid (Nt.numberOf_ok HST.out)
    have HDG := Lib.hid (show Nt.digits c (Nt.num c ks) n = ks by rw [HN.out]; exact Nt.digits_num ks HST.out.mem)
    have hlt : Nt.num c ks < 15625 := by have h := Nt.num_small HST.out 0; rw [List.drop_zero] at h; exact h
    have hlp : Nt.num c ks < c ^ n := by rw [HN.out]; exact Nt.num_lt HST.out.mem
    have HSO := Lib.hid (Nt.stateOf_ok (n := n) (c := c) (m := Nt.num c ks) ⟨hp, h6⟩ ⟨c3, c5⟩ hlp)
    have HSZ := Lib.hid (st_zeros c3 c5 hp h6)
    clear hlp
    go_wp2_with fail
    refine (iNumber_any (c : Int) (Nt.nats ks) _ _ _ HS.out).mono ?_
    rintro e w2 ⟨rfl, hk2⟩
    have HS2 := Lib.hid (HS.out.stay hk2)
    have HK2 := Lib.hid (HK.out.trans hk2 (by simp))
    clear hk2 HS HK
    go_wp2_with fail
    refine (sNumber_any (c : Int) (Nt.nats ks) _ _ _ HS2.out).mono ?_
    rintro e w' ⟨rfl, rfl⟩
    rw [HV.out]
    generalize Nt.num c ks = q at *
    go_wp2_with fail
    refine (iStateOf_any (n : Int) (c : Int) (q : Int) (by omega) _).mono ?_
    rintro e w3 ⟨u3, rfl, hs3, hk3⟩
    rw [HSO.out, HDG.out] at hs3
    have HR3 := Lib.hid hs3
    have HS3 := Lib.hid (HS2.out.stay hk3)
    have HK3 := Lib.hid (HK2.out.trans hk3 (by simp))
    clear hs3 hk3 HS2 HK2
    go_wp2_with fail
    refine (sameInts_any _ _ _ _ _ _ _ HR3.out HS3.out).mono ?_
    rintro e w4 ⟨rfl, hq⟩
    rw [dec_of rfl]
    have HK4 := Lib.hid (HK3.out.trans hq.kept (by simp))
    clear hq HS3 HR3 HK3
    go_wp2_with (at_make; refine make_int_g _ n (by rfl) _ _ rfl rfl rfl ?_ ?_)
    · omega
    · intro w5 hs5 hk5 _
      have hs6 : Sl w5 w4.heap.size (.slice (some ⟨w4.heap.size, 0, none⟩) n n) (Nt.nats (List.replicate n 0)) := by rw [nats_zeros]; exact hs5
      have HS5 := Lib.hid hs6
      have HK5 := Lib.hid (HK4.out.trans hk5 (by simp))
      have HZ : Hid (Nt.numberOf (c : Int) (Nt.nats (List.replicate n 0)) = 0) := Lib.hid (by rw [Nt.numberOf_ok HSZ.out, num_zeros]; rfl)
      clear hs5 hs6 hk5
      go_wp2_with fail
      refine (iNumber_any (c : Int) (Nt.nats (List.replicate n 0)) _ _ _ HS5.out).mono ?_
      rintro e w6 ⟨rfl, hk6⟩
      rw [HZ.out]
      have HK6 := Lib.hid (HK5.out.trans hk6 (by simp))
      clear hk6
      go_wp2
      go_ret
      exact ⟨rfl, HK6.out⟩
  · have ho' : Nt.stB c0 xs = false := by simpa using ho
    have HF := Lib.hid (Nt.numberOf_no ho')
    obtain ⟨b, cap1, rfl, _, _, _⟩ := hs.any
    clear hs ho
    go_wp2_with fail
    refine (iNumber_any c0 xs _ _ _ HS.out).mono ?_
    rintro e w2 ⟨rfl, hk2⟩
    have HS2 := Lib.hid (HS.out.stay hk2)
    have HK2 := Lib.hid (HK.out.trans hk2 (by simp))
    clear hk2 HS HK
    go_wp2_with fail
    refine (sNumber_any c0 xs _ _ _ HS2.out).mono ?_
    rintro e w' ⟨rfl, rfl⟩
    rw [HF.out]
    go_wp2_with fail
    refine (iStateOk_any c0 xs _ _ _ HS2.out).mono ?_
    rintro e w' ⟨rfl, rfl⟩
    rw [ho']
    clear ho'
    go_wp2_with fail
    refine (alive_any _).mono ?_
    rintro e w5 ⟨rfl, hk⟩
    have HK5 := Lib.hid (HK2.out.trans hk (by simp))
    clear hk
    go_wp2
    go_ret
    exact ⟨rfl, HK5.out⟩
end Go.Proofs.Ytjogkppgmomggaa
