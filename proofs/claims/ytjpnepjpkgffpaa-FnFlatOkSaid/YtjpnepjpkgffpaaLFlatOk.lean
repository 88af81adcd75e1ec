/-
  The law FlatOk, walked.
-/
import Derived.Test.YtjpnepjpkgffpaaD22
import Derived.Test.YtjpnepjpkgffpaaL1
import Derived.Test.YtjpnepjpkgffpaaXP
import Derived.Test.YtjpnepjpkgffpaaXM
import Derived.Test.YtjpnepjpkgffpaaPureXV
import Derived.Test.YtjpnepjpkgffpaaFC
import Derived.Test.YtjpnepjpkgffpaaTI
namespace Go.Proofs.Ytjpnepjpkgffpaa
open Go.RowKit

set_option maxHeartbeats 4000000 in
set_option maxRecDepth 100000 in
theorem FnFlatOk_calls (w : World) (v : Value) (ha : ArgB w v) :
    Calls Try.prog 5 #[v] w fun e w' => e = .returned (.bool true) ∧ Kept [] w w' := by
  have HA := Lib.hid ha
  obtain ⟨a, len, cap, rfl, hlc, hcm, _⟩ := ha
  by_cases hbig : 1048576 < len
  · have hb : (1048576 : Int) < (len : Int) := by omega
    clear hbig
    go_enter Try.func5, Try.ntmps5
    go_wp2
    go_ret
    exact ⟨rfl, Kept.refl _ _⟩
  have hb : ¬ (1048576 : Int) < (len : Int) := by omega
  clear hbig
  go_enter Try.func5, Try.ntmps5
  go_wp2_with fail
  refine (drawFlatOk_any _ _ HA.out).mono ?_
  rintro e w1 ⟨u, xs, v, ys, rfl, hs, ht, hl1, hl2, hk⟩
  have S1 := Lib.hid hs
  have T1 := Lib.hid ht
  have HK := Lib.hid hk
  clear hk hb
  by_cases ho : Nt.fireB xs 3 ys = true
  · obtain ⟨ns, ks, rfl, rfl, ok, st, hl⟩ := Nt.fireB3_ok ho
    obtain ⟨n, hn⟩ : ∃ n, n = ks.length := ⟨_, rfl⟩
    have hp := st.some
    have h6 := st.few
    obtain ⟨ra, rb, hLL⟩ := Nt.loopIs_ex (Nt.nats ns) 3 (Nt.nats ks)
    have HLL := Lib.hid hLL
    have hE := Nt.ends_flat hLL
    have hS := Nt.stands_flat (Nt.nats ns) (Nt.nats ks)
    have HFI := Lib.hid (Nt.stepOf3 ok st hl)
    have HTU := Lib.hid (Nt.turnOf_ok ok st hl)
    have HX1 := Nt.flatOf_step ok st hl
    have HX2 := Nt.flatOf_turn ok st hl
    have HFL : Hid ((Nt.step ns 3 ks).length = n) := Lib.hid (by rw [Nt.step_length, hn])
    rw [← hn] at hp h6
    have hne0 : ((n : Int) == 0) = false := beq_eq_false_iff_ne.2 (by omega)
    obtain ⟨gS, capS, rfl, _, _⟩ := hs.row (n := n) (by omega) hp
    obtain ⟨gT, capT, rfl, _, _⟩ := ht.row hn.symm hp
    clear hs ht ok st hl hn ho hl1 hl2 hLL
    generalize hb : Nt.flatOf (Nt.nats ns) (Nt.nats ks) = b at *
    have HB := Lib.hid hb
    have HY1 := Lib.hid HX1
    have HY2 := Lib.hid HX2
    clear hb HX1 HX2
    have d1 : (b != b) = false := by simp
    have d2 : (b == b) = true := by simp
    go_wp2_with fail
    refine (iFlat_any _ _ _ _ _ _ _ S1.out T1.out).mono ?_
    rintro e w2 ⟨rfl, hk⟩
    rw [HB.out]
    have S2 := Lib.hid (S1.out.stay hk)
    have T2 := Lib.hid (T1.out.stay hk)
    have HK2 := Lib.hid (HK.out.trans hk (by simp))
    clear S1 T1 HK
    clear hk
    go_wp2_with fail
    refine (sFlat_any _ _ _ _ _ _ _ S2.out T2.out).mono ?_
    rintro e w3 ⟨rfl, hk⟩
    rw [HB.out]
    have S3 := Lib.hid (S2.out.stay hk)
    have T3 := Lib.hid (T2.out.stay hk)
    have HK3 := Lib.hid (HK2.out.trans hk (by simp))
    clear S2 T2 HK2
    clear hk
    go_wp2_with fail
    refine (iFireStep_any _ _ _ _ _ _ _ _ S3.out T3.out).mono ?_
    rintro e w4 ⟨u4, rfl, hs, hk⟩
    rw [HFI.out] at hs
    have F4 := Lib.hid hs
    obtain ⟨gF, capF, rfl, hgF, hcF⟩ := hs.row HFL.out hp
    clear hgF hcF
    have S4 := Lib.hid (S3.out.stay hk)
    have T4 := Lib.hid (T3.out.stay hk)
    have HK4 := Lib.hid (HK3.out.trans hk (by simp))
    clear S3 T3 HK3
    clear hs hk
    go_wp2_with fail
    refine (iEnds_any _ _ _ HLL.out _ _ _ _ _ S4.out T4.out).mono ?_
    rintro e w5 ⟨rfl, hk⟩
    have S5 := Lib.hid (S4.out.stay hk)
    have T5 := Lib.hid (T4.out.stay hk)
    have F5 := Lib.hid (F4.out.stay hk)
    have HK5 := Lib.hid (HK4.out.trans hk (by simp))
    clear S4 T4 F4 HK4
    clear hk
    go_wp2_with fail
    refine (iStands_any _ _ _ _ _ _ _ S5.out T5.out).mono ?_
    rintro e w6 ⟨rfl, hk⟩
    have S6 := Lib.hid (S5.out.stay hk)
    have T6 := Lib.hid (T5.out.stay hk)
    have F6 := Lib.hid (F5.out.stay hk)
    have HK6 := Lib.hid (HK5.out.trans hk (by simp))
    clear S5 T5 F5 HK5
    clear hk
    go_wp2_with fail
    refine (iFlat_any _ _ _ _ _ _ _ S6.out F6.out).mono ?_
    rintro e w7 ⟨rfl, hk⟩
    rw [HY1.out]
    have S7 := Lib.hid (S6.out.stay hk)
    have T7 := Lib.hid (T6.out.stay hk)
    have F7 := Lib.hid (F6.out.stay hk)
    have HK7 := Lib.hid (HK6.out.trans hk (by simp))
    clear S6 T6 F6 HK6
    clear hk
    go_wp2_with fail
    refine (iTurnStep_any _ _ _ _ _ _ _ S7.out T7.out).mono ?_
    rintro e w8 ⟨u8, rfl, hs, hk⟩
    rw [HTU.out] at hs
    have U8 := Lib.hid hs
    obtain ⟨bU, capU, rfl, _, _, _⟩ := hs.any
    have S8 := Lib.hid (S7.out.stay hk)
    have T8 := Lib.hid (T7.out.stay hk)
    have F8 := Lib.hid (F7.out.stay hk)
    have HK8 := Lib.hid (HK7.out.trans hk (by simp))
    clear S7 T7 F7 HK7
    clear hs hk
    go_wp2_with fail
    refine (iFlat_any _ _ _ _ _ _ _ S8.out U8.out).mono ?_
    rintro e w9 ⟨rfl, hk⟩
    rw [HY2.out]
    have S9 := Lib.hid (S8.out.stay hk)
    have T9 := Lib.hid (T8.out.stay hk)
    have F9 := Lib.hid (F8.out.stay hk)
    have U9 := Lib.hid (U8.out.stay hk)
    have HK9 := Lib.hid (HK8.out.trans hk (by simp))
    clear S8 T8 F8 U8 HK8
    clear hk
    go_wp2_with fail
    refine (alive_any _).mono ?_
    rintro e w10 ⟨rfl, hk⟩
    have S10 := Lib.hid (S9.out.stay hk)
    have T10 := Lib.hid (T9.out.stay hk)
    have F10 := Lib.hid (F9.out.stay hk)
    have U10 := Lib.hid (U9.out.stay hk)
    have HK10 := Lib.hid (HK9.out.trans hk (by simp))
    clear S9 T9 F9 U9 HK9
    clear hk
    go_wp2
    go_ret
    exact ⟨rfl, HK10.out⟩
  · have ho' : Nt.fireB xs 3 ys = false := by simpa using ho
    have HB := Lib.hid (Nt.flatOf_no1 ho')
    have HFI := Lib.hid (Nt.stepOf_no ho')
    clear ho ho'
    obtain ⟨bS, capS, rfl, _, _, _⟩ := hs.any
    obtain ⟨bT, capT, rfl, _, _, _⟩ := ht.any
    clear hs ht hl1 hl2
    go_wp2_with fail
    refine (iFlat_any _ _ _ _ _ _ _ S1.out T1.out).mono ?_
    rintro e w2 ⟨rfl, hk⟩
    rw [HB.out]
    have S2 := Lib.hid (S1.out.stay hk)
    have T2 := Lib.hid (T1.out.stay hk)
    have HK2 := Lib.hid (HK.out.trans hk (by simp))
    clear S1 T1 HK
    clear hk
    go_wp2_with fail
    refine (sFlat_any _ _ _ _ _ _ _ S2.out T2.out).mono ?_
    rintro e w3 ⟨rfl, hk⟩
    rw [HB.out]
    have S3 := Lib.hid (S2.out.stay hk)
    have T3 := Lib.hid (T2.out.stay hk)
    have HK3 := Lib.hid (HK2.out.trans hk (by simp))
    clear S2 T2 HK2
    clear hk
    go_wp2_with fail
    refine (iFireStep_any _ _ _ _ _ _ _ _ S3.out T3.out).mono ?_
    rintro e w4 ⟨u4, rfl, hs, hk⟩
    rw [HFI.out] at hs
    have F4 := Lib.hid hs
    obtain ⟨bF, capF, rfl, _, _, _⟩ := hs.any
    have S4 := Lib.hid (S3.out.stay hk)
    have T4 := Lib.hid (T3.out.stay hk)
    have HK4 := Lib.hid (HK3.out.trans hk (by simp))
    clear S3 T3 HK3
    clear hs hk
    go_wp2_with fail
    refine (alive_any _).mono ?_
    rintro e w5 ⟨rfl, hk⟩
    have S5 := Lib.hid (S4.out.stay hk)
    have T5 := Lib.hid (T4.out.stay hk)
    have F5 := Lib.hid (F4.out.stay hk)
    have HK5 := Lib.hid (HK4.out.trans hk (by simp))
    clear S4 T4 F4 HK4
    clear hk
    go_wp2
    go_ret
    exact ⟨rfl, HK5.out⟩
end Go.Proofs.Ytjpnepjpkgffpaa
