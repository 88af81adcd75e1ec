/-
  The law ArrivalRow, walked.
-/
import Derived.Test.YtebbfdpaplkmdaaD16
import Derived.Test.YtebbfdpaplkmdaaL1
import Derived.Test.YtebbfdpaplkmdaaVM
import Derived.Test.YtebbfdpaplkmdaaVN
import Derived.Test.YtebbfdpaplkmdaaFB
import Derived.Test.YtebbfdpaplkmdaaNB
namespace Go.Proofs.Ytebbfdpaplkmdaa
open Go.RowKit

set_option maxHeartbeats 4000000 in
set_option maxRecDepth 100000 in
theorem FnArrivalRow_calls (w : World) (v : Value) (ha : ArgB w v) :
    Calls Try.prog 3 #[v] w fun e w' => e = .returned (.bool true) ∧ Kept [] w w' := by
  have HA := Lib.hid ha
  obtain ⟨a, len, cap, rfl, hlc, hcm, _⟩ := ha
  by_cases hbig : 1048576 < len
  · have hb : (1048576 : Int) < (len : Int) := by omega
    clear hbig
    go_enter Try.func3, Try.ntmps3
    go_wp2
    go_ret
    exact ⟨rfl, Kept.refl _ _⟩
  have hb : ¬ (1048576 : Int) < (len : Int) := by omega
  clear hbig
  go_enter Try.func3, Try.ntmps3
  go_wp2_with fail
  refine (drawArrivalRow_any _ _ HA.out).mono ?_
  rintro e w1 ⟨u, xs, c0, s0, rfl, hc3, hc5, hs, hl1, hk⟩
  have S1 := Lib.hid hs
  have HK := Lib.hid hk
  clear hk hb
  by_cases ho : Nt.waveB xs c0 s0 = true
  · obtain ⟨ns, c, s, rfl, rfl, rfl, ok, c3, c5, hset⟩ := Nt.waveB_ok ho
    obtain ⟨n, hn⟩ : ∃ n, n = ns.length := ⟨_, rfl⟩
    have hp := ok.some
    have h6 := ok.few
    have HOK := Lib.hid ok
    have HN := Lib.hid hn
    have HSET := Lib.hid hset
    have HF := Lib.hid (Nt.arrOf_ok ok c3 c5 hset)
    have HLO := Lib.hid (Nt.litOf_ok ok.some ok.few hset)
    have hst : Nt.St c (Nt.lit ns.length s) := lit_stc c3 c5 ok.some ok.few
    have HFI : Hid (Nt.firedOf (Nt.nats ns) (c : Int) (Nt.nats (Nt.lit ns.length s)) 12 = Nt.nats (Nt.firedL ns c (Nt.lit ns.length s) 12)) := Lib.hid (Nt.firedOf_ok (t := 12) ok hst (by rw [Nt.lit_length]) (by omega))
    have HFL : Hid ((Nt.firedL ns c (Nt.lit ns.length s) 12).length = n) := Lib.hid (by rw [Nt.firedL_length, Nt.lit_length, hn])
    have HFA : Hid (Nt.farOf (Nt.nats ns) (s : Int) = Nt.far ns s) := Lib.hid (Nt.farOf_ok ok hset)
    have HW : Hid (∀ k, k < n → (Nt.firedL ns c (Nt.lit ns.length s) 12).getD k 0 = if 0 < Nt.dist ns s 64 k then 1 else 0) := Lib.hid (fun k hk => by
      rw [Nt.firedL_get _ _ _ _ (by rw [Nt.lit_length]; omega), Nt.fired_lit ok c3 hset (by omega)]
      have h1 := Nt.dist_few ok hset k
      by_cases h : 0 < Nt.dist ns s 64 k
      · rw [if_pos h, if_pos ⟨h, by omega⟩]
      · rw [if_neg h, if_neg (fun h2 => h h2.1)])
    clear hst
    rw [← hn] at hp h6
    have hne0 : ((n : Int) == 0) = false := beq_eq_false_iff_ne.2 (by omega)
    obtain ⟨gS, capS, rfl, _, _⟩ := hs.row hn.symm hp
    clear hs ok hset hn ho hl1 hc3 hc5
    go_wp2_with fail
    refine (iArr_any _ _ _ _ _ _ S1.out).mono ?_
    rintro e w2 ⟨u2, rfl, hs, hk⟩
    rw [HF.out] at hs
    have X2 := Lib.hid hs
    obtain ⟨gX, capX, rfl, _, hgX⟩ := hs.shape (n := n) (by rw [Nt.far_length]; exact HN.out.symm) hp
    have CX2 := Lib.hid (fun j (hj : j < n) => ((hs.at j (by rw [Nt.far_length, ← HN.out]; exact hj)).1).trans (by rw [Nt.far_get _ _ (by rw [← HN.out]; exact hj)]))
    have lX2 := Lib.hid hgX
    clear hgX
    have S2 := Lib.hid (S1.out.stay hk)
    have HK2 := Lib.hid (HK.out.trans hk (by simp))
    clear S1 HK
    clear hs hk
    go_wp2_with fail
    refine (sArr_any _ _ _ _ _ _ S2.out).mono ?_
    rintro e w3 ⟨u3, rfl, hs, hk⟩
    rw [HF.out] at hs
    have Y3 := Lib.hid hs
    have S3 := Lib.hid (S2.out.stay hk)
    have X3 := Lib.hid (X2.out.stay hk)
    have CX3 := Lib.hid (fun j (hj : j < n) => (hk.cell (p := ⟨gX, j, none⟩) lX2.out (by simp)).trans (CX2.out j hj))
    have lX3 := Lib.hid (Nat.lt_of_lt_of_le lX2.out hk.size)
    have HK3 := Lib.hid (HK2.out.trans hk (by simp))
    clear S2 X2 CX2 lX2 HK2
    clear hs hk
    go_wp2_with fail
    refine (sameInts_any _ _ _ _ _ _ _ X3.out Y3.out).mono ?_
    rintro e w4 ⟨rfl, hq⟩
    rw [dec_of rfl]
    have hk := hq.kept
    have S4 := Lib.hid (S3.out.stay hk)
    have X4 := Lib.hid (X3.out.stay hk)
    have Y4 := Lib.hid (Y3.out.stay hk)
    have CX4 := Lib.hid (fun j (hj : j < n) => (hk.cell (p := ⟨gX, j, none⟩) lX3.out (by simp)).trans (CX3.out j hj))
    have lX4 := Lib.hid (Nat.lt_of_lt_of_le lX3.out hk.size)
    have HK4 := Lib.hid (HK3.out.trans hk (by simp))
    clear S3 X3 Y3 CX3 lX3 HK3
    clear hk hq
    clear Y4
    go_wp2_with fail
    refine (iLit_any _ _ _).mono ?_
    rintro e w5 ⟨u5, rfl, hs, hk⟩
    rw [HN.out, HLO.out] at hs
    have T5 := Lib.hid hs
    have S5 := Lib.hid (S4.out.stay hk)
    have X5 := Lib.hid (X4.out.stay hk)
    have CX5 := Lib.hid (fun j (hj : j < n) => (hk.cell (p := ⟨gX, j, none⟩) lX4.out (by simp)).trans (CX4.out j hj))
    have lX5 := Lib.hid (Nat.lt_of_lt_of_le lX4.out hk.size)
    have HK5 := Lib.hid (HK4.out.trans hk (by simp))
    clear S4 X4 CX4 lX4 HK4
    clear hs hk
    go_wp2_with fail
    refine (iFiredRow_any _ _ _ _ _ _ _ _ _ S5.out T5.out).mono ?_
    rintro e w6 ⟨u6, rfl, hs, hk⟩
    rw [HFI.out] at hs
    have F6 := Lib.hid hs
    obtain ⟨gF, capF, rfl, hgF, hcF⟩ := hs.row HFL.out hp
    have CF6 := Lib.hid hcF
    have lF6 := Lib.hid hgF
    clear hgF hcF
    have S6 := Lib.hid (S5.out.stay hk)
    have X6 := Lib.hid (X5.out.stay hk)
    have T6 := Lib.hid (T5.out.stay hk)
    have CX6 := Lib.hid (fun j (hj : j < n) => (hk.cell (p := ⟨gX, j, none⟩) lX5.out (by simp)).trans (CX5.out j hj))
    have lX6 := Lib.hid (Nat.lt_of_lt_of_le lX5.out hk.size)
    have HK6 := Lib.hid (HK5.out.trans hk (by simp))
    clear S5 X5 T5 CX5 lX5 HK5
    clear hs hk
    go_wp2_with fail
    go_loopw [8, 9] (fun i _ wr => ∃ k : Nat, k ≤ n ∧ i = .int .i64 k ∧ Qt w6 wr) (fun i _ _ => n - (intOf i).toNat)
    case atStart => exact ⟨0, Nat.zero_le _, rfl, Qt.refl _⟩
    case round =>
      obtain ⟨k, hk, rfl, hq⟩ := hrel
      have HQ := Lib.hid hq
      by_cases hlt : k < n
      · have cX := (hq.cell _).trans (CX6.out k hlt)
        have cF := (hq.cell _).trans (CF6.out k hlt)
        have hw := HW.out k hlt
        clear hq
        generalize (Nt.firedL ns c (Nt.lit ns.length s) 12).getD k 0 = f at *
        generalize Nt.dist ns s 64 k = d at *
        by_cases hd : 0 < d
        · rw [if_pos hd] at hw
          subst hw
          go_wp2
          go_roundw
          case rel => exact ⟨k + 1, by omega, by go_num, HQ.out⟩
          case measure => simp [intOf]; omega
        · rw [if_neg hd] at hw
          subst hw
          go_wp2
          go_roundw
          case rel => exact ⟨k + 1, by omega, by go_num, HQ.out⟩
          case measure => simp [intOf]; omega
      · have hk' : k = n := by omega
        subst hk'
        have XQ := Lib.hid (hq.sl X6.out)
        have SQ := Lib.hid (hq.sl S6.out)
        have KQ := Lib.hid (HK6.out.trans hq.kept (by simp))
        clear hq hlt hk
        go_wp2_with fail
        refine (iFar_any _ _ _ _ _ SQ.out).mono ?_
        rintro e wa ⟨ua, rfl, hsa, hka⟩
        rw [HFA.out] at hsa
        have XA := Lib.hid (XQ.out.stay hka)
        have FA := Lib.hid hsa
        have KA := Lib.hid (KQ.out.trans hka (by simp))
        clear hsa hka
        go_wp2_with fail
        refine (sameInts_any _ _ _ _ _ _ _ XA.out FA.out).mono ?_
        rintro e wb ⟨rfl, hqb⟩
        rw [dec_of rfl]
        have KB := Lib.hid (KA.out.trans hqb.kept (by simp))
        clear hqb
        go_wp2
        go_ret
        exact ⟨by simp, KB.out⟩
  · have ho' : Nt.waveB xs c0 s0 = false := by simpa using ho
    have HF := Lib.hid (Nt.arrOf_no ho')
    have HE := Lib.hid (Nt.waveEndOf_no ho')
    obtain ⟨bS, capS, rfl, _, _, _⟩ := hs.any
    clear hs ho ho' hl1 hc3 hc5
    go_wp2_with fail
    refine (iArr_any _ _ _ _ _ _ S1.out).mono ?_
    rintro e w2 ⟨u2, rfl, hs, hk⟩
    rw [HF.out] at hs
    have X2 := Lib.hid hs
    obtain ⟨bX, capX, rfl, _, _, _⟩ := hs.any
    have S2 := Lib.hid (S1.out.stay hk)
    have HK2 := Lib.hid (HK.out.trans hk (by simp))
    clear S1 HK
    clear hs hk
    go_wp2_with fail
    refine (sArr_any _ _ _ _ _ _ S2.out).mono ?_
    rintro e w3 ⟨u3, rfl, hs, hk⟩
    rw [HF.out] at hs
    have Y3 := Lib.hid hs
    have S3 := Lib.hid (S2.out.stay hk)
    have X3 := Lib.hid (X2.out.stay hk)
    have HK3 := Lib.hid (HK2.out.trans hk (by simp))
    clear S2 X2 HK2
    clear hs hk
    go_wp2_with fail
    refine (sameInts_any _ _ _ _ _ _ _ X3.out Y3.out).mono ?_
    rintro e w4 ⟨rfl, hq⟩
    rw [dec_of rfl]
    have hk := hq.kept
    have S4 := Lib.hid (S3.out.stay hk)
    have X4 := Lib.hid (X3.out.stay hk)
    have Y4 := Lib.hid (Y3.out.stay hk)
    have HK4 := Lib.hid (HK3.out.trans hk (by simp))
    clear S3 X3 Y3 HK3
    clear hk hq
    go_wp2_with fail
    refine (alive_any _).mono ?_
    rintro e w5 ⟨rfl, hk⟩
    have S5 := Lib.hid (S4.out.stay hk)
    have X5 := Lib.hid (X4.out.stay hk)
    have Y5 := Lib.hid (Y4.out.stay hk)
    have HK5 := Lib.hid (HK4.out.trans hk (by simp))
    clear S4 X4 Y4 HK4
    clear hk
    go_wp2
    go_ret
    exact ⟨rfl, HK5.out⟩
end Go.Proofs.Ytebbfdpaplkmdaa
