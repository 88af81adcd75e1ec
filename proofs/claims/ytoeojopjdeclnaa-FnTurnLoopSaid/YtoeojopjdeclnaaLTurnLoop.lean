/-
  The law TurnLoop, walked.
-/
import Derived.Test.YtoeojopjdeclnaaD15
import Derived.Test.YtoeojopjdeclnaaL1
import Derived.Test.YtoeojopjdeclnaaTB
import Derived.Test.YtoeojopjdeclnaaTI
import Derived.Test.YtoeojopjdeclnaaNA
namespace Go.Proofs.Ytoeojopjdeclnaa
open Go.RowKit

set_option maxHeartbeats 4000000 in
set_option maxRecDepth 100000 in
theorem FnTurnLoop_calls (w : World) (v : Value) (ha : ArgB w v) :
    Calls Try.prog 7 #[v] w fun e w' => e = .returned (.bool true) ∧ Kept [] w w' := by
  have HA := Lib.hid ha
  obtain ⟨a, len, cap, rfl, hlc, hcm, _⟩ := ha
  by_cases hbig : 1048576 < len
  · have hb : (1048576 : Int) < (len : Int) := by omega
    clear hbig
    go_enter Try.func7, Try.ntmps7
    go_wp2
    go_ret
    exact ⟨rfl, Kept.refl _ _⟩
  have hb : ¬ (1048576 : Int) < (len : Int) := by omega
  clear hbig
  go_enter Try.func7, Try.ntmps7
  go_wp2_with fail
  refine (drawTurnLoop_any _ _ HA.out).mono ?_
  rintro e w1 ⟨u, xs, v, ys, rfl, hs, ht, hl1, hl2, hk⟩
  have S1 := Lib.hid hs
  have T1 := Lib.hid ht
  have HK := Lib.hid hk
  clear hk hb
  by_cases ho : Nt.fireB xs 3 ys = true
  · obtain ⟨ns, ks, rfl, rfl, ok, st, hl⟩ := Nt.fireB3_ok ho
    obtain ⟨n, hn⟩ : ∃ n, n = ks.length := ⟨_, rfl⟩
    have hp := st.some
    have h6 := st.few
    have HOK := Lib.hid ok
    have HST := Lib.hid st
    have HL := Lib.hid hl
    have HN := Lib.hid hn
    obtain ⟨m, l, hloop, hb⟩ := Nt.turns_loop ns st
    have hlp := hloop.pos
    have hsm := Nt.loop_small (c := 3) (by omega) st.few hb
    have HLI : Hid (Nt.TLoopIs (Nt.nats ns) (Nt.nats ks) (m : Int) (l : Int)) := Lib.hid (.inl ⟨ns, ks, m, l, rfl, rfl, ok, st, hl, hloop, hb, rfl, rfl⟩)
    have HLR : Hid (Nt.TLoopIs (Nt.nats ns) (Nt.nats (Nt.raised 3 ks)) (m : Int) (l : Int)) := Lib.hid (.inl ⟨ns, Nt.raised 3 ks, m, l, rfl, rfl, ok, Nt.raised_st st, by rw [Nt.raised_length]; exact hl, Nt.loop_raised st hloop, by rw [Nt.raised_length]; exact hb, rfl, rfl⟩)
    have HRA : Hid (Nt.raisedOf 3 (Nt.nats ks) = Nt.nats (Nt.raised 3 ks)) := Lib.hid (Nt.raisedOf_ok (c := 3) st)
    have HRUN := Lib.hid (fun t (ht : t ≤ 60) => Nt.trunOf_ok (t := t) ok st hl ht)
    have HBACK : Hid (l ≤ 60 → Nt.trunOf (Nt.nats ns) (Nt.nats (Nt.turns ns ks m)) (l : Int) = Nt.nats (Nt.turns ns ks m)) := Lib.hid (fun h => by
      rw [Nt.trunOf_ok ok (Nt.turns_st ns st m) (by rw [Nt.turns_length]; exact hl) h, ← Nt.turns_add, hloop.back])
    have HRL : Hid ((Nt.turns ns ks m).length = n) := Lib.hid (by rw [Nt.turns_length, hn])
    have HNIL : Hid (∀ s, Nt.trunOf (Nt.nats ns) [] s = []) := Lib.hid (fun s => Nt.trunOf_no1 (Nt.fireB_no3 (by rw [Nt.nats_length]; simp; omega)))
    have HSTI : Hid (Nt.stillOf (Nt.nats ns) (Nt.nats (Nt.turns ns ks m)) = decide (l = 1)) := Lib.hid (by
      rw [Nt.stillOf_ok ok (Nt.turns_st ns st m) (by rw [Nt.turns_length]; exact hl), Bool.eq_iff_iff, decide_eq_true_eq, decide_eq_true_eq]
      exact Nt.loop_still hloop)
    clear hloop hb
    rw [← hn] at hp h6
    have hne0 : ((n : Int) == 0) = false := beq_eq_false_iff_ne.2 (by omega)
    obtain ⟨gS, capS, rfl, _, _⟩ := hs.row (n := n) (by omega) hp
    obtain ⟨gT, capT, rfl, _, _⟩ := ht.row hn.symm hp
    clear hs ht ok st hl hn ho hl1 hl2
    go_wp2_with fail
    refine (iTLoop_any _ _ HLI.out _ _ _ _ _ S1.out T1.out).mono ?_
    rintro e w2 ⟨rfl, hk⟩
    have S2 := Lib.hid (S1.out.stay hk)
    have T2 := Lib.hid (T1.out.stay hk)
    have HK2 := Lib.hid (HK.out.trans hk (by simp))
    clear S1 T1 HK
    clear hk
    go_wp2_with fail
    refine (sTLoop_any _ _ HLI.out _ _ _ _ _ S2.out T2.out).mono ?_
    rintro e w3 ⟨rfl, hk⟩
    have S3 := Lib.hid (S2.out.stay hk)
    have T3 := Lib.hid (T2.out.stay hk)
    have HK3 := Lib.hid (HK2.out.trans hk (by simp))
    clear S2 T2 HK2
    clear hk
    by_cases hm : m ≤ 60
    · by_cases hl6 : l ≤ 60
      · have HA := Lib.hid (HRUN.out m hm)
        have HB2 := Lib.hid (HBACK.out hl6)
        go_wp2_with fail
        refine (iTurnRun_any _ _ _ _ _ _ _ _ S3.out T3.out).mono ?_
        rintro e w4 ⟨u4, rfl, hs, hk⟩
        rw [HA.out] at hs
        have A4 := Lib.hid hs
        obtain ⟨gA, capA, rfl, hgA, hcA⟩ := hs.row HRL.out hp
        clear hgA hcA
        have S4 := Lib.hid (S3.out.stay hk)
        have T4 := Lib.hid (T3.out.stay hk)
        have HK4 := Lib.hid (HK3.out.trans hk (by simp))
        clear S3 T3 HK3
        clear hs hk
        go_wp2_with fail
        refine (iTurnRun_any _ _ _ _ _ _ _ _ S4.out A4.out).mono ?_
        rintro e w5 ⟨u5, rfl, hs, hk⟩
        rw [HB2.out] at hs
        have B5 := Lib.hid hs
        obtain ⟨gB, capB, rfl, hgB, hcB⟩ := hs.row HRL.out hp
        clear hgB hcB
        have S5 := Lib.hid (S4.out.stay hk)
        have T5 := Lib.hid (T4.out.stay hk)
        have A5 := Lib.hid (A4.out.stay hk)
        have HK5 := Lib.hid (HK4.out.trans hk (by simp))
        clear S4 T4 A4 HK4
        clear hs hk
        go_wp2_with fail
        refine (iRaised_any _ _ _ _ _ T5.out).mono ?_
        rintro e w6 ⟨u6, rfl, hs, hk⟩
        rw [HRA.out] at hs
        have C6 := Lib.hid hs
        have S6 := Lib.hid (S5.out.stay hk)
        have T6 := Lib.hid (T5.out.stay hk)
        have A6 := Lib.hid (A5.out.stay hk)
        have B6 := Lib.hid (B5.out.stay hk)
        have HK6 := Lib.hid (HK5.out.trans hk (by simp))
        clear S5 T5 A5 B5 HK5
        clear hs hk
        go_wp2_with fail
        refine (iTLoop_any _ _ HLR.out _ _ _ _ _ S6.out C6.out).mono ?_
        rintro e w7 ⟨rfl, hk⟩
        have S7 := Lib.hid (S6.out.stay hk)
        have T7 := Lib.hid (T6.out.stay hk)
        have A7 := Lib.hid (A6.out.stay hk)
        have B7 := Lib.hid (B6.out.stay hk)
        have C7 := Lib.hid (C6.out.stay hk)
        have HK7 := Lib.hid (HK6.out.trans hk (by simp))
        clear S6 T6 A6 B6 C6 HK6
        clear hk
        have hmm : ((m : Int) == (m : Int)) = true := by simp
        have hll : ((l : Int) == (l : Int)) = true := by simp
        have hl1 : decide ((1 : Int) ≤ (l : Int)) = true := dec_of (by omega)
        go_wp2_with fail
        refine (sameInts_any _ _ _ _ _ _ _ A7.out B7.out).mono ?_
        rintro e w8 ⟨rfl, hq⟩
        rw [dec_of rfl]
        have hk := hq.kept
        have S8 := Lib.hid (S7.out.stay hk)
        have T8 := Lib.hid (T7.out.stay hk)
        have A8 := Lib.hid (A7.out.stay hk)
        have B8 := Lib.hid (B7.out.stay hk)
        have C8 := Lib.hid (C7.out.stay hk)
        have HK8 := Lib.hid (HK7.out.trans hk (by simp))
        clear S7 T7 A7 B7 C7 HK7
        clear hk hq
        go_wp2_with fail
        refine (iStill_any _ _ _ _ _ _ _ S8.out A8.out).mono ?_
        rintro e w9 ⟨rfl, hk⟩
        rw [HSTI.out]
        have S9 := Lib.hid (S8.out.stay hk)
        have T9 := Lib.hid (T8.out.stay hk)
        have A9 := Lib.hid (A8.out.stay hk)
        have B9 := Lib.hid (B8.out.stay hk)
        have C9 := Lib.hid (C8.out.stay hk)
        have HK9 := Lib.hid (HK8.out.trans hk (by simp))
        clear S8 T8 A8 B8 C8 HK8
        clear hk
        have HDL : Hid (((l : Int) == 1) = decide (l = 1)) := Lib.hid (by rw [Bool.eq_iff_iff]; simp; omega)
        cases hdl : decide (l = 1)
        · have d9 : ((l : Int) == 1) = false := by rw [HDL.out, hdl]
          clear hdl
          go_wp2
          go_ret
          exact ⟨rfl, HK9.out⟩
        · have d9 : ((l : Int) == 1) = true := by rw [HDL.out, hdl]
          clear hdl
          go_wp2
          go_ret
          exact ⟨rfl, HK9.out⟩
      · have HA := Lib.hid (HRUN.out m hm)
        have HB2 : Hid (Nt.trunOf (Nt.nats ns) (Nt.nats (Nt.turns ns ks m)) (l : Int) = []) := Lib.hid (Nt.trunOf_no2 (decide_eq_false (by omega)))
        go_wp2_with fail
        refine (iTurnRun_any _ _ _ _ _ _ _ _ S3.out T3.out).mono ?_
        rintro e w4 ⟨u4, rfl, hs, hk⟩
        rw [HA.out] at hs
        have A4 := Lib.hid hs
        obtain ⟨gA, capA, rfl, hgA, hcA⟩ := hs.row HRL.out hp
        clear hgA hcA
        have S4 := Lib.hid (S3.out.stay hk)
        have T4 := Lib.hid (T3.out.stay hk)
        have HK4 := Lib.hid (HK3.out.trans hk (by simp))
        clear S3 T3 HK3
        clear hs hk
        go_wp2_with fail
        refine (iTurnRun_any _ _ _ _ _ _ _ _ S4.out A4.out).mono ?_
        rintro e w5 ⟨u5, rfl, hs, hk⟩
        rw [HB2.out] at hs
        have B5 := Lib.hid hs
        obtain ⟨bB, capB, rfl, _, _, _⟩ := hs.any
        have S5 := Lib.hid (S4.out.stay hk)
        have T5 := Lib.hid (T4.out.stay hk)
        have A5 := Lib.hid (A4.out.stay hk)
        have HK5 := Lib.hid (HK4.out.trans hk (by simp))
        clear S4 T4 A4 HK4
        clear hs hk
        go_wp2_with fail
        refine (iRaised_any _ _ _ _ _ T5.out).mono ?_
        rintro e w6 ⟨u6, rfl, hs, hk⟩
        rw [HRA.out] at hs
        have C6 := Lib.hid hs
        have S6 := Lib.hid (S5.out.stay hk)
        have T6 := Lib.hid (T5.out.stay hk)
        have A6 := Lib.hid (A5.out.stay hk)
        have B6 := Lib.hid (B5.out.stay hk)
        have HK6 := Lib.hid (HK5.out.trans hk (by simp))
        clear S5 T5 A5 B5 HK5
        clear hs hk
        go_wp2_with fail
        refine (iTLoop_any _ _ HLR.out _ _ _ _ _ S6.out C6.out).mono ?_
        rintro e w7 ⟨rfl, hk⟩
        have S7 := Lib.hid (S6.out.stay hk)
        have T7 := Lib.hid (T6.out.stay hk)
        have A7 := Lib.hid (A6.out.stay hk)
        have B7 := Lib.hid (B6.out.stay hk)
        have C7 := Lib.hid (C6.out.stay hk)
        have HK7 := Lib.hid (HK6.out.trans hk (by simp))
        clear S6 T6 A6 B6 C6 HK6
        clear hk
        have hmm : ((m : Int) == (m : Int)) = true := by simp
        have hll : ((l : Int) == (l : Int)) = true := by simp
        have hl1 : decide ((1 : Int) ≤ (l : Int)) = true := dec_of (by omega)
        go_wp2_with fail
        refine (iStill_any _ _ _ _ _ _ _ S7.out A7.out).mono ?_
        rintro e w8 ⟨rfl, hk⟩
        rw [HSTI.out]
        have S8 := Lib.hid (S7.out.stay hk)
        have T8 := Lib.hid (T7.out.stay hk)
        have A8 := Lib.hid (A7.out.stay hk)
        have B8 := Lib.hid (B7.out.stay hk)
        have C8 := Lib.hid (C7.out.stay hk)
        have HK8 := Lib.hid (HK7.out.trans hk (by simp))
        clear S7 T7 A7 B7 C7 HK7
        clear hk
        have HDL : Hid (((l : Int) == 1) = decide (l = 1)) := Lib.hid (by rw [Bool.eq_iff_iff]; simp; omega)
        cases hdl : decide (l = 1)
        · have d9 : ((l : Int) == 1) = false := by rw [HDL.out, hdl]
          clear hdl
          go_wp2
          go_ret
          exact ⟨rfl, HK8.out⟩
        · have d9 : ((l : Int) == 1) = true := by rw [HDL.out, hdl]
          clear hdl
          go_wp2
          go_ret
          exact ⟨rfl, HK8.out⟩
    · have HA : Hid (Nt.trunOf (Nt.nats ns) (Nt.nats ks) (m : Int) = []) := Lib.hid (Nt.trunOf_no2 (decide_eq_false (by omega)))
      have HB2 := Lib.hid (HNIL.out (l : Int))
      go_wp2_with fail
      refine (iTurnRun_any _ _ _ _ _ _ _ _ S3.out T3.out).mono ?_
      rintro e w4 ⟨u4, rfl, hs, hk⟩
      rw [HA.out] at hs
      have A4 := Lib.hid hs
      obtain ⟨bA, capA, rfl, _, _, _⟩ := hs.any
      have S4 := Lib.hid (S3.out.stay hk)
      have T4 := Lib.hid (T3.out.stay hk)
      have HK4 := Lib.hid (HK3.out.trans hk (by simp))
      clear S3 T3 HK3
      clear hs hk
      go_wp2_with fail
      refine (iTurnRun_any _ _ _ _ _ _ _ _ S4.out A4.out).mono ?_
      rintro e w5 ⟨u5, rfl, hs, hk⟩
      rw [HB2.out] at hs
      have B5 := Lib.hid hs
      obtain ⟨bB, capB, rfl, _, _, _⟩ := hs.any
      have S5 := Lib.hid (S4.out.stay hk)
      have T5 := Lib.hid (T4.out.stay hk)
      have A5 := Lib.hid (A4.out.stay hk)
      have HK5 := Lib.hid (HK4.out.trans hk (by simp))
      clear S4 T4 A4 HK4
      clear hs hk
      go_wp2_with fail
      refine (iRaised_any _ _ _ _ _ T5.out).mono ?_
      rintro e w6 ⟨u6, rfl, hs, hk⟩
      rw [HRA.out] at hs
      have C6 := Lib.hid hs
      have S6 := Lib.hid (S5.out.stay hk)
      have T6 := Lib.hid (T5.out.stay hk)
      have A6 := Lib.hid (A5.out.stay hk)
      have B6 := Lib.hid (B5.out.stay hk)
      have HK6 := Lib.hid (HK5.out.trans hk (by simp))
      clear S5 T5 A5 B5 HK5
      clear hs hk
      go_wp2_with fail
      refine (iTLoop_any _ _ HLR.out _ _ _ _ _ S6.out C6.out).mono ?_
      rintro e w7 ⟨rfl, hk⟩
      have S7 := Lib.hid (S6.out.stay hk)
      have T7 := Lib.hid (T6.out.stay hk)
      have A7 := Lib.hid (A6.out.stay hk)
      have B7 := Lib.hid (B6.out.stay hk)
      have C7 := Lib.hid (C6.out.stay hk)
      have HK7 := Lib.hid (HK6.out.trans hk (by simp))
      clear S6 T6 A6 B6 C6 HK6
      clear hk
      have hmm : ((m : Int) == (m : Int)) = true := by simp
      have hll : ((l : Int) == (l : Int)) = true := by simp
      have hl1 : decide ((1 : Int) ≤ (l : Int)) = true := dec_of (by omega)
      go_wp2
      go_ret
      exact ⟨rfl, HK7.out⟩
  · have ho' : Nt.fireB xs 3 ys = false := by simpa using ho
    have HLI : Hid (Nt.TLoopIs xs ys (-1) (-1)) := Lib.hid (.inr ⟨ho', rfl, rfl⟩)
    obtain ⟨bS, capS, rfl, _, _, _⟩ := hs.any
    obtain ⟨bT, capT, rfl, _, _, _⟩ := ht.any
    clear hs ht ho ho' hl1 hl2
    go_wp2_with fail
    refine (iTLoop_any _ _ HLI.out _ _ _ _ _ S1.out T1.out).mono ?_
    rintro e w2 ⟨rfl, hk⟩
    have S2 := Lib.hid (S1.out.stay hk)
    have T2 := Lib.hid (T1.out.stay hk)
    have HK2 := Lib.hid (HK.out.trans hk (by simp))
    clear S1 T1 HK
    clear hk
    go_wp2_with fail
    refine (sTLoop_any _ _ HLI.out _ _ _ _ _ S2.out T2.out).mono ?_
    rintro e w3 ⟨rfl, hk⟩
    have S3 := Lib.hid (S2.out.stay hk)
    have T3 := Lib.hid (T2.out.stay hk)
    have HK3 := Lib.hid (HK2.out.trans hk (by simp))
    clear S2 T2 HK2
    clear hk
    go_wp2_with fail
    refine (alive_any _).mono ?_
    rintro e w4 ⟨rfl, hk⟩
    have S4 := Lib.hid (S3.out.stay hk)
    have T4 := Lib.hid (T3.out.stay hk)
    have HK4 := Lib.hid (HK3.out.trans hk (by simp))
    clear S3 T3 HK3
    clear hk
    go_wp2
    go_ret
    exact ⟨rfl, HK4.out⟩
end Go.Proofs.Ytoeojopjdeclnaa
