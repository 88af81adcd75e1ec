/-
  The law TurnNamed, walked.
-/
import Derived.Test.YtoeojopjdeclnaaD15
import Derived.Test.YtoeojopjdeclnaaL1
import Derived.Test.YtoeojopjdeclnaaTB
import Derived.Test.YtoeojopjdeclnaaTI
import Derived.Test.YtoeojopjdeclnaaNC
namespace Go.Proofs.Ytoeojopjdeclnaa
open Go.RowKit

theorem ArgB.stay {w w' : World} {v : Value} (h : ArgB w v) (k : Kept [] w w') : ArgB w' v := by
  obtain ⟨a, n, cap, rfl, h1, h2, hc⟩ := h
  refine ⟨a, n, cap, rfl, h1, h2, fun j hj => ?_⟩
  obtain ⟨b, off, u, rfl, hb, hu, hcell⟩ := hc j hj
  exact ⟨b, off, u, rfl, Nat.lt_of_lt_of_le hb k.size, hu, (k.cell (p := ⟨b, off + j, none⟩) hb (by simp)).trans hcell⟩

set_option maxHeartbeats 4000000 in
set_option maxRecDepth 100000 in
theorem FnTurnNamed_calls (w : World) (v v' : Value) (ha : ArgB w v) (ha' : ArgB w v') :
    Calls Try.prog 8 #[v, v'] w fun e w' => e = .returned (.bool true) ∧ Kept [] w w' := by
  have HA := Lib.hid ha
  have HA' := Lib.hid ha'
  obtain ⟨a, len, cap, rfl, hlc, hcm, _⟩ := ha
  obtain ⟨a', len', cap', rfl, hlc', hcm', _⟩ := ha'
  by_cases hbig : 1048576 < len
  · have hb : (1048576 : Int) < (len : Int) := by omega
    clear hbig
    go_enter Try.func8, Try.ntmps8
    go_wp2
    go_ret
    exact ⟨rfl, Kept.refl _ _⟩
  have hb : ¬ (1048576 : Int) < (len : Int) := by omega
  clear hbig
  by_cases hbig : 1048576 < len'
  · have hb' : (1048576 : Int) < (len' : Int) := by omega
    clear hbig
    go_enter Try.func8, Try.ntmps8
    go_wp2
    go_ret
    exact ⟨rfl, Kept.refl _ _⟩
  have hb' : ¬ (1048576 : Int) < (len' : Int) := by omega
  clear hbig
  go_enter Try.func8, Try.ntmps8
  go_wp2_with fail
  refine (drawTurnStep_any _ _ HA.out).mono ?_
  rintro e w1 ⟨u, xs, v, ys, rfl, hs, ht, hl1, hl2, hk⟩
  have S1 := Lib.hid hs
  have T1 := Lib.hid ht
  have HK := Lib.hid hk
  clear hk hb hb'
  by_cases ho : Nt.fireB xs 3 ys = true
  · obtain ⟨ns, ks, rfl, rfl, ok, st, hl⟩ := Nt.fireB3_ok ho
    obtain ⟨n, hn⟩ : ∃ n, n = ks.length := ⟨_, rfl⟩
    have hp := st.some
    have h6 := st.few
    have HOK := Lib.hid ok
    have HST := Lib.hid st
    have HL := Lib.hid hl
    have HN := Lib.hid hn
    have HF := Lib.hid (Nt.turnOf_ok ok st hl)
    have HRL : Hid ((Nt.turn ns ks).length = n) := Lib.hid (by rw [Nt.turn_length, hn])
    have HSS := Lib.hid (Nt.turn_st ns st)
    have HNL : Hid ((Nt.nats ns).length = n) := Lib.hid (by rw [Nt.nats_length]; omega)
    have HKL : Hid ((Nt.nats ks).length = n) := Lib.hid (by rw [Nt.nats_length]; omega)
    rw [← hn] at hp h6
    have hne0 : ((n : Int) == 0) = false := beq_eq_false_iff_ne.2 (by omega)
    obtain ⟨gS, capS, rfl, _, _⟩ := hs.row (n := n) (by omega) hp
    obtain ⟨gT, capT, rfl, _, _⟩ := ht.row hn.symm hp
    clear hs ht ok st hl hn ho hl1 hl2
    go_wp2_with fail
    refine (iTurnStep_any _ _ _ _ _ _ _ S1.out T1.out).mono ?_
    rintro e w2 ⟨u2, rfl, hs, hk⟩
    rw [HF.out] at hs
    have X2 := Lib.hid hs
    obtain ⟨gX, capX, rfl, hgX, hcX⟩ := hs.row HRL.out hp
    clear hgX hcX
    have S2 := Lib.hid (S1.out.stay hk)
    have T2 := Lib.hid (T1.out.stay hk)
    have HK2 := Lib.hid (HK.out.trans hk (by simp))
    clear S1 T1 HK
    clear hs hk
    go_wp2_with fail
    refine (drawNamedNet_any _ _ (HA'.out.stay HK2.out)).mono ?_
    rintro e w3 ⟨ud, xd, vd, zs, rfl, _, hs, _, hk⟩
    have O3 := Lib.hid hs
    obtain ⟨bO, capO, rfl, _, _, _⟩ := hs.any
    have S3 := Lib.hid (S2.out.stay hk)
    have T3 := Lib.hid (T2.out.stay hk)
    have X3 := Lib.hid (X2.out.stay hk)
    have HK3 := Lib.hid (HK2.out.trans hk (by simp))
    clear S2 T2 X2 HK2
    clear hs hk
    by_cases hord : Nt.ordB n zs = true
    · obtain ⟨os, rfl, ord⟩ := Nt.ordB_ord hord
      have ord1 : Nt.Ord ns.length os := by have h1 := HN.out; have h2 := HL.out; rw [← h2, ← h1]; exact ord
      have ord2 : Nt.Ord ks.length os := by have h1 := HN.out; rw [← h1]; exact ord
      have ord3 : Nt.Ord (Nt.turn ns ks).length os := by rw [HRL.out]; exact ord
      have HC1 := Lib.hid (Nt.canName_yes HOK.out ord1)
      have HC2 : Hid (Nt.canNameSt 3 (Nt.nats ks) (Nt.nats os) = true) := Lib.hid (Nt.canNameSt_yes (c := 3) HST.out ord2)
      have HC3 : Hid (Nt.canNameSt 3 (Nt.nats (Nt.turn ns ks)) (Nt.nats os) = true) := Lib.hid (Nt.canNameSt_yes (c := 3) HSS.out ord3)
      have HL1 := Lib.hid (Nt.namedL_ok HOK.out ord1)
      have HL2 : Hid (Nt.namedStOf 3 (Nt.nats ks) (Nt.nats os) = Nt.nats (Nt.namedSt ks os)) := Lib.hid (Nt.namedStOf_ok (c := 3) HST.out ord2)
      have HL3 : Hid (Nt.namedStOf 3 (Nt.nats (Nt.turn ns ks)) (Nt.nats os) = Nt.nats (Nt.namedSt (Nt.turn ns ks) os)) := Lib.hid (Nt.namedStOf_ok (c := 3) HSS.out ord3)
      have HSN : Hid (Nt.turnOf (Nt.nats (Nt.named ns os)) (Nt.nats (Nt.namedSt ks os)) = Nt.nats (Nt.namedSt (Nt.turn ns ks) os)) := Lib.hid (by
        rw [Nt.turnOf_ok (Nt.named_ok HOK.out ord1) (Nt.namedSt_st HST.out ord2) (by rw [Nt.namedSt_length, Nt.named_length]; exact HL.out), Nt.turn_named ord1 HL.out])
      clear ord ord1 ord2 ord3 hord
      go_wp2_with fail
      refine (iNamed_any _ _ _ _ _ _ _ S3.out O3.out).mono ?_
      rintro e w4 ⟨u4, rfl, hs, hk⟩
      rw [HC1.out]
      rw [HL1.out] at hs
      have P4 := Lib.hid hs
      have S4 := Lib.hid (S3.out.stay hk)
      have T4 := Lib.hid (T3.out.stay hk)
      have X4 := Lib.hid (X3.out.stay hk)
      have O4 := Lib.hid (O3.out.stay hk)
      have HK4 := Lib.hid (HK3.out.trans hk (by simp))
      clear S3 T3 X3 O3 HK3
      clear hs hk
      go_wp2_with fail
      refine (iNamedSt_any _ _ _ _ _ _ _ _ T4.out O4.out).mono ?_
      rintro e w5 ⟨u5, rfl, hs, hk⟩
      rw [HC2.out]
      rw [HL2.out] at hs
      have Q5 := Lib.hid hs
      have S5 := Lib.hid (S4.out.stay hk)
      have T5 := Lib.hid (T4.out.stay hk)
      have X5 := Lib.hid (X4.out.stay hk)
      have O5 := Lib.hid (O4.out.stay hk)
      have P5 := Lib.hid (P4.out.stay hk)
      have HK5 := Lib.hid (HK4.out.trans hk (by simp))
      clear S4 T4 X4 O4 P4 HK4
      clear hs hk
      go_wp2_with fail
      refine (iNamedSt_any _ _ _ _ _ _ _ _ X5.out O5.out).mono ?_
      rintro e w6 ⟨u6, rfl, hs, hk⟩
      rw [HC3.out]
      rw [HL3.out] at hs
      have V6 := Lib.hid hs
      have S6 := Lib.hid (S5.out.stay hk)
      have T6 := Lib.hid (T5.out.stay hk)
      have X6 := Lib.hid (X5.out.stay hk)
      have O6 := Lib.hid (O5.out.stay hk)
      have P6 := Lib.hid (P5.out.stay hk)
      have Q6 := Lib.hid (Q5.out.stay hk)
      have HK6 := Lib.hid (HK5.out.trans hk (by simp))
      clear S5 T5 X5 O5 P5 Q5 HK5
      clear hs hk
      go_wp2_with fail
      refine (alive_any _).mono ?_
      rintro e w7 ⟨rfl, hk⟩
      have S7 := Lib.hid (S6.out.stay hk)
      have T7 := Lib.hid (T6.out.stay hk)
      have X7 := Lib.hid (X6.out.stay hk)
      have O7 := Lib.hid (O6.out.stay hk)
      have P7 := Lib.hid (P6.out.stay hk)
      have Q7 := Lib.hid (Q6.out.stay hk)
      have V7 := Lib.hid (V6.out.stay hk)
      have HK7 := Lib.hid (HK6.out.trans hk (by simp))
      clear S6 T6 X6 O6 P6 Q6 V6 HK6
      clear hk
      go_wp2_with fail
      refine (iTurnStep_any _ _ _ _ _ _ _ P7.out Q7.out).mono ?_
      rintro e w8 ⟨u8, rfl, hs, hk⟩
      rw [HSN.out] at hs
      have Z8 := Lib.hid hs
      have S8 := Lib.hid (S7.out.stay hk)
      have T8 := Lib.hid (T7.out.stay hk)
      have X8 := Lib.hid (X7.out.stay hk)
      have O8 := Lib.hid (O7.out.stay hk)
      have P8 := Lib.hid (P7.out.stay hk)
      have Q8 := Lib.hid (Q7.out.stay hk)
      have V8 := Lib.hid (V7.out.stay hk)
      have HK8 := Lib.hid (HK7.out.trans hk (by simp))
      clear S7 T7 X7 O7 P7 Q7 V7 HK7
      clear hs hk
      go_wp2_with fail
      refine (sameInts_any _ _ _ _ _ _ _ Z8.out V8.out).mono ?_
      rintro e w9 ⟨rfl, hq⟩
      rw [dec_of rfl]
      have hk := hq.kept
      have S9 := Lib.hid (S8.out.stay hk)
      have T9 := Lib.hid (T8.out.stay hk)
      have X9 := Lib.hid (X8.out.stay hk)
      have O9 := Lib.hid (O8.out.stay hk)
      have P9 := Lib.hid (P8.out.stay hk)
      have Q9 := Lib.hid (Q8.out.stay hk)
      have V9 := Lib.hid (V8.out.stay hk)
      have Z9 := Lib.hid (Z8.out.stay hk)
      have HK9 := Lib.hid (HK8.out.trans hk (by simp))
      clear S8 T8 X8 O8 P8 Q8 V8 Z8 HK8
      clear hk hq
      go_wp2
      go_ret
      exact ⟨rfl, HK9.out⟩
    · have hno : Nt.ordB n zs = false := by simpa using hord
      have HC1 := Lib.hid (Nt.canName_no2 (xs := Nt.nats ns) (ys := zs) (by rw [HNL.out]; exact hno))
      have HC2 := Lib.hid (Nt.canNameSt_no2 (kinds := 3) (xs := Nt.nats ks) (ys := zs) (by rw [HKL.out]; exact hno))
      have HC3 := Lib.hid (Nt.canNameSt_no2 (kinds := 3) (xs := Nt.nats (Nt.turn ns ks)) (ys := zs) (by rw [Nt.nats_length, HRL.out]; exact hno))
      clear hord hno
      go_wp2_with fail
      refine (iNamed_any _ _ _ _ _ _ _ S3.out O3.out).mono ?_
      rintro e w4 ⟨u4, rfl, hs, hk⟩
      rw [HC1.out]
      have P4 := Lib.hid hs
      have S4 := Lib.hid (S3.out.stay hk)
      have T4 := Lib.hid (T3.out.stay hk)
      have X4 := Lib.hid (X3.out.stay hk)
      have O4 := Lib.hid (O3.out.stay hk)
      have HK4 := Lib.hid (HK3.out.trans hk (by simp))
      clear S3 T3 X3 O3 HK3
      clear hs hk
      go_wp2_with fail
      refine (iNamedSt_any _ _ _ _ _ _ _ _ T4.out O4.out).mono ?_
      rintro e w5 ⟨u5, rfl, hs, hk⟩
      rw [HC2.out]
      have Q5 := Lib.hid hs
      have S5 := Lib.hid (S4.out.stay hk)
      have T5 := Lib.hid (T4.out.stay hk)
      have X5 := Lib.hid (X4.out.stay hk)
      have O5 := Lib.hid (O4.out.stay hk)
      have P5 := Lib.hid (P4.out.stay hk)
      have HK5 := Lib.hid (HK4.out.trans hk (by simp))
      clear S4 T4 X4 O4 P4 HK4
      clear hs hk
      go_wp2_with fail
      refine (iNamedSt_any _ _ _ _ _ _ _ _ X5.out O5.out).mono ?_
      rintro e w6 ⟨u6, rfl, hs, hk⟩
      rw [HC3.out]
      have V6 := Lib.hid hs
      have S6 := Lib.hid (S5.out.stay hk)
      have T6 := Lib.hid (T5.out.stay hk)
      have X6 := Lib.hid (X5.out.stay hk)
      have O6 := Lib.hid (O5.out.stay hk)
      have P6 := Lib.hid (P5.out.stay hk)
      have Q6 := Lib.hid (Q5.out.stay hk)
      have HK6 := Lib.hid (HK5.out.trans hk (by simp))
      clear S5 T5 X5 O5 P5 Q5 HK5
      clear hs hk
      go_wp2_with fail
      refine (alive_any _).mono ?_
      rintro e w7 ⟨rfl, hk⟩
      have S7 := Lib.hid (S6.out.stay hk)
      have T7 := Lib.hid (T6.out.stay hk)
      have X7 := Lib.hid (X6.out.stay hk)
      have O7 := Lib.hid (O6.out.stay hk)
      have P7 := Lib.hid (P6.out.stay hk)
      have Q7 := Lib.hid (Q6.out.stay hk)
      have V7 := Lib.hid (V6.out.stay hk)
      have HK7 := Lib.hid (HK6.out.trans hk (by simp))
      clear S6 T6 X6 O6 P6 Q6 V6 HK6
      clear hk
      go_wp2
      go_ret
      exact ⟨rfl, HK7.out⟩
  · have ho' : Nt.fireB xs 3 ys = false := by simpa using ho
    have HF := Lib.hid (Nt.turnOf_no ho')
    clear ho'
    obtain ⟨bS, capS, rfl, _, _, _⟩ := hs.any
    obtain ⟨bT, capT, rfl, _, _, _⟩ := ht.any
    clear hs ht ho hl1 hl2
    go_wp2_with fail
    refine (iTurnStep_any _ _ _ _ _ _ _ S1.out T1.out).mono ?_
    rintro e w2 ⟨u2, rfl, hs, hk⟩
    rw [HF.out] at hs
    have X2 := Lib.hid hs
    obtain ⟨bX, capX, rfl, _, _, _⟩ := hs.any
    have S2 := Lib.hid (S1.out.stay hk)
    have T2 := Lib.hid (T1.out.stay hk)
    have HK2 := Lib.hid (HK.out.trans hk (by simp))
    clear S1 T1 HK
    clear hs hk
    go_wp2_with fail
    refine (sTurnStep_any _ _ _ _ _ _ _ S2.out T2.out).mono ?_
    rintro e w3 ⟨u3, rfl, hs, hk⟩
    rw [HF.out] at hs
    have Y3 := Lib.hid hs
    obtain ⟨bY, capY, rfl, _, _, _⟩ := hs.any
    have S3 := Lib.hid (S2.out.stay hk)
    have T3 := Lib.hid (T2.out.stay hk)
    have X3 := Lib.hid (X2.out.stay hk)
    have HK3 := Lib.hid (HK2.out.trans hk (by simp))
    clear S2 T2 X2 HK2
    clear hs hk
    go_wp2_with fail
    refine (alive_any _).mono ?_
    rintro e w4 ⟨rfl, hk⟩
    have S4 := Lib.hid (S3.out.stay hk)
    have T4 := Lib.hid (T3.out.stay hk)
    have X4 := Lib.hid (X3.out.stay hk)
    have Y4 := Lib.hid (Y3.out.stay hk)
    have HK4 := Lib.hid (HK3.out.trans hk (by simp))
    clear S3 T3 X3 Y3 HK3
    clear hk
    go_wp2
    go_ret
    exact ⟨rfl, HK4.out⟩
end Go.Proofs.Ytoeojopjdeclnaa
