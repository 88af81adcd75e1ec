/-
  The law ScriptFired, walked.
-/
import Derived.Test.YtilbdpcijdcffaaDS
import Derived.Test.YtilbdpcijdcffaaL1
import Derived.Test.YtilbdpcijdcffaaSP3
import Derived.Test.YtilbdpcijdcffaaSP4
import Derived.Test.YtilbdpcijdcffaaSM
import Derived.Test.YtilbdpcijdcffaaFB
namespace Go.Proofs.Ytilbdpcijdcffaa
open Go.RowKit

set_option maxHeartbeats 4000000 in
set_option maxRecDepth 100000 in
theorem FnScriptFired_calls (w : World) (v : Value) (ha : ArgB w v) :
    Calls Try.prog 5 #[v] w fun e w' => e = .returned (.bool true) ∧ Kept [] w w' := by
  have HA := Lib.hid ha
  obtain ⟨a, len, cap, rfl, hlc, hcm, _⟩ := ha
  by_cases hbig : 1048576 < len
  · have hb : (1048576 : Int) < (len : Int) := by omega
    clear hbig
    go_enter Try.func5, Try.ntmps5
    go_wp2
    go_ret
    exact ⟨rfl, Kept.refl _ _⟩
  have hb : ¬ (1048576 : Int) < (len : Int) := by omega
  clear hbig
  go_enter Try.func5, Try.ntmps5
  go_wp2_with fail
  refine (drawScriptFired_any _ _ HA.out).mono ?_
  rintro e w1 ⟨u, xs, v2, ys, r, ls, c0, s0, rfl, _, _, hs, ht, hg, _, _, _, _, _, hk⟩
  have S1 := Lib.hid hs
  have T1 := Lib.hid ht
  have G1 := Lib.hid hg
  have HK := Lib.hid hk
  clear hk
  cases h1 : Nt.playB xs c0 ys ls s0
  · have HF := Lib.hid (Nt.sfiredOf_no h1)
    clear h1 hb
    obtain ⟨bS, capS, rfl, _, _, _⟩ := hs.any
    obtain ⟨bT, capT, rfl, _, _, _⟩ := ht.any
    obtain ⟨bG, capG, rfl, _, _, _⟩ := hg.any
    clear hs ht hg
    go_wp2_with fail
    refine (iScriptFired_any _ _ _ _ _ _ _ _ _ _ _ _ S1.out T1.out G1.out).mono ?_
    rintro e w2 ⟨u2, rfl, hs, hk⟩
    rw [HF.out] at hs
    have R2 := Lib.hid hs
    obtain ⟨bR, capR, rfl, _, _, _⟩ := hs.any
    have S2 := Lib.hid (S1.out.stay hk)
    have T2 := Lib.hid (T1.out.stay hk)
    have G2 := Lib.hid (G1.out.stay hk)
    have HK2 := Lib.hid (HK.out.trans hk (by simp))
    clear S1 T1 G1 HK
    clear hs hk
    go_wp2_with fail
    refine (sScriptFired_any _ _ _ _ _ _ _ _ _ _ _ _ S2.out T2.out G2.out).mono ?_
    rintro e w3 ⟨u3, rfl, hs, hk⟩
    rw [HF.out] at hs
    have Y3 := Lib.hid hs
    obtain ⟨bY, capY, rfl, _, _, _⟩ := hs.any
    have S3 := Lib.hid (S2.out.stay hk)
    have T3 := Lib.hid (T2.out.stay hk)
    have G3 := Lib.hid (G2.out.stay hk)
    have R3 := Lib.hid (R2.out.stay hk)
    have HK3 := Lib.hid (HK2.out.trans hk (by simp))
    clear S2 T2 G2 R2 HK2
    clear hs hk
    go_wp2_with fail
    refine (sameInts_any _ _ _ _ _ _ _ R3.out Y3.out).mono ?_
    rintro e w4 ⟨rfl, hq⟩
    rw [dec_of rfl]
    have hk := hq.kept
    have S4 := Lib.hid (S3.out.stay hk)
    have T4 := Lib.hid (T3.out.stay hk)
    have G4 := Lib.hid (G3.out.stay hk)
    have R4 := Lib.hid (R3.out.stay hk)
    have Y4 := Lib.hid (Y3.out.stay hk)
    have HK4 := Lib.hid (HK3.out.trans hk (by simp))
    clear S3 T3 G3 R3 Y3 HK3
    clear hk hq
    clear Y4
    go_wp2_with fail
    refine (alive_any _).mono ?_
    rintro e w5 ⟨rfl, hk⟩
    have S5 := Lib.hid (S4.out.stay hk)
    have T5 := Lib.hid (T4.out.stay hk)
    have G5 := Lib.hid (G4.out.stay hk)
    have R5 := Lib.hid (R4.out.stay hk)
    have HK5 := Lib.hid (HK4.out.trans hk (by simp))
    clear S4 T4 G4 R4 HK4
    clear hk
    go_wp2
    go_ret
    exact ⟨rfl, HK5.out⟩
  · obtain ⟨ns, c, ks, sc, t, rfl, rfl, rfl, rfl, rfl, ok, st, hl, so, ht60⟩ := Nt.playB_ok h1
    obtain ⟨n, hnn⟩ : ∃ n, n = ns.length := ⟨_, rfl⟩
    have hp : 0 < n := by have := ok.some; omega
    have h6n : n ≤ 6 := by have := ok.few; omega
    have hne0 : ((n : Int) == 0) = false := beq_eq_false_iff_ne.2 (by omega)
    have hee : ((n : Int) == (n : Int)) = true := beq_self_eq_true _
    obtain ⟨gS, capS, rfl, _, _⟩ := hs.row (n := n) hnn.symm hp
    obtain ⟨gT, capT, rfl, _, _⟩ := ht.row (n := n) (by rw [hl, hnn]) hp
    obtain ⟨bG, capG, rfl, _, _, _⟩ := hg.any
    have HF := Lib.hid (Nt.sfiredOf_ok ok st hl so ht60)
    have HFE : Hid (Nt.sfiredOf (Nt.nats ns) (c : Int) (Nt.nats ks) [] (t : Int) = Nt.nats (Nt.firedL ns c ks t)) := Lib.hid (by
      have h := Nt.sfiredOf_ok ok st hl (Nt.SOk.none so.n1 so.n6) ht60
      rw [show Nt.firedSL ns c ks [] t = Nt.firedL ns c ks t by unfold Nt.firedSL Nt.firedL; rw [hl]; exact List.map_congr_left (fun k _ => Nt.firedS_nil ns c ks k t)] at h
      exact h)
    have HFF := Lib.hid (Nt.firedOf_ok ok st hl ht60)
    have HRL : Hid ((Nt.firedSL ns c ks sc t).length = n) := Lib.hid (by rw [Nt.firedSL_length, hnn])
    have HML : Hid ((Nt.firedSL ns c ks sc (t + 1)).length = n) := Lib.hid (by rw [Nt.firedSL_length, hnn])
    have HMORE : Hid (∀ k, k < n → (Nt.firedSL ns c ks sc t).getD k 0 ≤ (Nt.firedSL ns c ks sc (t + 1)).getD k 0) := Lib.hid (fun k hk => by
      rw [Nt.firedSL_get _ _ _ _ _ (by omega), Nt.firedSL_get _ _ _ _ _ (by omega)]; exact Nt.firedS_more ns c ks sc k t)
    have HM0 : Hid (t = 60 → Nt.sfiredOf (Nt.nats ns) (c : Int) (Nt.nats ks) (Nt.prs sc) ((t : Int) + 1) = []) := Lib.hid (fun h60 => by
      rw [h60]; exact Nt.sfiredOf_no (Nt.playB_no3 (by decide)))
    have HM1 : Hid (¬ t = 60 → Nt.sfiredOf (Nt.nats ns) (c : Int) (Nt.nats ks) (Nt.prs sc) ((t : Int) + 1) = Nt.nats (Nt.firedSL ns c ks sc (t + 1))) := Lib.hid (fun h60 => by
      exact Nt.sfiredOf_ok (t := t + 1) ok st hl so (by omega))
    have s2 : IntKind.i64.wrap ((t : Int) + 1) = (t : Int) + 1 := IntWalk.i64_in _ (by omega)
    clear hs ht hg h1 hb ok st hl so hnn
    go_wp2_with fail
    refine (iScriptFired_any _ _ _ _ _ _ _ _ _ _ _ _ S1.out T1.out G1.out).mono ?_
    rintro e w2 ⟨u2, rfl, hs, hk⟩
    rw [HF.out] at hs
    have R2 := Lib.hid hs
    obtain ⟨gR, capR, rfl, hgR, hcR⟩ := hs.row HRL.out hp
    have CR2 := Lib.hid hcR
    have lR2 := Lib.hid hgR
    clear hgR hcR
    have S2 := Lib.hid (S1.out.stay hk)
    have T2 := Lib.hid (T1.out.stay hk)
    have G2 := Lib.hid (G1.out.stay hk)
    have HK2 := Lib.hid (HK.out.trans hk (by simp))
    clear S1 T1 G1 HK
    clear hs hk
    go_wp2_with fail
    refine (sScriptFired_any _ _ _ _ _ _ _ _ _ _ _ _ S2.out T2.out G2.out).mono ?_
    rintro e w3 ⟨u3, rfl, hs, hk⟩
    rw [HF.out] at hs
    have Y3 := Lib.hid hs
    obtain ⟨bY, capY, rfl, _, _, _⟩ := hs.any
    have S3 := Lib.hid (S2.out.stay hk)
    have T3 := Lib.hid (T2.out.stay hk)
    have G3 := Lib.hid (G2.out.stay hk)
    have R3 := Lib.hid (R2.out.stay hk)
    have CR3 := Lib.hid (fun j (hj : j < n) => (hk.cell (p := ⟨gR, j, none⟩) lR2.out (by simp)).trans (CR2.out j hj))
    have lR3 := Lib.hid (Nat.lt_of_lt_of_le lR2.out hk.size)
    have HK3 := Lib.hid (HK2.out.trans hk (by simp))
    clear S2 T2 G2 R2 CR2 lR2 HK2
    clear hs hk
    go_wp2_with fail
    refine (sameInts_any _ _ _ _ _ _ _ R3.out Y3.out).mono ?_
    rintro e w4 ⟨rfl, hq⟩
    rw [dec_of rfl]
    have hk := hq.kept
    have S4 := Lib.hid (S3.out.stay hk)
    have T4 := Lib.hid (T3.out.stay hk)
    have G4 := Lib.hid (G3.out.stay hk)
    have R4 := Lib.hid (R3.out.stay hk)
    have Y4 := Lib.hid (Y3.out.stay hk)
    have CR4 := Lib.hid (fun j (hj : j < n) => (hk.cell (p := ⟨gR, j, none⟩) lR3.out (by simp)).trans (CR3.out j hj))
    have lR4 := Lib.hid (Nat.lt_of_lt_of_le lR3.out hk.size)
    have HK4 := Lib.hid (HK3.out.trans hk (by simp))
    clear S3 T3 G3 R3 Y3 CR3 lR3 HK3
    clear hk hq
    clear Y4
    by_cases h60 : t = 60
    · have HM := Lib.hid (HM0.out h60)
      clear h60 HM0 HM1
      go_wp2_with fail
      refine (iScriptFired_any _ _ _ _ _ _ _ _ _ _ _ _ S4.out T4.out G4.out).mono ?_
      rintro e w5 ⟨u5, rfl, hs, hk⟩
      rw [HM.out] at hs
      have M5 := Lib.hid hs
      obtain ⟨bM, capM, rfl, _, _, _⟩ := hs.any
      have S5 := Lib.hid (S4.out.stay hk)
      have T5 := Lib.hid (T4.out.stay hk)
      have G5 := Lib.hid (G4.out.stay hk)
      have R5 := Lib.hid (R4.out.stay hk)
      have CR5 := Lib.hid (fun j (hj : j < n) => (hk.cell (p := ⟨gR, j, none⟩) lR4.out (by simp)).trans (CR4.out j hj))
      have lR5 := Lib.hid (Nat.lt_of_lt_of_le lR4.out hk.size)
      have HK5 := Lib.hid (HK4.out.trans hk (by simp))
      clear S4 T4 G4 R4 CR4 lR4 HK4
      clear hs hk
      go_wp2_with fail
      go_loop [10] (fun i => i = .int .i64 0) (fun _ => 0)
      case atStart => rfl
      case round =>
        obtain rfl := hrel
        have HE := Lib.hid (Sg.empty w5)
        have hk : Kept [] w5 (w5.alloc (.cells #[] 35)) := (Kept.refl [] w5).alloc _
        have S6 := Lib.hid (S5.out.stay hk)
        have T6 := Lib.hid (T5.out.stay hk)
        have G6 := Lib.hid (G5.out.stay hk)
        have R6 := Lib.hid (R5.out.stay hk)
        have M6 := Lib.hid (M5.out.stay hk)
        have HK6 := Lib.hid (HK5.out.trans hk (by simp))
        clear S5 T5 G5 R5 M5 HK5
        clear hk
        go_wp2_with fail
        refine (iScriptFired_any _ _ _ _ _ _ _ _ _ _ _ _ S6.out T6.out HE.out).mono ?_
        rintro e w7 ⟨u7, rfl, hs, hk⟩
        rw [HFE.out] at hs
        have P7 := Lib.hid hs
        obtain ⟨bP, capP, rfl, _, _, _⟩ := hs.any
        have S7 := Lib.hid (S6.out.stay hk)
        have T7 := Lib.hid (T6.out.stay hk)
        have G7 := Lib.hid (G6.out.stay hk)
        have R7 := Lib.hid (R6.out.stay hk)
        have M7 := Lib.hid (M6.out.stay hk)
        have E7 := Lib.hid (HE.out.stay hk)
        have HK7 := Lib.hid (HK6.out.trans hk (by simp))
        clear S6 T6 G6 R6 M6 HE HK6
        clear hs hk
        go_wp2_with fail
        refine (iFiredRow_any _ _ _ _ _ _ _ _ _ S7.out T7.out).mono ?_
        rintro e w8 ⟨u8, rfl, hs, hk⟩
        rw [HFF.out] at hs
        have Q8 := Lib.hid hs
        obtain ⟨bQ, capQ, rfl, _, _, _⟩ := hs.any
        have S8 := Lib.hid (S7.out.stay hk)
        have T8 := Lib.hid (T7.out.stay hk)
        have G8 := Lib.hid (G7.out.stay hk)
        have R8 := Lib.hid (R7.out.stay hk)
        have M8 := Lib.hid (M7.out.stay hk)
        have E8 := Lib.hid (E7.out.stay hk)
        have P8 := Lib.hid (P7.out.stay hk)
        have HK8 := Lib.hid (HK7.out.trans hk (by simp))
        clear S7 T7 G7 R7 M7 E7 P7 HK7
        clear hs hk
        go_wp2_with fail
        refine (sameInts_any _ _ _ _ _ _ _ P8.out Q8.out).mono ?_
        rintro e w9 ⟨rfl, hq⟩
        rw [dec_of rfl]
        have hk := hq.kept
        have S9 := Lib.hid (S8.out.stay hk)
        have T9 := Lib.hid (T8.out.stay hk)
        have G9 := Lib.hid (G8.out.stay hk)
        have R9 := Lib.hid (R8.out.stay hk)
        have M9 := Lib.hid (M8.out.stay hk)
        have E9 := Lib.hid (E8.out.stay hk)
        have P9 := Lib.hid (P8.out.stay hk)
        have Q9 := Lib.hid (Q8.out.stay hk)
        have HK9 := Lib.hid (HK8.out.trans hk (by simp))
        clear S8 T8 G8 R8 M8 E8 P8 Q8 HK8
        clear hk hq
        go_wp2
        go_ret
        exact ⟨rfl, HK9.out⟩
    · have HM := Lib.hid (HM1.out h60)
      clear h60 HM0 HM1
      go_wp2_with fail
      refine (iScriptFired_any _ _ _ _ _ _ _ _ _ _ _ _ S4.out T4.out G4.out).mono ?_
      rintro e w5 ⟨u5, rfl, hs, hk⟩
      rw [HM.out] at hs
      have M5 := Lib.hid hs
      obtain ⟨gM, capM, rfl, hgM, hcM⟩ := hs.row HML.out hp
      have CM5 := Lib.hid hcM
      have lM5 := Lib.hid hgM
      clear hgM hcM
      have S5 := Lib.hid (S4.out.stay hk)
      have T5 := Lib.hid (T4.out.stay hk)
      have G5 := Lib.hid (G4.out.stay hk)
      have R5 := Lib.hid (R4.out.stay hk)
      have CR5 := Lib.hid (fun j (hj : j < n) => (hk.cell (p := ⟨gR, j, none⟩) lR4.out (by simp)).trans (CR4.out j hj))
      have lR5 := Lib.hid (Nat.lt_of_lt_of_le lR4.out hk.size)
      have HK5 := Lib.hid (HK4.out.trans hk (by simp))
      clear S4 T4 G4 R4 CR4 lR4 HK4
      clear hs hk
      go_wp2_with fail
      go_loopw [10] (fun i wr => ∃ k : Nat, k ≤ n ∧ i = .int .i64 k ∧ Qt w5 wr) (fun i _ => n - (intOf i).toNat)
      case atStart => exact ⟨0, Nat.zero_le _, rfl, Qt.refl _⟩
      case round =>
        obtain ⟨k, hk, rfl, hq⟩ := hrel
        have HQ := Lib.hid hq
        have d9 : decide ((0 : Int) < (n : Int)) = true := decide_eq_true (by omega)
        have d8 : ((n : Int) != (n : Int)) = false := by simp
        by_cases hlt : k < n
        · have kR := (hq.cell _).trans (CR5.out k hlt)
          have kM := (hq.cell _).trans (CM5.out k hlt)
          have hm := HMORE.out k hlt
          clear hq
          generalize (Nt.firedSL ns c ks sc (t + 1)).getD k 0 = b at *
          generalize (Nt.firedSL ns c ks sc t).getD k 0 = a at *
          have d1 : decide ((b : Int) < (a : Int)) = false := dec_not (by omega)
          have d2 : ¬ b < a := by omega
          clear hm
          go_wp2_with fail
          go_quiet (fail)
          go_wp2
          go_roundw
          case rel => exact ⟨k + 1, by omega, by go_num, HQ.out.draw _⟩
          case measure => simp [intOf]; omega
        · have hk' : n = k := by omega
          subst hk'
          have hk := HQ.out.kept
          clear hlt hq HQ
          obtain ⟨w30, hw30⟩ : ∃ w30, w30 = wr := ⟨_, rfl⟩
          subst hw30
          have S30 := Lib.hid (S5.out.stay hk)
          have T30 := Lib.hid (T5.out.stay hk)
          have G30 := Lib.hid (G5.out.stay hk)
          have R30 := Lib.hid (R5.out.stay hk)
          have M30 := Lib.hid (M5.out.stay hk)
          have HK30 := Lib.hid (HK5.out.trans hk (by simp))
          clear S5 T5 G5 R5 M5 HK5
          clear hk
          have HE := Lib.hid (Sg.empty w30)
          have hk : Kept [] w30 (w30.alloc (.cells #[] 35)) := (Kept.refl [] w30).alloc _
          have S31 := Lib.hid (S30.out.stay hk)
          have T31 := Lib.hid (T30.out.stay hk)
          have G31 := Lib.hid (G30.out.stay hk)
          have R31 := Lib.hid (R30.out.stay hk)
          have M31 := Lib.hid (M30.out.stay hk)
          have HK31 := Lib.hid (HK30.out.trans hk (by simp))
          clear S30 T30 G30 R30 M30 HK30
          clear hk
          go_wp2_with fail
          refine (iScriptFired_any _ _ _ _ _ _ _ _ _ _ _ _ S31.out T31.out HE.out).mono ?_
          rintro e w32 ⟨u32, rfl, hs, hk⟩
          rw [HFE.out] at hs
          have P32 := Lib.hid hs
          obtain ⟨bP, capP, rfl, _, _, _⟩ := hs.any
          have S32 := Lib.hid (S31.out.stay hk)
          have T32 := Lib.hid (T31.out.stay hk)
          have G32 := Lib.hid (G31.out.stay hk)
          have R32 := Lib.hid (R31.out.stay hk)
          have M32 := Lib.hid (M31.out.stay hk)
          have E32 := Lib.hid (HE.out.stay hk)
          have HK32 := Lib.hid (HK31.out.trans hk (by simp))
          clear S31 T31 G31 R31 M31 HE HK31
          clear hs hk
          go_wp2_with fail
          refine (iFiredRow_any _ _ _ _ _ _ _ _ _ S32.out T32.out).mono ?_
          rintro e w33 ⟨u33, rfl, hs, hk⟩
          rw [HFF.out] at hs
          have Q33 := Lib.hid hs
          obtain ⟨bQ, capQ, rfl, _, _, _⟩ := hs.any
          have S33 := Lib.hid (S32.out.stay hk)
          have T33 := Lib.hid (T32.out.stay hk)
          have G33 := Lib.hid (G32.out.stay hk)
          have R33 := Lib.hid (R32.out.stay hk)
          have M33 := Lib.hid (M32.out.stay hk)
          have E33 := Lib.hid (E32.out.stay hk)
          have P33 := Lib.hid (P32.out.stay hk)
          have HK33 := Lib.hid (HK32.out.trans hk (by simp))
          clear S32 T32 G32 R32 M32 E32 P32 HK32
          clear hs hk
          go_wp2_with fail
          refine (sameInts_any _ _ _ _ _ _ _ P33.out Q33.out).mono ?_
          rintro e w34 ⟨rfl, hq⟩
          rw [dec_of rfl]
          have hk := hq.kept
          have S34 := Lib.hid (S33.out.stay hk)
          have T34 := Lib.hid (T33.out.stay hk)
          have G34 := Lib.hid (G33.out.stay hk)
          have R34 := Lib.hid (R33.out.stay hk)
          have M34 := Lib.hid (M33.out.stay hk)
          have E34 := Lib.hid (E33.out.stay hk)
          have P34 := Lib.hid (P33.out.stay hk)
          have Q34 := Lib.hid (Q33.out.stay hk)
          have HK34 := Lib.hid (HK33.out.trans hk (by simp))
          clear S33 T33 G33 R33 M33 E33 P33 Q33 HK33
          clear hk hq
          go_wp2
          go_ret
          exact ⟨rfl, HK34.out⟩
end Go.Proofs.Ytilbdpcijdcffaa
