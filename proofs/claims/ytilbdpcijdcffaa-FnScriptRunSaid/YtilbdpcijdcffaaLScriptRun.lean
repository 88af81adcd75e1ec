/-
  The law ScriptRun, walked.
-/
import Derived.Test.YtilbdpcijdcffaaDS
import Derived.Test.YtilbdpcijdcffaaL1
import Derived.Test.YtilbdpcijdcffaaSP3
import Derived.Test.YtilbdpcijdcffaaSP4
import Derived.Test.YtilbdpcijdcffaaSM
import Derived.Test.YtilbdpcijdcffaaFA
namespace Go.Proofs.Ytilbdpcijdcffaa
open Go.RowKit

set_option maxHeartbeats 4000000 in
set_option maxRecDepth 100000 in
theorem FnScriptRun_calls (w : World) (v : Value) (ha : ArgB w v) :
    Calls Try.prog 4 #[v] w fun e w' => e = .returned (.bool true) ∧ Kept [] w w' := by
  have HA := Lib.hid ha
  obtain ⟨a, len, cap, rfl, hlc, hcm, _⟩ := ha
  by_cases hbig : 1048576 < len
  · have hb : (1048576 : Int) < (len : Int) := by omega
    clear hbig
    go_enter Try.func4, Try.ntmps4
    go_wp2
    go_ret
    exact ⟨rfl, Kept.refl _ _⟩
  have hb : ¬ (1048576 : Int) < (len : Int) := by omega
  clear hbig
  go_enter Try.func4, Try.ntmps4
  go_wp2_with fail
  refine (drawScriptRun_any _ _ HA.out).mono ?_
  rintro e w1 ⟨u, xs, v2, ys, r, ls, c0, s0, rfl, _, _, hs, ht, hg, _, _, _, _, _, hk⟩
  have S1 := Lib.hid hs
  have T1 := Lib.hid ht
  have G1 := Lib.hid hg
  have HK := Lib.hid hk
  clear hk
  cases h1 : Nt.playB xs c0 ys ls s0
  · have HF := Lib.hid (Nt.srunOf_no h1)
    clear h1 hb
    obtain ⟨bS, capS, rfl, _, _, _⟩ := hs.any
    obtain ⟨bT, capT, rfl, _, _, _⟩ := ht.any
    obtain ⟨bG, capG, rfl, _, _, _⟩ := hg.any
    clear hs ht hg
    go_wp2_with fail
    refine (iScriptRun_any _ _ _ _ _ _ _ _ _ _ _ _ S1.out T1.out G1.out).mono ?_
    rintro e w2 ⟨u2, rfl, hs, hk⟩
    rw [HF.out] at hs
    have R2 := Lib.hid hs
    obtain ⟨bR, capR, rfl, _, _, _⟩ := hs.any
    have S2 := Lib.hid (S1.out.stay hk)
    have T2 := Lib.hid (T1.out.stay hk)
    have G2 := Lib.hid (G1.out.stay hk)
    have HK2 := Lib.hid (HK.out.trans hk (by simp))
    clear S1 T1 G1 HK
    clear hs hk
    go_wp2_with fail
    refine (sScriptRun_any _ _ _ _ _ _ _ _ _ _ _ _ S2.out T2.out G2.out).mono ?_
    rintro e w3 ⟨u3, rfl, hs, hk⟩
    rw [HF.out] at hs
    have Y3 := Lib.hid hs
    obtain ⟨bY, capY, rfl, _, _, _⟩ := hs.any
    have S3 := Lib.hid (S2.out.stay hk)
    have T3 := Lib.hid (T2.out.stay hk)
    have G3 := Lib.hid (G2.out.stay hk)
    have R3 := Lib.hid (R2.out.stay hk)
    have HK3 := Lib.hid (HK2.out.trans hk (by simp))
    clear S2 T2 G2 R2 HK2
    clear hs hk
    go_wp2_with fail
    refine (sameInts_any _ _ _ _ _ _ _ R3.out Y3.out).mono ?_
    rintro e w4 ⟨rfl, hq⟩
    rw [dec_of rfl]
    have hk := hq.kept
    have S4 := Lib.hid (S3.out.stay hk)
    have T4 := Lib.hid (T3.out.stay hk)
    have G4 := Lib.hid (G3.out.stay hk)
    have R4 := Lib.hid (R3.out.stay hk)
    have Y4 := Lib.hid (Y3.out.stay hk)
    have HK4 := Lib.hid (HK3.out.trans hk (by simp))
    clear S3 T3 G3 R3 Y3 HK3
    clear hk hq
    clear Y4
    go_wp2_with fail
    refine (alive_any _).mono ?_
    rintro e w5 ⟨rfl, hk⟩
    have S5 := Lib.hid (S4.out.stay hk)
    have T5 := Lib.hid (T4.out.stay hk)
    have G5 := Lib.hid (G4.out.stay hk)
    have R5 := Lib.hid (R4.out.stay hk)
    have HK5 := Lib.hid (HK4.out.trans hk (by simp))
    clear S4 T4 G4 R4 HK4
    clear hk
    go_wp2
    go_ret
    exact ⟨rfl, HK5.out⟩
  · obtain ⟨ns, c, ks, sc, t, rfl, rfl, rfl, rfl, rfl, ok, st, hl, so, ht60⟩ := Nt.playB_ok h1
    obtain ⟨n, hnn⟩ : ∃ n, n = ns.length := ⟨_, rfl⟩
    have hp : 0 < n := by have := ok.some; omega
    have h6n : n ≤ 6 := by have := ok.few; omega
    have hne0 : ((n : Int) == 0) = false := beq_eq_false_iff_ne.2 (by omega)
    have hee : ((n : Int) == (n : Int)) = true := beq_self_eq_true _
    obtain ⟨gS, capS, rfl, _, _⟩ := hs.row (n := n) hnn.symm hp
    obtain ⟨gT, capT, rfl, _, _⟩ := ht.row (n := n) (by rw [hl, hnn]) hp
    have HF := Lib.hid (Nt.srunOf_ok ok st hl so ht60)
    have HFE : Hid (Nt.srunOf (Nt.nats ns) (c : Int) (Nt.nats ks) [] (t : Int) = Nt.nats (Nt.run ns c ks t)) := Lib.hid (by
      have h := Nt.srunOf_ok ok st hl (Nt.SOk.none so.n1 so.n6) ht60
      rw [Nt.runS_nil] at h
      exact h)
    have HFF := Lib.hid (Nt.runOf_ok ok st hl ht60)
    have HFS : Hid (Nt.srunOf (Nt.nats ns) (c : Int) (Nt.nats ks) (Nt.prs (sc.filter (fun l => decide (l.1 < t)))) (t : Int) = Nt.nats (Nt.runS ns c ks sc t)) := Lib.hid (by
      have h := Nt.srunOf_ok ok st hl (so.filter (fun l => decide (l.1 < t))) ht60
      rw [Nt.runS_soon ns c ks sc t t (Nat.le_refl t)] at h
      exact h)
    have HST := Lib.hid (Nt.st_stB (Nt.runS_st ns st sc t))
    have HRL : Hid ((Nt.runS ns c ks sc t).length = n) := Lib.hid (by rw [Nt.runS_length, hl, hnn])
    obtain ⟨m, hm⟩ : ∃ m, m = sc.length := ⟨_, rfl⟩
    have hm8 : m ≤ 8 := by rw [hm]; exact so.few
    have HPL : (Nt.prs sc).length = m := by rw [Nt.prs_length, hm]
    have HSC : Hid (∀ k, k < m → ∃ x y : Nat, Nt.at2 (Nt.prs sc) k = ((x : Int), (y : Int)) ∧ (x < t → Nt.prs ((sc.take (k + 1)).filter (fun l => decide (l.1 < t))) = Nt.prs ((sc.take k).filter (fun l => decide (l.1 < t))) ++ [((x : Int), (y : Int))]) ∧ (¬ x < t → Nt.prs ((sc.take (k + 1)).filter (fun l => decide (l.1 < t))) = Nt.prs ((sc.take k).filter (fun l => decide (l.1 < t))))) := Lib.hid (fun k hk => by
      have hk' : k < sc.length := by omega
      refine ⟨(sc[k]).1, (sc[k]).2, Nt.at2_prs sc hk', fun h => ?_, fun h => ?_⟩
      · rw [List.take_succ_eq_append_getElem hk', List.filter_append, Nt.prs_append, List.filter_cons_of_pos (by simpa using h)]
        rfl
      · rw [List.take_succ_eq_append_getElem hk', List.filter_append, Nt.prs_append, List.filter_cons_of_neg (by simpa using h)]
        simp [Nt.prs])
    have HLN : Hid (∀ k, k ≤ m → (Nt.prs ((sc.take k).filter (fun l => decide (l.1 < t)))).length ≤ k) := Lib.hid (fun k hk => by
      rw [Nt.prs_length]
      exact Nat.le_trans (List.length_filter_le _ _) (by rw [List.length_take]; omega))
    have HALL : Hid (Nt.prs ((sc.take m).filter (fun l => decide (l.1 < t))) = Nt.prs (sc.filter (fun l => decide (l.1 < t)))) := Lib.hid (by rw [hm, List.take_length])
    have HN0 : Hid (Nt.prs ((sc.take 0).filter (fun l => decide (l.1 < t))) = []) := Lib.hid (by simp [Nt.prs])
    obtain ⟨bG, capG, rfl, _, _, _⟩ := hg.any
    rw [HPL] at G1 ⊢
    have HPL := Lib.hid HPL
    clear hs ht hg h1 hb ok st hl so hnn hm
    go_wp2_with fail
    refine (iScriptRun_any _ _ _ _ _ _ _ _ _ _ _ _ S1.out T1.out G1.out).mono ?_
    rintro e w2 ⟨u2, rfl, hs, hk⟩
    rw [HF.out] at hs
    have R2 := Lib.hid hs
    obtain ⟨gR, capR, rfl, hgR, hcR⟩ := hs.row HRL.out hp
    clear hgR hcR
    have S2 := Lib.hid (S1.out.stay hk)
    have T2 := Lib.hid (T1.out.stay hk)
    have G2 := Lib.hid (G1.out.stay hk)
    have HK2 := Lib.hid (HK.out.trans hk (by simp))
    clear S1 T1 G1 HK
    clear hs hk
    go_wp2_with fail
    refine (sScriptRun_any _ _ _ _ _ _ _ _ _ _ _ _ S2.out T2.out G2.out).mono ?_
    rintro e w3 ⟨u3, rfl, hs, hk⟩
    rw [HF.out] at hs
    have Y3 := Lib.hid hs
    obtain ⟨bY, capY, rfl, _, _, _⟩ := hs.any
    have S3 := Lib.hid (S2.out.stay hk)
    have T3 := Lib.hid (T2.out.stay hk)
    have G3 := Lib.hid (G2.out.stay hk)
    have R3 := Lib.hid (R2.out.stay hk)
    have HK3 := Lib.hid (HK2.out.trans hk (by simp))
    clear S2 T2 G2 R2 HK2
    clear hs hk
    go_wp2_with fail
    refine (sameInts_any _ _ _ _ _ _ _ R3.out Y3.out).mono ?_
    rintro e w4 ⟨rfl, hq⟩
    rw [dec_of rfl]
    have hk := hq.kept
    have S4 := Lib.hid (S3.out.stay hk)
    have T4 := Lib.hid (T3.out.stay hk)
    have G4 := Lib.hid (G3.out.stay hk)
    have R4 := Lib.hid (R3.out.stay hk)
    have Y4 := Lib.hid (Y3.out.stay hk)
    have HK4 := Lib.hid (HK3.out.trans hk (by simp))
    clear S3 T3 G3 R3 Y3 HK3
    clear hk hq
    clear Y4
    have HZ0 : Hid (Sg (w4.alloc (.cells #[] 35)) w4.heap.size (.slice (some ⟨w4.heap.size, 0, none⟩) 0 0) (Nt.prs ((sc.take 0).filter (fun l => decide (l.1 < t))))) := Lib.hid (by rw [HN0.out]; exact Sg.empty w4)
    generalize hF : (fun k => Nt.prs ((sc.take k).filter (fun l => decide (l.1 < t)))) = F at *
    have hFk : ∀ k, Nt.prs ((sc.take k).filter (fun l => decide (l.1 < t))) = F k := fun k => by rw [← hF]
    have HFK := Lib.hid hFk
    clear hF hFk
    rw [HFK.out] at HZ0
    rw [HFK.out] at HALL
    have HLN2 : Hid (∀ k, k ≤ m → (F k).length ≤ k) := Lib.hid (fun k hk => by rw [← HFK.out]; exact HLN.out k hk)
    have HSC2 : Hid (∀ k, k < m → ∃ x y : Nat, Nt.at2 (Nt.prs sc) k = ((x : Int), (y : Int)) ∧ (x < t → F (k + 1) = F k ++ [((x : Int), (y : Int))]) ∧ (¬ x < t → F (k + 1) = F k)) := Lib.hid (fun k hk => by
      obtain ⟨x, y, h1, h2, h3⟩ := HSC.out k hk
      exact ⟨x, y, h1, fun h => by rw [← HFK.out, ← HFK.out]; exact h2 h, fun h => by rw [← HFK.out, ← HFK.out]; exact h3 h⟩)
    clear HSC HLN HN0 HFK
    obtain ⟨a9, c9, e9, _, _, hc⟩ := G4.out.any
    rw [HPL.out] at e9 hc
    have HC := Lib.hid hc
    simp only [Value.slice.injEq] at e9
    obtain ⟨rfl, _, rfl⟩ := e9
    clear hc HPL
    go_wp2_with fail
    go_loopw [9, 10] (fun u i wr => ∃ k : Nat, k ≤ m ∧ i = .int .i64 k ∧ Sg wr w4.heap.size u (F k) ∧ Kept [] w4 wr) (fun _ i _ => m - (intOf i).toNat)
    case atStart => exact ⟨0, Nat.zero_le _, rfl, HZ0.out, (Kept.refl _ _).alloc _⟩
    case round =>
      clear HZ0
      obtain ⟨k, hk, rfl, hsl, hkept⟩ := hrel
      have HSL := Lib.hid hsl
      have HK9 := Lib.hid hkept
      have hsz := hkept.size
      by_cases hlt : k < m
      · obtain ⟨g', rfl, _, hg', c1, c2⟩ := HC.out k hlt
        obtain ⟨x, y, hxy, hyes, hno⟩ := HSC2.out k hlt
        rw [hxy] at c1 c2
        have k1 := (hkept.cell (p := ⟨g', k * 2, none⟩) hg' (by simp)).trans c1
        have k2 := (hkept.cell (p := ⟨g', k * 2 + 1, none⟩) hg' (by simp)).trans c2
        have hll := HLN2.out k hk
        clear hsl hkept c1 c2 hxy
        by_cases hx : x < t
        · have HSU := Lib.hid (hyes hx)
          have d1 : decide ((x : Int) < (t : Int)) = true := decide_eq_true (by omega)
          clear hyes hno
          go_wp2_with (at_builtin; refine app_light _ _ rfl _ _ rfl w4.heap.size _ _ HSL.out rfl rfl (by omega) (by omega) ?_; intro u' w9 hs9 hk9; have HS9 := Lib.hid hs9; have HK10 := Lib.hid (HK9.out.own hk9 (fun g hg => (HSL.out.block hg).1)); clear hs9 hk9)
          go_roundw
          case rel => exact ⟨k + 1, by omega, by go_num, by rw [HSU.out]; exact HS9.out, HK10.out⟩
          case measure => simp [intOf]; omega
        · have HSU := Lib.hid (hno hx)
          have d1 : decide ((x : Int) < (t : Int)) = false := dec_not (by omega)
          clear hyes hno
          go_wp2
          go_roundw
          case rel => exact ⟨k + 1, by omega, by go_num, by rw [HSU.out]; exact HSL.out, HK9.out⟩
          case measure => simp [intOf]; omega
      · have hk' : m = k := by omega
        subst hk'
        rw [HALL.out] at hsl
        have ZS := Lib.hid hsl
        obtain ⟨bZ, capZ, rfl, _, _, _⟩ := hsl.any
        have hk := HK9.out
        clear hlt hsz HSL HK9 hkept hsl HLN2 HSC2 HC
        obtain ⟨w30, hw30⟩ : ∃ w30, w30 = wr := ⟨_, rfl⟩
        subst hw30
        have S30 := Lib.hid (S4.out.stay hk)
        have T30 := Lib.hid (T4.out.stay hk)
        have G30 := Lib.hid (G4.out.stay hk)
        have R30 := Lib.hid (R4.out.stay hk)
        have HK30 := Lib.hid (HK4.out.trans hk (by simp))
        clear S4 T4 G4 R4 HK4
        clear hk
        have HE := Lib.hid (Sg.empty w30)
        have hk : Kept [] w30 (w30.alloc (.cells #[] 35)) := (Kept.refl [] w30).alloc _
        have S31 := Lib.hid (S30.out.stay hk)
        have T31 := Lib.hid (T30.out.stay hk)
        have G31 := Lib.hid (G30.out.stay hk)
        have R31 := Lib.hid (R30.out.stay hk)
        have Z31 := Lib.hid (ZS.out.stay hk)
        have HK31 := Lib.hid (HK30.out.trans hk (by simp))
        clear S30 T30 G30 R30 ZS HK30
        clear hk
        go_wp2_with fail
        refine (iScriptRun_any _ _ _ _ _ _ _ _ _ _ _ _ S31.out T31.out HE.out).mono ?_
        rintro e w32 ⟨u32, rfl, hs, hk⟩
        rw [HFE.out] at hs
        have P32 := Lib.hid hs
        obtain ⟨bP, capP, rfl, _, _, _⟩ := hs.any
        have S32 := Lib.hid (S31.out.stay hk)
        have T32 := Lib.hid (T31.out.stay hk)
        have G32 := Lib.hid (G31.out.stay hk)
        have R32 := Lib.hid (R31.out.stay hk)
        have Z32 := Lib.hid (Z31.out.stay hk)
        have E32 := Lib.hid (HE.out.stay hk)
        have HK32 := Lib.hid (HK31.out.trans hk (by simp))
        clear S31 T31 G31 R31 Z31 HE HK31
        clear hs hk
        go_wp2_with fail
        refine (iFireRun_any _ _ _ _ _ _ _ _ _ S32.out T32.out).mono ?_
        rintro e w33 ⟨u33, rfl, hs, hk⟩
        rw [HFF.out] at hs
        have Q33 := Lib.hid hs
        obtain ⟨bQ, capQ, rfl, _, _, _⟩ := hs.any
        have S33 := Lib.hid (S32.out.stay hk)
        have T33 := Lib.hid (T32.out.stay hk)
        have G33 := Lib.hid (G32.out.stay hk)
        have R33 := Lib.hid (R32.out.stay hk)
        have Z33 := Lib.hid (Z32.out.stay hk)
        have E33 := Lib.hid (E32.out.stay hk)
        have P33 := Lib.hid (P32.out.stay hk)
        have HK33 := Lib.hid (HK32.out.trans hk (by simp))
        clear S32 T32 G32 R32 Z32 E32 P32 HK32
        clear hs hk
        go_wp2_with fail
        refine (sameInts_any _ _ _ _ _ _ _ P33.out Q33.out).mono ?_
        rintro e w34 ⟨rfl, hq⟩
        rw [dec_of rfl]
        have hk := hq.kept
        have S34 := Lib.hid (S33.out.stay hk)
        have T34 := Lib.hid (T33.out.stay hk)
        have G34 := Lib.hid (G33.out.stay hk)
        have R34 := Lib.hid (R33.out.stay hk)
        have Z34 := Lib.hid (Z33.out.stay hk)
        have E34 := Lib.hid (E33.out.stay hk)
        have P34 := Lib.hid (P33.out.stay hk)
        have Q34 := Lib.hid (Q33.out.stay hk)
        have HK34 := Lib.hid (HK33.out.trans hk (by simp))
        clear S33 T33 G33 R33 Z33 E33 P33 Q33 HK33
        clear hk hq
        go_wp2_with fail
        refine (iScriptRun_any _ _ _ _ _ _ _ _ _ _ _ _ S34.out T34.out Z34.out).mono ?_
        rintro e w35 ⟨u35, rfl, hs, hk⟩
        rw [HFS.out] at hs
        have O35 := Lib.hid hs
        obtain ⟨bO, capO, rfl, _, _, _⟩ := hs.any
        have S35 := Lib.hid (S34.out.stay hk)
        have T35 := Lib.hid (T34.out.stay hk)
        have G35 := Lib.hid (G34.out.stay hk)
        have R35 := Lib.hid (R34.out.stay hk)
        have Z35 := Lib.hid (Z34.out.stay hk)
        have E35 := Lib.hid (E34.out.stay hk)
        have P35 := Lib.hid (P34.out.stay hk)
        have Q35 := Lib.hid (Q34.out.stay hk)
        have HK35 := Lib.hid (HK34.out.trans hk (by simp))
        clear S34 T34 G34 R34 Z34 E34 P34 Q34 HK34
        clear hs hk
        go_wp2_with fail
        refine (sameInts_any _ _ _ _ _ _ _ O35.out R35.out).mono ?_
        rintro e w36 ⟨rfl, hq⟩
        rw [dec_of rfl]
        have hk := hq.kept
        have S36 := Lib.hid (S35.out.stay hk)
        have T36 := Lib.hid (T35.out.stay hk)
        have G36 := Lib.hid (G35.out.stay hk)
        have R36 := Lib.hid (R35.out.stay hk)
        have Z36 := Lib.hid (Z35.out.stay hk)
        have E36 := Lib.hid (E35.out.stay hk)
        have P36 := Lib.hid (P35.out.stay hk)
        have Q36 := Lib.hid (Q35.out.stay hk)
        have O36 := Lib.hid (O35.out.stay hk)
        have HK36 := Lib.hid (HK35.out.trans hk (by simp))
        clear S35 T35 G35 R35 Z35 E35 P35 Q35 O35 HK35
        clear hk hq
        go_wp2_with fail
        refine (iStateOk_any _ _ _ _ _ R36.out).mono ?_
        rintro e w' ⟨rfl, rfl⟩
        rw [HST.out]
        go_wp2
        go_ret
        exact ⟨rfl, HK36.out⟩
end Go.Proofs.Ytilbdpcijdcffaa
