/-
  Walks: scripts of lights, by the model.
-/
import Derived.Test.YtilbdpcijdcffaaDoorFA
import Derived.Test.YtilbdpcijdcffaaDoorSL
namespace Go.Proofs.YtilbdpcijdcffaaDoor
open Go.RowKit

set_option maxHeartbeats 2000000 in
set_option maxRecDepth 100000 in
theorem sScriptOk_any (n : Int) (xs : List (Int × Int)) (w : World) (v : Value) (base : Nat) (hs : Sg w base v xs) :
    Calls Tryd.prog 19 #[.int .i64 n, v] w fun e w' => e = .returned (.bool (Nt.scB n xs)) ∧ Qt w w' := by
  obtain ⟨a, cap, rfl, _, hm, hc⟩ := hs.any
  have HC := Lib.hid hc
  clear hc hs
  go_enter Tryd.func19, Tryd.ntmps19
  go_wp2
  go_loopw [5] (fun i wr => ∃ k : Nat, k ≤ xs.length ∧ i = .int .i64 k ∧ Nt.lTo n xs k ∧ Qt w wr) (fun i _ => xs.length - (intOf i).toNat)
  case atStart => exact ⟨0, Nat.zero_le _, rfl, fun j hj => absurd hj (by omega), Qt.refl _⟩
  case round =>
    obtain ⟨k, hk, rfl, hto, hq⟩ := hrel
    have HT := Lib.hid hto
    have HQ := Lib.hid hq
    clear hto
    by_cases hlt : k < xs.length
    · obtain ⟨g, rfl, _, _, c1, c2⟩ := HC.out k hlt
      have hprev : 0 < k → w.cell? ⟨g, (k - 1) * 2, none⟩ = some (.int .i64 (Nt.at2 xs (k - 1)).1) ∧ w.cell? ⟨g, (k - 1) * 2 + 1, none⟩ = some (.int .i64 (Nt.at2 xs (k - 1)).2) := fun h0 => by
        obtain ⟨g', e, _, _, p1, p2⟩ := HC.out (k - 1) (by omega)
        simp at e
        subst e
        exact ⟨p1, p2⟩
      have k1 := (hq.cell _).trans c1
      have k2 := (hq.cell _).trans c2
      have HLK : Hid (Nt.lOk n xs k ↔ (0 ≤ (Nt.at2 xs k).1 ∧ (Nt.at2 xs k).1 ≤ 59 ∧ 0 ≤ (Nt.at2 xs k).2 ∧ (Nt.at2 xs k).2 < n) ∧ (0 < k → (Nt.at2 xs (k - 1)).1 < (Nt.at2 xs k).1 ∨ (Nt.at2 xs (k - 1)).1 = (Nt.at2 xs k).1 ∧ (Nt.at2 xs (k - 1)).2 < (Nt.at2 xs k).2)) := Lib.hid Iff.rfl
      have HNO := Lib.hid (fun h => Nt.scB_no1 (n := n) hlt h)
      have HYES := Lib.hid (fun h => Nt.lTo_succ HT.out h)
      clear c1 c2
      generalize (Nt.at2 xs k).1 = t at *
      generalize (Nt.at2 xs k).2 = d at *
      by_cases h1 : 0 ≤ t ∧ t ≤ 59
      · have d1 : decide (0 ≤ t ∧ t ≤ 59) = true := dec_of h1
        by_cases h2 : d < 0
        · have HF := Lib.hid (HNO.out (fun h => by have := (HLK.out.1 h).1; omega))
          have d2 : decide (d < 0) = true := dec_of h2
          clear hprev hq h1 h2
          go_wp2_with (go_at_call 33; refine (l1In_any _ _ _ _).mono ?_; rintro e w' ⟨rfl, rfl⟩; rw [d1])
          go_ret
          exact ⟨by rw [HF.out]; rfl, HQ.out⟩
        · have d2 : decide (d < 0) = false := dec_not h2
          by_cases h3 : n ≤ d
          · have HF := Lib.hid (HNO.out (fun h => by have := (HLK.out.1 h).1; omega))
            have d3 : decide (n ≤ d) = true := dec_of h3
            clear hprev hq h1 h2 h3
            go_wp2_with (go_at_call 33; refine (l1In_any _ _ _ _).mono ?_; rintro e w' ⟨rfl, rfl⟩; rw [d1])
            go_ret
            exact ⟨by rw [HF.out]; rfl, HQ.out⟩
          · have d3 : decide (n ≤ d) = false := dec_not h3
            by_cases h0 : 0 < k
            · obtain ⟨p1, p2⟩ := hprev h0
              have q1 := (hq.cell _).trans p1
              have q2 := (hq.cell _).trans p2
              obtain ⟨j, hj⟩ : ∃ j, j = k - 1 := ⟨_, rfl⟩
              rw [← hj] at q1 q2 HLK
              have s1 : IntKind.i64.wrap ((k : Int) - 1) = (j : Int) := by rw [IntWalk.i64_in _ (by omega)]; omega
              have hjl : j < xs.length := by omega
              have d0 : decide (0 < k) = true := dec_of h0
              have HH := Lib.hid (And.intro h1 (And.intro h2 h3))
              clear hprev p1 p2 hq h1 h2 h3
              generalize (Nt.at2 xs j).1 = t' at *
              generalize (Nt.at2 xs j).2 = d' at *
              by_cases h4 : t < t'
              · have d4 : decide (t < t') = true := dec_of h4
                have HF := Lib.hid (HNO.out (fun h => by have := (HLK.out.1 h).2 h0; omega))
                clear h4 hj h0
                go_wp2_with (go_at_call 33; refine (l1In_any _ _ _ _).mono ?_; rintro e w' ⟨rfl, rfl⟩; rw [d1])
                go_quiet (fail)
                go_wp2
                go_ret
                exact ⟨by rw [HF.out]; rfl, HQ.out.draw _⟩
              · have d4 : decide (t < t') = false := dec_not h4
                by_cases h5 : t = t'
                · have d5 : (t == t') = true := by simp [h5]
                  by_cases h6 : d ≤ d'
                  · have d6 : decide (d ≤ d') = true := dec_of h6
                    have HF := Lib.hid (HNO.out (fun h => by have := (HLK.out.1 h).2 h0; omega))
                    clear h4 h5 h6 hj h0
                    go_wp2_with (go_at_call 33; refine (l1In_any _ _ _ _).mono ?_; rintro e w' ⟨rfl, rfl⟩; rw [d1])
                    go_quiet (fail)
                    go_wp2
                    go_ret
                    exact ⟨by rw [HF.out]; rfl, HQ.out.draw _⟩
                  · have d6 : decide (d ≤ d') = false := dec_not h6
                    have HF := Lib.hid (HYES.out (HLK.out.2 (by have := HH.out; exact ⟨by omega, fun _ => by omega⟩)))
                    clear h4 h5 h6 hj h0
                    go_wp2_with (go_at_call 33; refine (l1In_any _ _ _ _).mono ?_; rintro e w' ⟨rfl, rfl⟩; rw [d1])
                    go_quiet (fail)
                    go_wp2
                    go_roundw
                    case rel => exact ⟨k + 1, by omega, by go_num, HF.out, HQ.out.draw _⟩
                    case measure => simp [intOf]; omega
                · have d5 : (t == t') = false := by simp [h5]
                  have HF := Lib.hid (HYES.out (HLK.out.2 (by have := HH.out; exact ⟨by omega, fun _ => by omega⟩)))
                  clear h4 h5 hj h0
                  go_wp2_with (go_at_call 33; refine (l1In_any _ _ _ _).mono ?_; rintro e w' ⟨rfl, rfl⟩; rw [d1])
                  go_quiet (fail)
                  go_wp2
                  go_roundw
                  case rel => exact ⟨k + 1, by omega, by go_num, HF.out, HQ.out.draw _⟩
                  case measure => simp [intOf]; omega
            · have d0 : decide (0 < k) = false := dec_not h0
              have d0' : decide ((0 : Int) < (k : Int)) = false := dec_not (by omega)
              have HF := Lib.hid (HYES.out (HLK.out.2 ⟨by omega, fun h => absurd h h0⟩))
              clear hprev hq h1 h2 h3 h0
              go_wp2_with (go_at_call 33; refine (l1In_any _ _ _ _).mono ?_; rintro e w' ⟨rfl, rfl⟩; rw [d1])
              go_quiet (fail)
              go_wp2
              go_roundw
              case rel => exact ⟨k + 1, by omega, by go_num, HF.out, HQ.out.draw _⟩
              case measure => simp [intOf]; omega
      · have d1 : decide (0 ≤ t ∧ t ≤ 59) = false := dec_not h1
        have HF := Lib.hid (HNO.out (fun h => by have := (HLK.out.1 h).1; omega))
        clear hprev hq h1
        go_wp2_with (go_at_call 33; refine (l1In_any _ _ _ _).mono ?_; rintro e w' ⟨rfl, rfl⟩; rw [d1])
        go_ret
        exact ⟨by rw [HF.out]; rfl, HQ.out⟩
    · have hk' : xs.length = k := by omega
      subst hk'
      have HE := Lib.hid (Nt.scB_end HT.out)
      clear hq
      by_cases h1 : 1 ≤ n ∧ n ≤ 6
      · have d1 : decide (1 ≤ n ∧ n ≤ 6) = true := dec_of h1
        by_cases h2 : xs.length ≤ 8
        · have d2 : decide ((xs.length : Int) ≤ 8) = true := dec_of (by omega)
          have d3 : decide (xs.length ≤ 8) = true := dec_of h2
          have HF : Hid (Nt.scB n xs = true) := Lib.hid (by rw [HE.out, d1, d3]; rfl)
          clear h1 h2
          go_wp2_with (go_at_call 33; refine (l1In_any _ _ _ _).mono ?_; rintro e w' ⟨rfl, rfl⟩; rw [d1])
          go_ret
          exact ⟨by rw [HF.out]; rfl, HQ.out⟩
        · have d2 : decide ((xs.length : Int) ≤ 8) = false := dec_not (by omega)
          have d3 : decide (xs.length ≤ 8) = false := dec_not h2
          have HF : Hid (Nt.scB n xs = false) := Lib.hid (by rw [HE.out, d3, Bool.and_false])
          clear h1 h2
          go_wp2_with (go_at_call 33; refine (l1In_any _ _ _ _).mono ?_; rintro e w' ⟨rfl, rfl⟩; rw [d1])
          go_ret
          exact ⟨by rw [HF.out]; rfl, HQ.out⟩
      · have d1 : decide (1 ≤ n ∧ n ≤ 6) = false := dec_not h1
        have HF : Hid (Nt.scB n xs = false) := Lib.hid (by rw [HE.out, d1, Bool.false_and])
        clear h1
        go_wp2_with (go_at_call 33; refine (l1In_any _ _ _ _).mono ?_; rintro e w' ⟨rfl, rfl⟩; rw [d1])
        go_ret
        exact ⟨by rw [HF.out]; rfl, HQ.out⟩
end Go.Proofs.YtilbdpcijdcffaaDoor
