/-
  Walks: two scripts held against each other.
-/
import Derived.Test.YtilbdpcijdcffaaDoorL1
import Derived.Test.YtilbdpcijdcffaaDoorSL
namespace Go.Proofs.YtilbdpcijdcffaaDoor
open Go.RowKit

/-- Two scripts that agree up to k. -/
def same2 (xs ys : List (Int × Int)) (k : Nat) : Prop := ∀ i, i < k → Nt.at2 xs i = Nt.at2 ys i
theorem same2_succ {xs ys : List (Int × Int)} {k : Nat} (h : same2 xs ys k) (h1 : Nt.at2 xs k = Nt.at2 ys k) : same2 xs ys (k + 1) := by
  intro j hj
  by_cases e : j = k
  · subst e; exact h1
  · exact h j (by omega)
theorem same2_all {xs ys : List (Int × Int)} (h : same2 xs ys xs.length) (hl : xs.length = ys.length) : xs = ys := by
  apply List.ext_getElem hl
  intro i h1 h2
  have := h i h1
  rw [Nt.at2_get h1, Nt.at2_get h2] at this
  exact this

set_option maxHeartbeats 1000000 in
set_option maxRecDepth 100000 in
theorem sameLights_any (xs ys : List (Int × Int)) (w : World) (v u : Value) (base base' : Nat) (hs : Sg w base v xs) (ht : Sg w base' u ys) :
    Calls Tryd.prog 11 #[v, u] w fun e w' => e = .returned (.bool (decide (xs = ys))) ∧ Qt w w' := by
  obtain ⟨a, cap, rfl, _, hm, hc⟩ := hs.any
  obtain ⟨b, cap', rfl, _, hm', hc'⟩ := ht.any
  have HC := Lib.hid hc
  have HD := Lib.hid hc'
  clear hc hc' hs ht
  by_cases hl : xs.length = ys.length
  · have h0 : ((xs.length : Int) != (ys.length : Int)) = false := by simp [hl]
    have HL := Lib.hid hl
    clear hl
    go_enter Tryd.func11, Tryd.ntmps11
    go_wp2
    go_loopw [5] (fun i wr => ∃ k : Nat, k ≤ xs.length ∧ i = .int .i64 k ∧ same2 xs ys k ∧ Qt w wr) (fun i _ => xs.length - (intOf i).toNat)
    case atStart => exact ⟨0, Nat.zero_le _, rfl, fun i hi => absurd hi (by omega), Qt.refl _⟩
    case round =>
      obtain ⟨k, hk, rfl, hsame, hq⟩ := hrel
      have HQ := Lib.hid hq
      have HS := Lib.hid hsame
      clear hsame
      by_cases hlt : k < xs.length
      · obtain ⟨g, rfl, _, _, c1, c2⟩ := HC.out k hlt
        have hlt2 : k < ys.length := by rw [← HL.out]; exact hlt
        obtain ⟨g', rfl, _, _, c3, c4⟩ := HD.out k hlt2
        have k1 := (hq.cell _).trans c1
        have k2 := (hq.cell _).trans c2
        have k3 := (hq.cell _).trans c3
        have k4 := (hq.cell _).trans c4
        have HNE : Hid (Nt.at2 xs k ≠ Nt.at2 ys k → xs ≠ ys) := Lib.hid (fun h e => h (by rw [e]))
        have HEQ : Hid (Nt.at2 xs k = Nt.at2 ys k ↔ (Nt.at2 xs k).1 = (Nt.at2 ys k).1 ∧ (Nt.at2 xs k).2 = (Nt.at2 ys k).2) := Lib.hid Prod.ext_iff
        have HSU := Lib.hid (fun h => same2_succ HS.out h)
        clear c1 c2 c3 c4 hq
        generalize Nt.at2 xs k = p at *
        generalize Nt.at2 ys k = q at *
        obtain ⟨p1, p2⟩ := p
        obtain ⟨q1, q2⟩ := q
        simp only at k1 k2 k3 k4 HEQ
        by_cases h1 : p1 = q1
        · have d1 : (p1 == q1) = true := by simp [h1]
          by_cases h2 : p2 = q2
          · have d2 : (p2 == q2) = true := by simp [h2]
            have HY := Lib.hid (HSU.out (HEQ.out.2 ⟨h1, h2⟩))
            clear h1 h2
            go_wp2_with fail
            go_quiet (fail)
            go_wp2
            go_roundw
            case rel => exact ⟨k + 1, by omega, by go_num, HY.out, HQ.out.draw _⟩
            case measure => simp [intOf]; omega
          · have d2 : (p2 == q2) = false := by simp [h2]
            have HY := Lib.hid (HNE.out (fun e => h2 (HEQ.out.1 e).2))
            clear h1 h2
            go_wp2_with fail
            go_quiet (fail)
            go_wp2
            go_ret
            exact ⟨by rw [decide_eq_false HY.out]; rfl, HQ.out.draw _⟩
        · have d1 : (p1 == q1) = false := by simp [h1]
          have HY := Lib.hid (HNE.out (fun e => h1 (HEQ.out.1 e).1))
          clear h1
          go_wp2_with fail
          go_quiet (fail)
          go_wp2
          go_ret
          exact ⟨by rw [decide_eq_false HY.out]; rfl, HQ.out.draw _⟩
      · have hk' : xs.length = k := by omega
        subst hk'
        have HY := Lib.hid (same2_all HS.out HL.out)
        clear hq
        go_wp2
        go_ret
        exact ⟨by rw [decide_eq_true HY.out]; rfl, HQ.out⟩
  · have h0 : ((xs.length : Int) != (ys.length : Int)) = true := bne_iff_ne.2 (by omega)
    have HY : Hid (xs ≠ ys) := Lib.hid (fun e => hl (by rw [e]))
    clear hl
    go_enter Tryd.func11, Tryd.ntmps11
    go_wp2
    go_ret
    exact ⟨by rw [decide_eq_false HY.out]; rfl, Qt.refl _⟩
end Go.Proofs.YtilbdpcijdcffaaDoor
