/-
  Walks: pulses, by the program.
-/
import Derived.Test.YtilbdpcijdcffabSP1
import Derived.Test.YtilbdpcijdcffabLgD
namespace Go.Proofs.Ytilbdpcijdcffab
open Go.RowKit

/-- The lights of a pulse, laid up to k. -/
def pulTo (a e m k : Nat) : List (Int × Int) := (List.range m).map fun i => if i < k then (((e * i : Nat) : Int), (a : Int)) else (0, 0)
theorem pulTo_zero (a e m : Nat) : pulTo a e m 0 = List.replicate m (0, 0) := by
  unfold pulTo
  apply List.ext_getElem (by simp)
  intro i h1 h2
  simp
theorem pulTo_length (a e m k : Nat) : (pulTo a e m k).length = m := by simp [pulTo]
theorem pulTo_succ {a e m k : Nat} (_ : k < m) : pulTo a e m (k + 1) = (pulTo a e m k).set k (((e * k : Nat) : Int), (a : Int)) := by
  unfold pulTo
  apply List.ext_getElem (by simp)
  intro i h1 h2
  rw [List.getElem_set]
  simp only [List.getElem_map, List.getElem_range]
  by_cases e1 : k = i
  · subst e1; simp
  · rw [if_neg e1]
    by_cases h : i < k
    · rw [if_pos h, if_pos (by omega)]
    · rw [if_neg h, if_neg (by omega)]
theorem pulseS_get (a e : Nat) : ∀ m i (h : i < (Nt.pulseS a e m).length), (Nt.pulseS a e m)[i] = (e * i, a)
  | 0, i, h => by simp [Nt.pulseS] at h
  | m + 1, i, h => by
    have hl := Nt.pulseS_length a e m
    have hl2 := Nt.pulseS_length a e (m + 1)
    unfold Nt.pulseS
    by_cases hi : i < m
    · rw [List.getElem_append_left (by omega)]
      exact pulseS_get a e m i (by omega)
    · have : i = m := by omega
      subst this
      rw [List.getElem_append_right (by omega)]
      simp [hl]
theorem pulTo_all (a e m : Nat) : pulTo a e m m = Nt.prs (Nt.pulseS a e m) := by
  unfold pulTo Nt.prs
  apply List.ext_getElem (by simp [Nt.pulseS_length])
  intro i h1 h2
  simp only [List.getElem_map, List.getElem_range, pulseS_get]
  rw [if_pos (by simpa using h1)]

set_option maxHeartbeats 2000000 in
set_option maxRecDepth 100000 in
theorem iPulse_any (node every many : Int) (w : World) :
    Calls Try.prog 19 #[.int .i64 node, .int .i64 every, .int .i64 many] w fun e w' => ∃ z, e = .returned z ∧ Sg w' w.heap.size z (Nt.pulOf node every many) ∧ Kept [] w w' := by
  cases h1 : decide (0 ≤ node ∧ node < 6)
  · have HF := Lib.hid (Nt.pulOf_no (node := node) (every := every) (many := many) (by
      unfold Nt.pulB
      rw [show decide (0 ≤ node ∧ node ≤ 5) = decide (0 ≤ node ∧ node < 6) from by rw [Bool.eq_iff_iff, decide_eq_true_iff, decide_eq_true_iff]; omega, h1, Bool.false_and]))
    go_enter Try.func19, Try.ntmps19
    go_wp2_with (go_at_call 30; refine (isNodeI_any 6 node _).mono ?_; rintro e w' ⟨rfl, rfl⟩; rw [h1])
    go_ret
    exact ⟨_, rfl, by rw [HF.out]; exact Sg.nil _ _, Kept.refl _ _⟩
  · have g1 := of_decide_eq_true h1
    obtain ⟨a, rfl⟩ := Int.eq_ofNat_of_zero_le g1.1
    by_cases h2 : every < 1
    · have d2 : decide (every < 1) = true := dec_of h2
      have HF := Lib.hid (Nt.pulOf_no (node := (a : Int)) (every := every) (many := many) (by
        unfold Nt.pulB
        rw [show decide (1 ≤ every ∧ every ≤ 60) = false from dec_not (by omega), Bool.false_and, Bool.and_false]))
      clear h2 g1
      go_enter Try.func19, Try.ntmps19
      go_wp2_with (go_at_call 30; refine (isNodeI_any 6 _ _).mono ?_; rintro e w' ⟨rfl, rfl⟩; rw [h1])
      go_ret
      exact ⟨_, rfl, by rw [HF.out]; exact Sg.nil _ _, Kept.refl _ _⟩
    · have d2 : decide (every < 1) = false := dec_not h2
      obtain ⟨e, rfl⟩ := Int.eq_ofNat_of_zero_le (show 0 ≤ every by omega)
      have d2' : decide (e < 1) = false := dec_not (by omega)
      by_cases h3 : 60 < e
      · have d3 : decide (60 < e) = true := dec_of h3
        have d3' : decide ((60 : Int) < (e : Int)) = true := dec_of (by omega)
        have HF := Lib.hid (Nt.pulOf_no (node := (a : Int)) (every := (e : Int)) (many := many) (by
          unfold Nt.pulB
          rw [show decide (1 ≤ (e : Int) ∧ (e : Int) ≤ 60) = false from dec_not (by omega), Bool.false_and, Bool.and_false]))
        clear h2 g1 h3
        go_enter Try.func19, Try.ntmps19
        go_wp2_with (go_at_call 30; refine (isNodeI_any 6 _ _).mono ?_; rintro e w' ⟨rfl, rfl⟩; rw [h1])
        go_ret
        exact ⟨_, rfl, by rw [HF.out]; exact Sg.nil _ _, Kept.refl _ _⟩
      · have d3 : decide (60 < e) = false := dec_not h3
        have d3' : decide ((60 : Int) < (e : Int)) = false := dec_not (by omega)
        by_cases h4 : many < 0
        · have d4 : decide (many < 0) = true := dec_of h4
          have HF := Lib.hid (Nt.pulOf_no (node := (a : Int)) (every := (e : Int)) (many := many) (by
            unfold Nt.pulB
            rw [show decide (0 ≤ many ∧ many ≤ 8) = false from dec_not (by omega), Bool.false_and, Bool.and_false, Bool.and_false]))
          clear h2 g1 h3 h4
          go_enter Try.func19, Try.ntmps19
          go_wp2_with (go_at_call 30; refine (isNodeI_any 6 _ _).mono ?_; rintro e w' ⟨rfl, rfl⟩; rw [h1])
          go_ret
          exact ⟨_, rfl, by rw [HF.out]; exact Sg.nil _ _, Kept.refl _ _⟩
        · have d4 : decide (many < 0) = false := dec_not h4
          obtain ⟨m, rfl⟩ := Int.eq_ofNat_of_zero_le (show 0 ≤ many by omega)
          by_cases h5 : 8 < m
          · have d5 : decide (8 < m) = true := dec_of h5
            have d5' : decide ((8 : Int) < (m : Int)) = true := dec_of (by omega)
            have HF := Lib.hid (Nt.pulOf_no (node := (a : Int)) (every := (e : Int)) (many := (m : Int)) (by
              unfold Nt.pulB
              rw [show decide (0 ≤ (m : Int) ∧ (m : Int) ≤ 8) = false from dec_not (by omega), Bool.false_and, Bool.and_false, Bool.and_false]))
            clear h2 g1 h3 h4 h5
            go_enter Try.func19, Try.ntmps19
            go_wp2_with (go_at_call 30; refine (isNodeI_any 6 _ _).mono ?_; rintro e w' ⟨rfl, rfl⟩; rw [h1])
            go_ret
            exact ⟨_, rfl, by rw [HF.out]; exact Sg.nil _ _, Kept.refl _ _⟩
          · have d5 : decide (8 < m) = false := dec_not h5
            have d5' : decide ((8 : Int) < (m : Int)) = false := dec_not (by omega)
            have HB : Hid (Nt.pulB (a : Int) (e : Int) (m : Int) = !(decide (0 < (m : Int)) && decide (60 ≤ (e : Int) * ((m : Int) - 1)))) := Lib.hid (by
              unfold Nt.pulB
              rw [dec_of (by omega : 0 ≤ (a : Int) ∧ (a : Int) ≤ 5), dec_of (by omega : 1 ≤ (e : Int) ∧ (e : Int) ≤ 60), dec_of (by omega : 0 ≤ (m : Int) ∧ (m : Int) ≤ 8)]; rfl)
            obtain ⟨q, hq⟩ : ∃ q : Int, q = (m : Int) - 1 := ⟨_, rfl⟩
            have hq1 : -1 ≤ q ∧ q ≤ 7 := by omega
            obtain ⟨E, hE⟩ : ∃ E : Int, E = q * (e : Int) := ⟨_, rfl⟩
            have hEb : -60 ≤ E ∧ E ≤ 420 := by
              have he60 : (e : Int) ≤ 60 := by omega
              have he0 : (0 : Int) ≤ (e : Int) := by omega
              have hc : q = -1 ∨ q = 0 ∨ q = 1 ∨ q = 2 ∨ q = 3 ∨ q = 4 ∨ q = 5 ∨ q = 6 ∨ q = 7 := by omega
              rcases hc with h | h | h | h | h | h | h | h | h <;> subst h <;> omega
            have HM0 : Hid (m = 0 → E ≤ 0) := Lib.hid (fun h => by
              have : q = -1 := by omega
              subst this
              omega)
            have S1 := Lib.hid (show IntKind.i64.wrap ((m : Int) - 1) = q from by rw [← hq]; exact IntWalk.i64_in _ (by omega))
            have S1' := Lib.hid (show wrap64 ((m : Int) - 1) = q from by rw [← hq]; exact IntWalk.wrap64_in _ (by omega))
            have S2 := Lib.hid (show IntKind.i64.wrap (q * (e : Int)) = E from by rw [← hE]; exact IntWalk.i64_in _ (by omega))
            have S2' := Lib.hid (show wrap64 (q * (e : Int)) = E from by rw [← hE]; exact IntWalk.wrap64_in _ (by omega))
            have HB2 : Hid (Nt.pulB (a : Int) (e : Int) (m : Int) = !(decide (60 ≤ E))) := Lib.hid (by
              rw [HB.out]
              congr 1
              have hc : (e : Int) * ((m : Int) - 1) = E := by rw [hE, hq, Int.mul_comm]
              rw [hc]
              by_cases h0 : 0 < m
              · rw [dec_of (by omega : (0 : Int) < (m : Int)), Bool.true_and]
              · have := HM0.out (by omega)
                rw [dec_not (by omega : ¬ 60 ≤ E), Bool.and_false])
            have hm8 : m ≤ 8 := by omega
            have he60 : e ≤ 60 := by omega
            clear hq hE HB h2 g1 h3 h4 h5 HM0
            by_cases h6 : 60 ≤ E
            · have d6 : decide (60 ≤ E) = true := dec_of h6
              have HF := Lib.hid (Nt.pulOf_no (node := (a : Int)) (every := (e : Int)) (many := (m : Int)) (by rw [HB2.out, d6]; rfl))
              clear h6 hq1 hEb hm8 he60
              have s1 := S1.out
              have s1' := S1'.out
              have s2 := S2.out
              have s2' := S2'.out
              go_enter Try.func19, Try.ntmps19
              go_wp2_with (go_at_call 30; refine (isNodeI_any 6 _ _).mono ?_; rintro e w' ⟨rfl, rfl⟩; rw [h1])
              go_ret
              exact ⟨_, rfl, by rw [HF.out]; exact Sg.nil _ _, Kept.refl _ _⟩
            · have d6 : decide (60 ≤ E) = false := dec_not h6
              have HF : Hid (Nt.pulOf (a : Int) (e : Int) (m : Int) = pulTo a e m m) := Lib.hid (by rw [pulTo_all]; exact Nt.pulOf_ok (by rw [HB2.out, d6]; rfl))
              have HLN := Lib.hid (pulTo_length a e m)
              clear h6 hq1 hEb
              have s1 := S1.out
              have s1' := S1'.out
              have s2 := S2.out
              have s2' := S2'.out
              go_enter Try.func19, Try.ntmps19
              go_wp2_with (first | (go_at_call 30; refine (isNodeI_any 6 _ _).mono ?_; rintro e w' ⟨rfl, rfl⟩; rw [h1]) | (refine make_light _ m rfl _ _ rfl rfl rfl (by omega) ?_; intro w2 hs2 hk2 hlt2; have HS2 := Lib.hid hs2; have HK2 := Lib.hid hk2; clear hs2 hk2))
              clear s1 s1' s2 s2' S1 S1' S2 S2' HB2 d6 d5 d5' d4 d3 d3' d2 d2'
              have HS3 : Hid (Sg w2 w.heap.size (.slice (some ⟨w.heap.size, 0, none⟩) m m) (pulTo a e m 0)) := Lib.hid (by rw [pulTo_zero]; exact HS2.out)
              clear HS2
              go_loopw [39] (fun i wr => ∃ k : Nat, k ≤ m ∧ i = .int .i64 k ∧ Sg wr w.heap.size (.slice (some ⟨w.heap.size, 0, none⟩) m m) (pulTo a e m k) ∧ Kept [] w wr) (fun i _ => m - (intOf i).toNat)
              case atStart => exact ⟨0, Nat.zero_le _, rfl, HS3.out, HK2.out⟩
              case round =>
                clear HS3 HK2
                obtain ⟨k, hk, rfl, hsl, hkept⟩ := hrel
                have HSL := Lib.hid hsl
                have HK := Lib.hid hkept
                by_cases hlt : k < m
                · have hsh := hsl.form
                  have hp : e * k ≤ 60 * 8 := Nat.mul_le_mul he60 (by omega)
                  have hke : (k : Int) * (e : Int) = ((e * k : Nat) : Int) := by rw [Int.natCast_mul, Int.mul_comm]
                  have f1 : IntKind.i64.wrap ((k : Int) * (e : Int)) = ((e * k : Nat) : Int) := by rw [hke]; exact IntWalk.i64_in _ (by omega)
                  have f2 : wrap64 ((k : Int) * (e : Int)) = ((e * k : Nat) : Int) := by rw [hke]; exact IntWalk.wrap64_in _ (by omega)
                  have HY := Lib.hid (pulTo_succ (a := a) (e := e) hlt)
                  have HP := Lib.hid hp
                  have hcf : (∃ u, wr.cell? ⟨w.heap.size, k * 2, none⟩ = some u) ∧ (∃ u, wr.cell? ⟨w.heap.size, k * 2 + 1, none⟩ = some u) ∧ wr.frozen? ⟨w.heap.size, k * 2, none⟩ = false ∧ wr.frozen? ⟨w.heap.size, k * 2 + 1, none⟩ = false := by
                    rcases hsl.form with ⟨h, _⟩ | ⟨g, cap, e1, _, _, _, _, hcell, hfr⟩
                    · simp at h
                    · simp only [Value.slice.injEq, Option.some.injEq, Addr.mk.injEq] at e1
                      obtain ⟨⟨rfl, _, _⟩, _, _⟩ := e1
                      obtain ⟨c1, c2⟩ := hcell k (by rw [pulTo_length]; exact hlt)
                      exact ⟨⟨_, c1⟩, ⟨_, c2⟩, hfr _, hfr _⟩
                  obtain ⟨⟨u1, c1⟩, ⟨u2, c2⟩, r1, r2⟩ := hcf
                  clear hsl hkept hsh hp hke
                  generalize e * k = p at *
                  go_wp2
                  go_roundw
                  case rel => exact ⟨k + 1, by omega, by go_num, by rw [HY.out]; exact HSL.out.set (HLN.out k).symm k hlt _ _, (HK.out.setCell (.inr (Nat.le_refl _)) _).setCell (.inr (Nat.le_refl _)) _⟩
                  case measure => simp [intOf]; omega
                · have hk' : m = k := by omega
                  subst hk'
                  clear hsl hkept
                  go_wp2
                  go_ret
                  exact ⟨_, rfl, by rw [HF.out]; exact HSL.out, HK.out⟩
end Go.Proofs.Ytilbdpcijdcffab
