/-
  Walks: texts read as numbers, by the model.
-/
import Derived.Test.YtnajdbnacdnnlaaGreatDoorTxB
import Derived.Test.YtnajdbnacdnnlaaGreatDoorKA
namespace Go.Proofs.YtnajdbnacdnnlaaGreatDoor
open Go.RowKit

theorem take_tx {s : ByteArray} {k : Nat} (h : k < s.size) : (tx s).take (k + 1) = (tx s).take k ++ [s[k].toNat] := by
  have hl : k < (tx s).length := by rw [tx_length]; exact h
  rw [List.take_succ_eq_append_getElem hl, ← tx_get h]
  simp [List.getD_eq_getElem?_getD, List.getElem?_eq_getElem hl]
theorem val_take {s : ByteArray} {k : Nat} (h : k < s.size) : Nt.valFrom 0 ((tx s).take (k + 1)) = 10 * Nt.valFrom 0 ((tx s).take k) + (s[k].toNat - 48) := by
  rw [take_tx h, Nt.valFrom_append, Nt.valFrom_one]
theorem isNum_no1 {s : List Nat} (h : ¬ (1 ≤ s.length ∧ s.length ≤ 6)) : Nt.dval s = -1 := by
  unfold Nt.dval Nt.isNum
  rw [decide_eq_false h]; rfl
theorem isNum_no2 {s : List Nat} (h1 : 1 < s.length) (h2 : s.getD 0 0 = 48) : Nt.dval s = -1 := by
  unfold Nt.dval Nt.isNum
  rw [decide_eq_true h1, decide_eq_true h2]; simp
theorem isNum_no3 {s : List Nat} {k : Nat} (hk : k < s.length) (h : ¬ (48 ≤ s.getD k 0 ∧ s.getD k 0 ≤ 57)) : Nt.dval s = -1 := by
  unfold Nt.dval
  rw [if_neg]
  intro e
  unfold Nt.isNum at e
  rw [Bool.and_eq_true, List.all_eq_true] at e
  have := e.2 (s.getD k 0) (by rw [List.getD_eq_getElem?_getD, List.getElem?_eq_getElem hk]; exact List.getElem_mem hk)
  exact h (of_decide_eq_true this)
theorem isNum_yes {s : List Nat} (h1 : 1 ≤ s.length ∧ s.length ≤ 6) (h2 : ¬ (1 < s.length ∧ s.getD 0 0 = 48)) (h3 : ∀ k, k < s.length → 48 ≤ s.getD k 0 ∧ s.getD k 0 ≤ 57) : Nt.dval s = ((Nt.valFrom 0 s : Nat) : Int) := by
  unfold Nt.dval
  rw [if_pos]
  unfold Nt.isNum
  rw [Bool.and_eq_true, Bool.and_eq_true, decide_eq_true_eq, Bool.not_eq_true', Bool.and_eq_false_iff, decide_eq_false_iff_not, decide_eq_false_iff_not, List.all_eq_true]
  refine ⟨⟨h1, ?_⟩, fun x hx => ?_⟩
  · by_cases a : 1 < s.length
    · exact .inr fun b => h2 ⟨a, b⟩
    · exact .inl a
  · obtain ⟨i, hi, rfl⟩ := List.mem_iff_getElem.1 hx
    have := h3 i hi
    rw [List.getD_eq_getElem?_getD, List.getElem?_eq_getElem hi, Option.getD_some] at this
    exact decide_eq_true this

set_option maxHeartbeats 1000000 in
set_option maxRecDepth 100000 in
theorem l1Digits_any (s : ByteArray) (hs : s.size ≤ 9223372036854775807) (w : World) :
    Calls Tryz.prog 110 #[.string s] w fun e w' => e = .returned (.int .i64 (Nt.dval (tx s))) ∧ w = w' := by
  have hl := tx_length s
  by_cases h1 : 1 ≤ s.size ∧ s.size ≤ 6
  · have d1 : decide ((1 : Int) ≤ (s.size : Int) ∧ (s.size : Int) ≤ 6) = true := dec_of (by omega)
    have h00 : 0 < s.size := by omega
    have HX0 := Lib.hid (tx_get h00)
    by_cases h2 : 1 < s.size ∧ s[0].toNat = 48
    · have HF := Lib.hid (isNum_no2 (s := tx s) (by rw [hl]; exact h2.1) (by rw [HX0.out]; exact h2.2))
      have d2 : decide ((1 : Int) < (s.size : Int)) = true := dec_of (by omega)
      have d2' : decide (1 < s.size) = true := dec_of h2.1
      have d3 : ((s[0].toNat : Int) == 48) = true := by rw [h2.2]; rfl
      clear h1 h2 hl
      go_enter Tryz.func110, Tryz.ntmps110
      go_wp2_with (go_at_call 151; refine (l1In_any _ _ _ _).mono ?_; rintro e w' ⟨rfl, rfl⟩; rw [d1])
      go_ret
      exact ⟨by rw [HF.out]; rfl, rfl⟩
    · have HH2 := Lib.hid h2
      have HVT := Lib.hid (fun k (hk : k < s.size) => val_take hk)
      have HXK := Lib.hid (fun k (hk : k < s.size) => tx_get hk)
      have HNO := Lib.hid (fun k (hk : k < s.size) h => isNum_no3 (s := tx s) (k := k) (by rw [hl]; exact hk) h)
      have HYES : Hid ((∀ k, k < s.size → 48 ≤ (tx s).getD k 0 ∧ (tx s).getD k 0 ≤ 57) → Nt.dval (tx s) = ((Nt.valFrom 0 ((tx s).take s.size) : Nat) : Int)) := Lib.hid (fun h => by
        rw [show (tx s).take s.size = tx s from List.take_of_length_le (by rw [hl]; exact Nat.le_refl _)]
        exact isNum_yes (by rw [hl]; exact h1) (by rw [hl, HX0.out]; exact h2) (by rw [hl]; exact h))
      have hcase : decide ((1 : Int) < (s.size : Int)) = false ∨ (decide ((1 : Int) < (s.size : Int)) = true ∧ ((s[0].toNat : Int) == 48) = false) := by
        by_cases a : 1 < s.size
        · right
          refine ⟨dec_of (by omega), beq_eq_false_iff_ne.2 (fun e => h2 ⟨a, by omega⟩)⟩
        · left; exact dec_not (by omega)
      have hc2 : decide (1 < s.size) = decide ((1 : Int) < (s.size : Int)) := by rw [Bool.eq_iff_iff, decide_eq_true_iff, decide_eq_true_iff]; omega
      have h6 : s.size ≤ 6 := h1.2
      clear h1 h2 hl
      rcases hcase with e2 | ⟨e2, e3⟩
      all_goals
        rw [e2] at hc2
        go_enter Tryz.func110, Tryz.ntmps110
        go_wp2_with (go_at_call 151; refine (l1In_any _ _ _ _).mono ?_; rintro e w' ⟨rfl, rfl⟩; rw [d1])
        go_loop [3, 4] (fun q i => ∃ k : Nat, k ≤ s.size ∧ i = .int .i64 k ∧ q = .int .i64 ((Nt.valFrom 0 ((tx s).take k) : Nat) : Int) ∧ Nt.valFrom 0 ((tx s).take k) < 10 ^ k ∧ (∀ j, j < k → 48 ≤ (tx s).getD j 0 ∧ (tx s).getD j 0 ≤ 57)) (fun _ i => s.size - (intOf i).toNat)
        case atStart => exact ⟨0, Nat.zero_le _, rfl, rfl, by simp [Nt.valFrom], fun j hj => absurd hj (by omega)⟩
        case round =>
          obtain ⟨k, hk, rfl, rfl, hq, hto⟩ := hrel
          have HTO := Lib.hid hto
          clear hto
          by_cases hlt : k < s.size
          · have HV := Lib.hid (HVT.out k hlt)
            have HX := Lib.hid (HXK.out k hlt)
            have HN := Lib.hid (HNO.out k hlt)
            have hp6 : (10 : Nat) ^ k ≤ 10 ^ 6 := Nat.pow_le_pow_right (by omega) (by omega)
            have HPS : Hid ((10 : Nat) ^ (k + 1) = 10 ^ k * 10) := Lib.hid (Nat.pow_succ 10 k)
            have hx255 : s[k].toNat < 256 := s[k].toNat_lt
            generalize Nt.valFrom 0 ((tx s).take k) = q at *
            generalize (10 : Nat) ^ k = pk at *
            by_cases h3 : s[k].toNat < 48
            · have HF := Lib.hid (HN.out (by rw [HX.out]; omega))
              have d4 : decide ((s[k].toNat : Int) < 48) = true := dec_of (by omega)
              clear h3 hx255
              go_wp2
              go_ret
              exact ⟨by rw [HF.out]; rfl, rfl⟩
            · have d4 : decide ((s[k].toNat : Int) < 48) = false := dec_not (by omega)
              by_cases h5 : 57 < s[k].toNat
              · have HF := Lib.hid (HN.out (by rw [HX.out]; omega))
                have d5 : decide (57 < (s[k].toNat : Int)) = true := dec_of (by omega)
                clear h3 h5 hx255
                go_wp2
                go_ret
                exact ⟨by rw [HF.out]; rfl, rfl⟩
              · have d5 : decide (57 < (s[k].toNat : Int)) = false := dec_not (by omega)
                have hY : 10 * q + (s[k].toNat - 48) < pk * 10 := by omega
                have HT2 : Hid (∀ j, j < k + 1 → 48 ≤ (tx s).getD j 0 ∧ (tx s).getD j 0 ≤ 57) := Lib.hid (fun j hj => by
                  by_cases e : j = k
                  · subst e; rw [HX.out]; omega
                  · exact HTO.out j (by omega))
                have HY := Lib.hid hY
                have HCA : Hid (((10 * q + (s[k].toNat - 48) : Nat) : Int) = 10 * (q : Int) + ((s[k].toNat : Int) - 48)) := Lib.hid (by omega)
                clear hY
                go_wp2
                go_round
                case rel => exact ⟨k + 1, by omega, by go_num, by rw [HV.out, HCA.out], by rw [HV.out, HPS.out]; exact HY.out, HT2.out⟩
                case measure => simp [intOf]; omega
          · have hk' : s.size = k := by omega
            subst hk'
            have HF := Lib.hid (HYES.out HTO.out)
            generalize Nt.valFrom 0 ((tx s).take s.size) = q at *
            go_wp2
            go_ret
            exact ⟨by rw [HF.out]; rfl, rfl⟩
  · have d1 : decide ((1 : Int) ≤ (s.size : Int) ∧ (s.size : Int) ≤ 6) = false := dec_not (by omega)
    have HF := Lib.hid (isNum_no1 (s := tx s) (by rw [hl]; exact h1))
    clear h1 hl
    go_enter Tryz.func110, Tryz.ntmps110
    go_wp2_with (go_at_call 151; refine (l1In_any _ _ _ _).mono ?_; rintro e w' ⟨rfl, rfl⟩; rw [d1])
    go_ret
    exact ⟨by rw [HF.out]; rfl, rfl⟩
end Go.Proofs.YtnajdbnacdnnlaaGreatDoor
