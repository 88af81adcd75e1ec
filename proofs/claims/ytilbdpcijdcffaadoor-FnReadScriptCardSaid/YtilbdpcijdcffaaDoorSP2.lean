/-
  Walks: scripts that are as they should be, by the program.
-/
import Derived.Test.YtilbdpcijdcffaaDoorSP1
import Derived.Deep.RegionHeld3
namespace Go.Proofs.YtilbdpcijdcffaaDoor
open Go.RowKit

theorem opAt_list {l : List Oper} {i : Nat} {o : Oper} (h : l[i]? = some o) : l.toArray[i]? = some o := by simpa using h
theorem Kept.undrew {rows : List Nat} {w w' : World} (h : Kept rows w.drew w') : Kept rows w w' := ⟨h.os, h.tape, h.output, h.size, h.block⟩

set_option linter.unusedSimpArgs false in

set_option maxHeartbeats 4000000 in
set_option maxRecDepth 100000 in
theorem iScriptOk_any (n : Int) (xs : List (Int × Int)) (w : World) (v : Value) (base : Nat) (hs : Sg w base v xs) :
    Calls Tryd.prog 8 #[.int .i64 n, v] w fun e w' => e = .returned (.bool (Nt.scB n xs)) ∧ Kept [] w w' := by
  obtain ⟨a, cap, rfl, _, hm, hc⟩ := hs.any
  have HC := Lib.hid hc
  clear hc hs
  by_cases h1 : 1 ≤ n ∧ n ≤ 6
  · have d1 : decide (1 ≤ n ∧ n ≤ 6) = true := dec_of h1
    by_cases h2 : xs.length ≤ 8
    · have d2 : decide ((8 : Int) < (xs.length : Int)) = false := dec_not (by omega)
      have HE : Hid (Nt.lTo n xs xs.length → Nt.scB n xs = true) := Lib.hid (fun h => Nt.scB_iff.2 ⟨h1, h2, h⟩)
      clear h1 h2
      go_enter Tryd.func8, Tryd.ntmps8
      go_wp2_with (go_at_call 21; refine (nodesOk_any _ _).mono ?_; rintro e w' ⟨rfl, rfl⟩; rw [d1])
      go_loopw [17] (fun i wr => ∃ k : Nat, k ≤ xs.length ∧ i = .int .i64 k ∧ Nt.lTo n xs k ∧ Kept [] w wr) (fun i _ => xs.length - (intOf i).toNat)
      case atStart => exact ⟨0, Nat.zero_le _, rfl, fun j hj => absurd hj (by omega), Kept.refl _ _⟩
      case round =>
        obtain ⟨k, hk, rfl, hto, hkept⟩ := hrel
        have HT := Lib.hid hto
        have HK := Lib.hid hkept
        clear hto
        by_cases hlt : k < xs.length
        · obtain ⟨g, rfl, _, hgl, c1, c2⟩ := HC.out k hlt
          have hprev : 0 < k → w.cell? ⟨g, (k - 1) * 2, none⟩ = some (.int .i64 (Nt.at2 xs (k - 1)).1) ∧ w.cell? ⟨g, (k - 1) * 2 + 1, none⟩ = some (.int .i64 (Nt.at2 xs (k - 1)).2) := fun h0 => by
            obtain ⟨g', e, _, _, p1, p2⟩ := HC.out (k - 1) (by omega)
            simp at e
            subst e
            exact ⟨p1, p2⟩
          have HLK : Hid (Nt.lOk n xs k ↔ (0 ≤ (Nt.at2 xs k).1 ∧ (Nt.at2 xs k).1 ≤ 59 ∧ 0 ≤ (Nt.at2 xs k).2 ∧ (Nt.at2 xs k).2 < n) ∧ (0 < k → (Nt.at2 xs (k - 1)).1 < (Nt.at2 xs k).1 ∨ (Nt.at2 xs (k - 1)).1 = (Nt.at2 xs k).1 ∧ (Nt.at2 xs (k - 1)).2 < (Nt.at2 xs k).2)) := Lib.hid Iff.rfl
          have HNO := Lib.hid (fun h => Nt.scB_no1 (n := n) hlt h)
          have HYES := Lib.hid (fun h => Nt.lTo_succ HT.out h)
          have k1 := (hkept.cell (p := ⟨g, k * 2, none⟩) hgl (by simp)).trans c1
          have k2 := (hkept.cell (p := ⟨g, k * 2 + 1, none⟩) hgl (by simp)).trans c2
          have HPREV : Hid (0 < k → wr.cell? ⟨g, (k - 1) * 2, none⟩ = some (.int .i64 (Nt.at2 xs (k - 1)).1) ∧ wr.cell? ⟨g, (k - 1) * 2 + 1, none⟩ = some (.int .i64 (Nt.at2 xs (k - 1)).2)) := Lib.hid (fun h0 =>
            ⟨(hkept.cell (p := ⟨g, (k - 1) * 2, none⟩) hgl (by simp)).trans (hprev h0).1, (hkept.cell (p := ⟨g, (k - 1) * 2 + 1, none⟩) hgl (by simp)).trans (hprev h0).2⟩)
          have hgr : g < wr.heap.size := Nat.lt_of_lt_of_le hgl hkept.size
          clear c1 c2 hprev hkept hgl
          generalize (Nt.at2 xs k).1 = t at *
          generalize (Nt.at2 xs k).2 = d at *
          have hka : Kept [] wr (wr.alloc (.cells #[.int .i64 t, .int .i64 d] 41)) := (Kept.refl [] wr).alloc _
          have v1 : (wr.alloc (.cells #[.int .i64 t, .int .i64 d] 41)).cell? ⟨wr.heap.size, 0, none⟩ = some (.int .i64 t) := by simp
          have v2 : (wr.alloc (.cells #[.int .i64 t, .int .i64 d] 41)).cell? ⟨wr.heap.size, 1, none⟩ = some (.int .i64 d) := by simp
          have hsz : (wr.alloc (.cells #[.int .i64 t, .int .i64 d] 41)).heap.size = wr.heap.size + 1 := by simp
          have HKA := Lib.hid (HK.out.trans hka (by simp))
          have HPA : Hid (0 < k → (wr.alloc (.cells #[.int .i64 t, .int .i64 d] 41)).cell? ⟨g, (k - 1) * 2, none⟩ = some (.int .i64 (Nt.at2 xs (k - 1)).1) ∧ (wr.alloc (.cells #[.int .i64 t, .int .i64 d] 41)).cell? ⟨g, (k - 1) * 2 + 1, none⟩ = some (.int .i64 (Nt.at2 xs (k - 1)).2)) := Lib.hid (fun h0 =>
            ⟨(hka.cell (p := ⟨g, (k - 1) * 2, none⟩) hgr (by simp)).trans (HPREV.out h0).1, (hka.cell (p := ⟨g, (k - 1) * 2 + 1, none⟩) hgr (by simp)).trans (HPREV.out h0).2⟩)
          have hga : g < (wr.alloc (.cells #[.int .i64 t, .int .i64 d] 41)).heap.size := by omega
          clear HPREV hka
          by_cases h1 : 0 ≤ t ∧ t ≤ 59 ∧ 0 ≤ d ∧ d < n
          · have dL : decide (0 ≤ t ∧ t ≤ 59 ∧ 0 ≤ d ∧ d < n) = true := dec_of h1
            by_cases h0 : 0 < k
            · obtain ⟨q1, q2⟩ := HPA.out h0
              obtain ⟨j, hj⟩ : ∃ j, j = k - 1 := ⟨_, rfl⟩
              rw [← hj] at q1 q2 HLK
              have s1 : IntKind.i64.wrap ((k : Int) - 1) = (j : Int) := by rw [IntWalk.i64_in _ (by omega)]; omega
              have hjl : j < xs.length := by omega
              have d0 : decide (0 < k) = true := dec_of h0
              have HH := Lib.hid h1
              have H0 := Lib.hid h0
              clear h1 h0 hj HPA
              generalize (Nt.at2 xs j).1 = t' at *
              generalize (Nt.at2 xs j).2 = d' at *
              have dC : ∃ b, decide (t' < t ∨ t' = t ∧ d' < d) = b := ⟨_, rfl⟩
              obtain ⟨b, dC⟩ := dC
              have HB : Hid (if b = true then Nt.lTo n xs (k + 1) else Nt.scB n xs = false) := Lib.hid (by
                cases b
                · exact HNO.out (fun h => absurd ((HLK.out.1 h).2 H0.out) (of_decide_eq_false dC))
                · exact HYES.out (HLK.out.2 ⟨HH.out, fun _ => of_decide_eq_true dC⟩))
              have HDC := Lib.hid dC
              clear dC HNO HYES HLK
              go_wp2_with fail
              generalize wr.alloc (.cells #[.int .i64 t, .int .i64 d] 41) = w4 at *
              have HCX : Hid (∀ w5, Kept [] w4 w5 → w5.cell? ⟨wr.heap.size, 0, none⟩ = some (.int .i64 t) ∧ w5.cell? ⟨wr.heap.size, 1, none⟩ = some (.int .i64 d) ∧ w5.cell? ⟨g, j * 2, none⟩ = some (.int .i64 t') ∧ w5.cell? ⟨g, j * 2 + 1, none⟩ = some (.int .i64 d')) := Lib.hid (fun w5 hk5 =>
                ⟨(hk5.cell (p := ⟨wr.heap.size, 0, none⟩) (by show wr.heap.size < _; omega) (by simp)).trans v1, (hk5.cell (p := ⟨wr.heap.size, 1, none⟩) (by show wr.heap.size < _; omega) (by simp)).trans v2, (hk5.cell (p := ⟨g, j * 2, none⟩) hga (by simp)).trans q1, (hk5.cell (p := ⟨g, j * 2 + 1, none⟩) hga (by simp)).trans q2⟩)
              have hs4 := HCX.out w4.drew (Kept.drew (Kept.refl [] w4))
              cases b
              all_goals
                go_region_held3 (fun w' => w'.cell? ⟨wr.heap.size, 0, none⟩ = some (.int .i64 t) ∧ w'.cell? ⟨wr.heap.size, 1, none⟩ = some (.int .i64 d) ∧ w'.cell? ⟨g, j * 2, none⟩ = some (.int .i64 t') ∧ w'.cell? ⟨g, j * 2 + 1, none⟩ = some (.int .i64 d'))
                  (first
                    | exact hs4
                    | exact y5
                    | exact y6
                    | go_keep)
                  (first
                    | (go_simp; go_at_call 22; refine (lightOk_any n t d _).mono ?_; rintro e w5 ⟨rfl, hk5⟩; rw [dL]; have hk5' := Kept.undrew (show Kept [] w4.drew w5 from hk5); have y5 := HCX.out w5 hk5'; have HK5 := Lib.hid hk5'; clear hk5 hk5')
                    | (go_simp; go_at_call 23; refine (comes_any t' d' t d _).mono ?_; rintro e w6 ⟨rfl, hk6⟩; rw [HDC.out]; have y6 := HCX.out w6 (HK5.out.trans hk6 (by simp)); have HK6 := Lib.hid (HKA.out.trans (HK5.out.trans hk6 (by simp)) (by simp)); clear hk6 y5))
              · all_goals
                  go_wp2
                  go_ret
                  exact ⟨by rw [show Nt.scB n xs = false from by simpa using HB.out]; rfl, HK6.out⟩
              · all_goals
                  go_wp2
                  go_roundw
                  case rel => exact ⟨k + 1, by omega, by go_num, by simpa using HB.out, HK6.out⟩
                  case measure => simp [intOf]; omega
            · have d0 : decide (0 < k) = false := dec_not h0
              have d0' : decide ((0 : Int) < (k : Int)) = false := dec_not (by omega)
              have HY := Lib.hid (HYES.out (HLK.out.2 ⟨h1, fun h => absurd h h0⟩))
              clear HPA HNO HYES HLK h1
              obtain rfl : k = 0 := by omega
              clear h0 d0 d0'
              go_wp2_with fail
              generalize wr.alloc (.cells #[.int .i64 t, .int .i64 d] 41) = w4 at *
              have HCX : Hid (∀ w5, Kept [] w4 w5 → w5.cell? ⟨wr.heap.size, 0, none⟩ = some (.int .i64 t) ∧ w5.cell? ⟨wr.heap.size, 1, none⟩ = some (.int .i64 d)) := Lib.hid (fun w5 hk5 =>
                ⟨(hk5.cell (p := ⟨wr.heap.size, 0, none⟩) (by show wr.heap.size < _; omega) (by simp)).trans v1, (hk5.cell (p := ⟨wr.heap.size, 1, none⟩) (by show wr.heap.size < _; omega) (by simp)).trans v2⟩)
              have hs4 := HCX.out w4.drew (Kept.drew (Kept.refl [] w4))
              refine wp_region_held_drew (S := fun w' => w'.cell? ⟨wr.heap.size, 0, none⟩ = some (.int .i64 t) ∧ w'.cell? ⟨wr.heap.size, 1, none⟩ = some (.int .i64 d)) (by kernel_rfl) hs4 (fun hHeld => ?_)
              refine wpAnyH_take (i := 0) (v := ?_) (opAt_list rfl) (by kernel_rfl) (by kernel_rfl) (by kernel_rfl) (fun _ _ _ h => h) (Or.inl ⟨by rfl, ?_⟩) (by assumption) ?_
              rotate_left
              · intro w9 hSw
                (try dsimp only at hSw)
                go_simp
                try with_reducible rfl
              try simp only [Act.put, List.setIfInBounds_toArray, List.set_cons_zero, List.set_cons_succ]
              refine wpAnyH_take (i := 1) (v := ?_) (opAt_list rfl) (by kernel_rfl) (by kernel_rfl) (by kernel_rfl) (fun _ _ _ h => h) (Or.inl ⟨by rfl, ?_⟩) (by assumption) ?_
              rotate_left
              · intro w9 hSw
                (try dsimp only at hSw)
                go_simp
                try with_reducible rfl
              try simp only [Act.put, List.setIfInBounds_toArray, List.set_cons_zero, List.set_cons_succ]
              refine wpAnyH_ready (rs := [2]) (by kernel_rfl) (by simp) ?_
              refine AllReadyH.cons (opAt_list rfl) (fun K hK => ?_) AllReadyH.nil
              go_simp
              go_at_call 22
              refine (lightOk_any n t d _).mono ?_
              rintro e w5 ⟨rfl, hk5⟩
              rw [dL]
              have hk5' := Kept.undrew (show Kept [] w4.drew w5 from hk5)
              have y5 := HCX.out w5 hk5'
              have HK5 := Lib.hid (HKA.out.trans hk5' (by simp))
              clear hk5 hk5'
              refine hK.out _ _ y5 (fun hHeld => ?_)
              clear hK K
              try simp only [Act.put, List.setIfInBounds_toArray, List.set_cons_zero, List.set_cons_succ]
              refine wpAnyH_take (i := 3) (v := ?_) (opAt_list rfl) (by kernel_rfl) (by kernel_rfl) (by kernel_rfl) (fun _ _ _ h => h) (Or.inl ⟨by rfl, ?_⟩) (by assumption) ?_
              rotate_left
              · intro w9 hSw
                (try dsimp only at hSw)
                go_simp
                try with_reducible rfl
              try simp only [Act.put, List.setIfInBounds_toArray, List.set_cons_zero, List.set_cons_succ]
              refine wpAnyH_take (i := 4) (v := ?_) (opAt_list rfl) (by kernel_rfl) (by kernel_rfl) (by kernel_rfl) (fun _ _ _ h => h) (Or.inl ⟨by rfl, ?_⟩) (by assumption) ?_
              rotate_left
              · intro w9 hSw
                (try dsimp only at hSw)
                go_simp
                try with_reducible rfl
              try simp only [Act.put, List.setIfInBounds_toArray, List.set_cons_zero, List.set_cons_succ]
              refine wpAnyH_take (i := 5) (v := ?_) (opAt_list rfl) (by kernel_rfl) (by kernel_rfl) (by kernel_rfl) (fun _ _ _ h => h) (Or.inl ⟨by rfl, ?_⟩) (by assumption) ?_
              rotate_left
              · intro w9 hSw
                (try dsimp only at hSw)
                go_simp
                try with_reducible rfl
              try simp only [Act.put, List.setIfInBounds_toArray, List.set_cons_zero, List.set_cons_succ]
              refine wpAnyH_take (i := 6) (v := ?_) (opAt_list rfl) (by kernel_rfl) (by kernel_rfl) (by kernel_rfl) (fun _ _ _ h => h) (Or.inl ⟨by rfl, ?_⟩) (by assumption) ?_
              rotate_left
              · intro w9 hSw
                (try dsimp only at hSw)
                go_simp
                try with_reducible rfl
              try simp only [Act.put, List.setIfInBounds_toArray, List.set_cons_zero, List.set_cons_succ]
              refine wpAnyH_take (i := 7) (v := ?_) (opAt_list rfl) (by kernel_rfl) (by kernel_rfl) (by kernel_rfl) (fun _ _ _ h => h) (Or.inl ⟨by rfl, ?_⟩) (by assumption) ?_
              rotate_left
              · intro w9 hSw
                (try dsimp only at hSw)
                go_simp
                try with_reducible rfl
              try simp only [Act.put, List.setIfInBounds_toArray, List.set_cons_zero, List.set_cons_succ]
              refine wpAnyH_take (i := 8) (v := undef) (opAt_list rfl) (by kernel_rfl) (by kernel_rfl) (by kernel_rfl) (fun _ _ _ h => h) (Or.inr ⟨by rfl, rfl⟩) (by assumption) ?_
              try simp only [Act.put, List.setIfInBounds_toArray, List.set_cons_zero, List.set_cons_succ]
              refine wpAnyH_take (i := 9) (v := undef) (opAt_list rfl) (by kernel_rfl) (by kernel_rfl) (by kernel_rfl) (fun _ _ _ h => h) (Or.inr ⟨by rfl, rfl⟩) (by assumption) ?_
              try simp only [Act.put, List.setIfInBounds_toArray, List.set_cons_zero, List.set_cons_succ]
              refine wpAnyH_take (i := 10) (v := undef) (opAt_list rfl) (by kernel_rfl) (by kernel_rfl) (by kernel_rfl) (fun _ _ _ h => h) (Or.inr ⟨by rfl, rfl⟩) (by assumption) ?_
              try simp only [Act.put, List.setIfInBounds_toArray, List.set_cons_zero, List.set_cons_succ]
              refine wpAnyH_take (i := 11) (v := undef) (opAt_list rfl) (by kernel_rfl) (by kernel_rfl) (by kernel_rfl) (fun _ _ _ h => h) (Or.inr ⟨by rfl, rfl⟩) (by assumption) ?_
              try simp only [Act.put, List.setIfInBounds_toArray, List.set_cons_zero, List.set_cons_succ]
              refine wpAnyH_take (i := 12) (v := undef) (opAt_list rfl) (by kernel_rfl) (by kernel_rfl) (by kernel_rfl) (fun _ _ _ h => h) (Or.inr ⟨by rfl, rfl⟩) (by assumption) ?_
              try simp only [Act.put, List.setIfInBounds_toArray, List.set_cons_zero, List.set_cons_succ]
              refine wpAnyH_take (i := 13) (v := undef) (opAt_list rfl) (by kernel_rfl) (by kernel_rfl) (by kernel_rfl) (fun _ _ _ h => h) (Or.inr ⟨by rfl, rfl⟩) (by assumption) ?_
              try simp only [Act.put, List.setIfInBounds_toArray, List.set_cons_zero, List.set_cons_succ]
              refine wpAnyH_take (i := 14) (v := undef) (opAt_list rfl) (by kernel_rfl) (by kernel_rfl) (by kernel_rfl) (fun _ _ _ h => h) (Or.inr ⟨by rfl, rfl⟩) (by assumption) ?_
              try simp only [Act.put, List.setIfInBounds_toArray, List.set_cons_zero, List.set_cons_succ]
              refine wpAnyH_take (i := 15) (v := undef) (opAt_list rfl) (by kernel_rfl) (by kernel_rfl) (by kernel_rfl) (fun _ _ _ h => h) (Or.inr ⟨by rfl, rfl⟩) (by assumption) ?_
              try simp only [Act.put, List.setIfInBounds_toArray, List.set_cons_zero, List.set_cons_succ]
              refine wpAnyH_take (i := 16) (v := ?_) (opAt_list rfl) (by kernel_rfl) (by kernel_rfl) (by kernel_rfl) (fun _ _ _ h => h) (Or.inl ⟨by rfl, ?_⟩) (by assumption) ?_
              rotate_left
              · intro w9 hSw
                (try dsimp only at hSw)
                go_simp
                try with_reducible rfl
              try simp only [Act.put, List.setIfInBounds_toArray, List.set_cons_zero, List.set_cons_succ]
              refine wpAnyH_take (i := 17) (v := ?_) (opAt_list rfl) (by kernel_rfl) (by kernel_rfl) (by kernel_rfl) (fun _ _ _ h => h) (Or.inl ⟨by rfl, ?_⟩) (by assumption) ?_
              rotate_left
              · intro w9 hSw
                (try dsimp only at hSw)
                go_simp
                try with_reducible rfl
              try simp only [Act.put, List.setIfInBounds_toArray, List.set_cons_zero, List.set_cons_succ]
              refine wpAnyH_done (by kernel_rfl) ?_ _
              all_goals
                go_wp2
                go_roundw
                case rel => exact ⟨0 + 1, by omega, by go_num, HY.out, HK5.out⟩
                case measure => simp [intOf]; omega
          · have dL : decide (0 ≤ t ∧ t ≤ 59 ∧ 0 ≤ d ∧ d < n) = false := dec_not h1
            have HF := Lib.hid (HNO.out (fun h => h1 (HLK.out.1 h).1))
            clear HPA HNO HYES HLK h1
            go_wp2_with fail
            generalize wr.alloc (.cells #[.int .i64 t, .int .i64 d] 41) = w4 at *
            have HCX : Hid (∀ w5, Kept [] w4 w5 → w5.cell? ⟨wr.heap.size, 0, none⟩ = some (.int .i64 t) ∧ w5.cell? ⟨wr.heap.size, 1, none⟩ = some (.int .i64 d)) := Lib.hid (fun w5 hk5 =>
              ⟨(hk5.cell (p := ⟨wr.heap.size, 0, none⟩) (by show wr.heap.size < _; omega) (by simp)).trans v1, (hk5.cell (p := ⟨wr.heap.size, 1, none⟩) (by show wr.heap.size < _; omega) (by simp)).trans v2⟩)
            have hs4 := HCX.out w4.drew (Kept.drew (Kept.refl [] w4))
            refine wp_region_held_drew (S := fun w' => w'.cell? ⟨wr.heap.size, 0, none⟩ = some (.int .i64 t) ∧ w'.cell? ⟨wr.heap.size, 1, none⟩ = some (.int .i64 d)) (by kernel_rfl) hs4 (fun hHeld => ?_)
            refine wpAnyH_take (i := 0) (v := ?_) (opAt_list rfl) (by kernel_rfl) (by kernel_rfl) (by kernel_rfl) (fun _ _ _ h => h) (Or.inl ⟨by rfl, ?_⟩) (by assumption) ?_
            rotate_left
            · intro w9 hSw
              (try dsimp only at hSw)
              go_simp
              try with_reducible rfl
            try simp only [Act.put, List.setIfInBounds_toArray, List.set_cons_zero, List.set_cons_succ]
            refine wpAnyH_take (i := 1) (v := ?_) (opAt_list rfl) (by kernel_rfl) (by kernel_rfl) (by kernel_rfl) (fun _ _ _ h => h) (Or.inl ⟨by rfl, ?_⟩) (by assumption) ?_
            rotate_left
            · intro w9 hSw
              (try dsimp only at hSw)
              go_simp
              try with_reducible rfl
            try simp only [Act.put, List.setIfInBounds_toArray, List.set_cons_zero, List.set_cons_succ]
            refine wpAnyH_ready (rs := [2]) (by kernel_rfl) (by simp) ?_
            refine AllReadyH.cons (opAt_list rfl) (fun K hK => ?_) AllReadyH.nil
            go_simp
            go_at_call 22
            refine (lightOk_any n t d _).mono ?_
            rintro e w5 ⟨rfl, hk5⟩
            rw [dL]
            have hk5' := Kept.undrew (show Kept [] w4.drew w5 from hk5)
            have y5 := HCX.out w5 hk5'
            have HK5 := Lib.hid (HKA.out.trans hk5' (by simp))
            clear hk5 hk5'
            refine hK.out _ _ y5 (fun hHeld => ?_)
            clear hK K
            try simp only [Act.put, List.setIfInBounds_toArray, List.set_cons_zero, List.set_cons_succ]
            refine wpAnyH_take (i := 3) (v := ?_) (opAt_list rfl) (by kernel_rfl) (by kernel_rfl) (by kernel_rfl) (fun _ _ _ h => h) (Or.inl ⟨by rfl, ?_⟩) (by assumption) ?_
            rotate_left
            · intro w9 hSw
              (try dsimp only at hSw)
              go_simp
              try with_reducible rfl
            try simp only [Act.put, List.setIfInBounds_toArray, List.set_cons_zero, List.set_cons_succ]
            refine wpAnyH_take (i := 4) (v := ?_) (opAt_list rfl) (by kernel_rfl) (by kernel_rfl) (by kernel_rfl) (fun _ _ _ h => h) (Or.inl ⟨by rfl, ?_⟩) (by assumption) ?_
            rotate_left
            · intro w9 hSw
              (try dsimp only at hSw)
              go_simp
              try with_reducible rfl
            try simp only [Act.put, List.setIfInBounds_toArray, List.set_cons_zero, List.set_cons_succ]
            refine wpAnyH_take (i := 5) (v := undef) (opAt_list rfl) (by kernel_rfl) (by kernel_rfl) (by kernel_rfl) (fun _ _ _ h => h) (Or.inr ⟨by rfl, rfl⟩) (by assumption) ?_
            try simp only [Act.put, List.setIfInBounds_toArray, List.set_cons_zero, List.set_cons_succ]
            refine wpAnyH_take (i := 6) (v := undef) (opAt_list rfl) (by kernel_rfl) (by kernel_rfl) (by kernel_rfl) (fun _ _ _ h => h) (Or.inr ⟨by rfl, rfl⟩) (by assumption) ?_
            try simp only [Act.put, List.setIfInBounds_toArray, List.set_cons_zero, List.set_cons_succ]
            refine wpAnyH_take (i := 7) (v := undef) (opAt_list rfl) (by kernel_rfl) (by kernel_rfl) (by kernel_rfl) (fun _ _ _ h => h) (Or.inr ⟨by rfl, rfl⟩) (by assumption) ?_
            try simp only [Act.put, List.setIfInBounds_toArray, List.set_cons_zero, List.set_cons_succ]
            refine wpAnyH_take (i := 8) (v := undef) (opAt_list rfl) (by kernel_rfl) (by kernel_rfl) (by kernel_rfl) (fun _ _ _ h => h) (Or.inr ⟨by rfl, rfl⟩) (by assumption) ?_
            try simp only [Act.put, List.setIfInBounds_toArray, List.set_cons_zero, List.set_cons_succ]
            refine wpAnyH_take (i := 9) (v := undef) (opAt_list rfl) (by kernel_rfl) (by kernel_rfl) (by kernel_rfl) (fun _ _ _ h => h) (Or.inr ⟨by rfl, rfl⟩) (by assumption) ?_
            try simp only [Act.put, List.setIfInBounds_toArray, List.set_cons_zero, List.set_cons_succ]
            refine wpAnyH_take (i := 10) (v := undef) (opAt_list rfl) (by kernel_rfl) (by kernel_rfl) (by kernel_rfl) (fun _ _ _ h => h) (Or.inr ⟨by rfl, rfl⟩) (by assumption) ?_
            try simp only [Act.put, List.setIfInBounds_toArray, List.set_cons_zero, List.set_cons_succ]
            refine wpAnyH_take (i := 11) (v := undef) (opAt_list rfl) (by kernel_rfl) (by kernel_rfl) (by kernel_rfl) (fun _ _ _ h => h) (Or.inr ⟨by rfl, rfl⟩) (by assumption) ?_
            try simp only [Act.put, List.setIfInBounds_toArray, List.set_cons_zero, List.set_cons_succ]
            refine wpAnyH_take (i := 12) (v := undef) (opAt_list rfl) (by kernel_rfl) (by kernel_rfl) (by kernel_rfl) (fun _ _ _ h => h) (Or.inr ⟨by rfl, rfl⟩) (by assumption) ?_
            try simp only [Act.put, List.setIfInBounds_toArray, List.set_cons_zero, List.set_cons_succ]
            refine wpAnyH_take (i := 13) (v := undef) (opAt_list rfl) (by kernel_rfl) (by kernel_rfl) (by kernel_rfl) (fun _ _ _ h => h) (Or.inr ⟨by rfl, rfl⟩) (by assumption) ?_
            try simp only [Act.put, List.setIfInBounds_toArray, List.set_cons_zero, List.set_cons_succ]
            refine wpAnyH_take (i := 14) (v := undef) (opAt_list rfl) (by kernel_rfl) (by kernel_rfl) (by kernel_rfl) (fun _ _ _ h => h) (Or.inr ⟨by rfl, rfl⟩) (by assumption) ?_
            try simp only [Act.put, List.setIfInBounds_toArray, List.set_cons_zero, List.set_cons_succ]
            refine wpAnyH_take (i := 15) (v := undef) (opAt_list rfl) (by kernel_rfl) (by kernel_rfl) (by kernel_rfl) (fun _ _ _ h => h) (Or.inr ⟨by rfl, rfl⟩) (by assumption) ?_
            try simp only [Act.put, List.setIfInBounds_toArray, List.set_cons_zero, List.set_cons_succ]
            refine wpAnyH_take (i := 16) (v := undef) (opAt_list rfl) (by kernel_rfl) (by kernel_rfl) (by kernel_rfl) (fun _ _ _ h => h) (Or.inr ⟨by rfl, rfl⟩) (by assumption) ?_
            try simp only [Act.put, List.setIfInBounds_toArray, List.set_cons_zero, List.set_cons_succ]
            refine wpAnyH_take (i := 17) (v := ?_) (opAt_list rfl) (by kernel_rfl) (by kernel_rfl) (by kernel_rfl) (fun _ _ _ h => h) (Or.inl ⟨by rfl, ?_⟩) (by assumption) ?_
            rotate_left
            · intro w9 hSw
              (try dsimp only at hSw)
              go_simp
              try with_reducible rfl
            try simp only [Act.put, List.setIfInBounds_toArray, List.set_cons_zero, List.set_cons_succ]
            refine wpAnyH_done (by kernel_rfl) ?_ _
            all_goals
              go_wp2
              go_ret
              exact ⟨by rw [HF.out]; rfl, HK5.out⟩
        · have hk' : xs.length = k := by omega
          subst hk'
          have HF := Lib.hid (HE.out HT.out)
          clear hkept
          go_wp2
          go_ret
          exact ⟨by rw [HF.out]; rfl, HK.out⟩
    · have d2 : decide ((8 : Int) < (xs.length : Int)) = true := dec_of (by omega)
      have HF : Hid (Nt.scB n xs = false) := Lib.hid (Nt.scB_no (fun h => h2 h.2.1))
      clear h1 h2
      go_enter Tryd.func8, Tryd.ntmps8
      go_wp2_with (go_at_call 21; refine (nodesOk_any _ _).mono ?_; rintro e w' ⟨rfl, rfl⟩; rw [d1])
      go_ret
      exact ⟨by rw [HF.out]; rfl, Kept.refl _ _⟩
  · have d1 : decide (1 ≤ n ∧ n ≤ 6) = false := dec_not h1
    have HF : Hid (Nt.scB n xs = false) := Lib.hid (Nt.scB_no (fun h => h1 h.1))
    clear h1
    go_enter Tryd.func8, Tryd.ntmps8
    go_wp2_with (go_at_call 21; refine (nodesOk_any _ _).mono ?_; rintro e w' ⟨rfl, rfl⟩; rw [d1])
    go_ret
    exact ⟨by rw [HF.out]; rfl, Kept.refl _ _⟩
end Go.Proofs.YtilbdpcijdcffaaDoor
