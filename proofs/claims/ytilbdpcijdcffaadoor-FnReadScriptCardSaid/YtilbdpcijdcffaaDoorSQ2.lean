/-
  Walks: texts of scripts read, by the program.
-/
import Derived.Test.YtilbdpcijdcffaaDoorSQ1
import Derived.StillTailTactics
import Derived.Laws.ResultCell
import Derived.Laws.Rows
namespace Go.Proofs.YtilbdpcijdcffaaDoor
open Go.RowKit

/-- What reading one light answers. -/
def LightRead (s : ByteArray) (w : World) (e : Ending) (w' : World) : Prop :=
  ∃ (x y : Int) (ok : Bool), e = .returned (.tuple #[.agg #[.int .i64 x, .int .i64 y], .bool ok]) ∧
    (∀ a b : Nat, a < 60 → b < 6 → tx s = Nt.digs a ++ 58 :: Nt.digs b → ok = true ∧ x = (a : Int) ∧ y = (b : Int)) ∧ (tx s = [] → ok = false) ∧ Kept [] w w'

set_option linter.unusedSimpArgs false in
set_option linter.unnecessarySimpa false in

set_option maxHeartbeats 2000000 in
set_option maxRecDepth 100000 in
theorem readLight_any (s : ByteArray) (hs : s.size ≤ 2000000) (w : World) (he : ErrW w) :
    Calls Tryd.prog 40 #[.string s] w (LightRead s w) := by
  have HE := Lib.hid he
  have hka : Kept [] w (w.alloc (.cells #[.int .i64 0, .int .i64 0] 41)) := (Kept.refl [] w).alloc _
  have HKA := Lib.hid hka
  have hrow : (w.alloc (.cells #[.int .i64 0, .int .i64 0] 41)).heap[w.heap.size]? = some (.cells #[.int .i64 0, .int .i64 0] 41 (0, 0)) := heap_alloc_new _ _
  have HROW := Lib.hid hrow
  have hsz0 : w.heap.size < (w.alloc (.cells #[.int .i64 0, .int .i64 0] 41)).heap.size := by simp
  have HSZ0 := Lib.hid hsz0
  have HS := Lib.hid hs
  clear he hka hrow hsz0 hs
  go_enter Tryd.func40, Tryd.ntmps40
  go_wp2_with fail
  refine (cut_any s HS.out _ (HE.out.stay HKA.out)).mono ?_
  rintro e w2 ⟨p, q, okc, rfl, hp, hq, hpq, hp0, hqt⟩
  have HP := Lib.hid hp
  have HQ := Lib.hid hq
  have HPQ := Lib.hid hpq
  have HP0 := Lib.hid hp0
  have HK2 := Lib.hid hqt.kept
  clear hp hq hpq hp0 hqt
  go_wp2_with fail
  refine (atoi_any p HP.out _ (HE.out.stay (HKA.out.trans HK2.out (by simp)))).mono ?_
  rintro e w3 ⟨x, ex, rfl, hex, hx, hx0, hk3⟩
  have HX := Lib.hid hx
  have HX0 := Lib.hid hx0
  have HK3 := Lib.hid (HK2.out.trans hk3 (by simp))
  clear hx hx0 hk3 HK2
  go_wp2_with fail
  refine (atoi_any q HQ.out _ (HE.out.stay (HKA.out.trans HK3.out (by simp)))).mono ?_
  rintro e w4 ⟨y, ey, rfl, hey, hy, _, hk4⟩
  have HY := Lib.hid hy
  have HK4 := Lib.hid (HK3.out.trans hk4 (by simp))
  clear hy hk4 HK3
  have hr4 : w4.heap[w.heap.size]? = some (.cells #[.int .i64 0, .int .i64 0] 41 (0, 0)) := (HK4.out.block w.heap.size HSZ0.out (by simp)).trans HROW.out
  have c1 : w4.cell? ⟨w.heap.size, 0, none⟩ = some (.int .i64 0) := (HK4.out.cell (p := ⟨w.heap.size, 0, none⟩) HSZ0.out (by simp)).trans (by simp)
  have c2 : w4.cell? ⟨w.heap.size, 1, none⟩ = some (.int .i64 0) := (HK4.out.cell (p := ⟨w.heap.size, 1, none⟩) HSZ0.out (by simp)).trans (by simp)
  have HR4 : Hid (w4.drew.heap[w.heap.size]? = some (.cells #[.int .i64 0, .int .i64 0] 41 (0, 0))) := Lib.hid hr4
  have HC1 : Hid (w4.drew.cell? ⟨w.heap.size, 0, none⟩ = some (.int .i64 0)) := Lib.hid c1
  have HC2 : Hid (w4.drew.cell? ⟨w.heap.size, 1, none⟩ = some (.int .i64 0)) := Lib.hid c2
  have HF1 : Hid (∀ i, w4.drew.frozen? ⟨w.heap.size, i, none⟩ = false) := Lib.hid (fun i => by
    have h : w4.drew.heap[w.heap.size]? = _ := hr4
    simp [World.frozen?, h])
  have HK5 : Hid (Kept [] w w4.drew) := Lib.hid (HKA.out.trans HK4.out (by simp)).drew
  have hdone : ∀ (ok : Bool) (W : World), W = (w4.drew.setCell ⟨w.heap.size, 0, none⟩ (.int .i64 x)).setCell ⟨w.heap.size, 1, none⟩ (.int .i64 y) → (W.heap[w.heap.size]? = some (.cells #[.int .i64 x, .int .i64 y] 41 (0, 0)) ∧ Kept [] w W) := fun ok W hW => by
    subst hW
    have h1 := heap_setCell_same w4.drew w.heap.size 0 #[.int .i64 0, .int .i64 0] 41 (.int .i64 x) HR4.out
    have h2 := heap_setCell_same (w4.drew.setCell ⟨w.heap.size, 0, none⟩ (.int .i64 x)) w.heap.size 1 _ 41 (.int .i64 y) h1
    exact ⟨h2, (HK5.out.setCell (.inr (Nat.le_refl _)) _).setCell (.inr (Nat.le_refl _)) _⟩
  have HDONE := Lib.hid hdone
  clear hr4 hdone
  go_wp2_with fail
  rcases hex with rfl | ⟨tx1, px1, rfl⟩
  · rcases hey with rfl | ⟨ty1, py1, rfl⟩
    · have HFA : Hid (∀ a b : Nat, a < 60 → b < 6 → tx s = Nt.digs a ++ 58 :: Nt.digs b → true = true ∧ x = (a : Int) ∧ y = (b : Int)) := Lib.hid (fun a b ha hb h => by
        obtain ⟨h1, h2⟩ := HPQ.out a b h
        exact ⟨rfl, (HX.out a ha h1).2, (HY.out b (by omega) h2).2⟩)
      have HFB : Hid (tx s = [] → true = false) := Lib.hid (fun h => by
        obtain ⟨t, p, e⟩ := HX0.out (HP0.out h)
        cases e)
      refine wp_region_held_drew (S := fun _ => True) (by kernel_rfl) trivial (fun hHeld => ?_)
      refine wpAnyH_take (i := 0) (v := ?_) (opAt_list rfl) (by kernel_rfl) (by kernel_rfl) (by kernel_rfl) (fun _ _ _ h => h) (Or.inl ⟨by rfl, ?_⟩) (by assumption) ?_
      rotate_left
      · intro w9 hSw
        (try dsimp only at hSw)
        go_simp
        try with_reducible rfl
      try simp only [Act.put, List.setIfInBounds_toArray, List.set_cons_zero, List.set_cons_succ]
      refine wpAnyH_take (i := 1) (v := ?_) (opAt_list rfl) (by kernel_rfl) (by kernel_rfl) (by kernel_rfl) (fun _ _ _ h => h) (Or.inl ⟨by rfl, ?_⟩) (by assumption) ?_
      rotate_left
      · intro w9 hSw
        (try dsimp only at hSw)
        go_simp
        try with_reducible rfl
      try simp only [Act.put, List.setIfInBounds_toArray, List.set_cons_zero, List.set_cons_succ]
      refine wpAnyH_take (i := 2) (v := ?_) (opAt_list rfl) (by kernel_rfl) (by kernel_rfl) (by kernel_rfl) (fun _ _ _ h => h) (Or.inl ⟨by rfl, ?_⟩) (by assumption) ?_
      rotate_left
      · intro w9 hSw
        (try dsimp only at hSw)
        go_simp
        try with_reducible rfl
      try simp only [Act.put, List.setIfInBounds_toArray, List.set_cons_zero, List.set_cons_succ]
      refine wpAnyH_take (i := 3) (v := ?_) (opAt_list rfl) (by kernel_rfl) (by kernel_rfl) (by kernel_rfl) (fun _ _ _ h => h) (Or.inl ⟨by rfl, ?_⟩) (by assumption) ?_
      rotate_left
      · intro w9 hSw
        (try dsimp only at hSw)
        go_simp
        try with_reducible rfl
      try simp only [Act.put, List.setIfInBounds_toArray, List.set_cons_zero, List.set_cons_succ]
      refine wpAnyH_take (i := 4) (v := ?_) (opAt_list rfl) (by kernel_rfl) (by kernel_rfl) (by kernel_rfl) (fun _ _ _ h => h) (Or.inl ⟨by rfl, ?_⟩) (by assumption) ?_
      rotate_left
      · intro w9 hSw
        (try dsimp only at hSw)
        go_simp
        try with_reducible rfl
      try simp only [Act.put, List.setIfInBounds_toArray, List.set_cons_zero, List.set_cons_succ]
      refine wpAnyH_take (i := 5) (v := ?_) (opAt_list rfl) (by kernel_rfl) (by kernel_rfl) (by kernel_rfl) (fun _ _ _ h => h) (Or.inl ⟨by rfl, ?_⟩) (by assumption) ?_
      rotate_left
      · intro w9 hSw
        (try dsimp only at hSw)
        go_simp
        try with_reducible rfl
      try simp only [Act.put, List.setIfInBounds_toArray, List.set_cons_zero, List.set_cons_succ]
      refine wpAnyH_take (i := 6) (v := ?_) (opAt_list rfl) (by kernel_rfl) (by kernel_rfl) (by kernel_rfl) (fun _ _ _ h => h) (Or.inl ⟨by rfl, ?_⟩) (by assumption) ?_
      rotate_left
      · intro w9 hSw
        (try dsimp only at hSw)
        go_simp
        try with_reducible rfl
      try simp only [Act.put, List.setIfInBounds_toArray, List.set_cons_zero, List.set_cons_succ]
      refine wpAnyH_take (i := 7) (v := ?_) (opAt_list rfl) (by kernel_rfl) (by kernel_rfl) (by kernel_rfl) (fun _ _ _ h => h) (Or.inl ⟨by rfl, ?_⟩) (by assumption) ?_
      rotate_left
      · intro w9 hSw
        (try dsimp only at hSw)
        go_simp
        try with_reducible rfl
      try simp only [Act.put, List.setIfInBounds_toArray, List.set_cons_zero, List.set_cons_succ]
      refine wpAnyH_take (i := 8) (v := ?_) (opAt_list rfl) (by kernel_rfl) (by kernel_rfl) (by kernel_rfl) (fun _ _ _ h => h) (Or.inl ⟨by rfl, ?_⟩) (by assumption) ?_
      rotate_left
      · intro w9 hSw
        (try dsimp only at hSw)
        go_simp
        try with_reducible rfl
      try simp only [Act.put, List.setIfInBounds_toArray, List.set_cons_zero, List.set_cons_succ]
      have c1 := HC1.out
      have c2 := HC2.out
      have c3 := HF1.out 0
      have c4 := HF1.out 1
      generalize w4.drew = w5 at *
      refine wpAnyH_ready (rs := [9]) (by kernel_rfl) (by simp) ?_
      refine AllReadyH.cons (opAt_list rfl) (fun K hK => ?_) AllReadyH.nil
      go_simp
      refine hK.out _ _ trivial (fun hHeld => ?_)
      clear hK K
      try simp only [Act.put, List.setIfInBounds_toArray, List.set_cons_zero, List.set_cons_succ]
      refine wpAnyH_take (i := 10) (v := ?_) (opAt_list rfl) (by kernel_rfl) (by kernel_rfl) (by kernel_rfl) (fun _ _ _ h => h) (Or.inl ⟨by rfl, ?_⟩) (by assumption) ?_
      rotate_left
      · intro w9 hSw
        (try dsimp only at hSw)
        go_simp
        try with_reducible rfl
      try simp only [Act.put, List.setIfInBounds_toArray, List.set_cons_zero, List.set_cons_succ]
      refine wpAnyH_done (by kernel_rfl) ?_ _
      go_wp2
      obtain ⟨hrow9, hk9⟩ := HDONE.out true _ rfl
      (try simp only [Exit.inBlock, Exit.then])
      refine bodyPost_ret (v := .tuple #[.agg #[.int .i64 x, .int .i64 y], .bool true]) ?_ rfl ?_
      · rw [results_cell_tmp rfl]
        simp [asAddr, run_loadVar_row _ w.heap.size 41 41 #[.int .i64 x, .int .i64 y] (0, 0) _ hrow9 Tryd.underlying41 rfl (by kernel_rfl)]
      · exact ⟨x, y, true, rfl, (fun a b h1 h2 h3 => by simpa using HFA.out a b h1 h2 h3), (fun h => by simpa using HFB.out h), hk9⟩
    · have HFA : Hid (∀ a b : Nat, a < 60 → b < 6 → tx s = Nt.digs a ++ 58 :: Nt.digs b → false = true ∧ x = (a : Int) ∧ y = (b : Int)) := Lib.hid (fun a b ha hb h => by
        obtain ⟨h1, h2⟩ := HPQ.out a b h
        have := (HY.out b (by omega) h2).1
        cases this)
      have HFB : Hid (tx s = [] → false = false) := Lib.hid (fun _ => rfl)
      refine wp_region_held_drew (S := fun _ => True) (by kernel_rfl) trivial (fun hHeld => ?_)
      refine wpAnyH_take (i := 0) (v := ?_) (opAt_list rfl) (by kernel_rfl) (by kernel_rfl) (by kernel_rfl) (fun _ _ _ h => h) (Or.inl ⟨by rfl, ?_⟩) (by assumption) ?_
      rotate_left
      · intro w9 hSw
        (try dsimp only at hSw)
        go_simp
        try with_reducible rfl
      try simp only [Act.put, List.setIfInBounds_toArray, List.set_cons_zero, List.set_cons_succ]
      refine wpAnyH_take (i := 1) (v := ?_) (opAt_list rfl) (by kernel_rfl) (by kernel_rfl) (by kernel_rfl) (fun _ _ _ h => h) (Or.inl ⟨by rfl, ?_⟩) (by assumption) ?_
      rotate_left
      · intro w9 hSw
        (try dsimp only at hSw)
        go_simp
        try with_reducible rfl
      try simp only [Act.put, List.setIfInBounds_toArray, List.set_cons_zero, List.set_cons_succ]
      refine wpAnyH_take (i := 2) (v := ?_) (opAt_list rfl) (by kernel_rfl) (by kernel_rfl) (by kernel_rfl) (fun _ _ _ h => h) (Or.inl ⟨by rfl, ?_⟩) (by assumption) ?_
      rotate_left
      · intro w9 hSw
        (try dsimp only at hSw)
        go_simp
        try with_reducible rfl
      try simp only [Act.put, List.setIfInBounds_toArray, List.set_cons_zero, List.set_cons_succ]
      refine wpAnyH_take (i := 3) (v := ?_) (opAt_list rfl) (by kernel_rfl) (by kernel_rfl) (by kernel_rfl) (fun _ _ _ h => h) (Or.inl ⟨by rfl, ?_⟩) (by assumption) ?_
      rotate_left
      · intro w9 hSw
        (try dsimp only at hSw)
        go_simp
        try with_reducible rfl
      try simp only [Act.put, List.setIfInBounds_toArray, List.set_cons_zero, List.set_cons_succ]
      refine wpAnyH_take (i := 4) (v := ?_) (opAt_list rfl) (by kernel_rfl) (by kernel_rfl) (by kernel_rfl) (fun _ _ _ h => h) (Or.inl ⟨by rfl, ?_⟩) (by assumption) ?_
      rotate_left
      · intro w9 hSw
        (try dsimp only at hSw)
        go_simp
        try with_reducible rfl
      try simp only [Act.put, List.setIfInBounds_toArray, List.set_cons_zero, List.set_cons_succ]
      refine wpAnyH_take (i := 5) (v := ?_) (opAt_list rfl) (by kernel_rfl) (by kernel_rfl) (by kernel_rfl) (fun _ _ _ h => h) (Or.inl ⟨by rfl, ?_⟩) (by assumption) ?_
      rotate_left
      · intro w9 hSw
        (try dsimp only at hSw)
        go_simp
        try with_reducible rfl
      try simp only [Act.put, List.setIfInBounds_toArray, List.set_cons_zero, List.set_cons_succ]
      refine wpAnyH_take (i := 6) (v := ?_) (opAt_list rfl) (by kernel_rfl) (by kernel_rfl) (by kernel_rfl) (fun _ _ _ h => h) (Or.inl ⟨by rfl, ?_⟩) (by assumption) ?_
      rotate_left
      · intro w9 hSw
        (try dsimp only at hSw)
        go_simp
        try with_reducible rfl
      try simp only [Act.put, List.setIfInBounds_toArray, List.set_cons_zero, List.set_cons_succ]
      refine wpAnyH_take (i := 7) (v := ?_) (opAt_list rfl) (by kernel_rfl) (by kernel_rfl) (by kernel_rfl) (fun _ _ _ h => h) (Or.inl ⟨by rfl, ?_⟩) (by assumption) ?_
      rotate_left
      · intro w9 hSw
        (try dsimp only at hSw)
        go_simp
        try with_reducible rfl
      try simp only [Act.put, List.setIfInBounds_toArray, List.set_cons_zero, List.set_cons_succ]
      refine wpAnyH_take (i := 8) (v := ?_) (opAt_list rfl) (by kernel_rfl) (by kernel_rfl) (by kernel_rfl) (fun _ _ _ h => h) (Or.inl ⟨by rfl, ?_⟩) (by assumption) ?_
      rotate_left
      · intro w9 hSw
        (try dsimp only at hSw)
        go_simp
        try with_reducible rfl
      try simp only [Act.put, List.setIfInBounds_toArray, List.set_cons_zero, List.set_cons_succ]
      have c1 := HC1.out
      have c2 := HC2.out
      have c3 := HF1.out 0
      have c4 := HF1.out 1
      generalize w4.drew = w5 at *
      refine wpAnyH_ready (rs := [9]) (by kernel_rfl) (by simp) ?_
      refine AllReadyH.cons (opAt_list rfl) (fun K hK => ?_) AllReadyH.nil
      go_simp
      refine hK.out _ _ trivial (fun hHeld => ?_)
      clear hK K
      try simp only [Act.put, List.setIfInBounds_toArray, List.set_cons_zero, List.set_cons_succ]
      refine wpAnyH_take (i := 10) (v := ?_) (opAt_list rfl) (by kernel_rfl) (by kernel_rfl) (by kernel_rfl) (fun _ _ _ h => h) (Or.inl ⟨by rfl, ?_⟩) (by assumption) ?_
      rotate_left
      · intro w9 hSw
        (try dsimp only at hSw)
        go_simp
        try with_reducible rfl
      try simp only [Act.put, List.setIfInBounds_toArray, List.set_cons_zero, List.set_cons_succ]
      refine wpAnyH_done (by kernel_rfl) ?_ _
      go_wp2
      obtain ⟨hrow9, hk9⟩ := HDONE.out true _ rfl
      (try simp only [Exit.inBlock, Exit.then])
      refine bodyPost_ret (v := .tuple #[.agg #[.int .i64 x, .int .i64 y], .bool false]) ?_ rfl ?_
      · rw [results_cell_tmp rfl]
        simp [asAddr, run_loadVar_row _ w.heap.size 41 41 #[.int .i64 x, .int .i64 y] (0, 0) _ hrow9 Tryd.underlying41 rfl (by kernel_rfl)]
      · exact ⟨x, y, false, rfl, (fun a b h1 h2 h3 => by simpa using HFA.out a b h1 h2 h3), (fun h => by simpa using HFB.out h), hk9⟩
  · have HFA : Hid (∀ a b : Nat, a < 60 → b < 6 → tx s = Nt.digs a ++ 58 :: Nt.digs b → false = true ∧ x = (a : Int) ∧ y = (b : Int)) := Lib.hid (fun a b ha hb h => by
      obtain ⟨h1, h2⟩ := HPQ.out a b h
      have := (HX.out a ha h1).1
      cases this)
    have HFB : Hid (tx s = [] → false = false) := Lib.hid (fun _ => rfl)
    refine wp_region_held_drew (S := fun _ => True) (by kernel_rfl) trivial (fun hHeld => ?_)
    refine wpAnyH_take (i := 0) (v := ?_) (opAt_list rfl) (by kernel_rfl) (by kernel_rfl) (by kernel_rfl) (fun _ _ _ h => h) (Or.inl ⟨by rfl, ?_⟩) (by assumption) ?_
    rotate_left
    · intro w9 hSw
      (try dsimp only at hSw)
      go_simp
      try with_reducible rfl
    try simp only [Act.put, List.setIfInBounds_toArray, List.set_cons_zero, List.set_cons_succ]
    refine wpAnyH_take (i := 1) (v := ?_) (opAt_list rfl) (by kernel_rfl) (by kernel_rfl) (by kernel_rfl) (fun _ _ _ h => h) (Or.inl ⟨by rfl, ?_⟩) (by assumption) ?_
    rotate_left
    · intro w9 hSw
      (try dsimp only at hSw)
      go_simp
      try with_reducible rfl
    try simp only [Act.put, List.setIfInBounds_toArray, List.set_cons_zero, List.set_cons_succ]
    refine wpAnyH_take (i := 2) (v := ?_) (opAt_list rfl) (by kernel_rfl) (by kernel_rfl) (by kernel_rfl) (fun _ _ _ h => h) (Or.inl ⟨by rfl, ?_⟩) (by assumption) ?_
    rotate_left
    · intro w9 hSw
      (try dsimp only at hSw)
      go_simp
      try with_reducible rfl
    try simp only [Act.put, List.setIfInBounds_toArray, List.set_cons_zero, List.set_cons_succ]
    refine wpAnyH_take (i := 3) (v := ?_) (opAt_list rfl) (by kernel_rfl) (by kernel_rfl) (by kernel_rfl) (fun _ _ _ h => h) (Or.inl ⟨by rfl, ?_⟩) (by assumption) ?_
    rotate_left
    · intro w9 hSw
      (try dsimp only at hSw)
      go_simp
      try with_reducible rfl
    try simp only [Act.put, List.setIfInBounds_toArray, List.set_cons_zero, List.set_cons_succ]
    refine wpAnyH_take (i := 4) (v := ?_) (opAt_list rfl) (by kernel_rfl) (by kernel_rfl) (by kernel_rfl) (fun _ _ _ h => h) (Or.inl ⟨by rfl, ?_⟩) (by assumption) ?_
    rotate_left
    · intro w9 hSw
      (try dsimp only at hSw)
      go_simp
      try with_reducible rfl
    try simp only [Act.put, List.setIfInBounds_toArray, List.set_cons_zero, List.set_cons_succ]
    refine wpAnyH_take (i := 5) (v := ?_) (opAt_list rfl) (by kernel_rfl) (by kernel_rfl) (by kernel_rfl) (fun _ _ _ h => h) (Or.inl ⟨by rfl, ?_⟩) (by assumption) ?_
    rotate_left
    · intro w9 hSw
      (try dsimp only at hSw)
      go_simp
      try with_reducible rfl
    try simp only [Act.put, List.setIfInBounds_toArray, List.set_cons_zero, List.set_cons_succ]
    refine wpAnyH_take (i := 6) (v := undef) (opAt_list rfl) (by kernel_rfl) (by kernel_rfl) (by kernel_rfl) (fun _ _ _ h => h) (Or.inr ⟨by rfl, rfl⟩) (by assumption) ?_
    try simp only [Act.put, List.setIfInBounds_toArray, List.set_cons_zero, List.set_cons_succ]
    refine wpAnyH_take (i := 7) (v := undef) (opAt_list rfl) (by kernel_rfl) (by kernel_rfl) (by kernel_rfl) (fun _ _ _ h => h) (Or.inr ⟨by rfl, rfl⟩) (by assumption) ?_
    try simp only [Act.put, List.setIfInBounds_toArray, List.set_cons_zero, List.set_cons_succ]
    refine wpAnyH_take (i := 8) (v := ?_) (opAt_list rfl) (by kernel_rfl) (by kernel_rfl) (by kernel_rfl) (fun _ _ _ h => h) (Or.inl ⟨by rfl, ?_⟩) (by assumption) ?_
    rotate_left
    · intro w9 hSw
      (try dsimp only at hSw)
      go_simp
      try with_reducible rfl
    try simp only [Act.put, List.setIfInBounds_toArray, List.set_cons_zero, List.set_cons_succ]
    have c1 := HC1.out
    have c2 := HC2.out
    have c3 := HF1.out 0
    have c4 := HF1.out 1
    generalize w4.drew = w5 at *
    refine wpAnyH_ready (rs := [9]) (by kernel_rfl) (by simp) ?_
    refine AllReadyH.cons (opAt_list rfl) (fun K hK => ?_) AllReadyH.nil
    go_simp
    refine hK.out _ _ trivial (fun hHeld => ?_)
    clear hK K
    try simp only [Act.put, List.setIfInBounds_toArray, List.set_cons_zero, List.set_cons_succ]
    refine wpAnyH_take (i := 10) (v := ?_) (opAt_list rfl) (by kernel_rfl) (by kernel_rfl) (by kernel_rfl) (fun _ _ _ h => h) (Or.inl ⟨by rfl, ?_⟩) (by assumption) ?_
    rotate_left
    · intro w9 hSw
      (try dsimp only at hSw)
      go_simp
      try with_reducible rfl
    try simp only [Act.put, List.setIfInBounds_toArray, List.set_cons_zero, List.set_cons_succ]
    refine wpAnyH_done (by kernel_rfl) ?_ _
    go_wp2
    obtain ⟨hrow9, hk9⟩ := HDONE.out true _ rfl
    (try simp only [Exit.inBlock, Exit.then])
    refine bodyPost_ret (v := .tuple #[.agg #[.int .i64 x, .int .i64 y], .bool false]) ?_ rfl ?_
    · rw [results_cell_tmp rfl]
      simp [asAddr, run_loadVar_row _ w.heap.size 41 41 #[.int .i64 x, .int .i64 y] (0, 0) _ hrow9 Tryd.underlying41 rfl (by kernel_rfl)]
    · exact ⟨x, y, false, rfl, (fun a b h1 h2 h3 => by simpa using HFA.out a b h1 h2 h3), (fun h => by simpa using HFB.out h), hk9⟩
end Go.Proofs.YtilbdpcijdcffaaDoor
