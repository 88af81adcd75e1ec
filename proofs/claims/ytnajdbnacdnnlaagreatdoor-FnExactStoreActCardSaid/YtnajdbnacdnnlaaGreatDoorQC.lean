/-
  Texts of deeds, by the model.
  Slices of structs of three cells that a call makes itself: deeds, places.
  Desks in memory; whether a desk is one, new desks, by the model.
  Copies of desks, by the model.
  Deeds read of texts, by the model.
  Journals read line by line, by the model.
  Stores: whether a store is one, made sure, broken down, mended, by the model.
-/
import Derived.Test.YtnajdbnacdnnlaaGreatDoorQA
import Derived.ArgAppend
import Derived.Test.YtnajdbnacdnnlaaGreatDoorPV3
namespace Go.Proofs.YtnajdbnacdnnlaaGreatDoor
open Go.RowKit

/-- A deed as a value. -/
def dv (d : Nt.Dd) : Value := .agg #[.int .i64 d.kind, .int .i64 d.a, .int .i64 d.b]
theorem dv_eq (k a b : Int) : dv ⟨k, a, b⟩ = .agg #[.int .i64 k, .int .i64 a, .int .i64 b] := rfl
theorem deedT_no1 {k a b : Int} (h : ¬ (0 ≤ a ∧ a ≤ 99)) : Nt.deedT ⟨k, a, b⟩ = [] := by
  refine Nt.deedT_none (fun hd => ?_)
  rcases hd.cases with ⟨x, y, hx, hy, e⟩ | ⟨x, hx, e⟩ | ⟨x, hx, e⟩ | e | e <;> (simp only [Nt.Dd.mk.injEq] at e; omega)
theorem deedT_no2 {k a b : Int} (h : ¬ (0 ≤ b ∧ b ≤ 99)) : Nt.deedT ⟨k, a, b⟩ = [] := by
  refine Nt.deedT_none (fun hd => ?_)
  rcases hd.cases with ⟨x, y, hx, hy, e⟩ | ⟨x, hx, e⟩ | ⟨x, hx, e⟩ | e | e <;> (simp only [Nt.Dd.mk.injEq] at e; omega)
theorem deedT_no3 {k a b : Int} (h0 : ¬ k = 0) (h1 : ¬ (k = 1 ∧ b = 0)) (h3 : ¬ (k = 3 ∧ b = 0)) (h2 : ¬ (k = 2 ∧ a = 0 ∧ b = 0)) (h4 : ¬ (k = 4 ∧ a = 0 ∧ b = 0)) : Nt.deedT ⟨k, a, b⟩ = [] := by
  refine Nt.deedT_none (fun hd => ?_)
  rcases hd.cases with ⟨x, y, hx, hy, e⟩ | ⟨x, hx, e⟩ | ⟨x, hx, e⟩ | e | e <;> (simp only [Nt.Dd.mk.injEq] at e; omega)
theorem deedT_join {a b : Nat} (ha : a ≤ 99) (hb : b ≤ 99) : Nt.deedT ⟨0, a, b⟩ = [106, 111, 105, 110, 32] ++ Nt.digs a ++ [32] ++ Nt.digs b := by
  unfold Nt.deedT
  rw [Nt.deedW_join ha hb, Nt.join_cons 32 _ (by simp), Nt.join_cons 32 _ (by simp)]
  simp [Nt.join, Nt.wJoin]
theorem deedT_light {a : Nat} (ha : a ≤ 99) : Nt.deedT ⟨1, a, 0⟩ = [108, 105, 103, 104, 116, 32] ++ Nt.digs a := by
  unfold Nt.deedT
  rw [Nt.deedW_light ha, Nt.join_cons 32 _ (by simp)]
  simp [Nt.join, Nt.wLight]
theorem deedT_kinds {a : Nat} (ha : a ≤ 99) : Nt.deedT ⟨3, a, 0⟩ = [107, 105, 110, 100, 115, 32] ++ Nt.digs a := by
  unfold Nt.deedT
  rw [Nt.deedW_kinds ha, Nt.join_cons 32 _ (by simp)]
  simp [Nt.join, Nt.wKinds]
theorem deedT_step : Nt.deedT ⟨2, 0, 0⟩ = [115, 116, 101, 112] := by decide
theorem deedT_back : Nt.deedT ⟨4, 0, 0⟩ = [98, 97, 99, 107] := by decide
theorem digs99 {n : Nat} (h : n ≤ 99) : (Nt.digs n).length ≤ 2 := Nt.digs_length (n := n) 1 (by omega)

set_option maxHeartbeats 4000000 in
set_option maxRecDepth 100000 in
theorem sDeedText_any (k a b : Int) (w : World) :
    Calls Tryz.prog 100 #[.agg #[.int .i64 k, .int .i64 a, .int .i64 b]] w fun e w' => ∃ z, e = .returned (.string z) ∧ tx z = Nt.deedT ⟨k, a, b⟩ ∧ Kept [] w w' := by
  have hk0 : Kept [] w (w.alloc (.cells #[.int .i64 k, .int .i64 a, .int .i64 b] 41)) := (Kept.refl [] w).alloc _
  have hb0 := Bk.new w 41 #[.int .i64 k, .int .i64 a, .int .i64 b]
  have HB := Lib.hid hb0
  have HK0 := Lib.hid hk0
  obtain ⟨c0, c1, c2⟩ := hb0.three
  clear hb0 hk0
  by_cases ha : 0 ≤ a ∧ a ≤ 99
  · have d1 : decide (0 ≤ a ∧ a ≤ 99) = true := dec_of ha
    by_cases hb : 0 ≤ b ∧ b ≤ 99
    · have d2 : decide (0 ≤ b ∧ b ≤ 99) = true := dec_of hb
      obtain ⟨x, rfl⟩ := Int.eq_ofNat_of_zero_le ha.1
      obtain ⟨y, rfl⟩ := Int.eq_ofNat_of_zero_le hb.1
      have hx : x ≤ 99 := by omega
      have hy : y ≤ 99 := by omega
      have HDX := Lib.hid (digs99 hx)
      have HDY := Lib.hid (digs99 hy)
      have HX6 := Lib.hid (show x < 1000000 by omega)
      have HY6 := Lib.hid (show y < 1000000 by omega)
      clear ha hb
      go_enter Tryz.func100, Tryz.ntmps100
      go_wp2_with fail
      generalize w.alloc (.cells #[.int .i64 k, .int .i64 (x : Int), .int .i64 (y : Int)] 41) = W0 at *
      refine (l1In_any (x : Int) 0 99 _).mono ?_
      rintro e w' ⟨rfl, rfl⟩
      rw [d1]
      go_wp2_with fail
      refine (l1In_any (y : Int) 0 99 _).mono ?_
      rintro e w' ⟨rfl, rfl⟩
      rw [d2]
      clear d1 d2
      by_cases h0 : k = 0
      · subst h0
        have HF := Lib.hid (deedT_join hx hy)
        have hs4 : (fun w' : World => w'.cell? ⟨w.heap.size, 0, none⟩ = some (.int .i64 0) ∧ w'.cell? ⟨w.heap.size, 1, none⟩ = some (.int .i64 (x : Int)) ∧ w'.cell? ⟨w.heap.size, 2, none⟩ = some (.int .i64 (y : Int))) W0.drew := (HB.out.stay ((Kept.refl [] W0).drew)).three
        clear hx hy
        go_wp2_with fail
        clear c0 c1 c2
        go_region_held3 (fun w' => w'.cell? ⟨w.heap.size, 0, none⟩ = some (.int .i64 0) ∧ w'.cell? ⟨w.heap.size, 1, none⟩ = some (.int .i64 (x : Int)) ∧ w'.cell? ⟨w.heap.size, 2, none⟩ = some (.int .i64 (y : Int)))
          (first | exact hs4 | exact y5 | exact y6 | go_keep)
          (first
            | (go_simp; go_at_call 123; (with_reducible refine (l1Number_any x HX6.out _).mono ?_); rintro e w5 ⟨z5, rfl, hz5, hk5⟩; have hk5' := (show Kept [] W0 w5 from ⟨hk5.os, hk5.tape, hk5.output, hk5.size, hk5.block⟩); have HK5 := Lib.hid hk5'; have y5 := (HB.out.stay hk5').three; have hl5 : z5.size ≤ 2 := (by rw [← tx_length, hz5]; exact HDX.out); obtain ⟨p1, hp1, hl1, hadd1⟩ := add_tx ⟨#[106, 111, 105, 110, 32]⟩ z5 (by show 5 + z5.size ≤ _; omega); obtain ⟨p2, hp2, hl2, hadd2⟩ := add_tx p1 ⟨#[32]⟩ (by rw [hl1]; show 5 + z5.size + 1 ≤ _; omega); have HP2 : Hid (tx p2 = [106, 111, 105, 110, 32] ++ Nt.digs x ++ [32]) := Lib.hid (by rw [hp2, hp1, hz5]; rfl); have HL2 : Hid (p2.size ≤ 10) := Lib.hid (by rw [hl2, hl1]; show 5 + z5.size + 1 ≤ _; omega); clear hk5 hk5' hz5 hl5 hp1 hp2 hl1 hl2)
            | (go_simp; go_at_call 123; (with_reducible refine (l1Number_any y HY6.out _).mono ?_); rintro e w6 ⟨z6, rfl, hz6, hk6⟩; have HK6 := Lib.hid (HK5.out.trans hk6 (by simp)); have y6 := (HB.out.stay HK6.out).three; have hl6 : z6.size ≤ 2 := (by rw [← tx_length, hz6]; exact HDY.out); obtain ⟨p3, hp3, hl3, hadd3⟩ := add_tx p2 z6 (by have := HL2.out; omega); have HP3 : Hid (tx p3 = Nt.deedT ⟨0, (x : Int), (y : Int)⟩) := Lib.hid (by rw [HF.out, hp3, HP2.out, hz6]); clear hk6 hz6 hl6 hp3 hl3 y5))
        all_goals
          go_wp2
          go_ret
          exact ⟨_, rfl, HP3.out, HK0.out.trans HK6.out (by simp)⟩
      have k0 : (k == 0) = false := by simpa using h0
      by_cases h1 : k = 1 ∧ y = 0
      · obtain ⟨rfl, rfl⟩ := h1
        have HF := Lib.hid (deedT_light (a := x) (by omega))
        go_wp2_with fail
        refine (l1Number_any x (by omega) _).mono ?_
        rintro e w5 ⟨z5, rfl, hz5, hk5⟩
        obtain ⟨p1, hp1, _, hadd1⟩ := add_tx ⟨#[108, 105, 103, 104, 116, 32]⟩ z5 (by have := HDX.out; rw [← hz5, tx_length] at this; show 6 + z5.size ≤ _; omega)
        have HP : Hid (tx p1 = Nt.deedT _) := Lib.hid (by rw [HF.out, hp1, hz5]; rfl)
        have HK5 := Lib.hid (HK0.out.trans hk5 (by simp))
        clear hp1 hz5 hk5
        go_wp2
        go_ret
        exact ⟨_, rfl, HP.out, HK5.out⟩
      by_cases h3 : k = 3 ∧ y = 0
      · obtain ⟨rfl, rfl⟩ := h3
        have HF := Lib.hid (deedT_kinds (a := x) (by omega))
        go_wp2_with fail
        refine (l1Number_any x (by omega) _).mono ?_
        rintro e w5 ⟨z5, rfl, hz5, hk5⟩
        obtain ⟨p1, hp1, _, hadd1⟩ := add_tx ⟨#[107, 105, 110, 100, 115, 32]⟩ z5 (by have := HDX.out; rw [← hz5, tx_length] at this; show 6 + z5.size ≤ _; omega)
        have HP : Hid (tx p1 = Nt.deedT _) := Lib.hid (by rw [HF.out, hp1, hz5]; rfl)
        have HK5 := Lib.hid (HK0.out.trans hk5 (by simp))
        clear hp1 hz5 hk5
        go_wp2
        go_ret
        exact ⟨_, rfl, HP.out, HK5.out⟩
      by_cases h2 : k = 2 ∧ x = 0 ∧ y = 0
      · obtain ⟨rfl, rfl, rfl⟩ := h2
        go_wp2
        go_ret
        exact ⟨_, rfl, by rw [show Nt.deedT ⟨2, ((0 : Nat) : Int), ((0 : Nat) : Int)⟩ = _ from deedT_step]; rfl, HK0.out⟩
      by_cases h4 : k = 4 ∧ x = 0 ∧ y = 0
      · obtain ⟨rfl, rfl, rfl⟩ := h4
        go_wp2
        go_ret
        exact ⟨_, rfl, by rw [show Nt.deedT ⟨4, ((0 : Nat) : Int), ((0 : Nat) : Int)⟩ = _ from deedT_back]; rfl, HK0.out⟩
      have HF := Lib.hid (deedT_no3 (a := (x : Int)) (b := (y : Int)) h0 (by omega) (by omega) (by omega) (by omega))
      by_cases hy0 : y = 0
      · subst hy0
        have k1 : (k == 1) = false := by simp; omega
        have k3 : (k == 3) = false := by simp; omega
        by_cases hx0 : x = 0
        · subst hx0
          have k2 : (k == 2) = false := by simp; omega
          have k4 : (k == 4) = false := by simp; omega
          clear h0 h1 h2 h3 h4
          go_wp2
          go_ret
          exact ⟨_, rfl, by rw [HF.out]; rfl, HK0.out⟩
        · have e0 : ((x : Int) == 0) = false := by simp; omega
          clear h0 h1 h2 h3 h4
          go_wp2
          go_ret
          exact ⟨_, rfl, by rw [HF.out]; rfl, HK0.out⟩
      · have e0 : ((y : Int) == 0) = false := by simp; omega
        clear h0 h1 h2 h3 h4
        go_wp2
        go_ret
        exact ⟨_, rfl, by rw [HF.out]; rfl, HK0.out⟩
    · have d2 : decide (0 ≤ b ∧ b ≤ 99) = false := dec_not hb
      have HF := Lib.hid (deedT_no2 (k := k) (a := a) hb)
      go_enter Tryz.func100, Tryz.ntmps100
      go_wp2_with (go_at_call 151; first | (with_reducible refine (l1In_any a 0 99 _).mono ?_; rintro e w' ⟨rfl, rfl⟩; rw [d1]) | (refine (l1In_any b 0 99 _).mono ?_; rintro e w' ⟨rfl, rfl⟩; rw [d2]))
      go_ret
      exact ⟨_, rfl, by rw [HF.out]; rfl, HK0.out⟩
  · have d1 : decide (0 ≤ a ∧ a ≤ 99) = false := dec_not ha
    have HF := Lib.hid (deedT_no1 (k := k) (b := b) ha)
    go_enter Tryz.func100, Tryz.ntmps100
    go_wp2_with (go_at_call 151; refine (l1In_any a 0 99 _).mono ?_; rintro e w' ⟨rfl, rfl⟩; rw [d1])
    go_ret
    exact ⟨_, rfl, by rw [HF.out]; rfl, HK0.out⟩
end Go.Proofs.YtnajdbnacdnnlaaGreatDoor

namespace Go.Proofs.YtnajdbnacdnnlaaGreatDoor
open Go.RowKit

/-- Triples as cells. -/
def tri (xs : List (Value × Value × Value)) : List Value := xs.flatMap fun x => [x.1, x.2.1, x.2.2]
def at3 (xs : List (Value × Value × Value)) (k : Nat) : Value × Value × Value := xs.getD k (undef, undef, undef)
theorem tri_length : ∀ xs : List (Value × Value × Value), (tri xs).length = xs.length * 3
  | [] => rfl
  | x :: xs => by
    have ih := tri_length xs
    unfold tri at *
    rw [List.flatMap_cons, List.length_append, ih, List.length_cons]
    show 3 + xs.length * 3 = (xs.length + 1) * 3
    omega
theorem tri_append (xs ys : List (Value × Value × Value)) : tri (xs ++ ys) = tri xs ++ tri ys := by simp [tri]
theorem tri_get : ∀ (xs : List (Value × Value × Value)) (k : Nat), k < xs.length → (tri xs)[k * 3]? = some (at3 xs k).1 ∧ (tri xs)[k * 3 + 1]? = some (at3 xs k).2.1 ∧ (tri xs)[k * 3 + 2]? = some (at3 xs k).2.2
  | [], k, h => absurd h (by simp)
  | x :: xs, 0, _ => ⟨rfl, rfl, rfl⟩
  | x :: xs, k + 1, h => by
    have ih := tri_get xs k (by simpa using h)
    have e : tri (x :: xs) = x.1 :: x.2.1 :: x.2.2 :: tri xs := rfl
    have e2 : at3 (x :: xs) (k + 1) = at3 xs k := by simp [at3]
    rw [e, e2, show (k + 1) * 3 = k * 3 + 1 + 1 + 1 by omega]
    simp only [List.getElem?_cons_succ]
    exact ih
theorem at3_append_left {xs ys : List (Value × Value × Value)} {k : Nat} (h : k < xs.length) : at3 (xs ++ ys) k = at3 xs k := by
  unfold at3; rw [List.getD_eq_getElem?_getD, List.getElem?_append_left h, ← List.getD_eq_getElem?_getD]
theorem at3_snoc (xs : List (Value × Value × Value)) (x : Value × Value × Value) : at3 (xs ++ [x]) xs.length = x := by simp [at3]

/-- A slice of triples, at the head of a block from 'base' on that nothing freezes, or nil. -/
def Tg (T : TypeId) (w : World) (base : Nat) (v : Value) (xs : List (Value × Value × Value)) : Prop := w.ownsRow base T 3 v xs.length (tri xs)
theorem Tg.form {T : TypeId} {w : World} {base : Nat} {v : Value} {xs : List (Value × Value × Value)} (h : Tg T w base v xs) :
    (v = .slice none 0 0 ∧ xs = []) ∨ ∃ g cap, v = .slice (some ⟨g, 0, none⟩) xs.length cap ∧ base ≤ g ∧ g < w.heap.size ∧ xs.length ≤ cap ∧ cap ≤ 9223372036854775807 ∧
      (∀ k, k < xs.length → w.cell? ⟨g, k * 3, none⟩ = some (at3 xs k).1 ∧ w.cell? ⟨g, k * 3 + 1, none⟩ = some (at3 xs k).2.1 ∧ w.cell? ⟨g, k * 3 + 2, none⟩ = some (at3 xs k).2.2) ∧ (∀ k, w.frozen? ⟨g, k, none⟩ = false) := by
  rcases h.2 with ⟨rfl, hn⟩ | ⟨g, cap, cur, rfl, hb, hg, hc, hm, hs, ht⟩
  · exact .inl ⟨rfl, List.eq_nil_of_length_eq_zero hn⟩
  · refine .inr ⟨g, cap, rfl, hb, (Array.getElem?_eq_some_iff.1 hg).1, hc, by simpa [maxLen] using hm, fun k hk => ⟨?_, ?_, ?_⟩, fun k => World.ownsRow.frozenAt h k⟩
    · rw [World.ownsRow.cellAt h (k * 3) (by omega)]
      exact (tri_get xs k hk).1
    · rw [World.ownsRow.cellAt h (k * 3 + 1) (by omega)]
      exact (tri_get xs k hk).2.1
    · rw [World.ownsRow.cellAt h (k * 3 + 2) (by omega)]
      exact (tri_get xs k hk).2.2
theorem Tg.nil (T : TypeId) (w : World) (base : Nat) : Tg T w base (.slice none 0 0) [] := World.ownsRow_nil w base _ 3
theorem Tg.lit (T : TypeId) (w : World) (xs : List (Value × Value × Value)) (hl : xs.length ≤ 1000) : Tg T (w.alloc (.cells (tri xs).toArray T)) w.heap.size (.slice (some ⟨w.heap.size, 0, none⟩) xs.length xs.length) xs := by
  have := World.ownsRow_lit (base := w.heap.size) (e := T) (size := 3) w (tri xs).toArray xs.length (Nat.le_refl _) (by simp only [maxLen]; omega) (by simp [tri_length])
  unfold Tg
  exact this
theorem Tg.kept {T : TypeId} {w w' : World} {base : Nat} {v : Value} {xs : List (Value × Value × Value)} {rows : List Nat} (h : Tg T w base v xs) (hk : Kept rows w w') (hn : ∀ g, v.ownBlock = some g → ¬ g ∈ rows) : Tg T w' base v xs := by
  refine ⟨h.1, ?_⟩
  rcases h.2 with hn | ⟨g, cap, cur, rfl, hb, hgg, rest⟩
  · exact .inl hn
  · refine .inr ⟨g, cap, cur, rfl, hb, ?_, rest⟩
    rw [hk.block g (Array.getElem?_eq_some_iff.1 hgg).1 (hn g rfl)]
    exact hgg
theorem Tg.stay {T : TypeId} {w w' : World} {base : Nat} {v : Value} {xs : List (Value × Value × Value)} (h : Tg T w base v xs) (hk : Kept [] w w') : Tg T w' base v xs := h.kept hk (by simp)
theorem Tg.mono {T : TypeId} {w : World} {base base' : Nat} {v : Value} {xs : List (Value × Value × Value)} (h : Tg T w base v xs) (hb : base' ≤ base) : Tg T w base' v xs := by
  refine ⟨h.1, ?_⟩
  rcases h.2 with hn | ⟨g, cap, cur, hv, hbg, rest⟩
  · exact .inl hn
  · exact .inr ⟨g, cap, cur, hv, by omega, rest⟩
theorem Tg.block {T : TypeId} {w : World} {base : Nat} {v : Value} {xs : List (Value × Value × Value)} (h : Tg T w base v xs) {g : Nat} (hg : v.ownBlock = some g) : base ≤ g ∧ g < w.heap.size := World.ownsRow.lt h g hg
theorem Tg.any {T : TypeId} {w : World} {base : Nat} {v : Value} {xs : List (Value × Value × Value)} (h : Tg T w base v xs) : ∃ (a : Option Addr) (cap : Nat), v = .slice a xs.length cap := by
  rcases h.form with ⟨rfl, rfl⟩ | ⟨g, cap, rfl, _⟩
  · exact ⟨none, 0, rfl⟩
  · exact ⟨_, cap, rfl⟩
theorem Tg.shape {T : TypeId} {w : World} {base n : Nat} {v : Value} {xs : List (Value × Value × Value)} (h : Tg T w base v xs) (hn : xs.length = n) (hp : 0 < n) :
    ∃ g cap, v = .slice (some ⟨g, 0, none⟩) n cap ∧ base ≤ g ∧ g < w.heap.size ∧ n ≤ cap ∧ cap ≤ 9223372036854775807 ∧ (∀ k, k < n → w.cell? ⟨g, k * 3, none⟩ = some (at3 xs k).1 ∧ w.cell? ⟨g, k * 3 + 1, none⟩ = some (at3 xs k).2.1 ∧ w.cell? ⟨g, k * 3 + 2, none⟩ = some (at3 xs k).2.2) := by
  subst hn
  rcases h.form with ⟨rfl, rfl⟩ | ⟨g, cap, rfl, hb, hg, hc, hm, hcell, hfr⟩
  · simp at hp
  · exact ⟨g, cap, rfl, hb, hg, hc, hm, hcell⟩

/-- 'append(out, ..)' of triples that lie in a block of their own. -/
theorem app_tri {ops : Array Oper} {rest : List Oper} {o : Oper} {a : Act} {Q : Exit → Act → World → Prop} {w0 : World} (T TS : TypeId) (z : Value) (bytes : Nat) (ht : Tryz.prog.underlying TS = some (.slice T)) (hinfo : (Tryz.prog.info? T).map (fun i => (i.zero, i.size, i.bytes)) = some (some z, 3, bytes)) (hz : z.cells.size = 3) (hby : bytes ≤ 100)
    (xs ys : List (Value × Value × Value)) (h1 : ∀ u ∈ tri ys, u.oneCell' = true) (hgd : o.guard = none) (s y : Operand)
    (ho : o.op = .call { callee := .builtin .append, args := #[s, y], argTypes := #[TS, TS] })
    (base : Nat) (v : Value) (hown : Tg T w0 base v xs) (hs : a.eval s = v) (m : Nat) (hm : ys.length = m) (hx : a.eval y = .slice (some ⟨w0.heap.size, 0, none⟩) m m)
    (hlen : xs.length + ys.length ≤ 2000000) (hbase : base ≤ w0.heap.size)
    (h : ∀ v' w', Tg T w' base v' (xs ++ ys) → Kept v.ownBlock.toList w0 w' → wpList Tryz.prog ops Q rest (a.put o.dst v') w') :
    wpList Tryz.prog ops Q (o :: rest) a (w0.alloc (.cells (tri ys).toArray T)) := by
  subst hm
  obtain ⟨i0, hi, hz0, hz1, hz2⟩ := info_parts hinfo
  have hbb : (xs.length + ys.length) * bytes ≤ 2000000 * 100 := Nat.mul_le_mul hlen hby
  refine wpList_append_own _ hgd s y _ ho base T i0 z 3 bytes ht hi hz0 hz1 hz2 hz (by decide) v xs.length (tri xs) hs (World.ownsRow.alloc hown _)
    ⟨w0.heap.size, 0, none⟩ ys.length ys.length (tri ys) hx (tri_length ys) ?_ h1 (by unfold maxLen; omega) (by omega) (by simp; omega) ?_
  · intro j u hj
    have e : (⟨w0.heap.size, 0, none⟩ : Addr).add j = ⟨w0.heap.size, j, none⟩ := by unfold Addr.add; split <;> simp_all
    rw [e]
    have hb := Bk.new w0 T (tri ys).toArray
    exact hb.cell j (by simpa using hj)
  · intro v' w' h1 h2 _
    refine h v' w' ?_ ?_
    · unfold Tg
      rw [List.length_append, tri_append]
      exact h1
    · refine (Kept.refl _ _).alloc _ |>.grown h2 fun k hk => .inl (by rw [hk]; simp)

/-- The same inside a statement whose order is open. -/
theorem step_app_tri {ops : Array Oper} {o : Oper} {a : Act} {K : Act → World → Prop} {Q : Exit → Act → World → Prop} {E : Prop} {W : World} (T TS : TypeId) (z : Value) (bytes : Nat) (ht : Tryz.prog.underlying TS = some (.slice T)) (hinfo : (Tryz.prog.info? T).map (fun i => (i.zero, i.size, i.bytes)) = some (some z, 3, bytes)) (hz : z.cells.size = 3) (hby : bytes ≤ 100)
    (xs ys : List (Value × Value × Value)) (h1 : ∀ u ∈ tri ys, u.oneCell' = true) (hgd : o.guard = none) (s y : Operand)
    (ho : o.op = .call { callee := .builtin .append, args := #[s, y], argTypes := #[TS, TS] })
    (base : Nat) (v : Value) (hown : Tg T W base v xs) (hs : a.eval s = v) (m : Nat) (hm : ys.length = m) (g : Nat) (hx : a.eval y = .slice (some ⟨g, 0, none⟩) m m) (hbk : Bk W g T (tri ys).toArray)
    (hlen : xs.length + ys.length ≤ 2000000) (hbase : base ≤ W.heap.size)
    (h : ∀ v' w', Tg T w' base v' (xs ++ ys) → Kept v.ownBlock.toList W w' → K (a.put o.dst v') w') :
    if Region.wanted o (yielded ops a.tmps) = true then Oper.wp Tryz.prog o a W K Q else E := by
  have hw : Region.wanted o (yielded ops a.tmps) = true := by simp [Region.wanted, hgd]
  rw [if_pos hw]
  subst hm
  obtain ⟨i0, hi, hz0, hz1, hz2⟩ := info_parts hinfo
  have hbb : (xs.length + ys.length) * bytes ≤ 2000000 * 100 := Nat.mul_le_mul hlen hby
  refine wp_append_own W s y _ ho base T i0 z 3 bytes ht hi hz0 hz1 hz2 hz (by decide) v xs.length (tri xs) hs hown
    ⟨g, 0, none⟩ ys.length ys.length (tri ys) hx (tri_length ys) ?_ h1 (by unfold maxLen; omega) (by omega) hbase ?_
  · intro j u hj
    have e : (⟨g, 0, none⟩ : Addr).add j = ⟨g, j, none⟩ := by unfold Addr.add; split <;> simp_all
    rw [e]
    exact hbk.cell j (by simpa using hj)
  · intro v' w' h1 h2 _
    refine h v' w' ?_ ?_
    · unfold Tg
      rw [List.length_append, tri_append]
      exact h1
    · exact (Kept.refl _ _).grown h2 fun k hk => .inl (by rw [hk]; simp)

/-- The same, wherever the triples lie. -/
theorem app_triG {ops : Array Oper} {rest : List Oper} {o : Oper} {a : Act} {Q : Exit → Act → World → Prop} {W : World} (T TS : TypeId) (z : Value) (bytes : Nat) (ht : Tryz.prog.underlying TS = some (.slice T)) (hinfo : (Tryz.prog.info? T).map (fun i => (i.zero, i.size, i.bytes)) = some (some z, 3, bytes)) (hz : z.cells.size = 3) (hby : bytes ≤ 100)
    (xs ys : List (Value × Value × Value)) (h1 : ∀ u ∈ tri ys, u.oneCell' = true) (hgd : o.guard = none) (s y : Operand)
    (ho : o.op = .call { callee := .builtin .append, args := #[s, y], argTypes := #[TS, TS] })
    (base : Nat) (v : Value) (hown : Tg T W base v xs) (hs : a.eval s = v) (m : Nat) (hm : ys.length = m) (g : Nat) (hx : a.eval y = .slice (some ⟨g, 0, none⟩) m m) (hbk : Bk W g T (tri ys).toArray)
    (hlen : xs.length + ys.length ≤ 2000000) (hbase : base ≤ W.heap.size)
    (h : ∀ v' w', Tg T w' base v' (xs ++ ys) → Kept v.ownBlock.toList W w' → wpList Tryz.prog ops Q rest (a.put o.dst v') w') :
    wpList Tryz.prog ops Q (o :: rest) a W := by
  subst hm
  obtain ⟨i0, hi, hz0, hz1, hz2⟩ := info_parts hinfo
  have hbb : (xs.length + ys.length) * bytes ≤ 2000000 * 100 := Nat.mul_le_mul hlen hby
  refine wpList_append_own _ hgd s y _ ho base T i0 z 3 bytes ht hi hz0 hz1 hz2 hz (by decide) v xs.length (tri xs) hs hown
    ⟨g, 0, none⟩ ys.length ys.length (tri ys) hx (tri_length ys) ?_ h1 (by unfold maxLen; omega) (by omega) hbase ?_
  · intro j u hj
    have e : (⟨g, 0, none⟩ : Addr).add j = ⟨g, j, none⟩ := by unfold Addr.add; split <;> simp_all
    rw [e]
    exact hbk.cell j (by simpa using hj)
  · intro v' w' h1 h2 _
    refine h v' w' ?_ ?_
    · unfold Tg
      rw [List.length_append, tri_append]
      exact h1
    · exact (Kept.refl _ _).grown h2 fun k hk => .inl (by rw [hk]; simp)

/-! Deeds. -/
def d3 (d : Nt.Dd) : Value × Value × Value := (.int .i64 d.kind, .int .i64 d.a, .int .i64 d.b)
def Dg (w : World) (base : Nat) (v : Value) (ds : List Nt.Dd) : Prop := Tg 41 w base v (ds.map d3)
theorem info_deed : (Tryz.prog.info? 41).map (fun i => (i.zero, i.size, i.bytes)) = some (some (.agg #[.int .i64 0, .int .i64 0, .int .i64 0]), 3, 24) := by kernel_rfl
theorem d3_one (ds : List Nt.Dd) : ∀ u ∈ tri (ds.map d3), u.oneCell' = true := by
  intro u hu
  unfold tri at hu
  rw [List.mem_flatMap] at hu
  obtain ⟨x, hx, hu⟩ := hu
  rw [List.mem_map] at hx
  obtain ⟨d, _, rfl⟩ := hx
  simp [d3] at hu
  rcases hu with rfl | rfl | rfl <;> rfl
theorem d3_at (ds : List Nt.Dd) {k : Nat} (h : k < ds.length) : at3 (ds.map d3) k = d3 (ds.getD k ⟨0, 0, 0⟩) := by
  simp [at3, List.getD_eq_getElem?_getD, h]
end Go.Proofs.YtnajdbnacdnnlaaGreatDoor

namespace Go.Proofs.YtnajdbnacdnnlaaGreatDoor
open Go.RowKit

def piAt (ps : List Nt.Pi) (k : Nat) : Nt.Pi := ps.getD k Nt.Pi.zero
/-- A place in three cells. -/
def Pc (w : World) (base g o : Nat) (p : Nt.Pi) : Prop :=
  ∃ x y, w.cell? ⟨g, o, none⟩ = some x ∧ w.cell? ⟨g, o + 1, none⟩ = some (.int .i64 p.c) ∧ w.cell? ⟨g, o + 2, none⟩ = some y ∧ Sl w base x p.ns ∧ Sl w base y p.ks
/-- A slice of places, wherever it begins. -/
def Ps (w : World) (base : Nat) (v : Value) (ps : List Nt.Pi) : Prop :=
  ∃ (a : Option Addr) (cap : Nat), v = .slice a ps.length cap ∧ (a = none → cap = 0) ∧ ps.length ≤ cap ∧ cap ≤ 9223372036854775807 ∧
    ∀ k, k < ps.length → ∃ g off, a = some ⟨g, off, none⟩ ∧ base ≤ g ∧ g < w.heap.size ∧ Pc w base g (off + k * 3) (piAt ps k)
theorem Pc.stay {w w' : World} {base g o : Nat} {p : Nt.Pi} (h : Pc w base g o p) (hg : g < w.heap.size) (hk : Kept [] w w') : Pc w' base g o p := by
  obtain ⟨x, y, h1, h2, h3, h4, h5⟩ := h
  exact ⟨x, y, (hk.cell (p := ⟨g, o, none⟩) hg (by simp)).trans h1, (hk.cell (p := ⟨g, o + 1, none⟩) hg (by simp)).trans h2, (hk.cell (p := ⟨g, o + 2, none⟩) hg (by simp)).trans h3, h4.stay hk, h5.stay hk⟩
theorem Pc.mono {w : World} {base base' g o : Nat} {p : Nt.Pi} (h : Pc w base g o p) (hb : base' ≤ base) : Pc w base' g o p := by
  obtain ⟨x, y, h1, h2, h3, h4, h5⟩ := h
  exact ⟨x, y, h1, h2, h3, h4.mono hb, h5.mono hb⟩
theorem Ps.stay {w w' : World} {base : Nat} {v : Value} {ps : List Nt.Pi} (h : Ps w base v ps) (hk : Kept [] w w') : Ps w' base v ps := by
  obtain ⟨a, cap, rfl, hz, h1, h2, h3⟩ := h
  refine ⟨a, cap, rfl, hz, h1, h2, fun k hkl => ?_⟩
  obtain ⟨g, off, e, hb, hg, hp⟩ := h3 k hkl
  exact ⟨g, off, e, hb, Nat.lt_of_lt_of_le hg hk.size, hp.stay hg hk⟩
theorem Ps.mono {w : World} {base base' : Nat} {v : Value} {ps : List Nt.Pi} (h : Ps w base v ps) (hb : base' ≤ base) : Ps w base' v ps := by
  obtain ⟨a, cap, rfl, hz, h1, h2, h3⟩ := h
  refine ⟨a, cap, rfl, hz, h1, h2, fun k hkl => ?_⟩
  obtain ⟨g, off, e, hb2, hg, hp⟩ := h3 k hkl
  exact ⟨g, off, e, by omega, hg, hp.mono hb⟩
theorem Ps.nil (w : World) (base : Nat) : Ps w base (.slice none 0 0) [] := ⟨none, 0, rfl, fun _ => rfl, by simp, by simp, fun k h => by simp at h⟩
/-- A desk as a value. -/
def Dv (w : World) (base : Nat) (x : Value) (d : Nt.Di) : Prop := ∃ v u r, x = .agg #[v, .int .i64 d.now.c, u, r] ∧ Sl w base v d.now.ns ∧ Sl w base u d.now.ks ∧ Ps w base r d.past
theorem Dv.stay {w w' : World} {base : Nat} {x : Value} {d : Nt.Di} (h : Dv w base x d) (hk : Kept [] w w') : Dv w' base x d := by
  obtain ⟨v, u, r, rfl, h1, h2, h3⟩ := h
  exact ⟨v, u, r, rfl, h1.stay hk, h2.stay hk, h3.stay hk⟩
theorem Dv.mono {w : World} {base base' : Nat} {x : Value} {d : Nt.Di} (h : Dv w base x d) (hb : base' ≤ base) : Dv w base' x d := by
  obtain ⟨v, u, r, rfl, h1, h2, h3⟩ := h
  exact ⟨v, u, r, rfl, h1.mono hb, h2.mono hb, h3.mono hb⟩
theorem Dv.zero (w : World) (base : Nat) : Dv w base (.agg #[.slice none 0 0, .int .i64 0, .slice none 0 0, .slice none 0 0]) Nt.Di.zero := ⟨_, _, _, rfl, Sl.nil w base, Sl.nil w base, Ps.nil w base⟩
theorem Bk.four {w : World} {g : Nat} {T : TypeId} {a b c d : Value} (h : Bk w g T #[a, b, c, d]) : w.cell? ⟨g, 0, none⟩ = some a ∧ w.cell? ⟨g, 1, none⟩ = some b ∧ w.cell? ⟨g, 2, none⟩ = some c ∧ w.cell? ⟨g, 3, none⟩ = some d := ⟨h.cell 0 rfl, h.cell 1 rfl, h.cell 2 rfl, h.cell 3 rfl⟩
theorem Bk.set4 {w : World} {g : Nat} {T : TypeId} {a b c d : Value} (h : Bk w g T #[a, b, c, d]) (e f p q : Value) : Bk ((((w.setCell ⟨g, 0, none⟩ e).setCell ⟨g, 1, none⟩ f).setCell ⟨g, 2, none⟩ p).setCell ⟨g, 3, none⟩ q) g T #[e, f, p, q] := (((h.set 0 e).set 1 f).set 2 p).set 3 q
theorem Kept.set4 {w w' : World} {g : Nat} (h : Kept [] w w') (hg : w.heap.size ≤ g) (d e f q : Value) : Kept [] w ((((w'.setCell ⟨g, 0, none⟩ d).setCell ⟨g, 1, none⟩ e).setCell ⟨g, 2, none⟩ f).setCell ⟨g, 3, none⟩ q) :=
  (((h.setCell (.inr hg) d).setCell (.inr hg) e).setCell (.inr hg) f).setCell (.inr hg) q
theorem Kept.rows4 (w : World) (g : Nat) (d e f q : Value) : Kept [g] w ((((w.setCell ⟨g, 0, none⟩ d).setCell ⟨g, 1, none⟩ e).setCell ⟨g, 2, none⟩ f).setCell ⟨g, 3, none⟩ q) :=
  ((((Kept.refl [g] w).setCell (.inl (by simp)) d).setCell (.inl (by simp)) e).setCell (.inl (by simp)) f).setCell (.inl (by simp)) q

/-- All the first places are ones. -/
def okTo (ps : List Nt.Pi) (k : Nat) : Prop := ∀ j, j < k → Nt.plB (piAt ps j) = true
theorem okTo_all {ps : List Nt.Pi} (h : okTo ps ps.length) : ps.all Nt.plB = true := by
  rw [List.all_eq_true]
  intro x hx
  obtain ⟨j, hj, rfl⟩ := List.getElem_of_mem hx
  have := h j hj
  unfold piAt at this
  rw [List.getD_eq_getElem?_getD, List.getElem?_eq_getElem hj] at this
  exact this
theorem notAll {ps : List Nt.Pi} {k : Nat} (hk : k < ps.length) (h : Nt.plB (piAt ps k) = false) : ps.all Nt.plB = false := by
  rw [List.all_eq_false]
  refine ⟨ps[k], List.getElem_mem hk, ?_⟩
  unfold piAt at h
  rw [List.getD_eq_getElem?_getD, List.getElem?_eq_getElem hk] at h
  simpa using h

set_option maxHeartbeats 2000000 in
set_option maxRecDepth 100000 in
theorem sDeskOk_any (d : Nt.Di) (w : World) (x : Value) (base : Nat) (h : Dv w base x d) :
    Calls Tryz.prog 16 #[x] w fun e w' => e = .returned (.bool (Nt.dkB d)) ∧ Kept [] w w' := by
  obtain ⟨v, u, r, rfl, h1, h2, h3⟩ := h
  have hk0 : Kept [] w (w.alloc (.cells #[v, .int .i64 d.now.c, u, r] 33)) := (Kept.refl [] w).alloc _
  have HB := Lib.hid (Bk.new w 33 #[v, .int .i64 d.now.c, u, r])
  have HK0 := Lib.hid hk0
  have HPV : Hid (Pv (w.alloc (.cells #[v, .int .i64 d.now.c, u, r] 33)) base (.agg #[v, .int .i64 d.now.c, u]) d.now) := Lib.hid ⟨v, u, rfl, h1.stay hk0, h2.stay hk0⟩
  have H3 := Lib.hid (h3.stay hk0)
  obtain ⟨a, cap, rfl, _, _, _⟩ := h1.any
  obtain ⟨b, cap2, rfl, _, _, _⟩ := h2.any
  obtain ⟨a3, cap3, rfl, _, _, hc3, _⟩ := h3
  obtain ⟨_, _, e3, _, hl3, _, hp3⟩ := H3.out
  simp only [Value.slice.injEq, true_and] at e3
  obtain ⟨rfl, rfl⟩ := e3
  have HP3 := Lib.hid hp3
  have hm3 : d.past.length ≤ 9223372036854775807 := by omega
  clear h1 h2 hk0 hp3
  go_enter Tryz.func16, Tryz.ntmps16
  go_wp2_with fail
  generalize w.alloc (.cells #[.slice a d.now.ns.length cap, .int .i64 d.now.c, .slice b d.now.ks.length cap2, .slice a3 d.past.length cap3] 33) = W0 at *
  go_loopw [3] (fun i wr => ∃ k : Nat, k ≤ d.past.length ∧ i = .int .i64 k ∧ okTo d.past k ∧ Kept [] W0 wr) (fun i _ => d.past.length - (intOf i).toNat)
  case atStart => exact ⟨0, Nat.zero_le _, rfl, fun j hj => absurd hj (by omega), Kept.refl _ _⟩
  case round =>
    obtain ⟨k, hk, rfl, hok, hkept⟩ := hrel
    have HOK := Lib.hid hok
    have HK := Lib.hid hkept
    obtain ⟨c0, c1, c2, c3⟩ := (HB.out.stay hkept).four
    clear hok
    by_cases hlt : k < d.past.length
    · obtain ⟨g, off, rfl, hbg, hg, hpc⟩ := HP3.out k hlt
      obtain ⟨x, y, p0, p1, p2, hx, hy⟩ := hpc.stay hg hkept
      have HPK : Hid (Pv wr base (.agg #[x, .int .i64 (piAt d.past k).c, y]) (piAt d.past k)) := Lib.hid ⟨x, y, rfl, hx, hy⟩
      have HNA := Lib.hid (notAll hlt)
      have HLT := Lib.hid hlt
      clear hpc hx hy hkept
      generalize hpe : piAt d.past k = p at *
      have HPE := Lib.hid hpe
      clear hpe
      go_wp2_with fail
      refine (sPlaceOk_any p _ _ _ HPK.out).mono ?_
      rintro e w2 ⟨rfl, hk2⟩
      have HK2 := Lib.hid (HK.out.trans hk2 (by simp))
      clear hk2
      cases hb : Nt.plB p
      · have HF : Hid (Nt.dkB d = false) := Lib.hid (by unfold Nt.dkB; rw [HNA.out hb]; simp)
        clear hb
        go_wp2
        go_ret
        exact ⟨by rw [HF.out]; rfl, HK0.out.trans HK2.out (by simp)⟩
      · have HPB := Lib.hid hb
        clear hb
        go_wp2
        go_roundw
        case rel =>
          refine ⟨k + 1, by omega, by go_num, fun j hj => ?_, HK2.out⟩
          by_cases e : j = k
          · subst e; rw [HPE.out]; exact HPB.out
          · exact HOK.out j (by omega)
        case measure => simp [intOf]; omega
    · have hk' : k = d.past.length := by omega
      have HALL : Hid (d.past.all Nt.plB = true) := Lib.hid (okTo_all (by rw [← hk']; exact HOK.out))
      have HF : Hid (Nt.dkB d = (Nt.plB d.now && decide (d.past.length ≤ 8))) := Lib.hid (by unfold Nt.dkB; rw [HALL.out, Bool.and_true])
      have HPN := Lib.hid (HPV.out.stay hkept)
      clear hkept
      generalize hN : d.past.length = N at *
      subst hk'
      go_wp2_with fail
      refine (sPlaceOk_any d.now _ _ _ HPN.out).mono ?_
      rintro e w2 ⟨rfl, hk2⟩
      have HK2 := Lib.hid (HK.out.trans hk2 (by simp))
      obtain ⟨d0, d1, d2, d3⟩ := (HB.out.stay HK2.out).four
      clear hk2 c0 c1 c2 c3
      cases hb : Nt.plB d.now
      · rw [hb] at HF
        go_wp2
        go_ret
        exact ⟨by rw [HF.out]; rfl, HK0.out.trans HK2.out (by simp)⟩
      · rw [hb] at HF
        by_cases h8 : k ≤ 8
        · have e8 : decide ((k : Int) ≤ 8) = true := dec_of (by omega)
          rw [show decide (k ≤ 8) = true from dec_of h8] at HF
          clear h8
          go_wp2
          go_ret
          exact ⟨by rw [HF.out]; rfl, HK0.out.trans HK2.out (by simp)⟩
        · have e8 : decide ((k : Int) ≤ 8) = false := dec_not (by omega)
          rw [show decide (k ≤ 8) = false from dec_not h8] at HF
          clear h8
          go_wp2
          go_ret
          exact ⟨by rw [HF.out]; rfl, HK0.out.trans HK2.out (by simp)⟩

/-- A desk that is returned. -/
theorem ret_desk {W : World} {g : Nat} {a b c d : Value} (h : Bk W g 33 #[a, b, c, d]) :
    (loadVar 33 ⟨g, 0, none⟩).run Tryz.prog W = .ok (.agg #[a, b, c, d]) W :=
  run_loadVar_row W g 33 33 #[a, b, c, d] (0, 0) _ h Tryz.underlying33 rfl (by kernel_rfl)

set_option maxHeartbeats 2000000 in
set_option maxRecDepth 100000 in
theorem sDeskNew_any (p : Nt.Pi) (w : World) (x : Value) (base : Nat) (h : Pv w base x p) :
    Calls Tryz.prog 111 #[x] w fun e w' => ∃ y, e = .returned (.tuple #[y, .bool (Nt.plB p)]) ∧ Dv w' w.heap.size y (Nt.dnew p) ∧ Kept [] w w' := by
  have HPV0 := Lib.hid h
  obtain ⟨v, u, rfl, h1, h2⟩ := h
  obtain ⟨hk0, hb0, hr0⟩ := two_new w 30 33 #[v, .int .i64 p.c, u] #[.slice none 0 0, .int .i64 0, .slice none 0 0, .slice none 0 0]
  have HPV := Lib.hid (HPV0.out.stay hk0)
  have HB := Lib.hid hb0
  have HR := Lib.hid hr0
  have HK0 := Lib.hid hk0
  obtain ⟨a, cap, rfl, _, _, _⟩ := h1.any
  obtain ⟨b, cap2, rfl, _, _, _⟩ := h2.any
  obtain ⟨c0, c1, c2⟩ := hb0.three
  clear h1 h2 hk0 hb0 hr0 HPV0
  go_enter Tryz.func111, Tryz.ntmps111
  go_wp2_with fail
  generalize ((w.alloc (.cells #[.slice a p.ns.length cap, .int .i64 p.c, .slice b p.ks.length cap2] 30)).alloc (.cells #[.slice none 0 0, .int .i64 0, .slice none 0 0, .slice none 0 0] 33)) = W0 at *
  refine (sPlaceOk_any p _ _ _ HPV.out).mono ?_
  rintro e w1 ⟨rfl, hk1⟩
  have HB1 := Lib.hid (HB.out.stay hk1)
  have HR1 := Lib.hid (HR.out.stay hk1)
  have HPV1 := Lib.hid (HPV.out.stay hk1)
  have HK1 := Lib.hid (HK0.out.trans hk1 (by simp))
  clear hk1 c0 c1 c2 HB HR HPV HK0
  cases ho : Nt.plB p
  · obtain ⟨r0, r1, r2, r3⟩ := HR1.out.four
    have f0 := HR1.out.frozen 0
    have f1 := HR1.out.frozen 1
    have f2 := HR1.out.frozen 2
    have f3 := HR1.out.frozen 3
    have HO := Lib.hid ho
    have HF : Hid (Nt.dnew p = Nt.Di.zero) := Lib.hid (by unfold Nt.dnew; rw [if_neg (by simp [ho])])
    go_wp2
    (try simp only [Exit.inBlock, Exit.then])
    refine bodyPost_ret (v := .tuple #[.agg #[.slice none 0 0, .int .i64 0, .slice none 0 0, .slice none 0 0], .bool false]) ?_ rfl ?_
    · rw [results_cell_tmp rfl]
      simp [asAddr, ret_desk (HR1.out.set4 _ _ _ _)]
    · rw [HO.out, HF.out]
      exact ⟨_, rfl, Dv.zero _ _, HK1.out.set4 (by omega) _ _ _ _⟩
  · obtain ⟨q, rfl, hq⟩ := Nt.plB_ok ho
    have HF : Hid (Nt.dnew q.i = ⟨q.i, []⟩) := Lib.hid (by unfold Nt.dnew; rw [if_pos ho])
    have hns : 0 < q.i.ns.length ∧ q.i.ns.length ≤ 100 := by
      have := hq.ok.some
      have := hq.ok.few
      show 0 < (Nt.nats q.ns).length ∧ (Nt.nats q.ns).length ≤ 100
      rw [Nt.nats_length]; omega
    have hks : 0 < q.i.ks.length ∧ q.i.ks.length ≤ 100 := by
      have := hq.st.some
      have := hq.st.few
      show 0 < (Nt.nats q.ks).length ∧ (Nt.nats q.ks).length ≤ 100
      rw [Nt.nats_length]; omega
    have HC := Lib.hid (fun W x b h => sPlace_any q.i hns hks W x b h)
    have HO := Lib.hid ho
    clear hns hks hq ho
    obtain ⟨c0, c1, c2⟩ := HB1.out.three
    go_wp2_with fail
    refine (HC.out _ _ _ HPV1.out).mono ?_
    rintro e w2 ⟨y2, rfl, hpv2, hk2⟩
    have HR2 := Lib.hid (HR1.out.stay hk2)
    have HK2 := Lib.hid (HK1.out.trans hk2 (by simp))
    obtain ⟨v2, u2, rfl, hv2, hu2⟩ := hpv2
    have HV2 := Lib.hid hv2
    have HU2 := Lib.hid hu2
    have HZ1 := Lib.hid HR1.out.lt
    obtain ⟨a2, cp2, rfl, _, _, _⟩ := hv2.any
    obtain ⟨b2, cp3, rfl, _, _, _⟩ := hu2.any
    obtain ⟨r0, r1, r2, r3⟩ := HR2.out.four
    have f0 := HR2.out.frozen 0
    have f1 := HR2.out.frozen 1
    have f2 := HR2.out.frozen 2
    have f3 := HR2.out.frozen 3
    clear hk2 hv2 hu2 c0 c1 c2
    go_wp2
    (try simp only [Exit.inBlock, Exit.then])
    refine bodyPost_ret (v := .tuple #[.agg #[.slice a2 q.i.ns.length cp2, .int .i64 q.i.c, .slice b2 q.i.ks.length cp3, .slice none 0 0], .bool true]) ?_ rfl ?_
    · rw [results_cell_tmp rfl]
      simp [asAddr, ret_desk (HR2.out.set4 _ _ _ _)]
    · have hne : ∀ g : Nat, w1.heap.size ≤ g → ¬ g ∈ [w.heap.size + 1] := fun g h hm => by have := HZ1.out; simp at hm; omega
      have hsz := HK1.out.size
      rw [HO.out, HF.out]
      refine ⟨_, rfl, ?_, HK2.out.set4 (by omega) _ _ _ _⟩
      exact ⟨_, _, _, rfl, (HV2.out.kept (Kept.rows4 w2 (w.heap.size + 1) _ _ _ _) (fun g hg => hne g (HV2.out.block hg).1)).mono hsz, (HU2.out.kept (Kept.rows4 w2 (w.heap.size + 1) _ _ _ _) (fun g hg => hne g (HU2.out.block hg).1)).mono hsz, Ps.nil _ _⟩
end Go.Proofs.YtnajdbnacdnnlaaGreatDoor

namespace Go.Proofs.YtnajdbnacdnnlaaGreatDoor
open Go.RowKit

/-- A slice of places that a call makes itself. -/
def Po (w : World) (base : Nat) (v : Value) (ps : List Nt.Pi) : Prop :=
  ∃ vs : List (Value × Value × Value), Tg 30 w base v vs ∧ vs.length = ps.length ∧
    ∀ k, k < ps.length → ∃ x y, at3 vs k = (x, .int .i64 (piAt ps k).c, y) ∧ Sl w base x (piAt ps k).ns ∧ Sl w base y (piAt ps k).ks
theorem Po.nil (w : World) (base : Nat) : Po w base (.slice none 0 0) [] := ⟨[], Tg.nil _ w base, rfl, fun k h => by simp at h⟩
theorem Po.ps {w : World} {base : Nat} {v : Value} {ps : List Nt.Pi} (h : Po w base v ps) : Ps w base v ps := by
  obtain ⟨vs, h1, h2, h3⟩ := h
  rcases h1.form with ⟨rfl, rfl⟩ | ⟨g, cap, rfl, hb, hg, hc, hm, hcell, _⟩
  · have : ps = [] := List.eq_nil_of_length_eq_zero h2.symm
    subst this
    exact Ps.nil w base
  · refine ⟨_, cap, by rw [h2], (fun e => by cases e), by omega, hm, fun k hk => ⟨g, 0, rfl, hb, hg, ?_⟩⟩
    obtain ⟨x, y, e, hx, hy⟩ := h3 k hk
    obtain ⟨c0, c1, c2⟩ := hcell k (by omega)
    rw [e] at c0 c1 c2
    rw [Nat.zero_add]
    exact ⟨x, y, c0, c1, c2, hx, hy⟩
theorem Po.stay {w w' : World} {base : Nat} {v : Value} {ps : List Nt.Pi} (h : Po w base v ps) (hk : Kept [] w w') : Po w' base v ps := by
  obtain ⟨vs, h1, h2, h3⟩ := h
  refine ⟨vs, h1.stay hk, h2, fun k hkl => ?_⟩
  obtain ⟨x, y, e, hx, hy⟩ := h3 k hkl
  exact ⟨x, y, e, hx.stay hk, hy.stay hk⟩
theorem Po.kept {w w' : World} {base : Nat} {v : Value} {ps : List Nt.Pi} {rows : List Nat} (h : Po w base v ps) (hk : Kept rows w w') (hn : ∀ g, base ≤ g → ¬ g ∈ rows) : Po w' base v ps := by
  obtain ⟨vs, h1, h2, h3⟩ := h
  refine ⟨vs, h1.kept hk (fun g hg => hn g (h1.block hg).1), h2, fun k hkl => ?_⟩
  obtain ⟨x, y, e, hx, hy⟩ := h3 k hkl
  exact ⟨x, y, e, hx.kept hk (fun g hg => hn g (hx.block hg).1), hy.kept hk (fun g hg => hn g (hy.block hg).1)⟩
theorem Po.mono {w : World} {base base' : Nat} {v : Value} {ps : List Nt.Pi} (h : Po w base v ps) (hb : base' ≤ base) : Po w base' v ps := by
  obtain ⟨vs, h1, h2, h3⟩ := h
  refine ⟨vs, h1.mono hb, h2, fun k hkl => ?_⟩
  obtain ⟨x, y, e, hx, hy⟩ := h3 k hkl
  exact ⟨x, y, e, hx.mono hb, hy.mono hb⟩
/-- No slice of numbers lies in a block of places. -/
theorem sl_tg {w : World} {b1 b2 : Nat} {u v : Value} {xs : List Int} {vs : List (Value × Value × Value)} (h : Sl w b1 u xs) (k : Tg 30 w b2 v vs) : ∀ g, u.ownBlock = some g → ¬ g ∈ v.ownBlock.toList := by
  intro g hg hm
  rcases h.2 with ⟨rfl, _⟩ | ⟨g1, c1, cur1, rfl, _, h1, _⟩
  · simp [Value.ownBlock] at hg
  · rcases k.2 with ⟨rfl, _⟩ | ⟨g2, c2, cur2, rfl, _, h2, _⟩
    · simp [Value.ownBlock] at hm
    · simp [Value.ownBlock] at hg hm
      subst hg
      subst hm
      rw [h1] at h2
      have h3 := (Obj.cells.inj (Option.some.inj h2)).2.1
      exact absurd h3 (by decide)
theorem piAt_left {ps : List Nt.Pi} {p : Nt.Pi} {k : Nat} (h : k < ps.length) : piAt (ps ++ [p]) k = piAt ps k := by
  unfold piAt; rw [List.getD_eq_getElem?_getD, List.getElem?_append_left h, ← List.getD_eq_getElem?_getD]
theorem piAt_snoc (ps : List Nt.Pi) (p : Nt.Pi) : piAt (ps ++ [p]) ps.length = p := by simp [piAt]
/-- What an append of one place leaves. -/
theorem Po.snoc {w w' : World} {base : Nat} {v v' : Value} {ps : List Nt.Pi} {vs : List (Value × Value × Value)} {p : Nt.Pi} {x y : Value} (h1 : Tg 30 w base v vs) (h2 : vs.length = ps.length)
    (h3 : ∀ k, k < ps.length → ∃ x y, at3 vs k = (x, .int .i64 (piAt ps k).c, y) ∧ Sl w base x (piAt ps k).ns ∧ Sl w base y (piAt ps k).ks)
    (hx : Sl w base x p.ns) (hy : Sl w base y p.ks) (hk : Kept v.ownBlock.toList w w') (hn : Tg 30 w' base v' (vs ++ [(x, .int .i64 p.c, y)])) : Po w' base v' (ps ++ [p]) := by
  refine ⟨_, hn, by simp [h2], fun k hkl => ?_⟩
  by_cases e : k < ps.length
  · obtain ⟨a, b, e1, ha, hb⟩ := h3 k e
    rw [at3_append_left (by omega), piAt_left e]
    exact ⟨a, b, e1, ha.kept hk (sl_tg ha h1), hb.kept hk (sl_tg hb h1)⟩
  · have : k = ps.length := by simp at hkl; omega
    subst this
    rw [piAt_snoc, ← h2, at3_snoc]
    exact ⟨x, y, rfl, hx.kept hk (sl_tg hx h1), hy.kept hk (sl_tg hy h1)⟩
/-- A desk whose places of before lie in a row of their own. -/
def DvO (w : World) (base : Nat) (x : Value) (d : Nt.Di) : Prop := ∃ v u r, x = .agg #[v, .int .i64 d.now.c, u, r] ∧ Sl w base v d.now.ns ∧ Sl w base u d.now.ks ∧ Po w base r d.past
theorem DvO.dv {w : World} {base : Nat} {x : Value} {d : Nt.Di} (h : DvO w base x d) : Dv w base x d := by
  obtain ⟨v, u, r, rfl, h1, h2, h3⟩ := h
  exact ⟨v, u, r, rfl, h1, h2, h3.ps⟩
theorem pl_len {p : Nt.Pi} (h : Nt.plB p = true) : (0 < p.ns.length ∧ p.ns.length ≤ 100) ∧ (0 < p.ks.length ∧ p.ks.length ≤ 100) := by
  obtain ⟨q, rfl, hq⟩ := Nt.plB_ok h
  have h1 := hq.ok.some
  have h2 := hq.ok.few
  have h3 := hq.st.some
  have h4 := hq.st.few
  show (0 < (Nt.nats q.ns).length ∧ (Nt.nats q.ns).length ≤ 100) ∧ (0 < (Nt.nats q.ks).length ∧ (Nt.nats q.ks).length ≤ 100)
  rw [Nt.nats_length, Nt.nats_length]
  omega
theorem dk_parts {d : Nt.Di} (h : Nt.dkB d = true) : Nt.plB d.now = true ∧ (∀ k, k < d.past.length → Nt.plB (piAt d.past k) = true) ∧ d.past.length ≤ 8 := by
  unfold Nt.dkB at h
  rw [Bool.and_eq_true, Bool.and_eq_true, List.all_eq_true, decide_eq_true_eq] at h
  refine ⟨h.1.1, fun k hk => ?_, h.2⟩
  unfold piAt
  rw [List.getD_eq_getElem?_getD, List.getElem?_eq_getElem hk]
  exact h.1.2 _ (List.getElem_mem hk)
theorem take_pi {ps : List Nt.Pi} {k : Nat} (h : k < ps.length) : ps.take (k + 1) = ps.take k ++ [piAt ps k] := by
  rw [List.take_succ_eq_append_getElem h]
  unfold piAt
  rw [List.getD_eq_getElem?_getD, List.getElem?_eq_getElem h]; rfl
theorem info_place : (Tryz.prog.info? 30).map (fun i => (i.zero, i.size, i.bytes)) = some (some (.agg #[.slice none 0 0, .int .i64 0, .slice none 0 0]), 3, 56) := by kernel_rfl
theorem one_sl {w : World} {b : Nat} {v : Value} {xs : List Int} (h : Sl w b v xs) : v.oneCell' = true := by
  rcases h.2 with ⟨rfl, _⟩ | ⟨g, cap, cur, rfl, _⟩ <;> rfl

set_option maxHeartbeats 4000000 in
set_option maxRecDepth 100000 in
theorem sCopy_any (d : Nt.Di) (hd : Nt.dkB d = true) (w : World) (x : Value) (base : Nat) (h : Dv w base x d) :
    Calls Tryz.prog 75 #[x] w fun e w' => ∃ y, e = .returned y ∧ DvO w' w.heap.size y d ∧ Kept [] w w' := by
  obtain ⟨hnow, hpast, h8⟩ := dk_parts hd
  have HLN := Lib.hid (pl_len hnow)
  have HLP := Lib.hid (fun k hk => pl_len (hpast k hk))
  obtain ⟨v, u, r, rfl, h1, h2, h3⟩ := h
  obtain ⟨hk0, hb0, hr0⟩ := two_new w 33 33 #[v, .int .i64 d.now.c, u, r] #[.slice none 0 0, .int .i64 0, .slice none 0 0, .slice none 0 0]
  have HPV : Hid (Pv ((w.alloc (.cells #[v, .int .i64 d.now.c, u, r] 33)).alloc (.cells #[.slice none 0 0, .int .i64 0, .slice none 0 0, .slice none 0 0] 33)) base (.agg #[v, .int .i64 d.now.c, u]) d.now) := Lib.hid ⟨v, u, rfl, h1.stay hk0, h2.stay hk0⟩
  have H3 := Lib.hid (h3.stay hk0)
  have HB := Lib.hid hb0
  have HR := Lib.hid hr0
  have HK0 := Lib.hid hk0
  obtain ⟨a, cap, rfl, _, _, _⟩ := h1.any
  obtain ⟨b, cap2, rfl, _, _, _⟩ := h2.any
  obtain ⟨a3, cap3, rfl, _, _, _, _⟩ := h3
  obtain ⟨_, _, e3, _, _, _, hp3⟩ := H3.out
  simp only [Value.slice.injEq, true_and] at e3
  obtain ⟨rfl, rfl⟩ := e3
  have HP3 := Lib.hid hp3
  obtain ⟨c0, c1, c2, c3⟩ := hb0.four
  clear h1 h2 hk0 hb0 hr0 hp3 hnow hpast hd H3
  go_enter Tryz.func75, Tryz.ntmps75
  go_wp2_with fail
  generalize ((w.alloc (.cells #[.slice a d.now.ns.length cap, .int .i64 d.now.c, .slice b d.now.ks.length cap2, .slice a3 d.past.length cap3] 33)).alloc (.cells #[.slice none 0 0, .int .i64 0, .slice none 0 0, .slice none 0 0] 33)) = W0 at *
  refine (sPlace_any d.now HLN.out.1 HLN.out.2 _ _ _ HPV.out).mono ?_
  rintro e w2 ⟨y2, rfl, hpv2, hk2⟩
  obtain ⟨v2, u2, rfl, hv2, hu2⟩ := hpv2
  obtain ⟨a2, cp2, rfl, _, _, _⟩ := hv2.any
  obtain ⟨b2, cp3, rfl, _, _, _⟩ := hu2.any
  have HV2 := Lib.hid hv2
  have HU2 := Lib.hid hu2
  have HK2 := Lib.hid hk2
  have hsz2 := hk2.size
  clear hk2 hv2 hu2 c0 c1 c2 c3 HPV
  go_wp2_with fail
  have hk3 : Kept [] w2 (w2.alloc (.cells #[.slice a2 d.now.ns.length cp2, .int .i64 d.now.c, .slice b2 d.now.ks.length cp3, .slice none 0 0] 33)) := (Kept.refl [] w2).alloc _
  have HB3 := Lib.hid (Bk.new w2 33 #[.slice a2 d.now.ns.length cp2, .int .i64 d.now.c, .slice b2 d.now.ks.length cp3, .slice none 0 0])
  have HV3 := Lib.hid (HV2.out.stay hk3)
  have HU3 := Lib.hid (HU2.out.stay hk3)
  have HK3 := Lib.hid (HK2.out.trans hk3 (by simp))
  have HK3b := Lib.hid hk3
  have HVB : Hid ((∀ g, (Value.slice a2 d.now.ns.length cp2).ownBlock = some g → g < w2.heap.size) ∧ (∀ g, (Value.slice b2 d.now.ks.length cp3).ownBlock = some g → g < w2.heap.size)) := Lib.hid ⟨fun g hg => (HV2.out.block hg).2, fun g hg => (HU2.out.block hg).2⟩
  clear hk3 HV2 HU2
  generalize w2.alloc (.cells #[.slice a2 d.now.ns.length cp2, .int .i64 d.now.c, .slice b2 d.now.ks.length cp3, .slice none 0 0] 33) = W3 at *
  have hbo := HB3.out.lt
  have HBO := Lib.hid hbo
  have HVL := Lib.hid (fun g hg => (HV3.out.block (g := g) hg).2)
  go_loopw [4] (fun i wr => ∃ (k : Nat) (rr : Value), k ≤ d.past.length ∧ i = .int .i64 k ∧ Po wr W3.heap.size rr (d.past.take k) ∧ Bk wr w2.heap.size 33 #[.slice a2 d.now.ns.length cp2, .int .i64 d.now.c, .slice b2 d.now.ks.length cp3, rr] ∧ Kept [w2.heap.size] W3 wr) (fun i _ => d.past.length - (intOf i).toNat)
  case atStart => exact ⟨0, _, Nat.zero_le _, rfl, Po.nil _ _, HB3.out, Kept.refl _ _⟩
  case round =>
    obtain ⟨k, rr, hk, rfl, hpo, hbk, hkept⟩ := hrel
    have HPO := Lib.hid hpo
    have HBK := Lib.hid hbk
    have HK := Lib.hid hkept
    have HKW : Hid (Kept [] W0 wr) := Lib.hid (HK3.out.trans hkept (fun x hx => by simp at hx; subst hx; exact .inr HK2.out.size))
    obtain ⟨c0, c1, c2, c3⟩ := (HB.out.stay HKW.out).four
    obtain ⟨p0, p1, p2, p3⟩ := hbk.four
    clear hpo hbk hkept
    by_cases hlt : k < d.past.length
    · obtain ⟨g, off, rfl, hbg, hg, hpc⟩ := HP3.out k hlt
      obtain ⟨x, y, q0, q1, q2, hx, hy⟩ := hpc.stay hg HKW.out
      have HPK : Hid (Pv wr base (.agg #[x, .int .i64 (piAt d.past k).c, y]) (piAt d.past k)) := Lib.hid ⟨x, y, rfl, hx, hy⟩
      have HLK := Lib.hid (HLP.out k hlt)
      have HTK := Lib.hid (take_pi hlt)
      have HTL : Hid ((d.past.take k).length = k) := Lib.hid (by rw [List.length_take]; omega)
      have hbl := HBK.out.lt
      have hgl : g < wr.heap.size := Nat.lt_of_lt_of_le hg HKW.out.size
      have hbw := (HB.out.stay HKW.out).lt
      obtain ⟨vs, hvs1, hvs2, hvs3⟩ := HPO.out
      obtain ⟨ar, cr, hrr⟩ := hvs1.any
      subst hrr
      have HVS1 := Lib.hid hvs1
      have HVS2 := Lib.hid hvs2
      have HVS3 := Lib.hid hvs3
      have hp3 := HBK.out.frozen 3
      have hW := HK.out.size
      clear hpc hx hy hvs1 hvs2 hvs3
      generalize piAt d.past k = p at *
      go_wp2_with fail
      have HCALL : Hid (∀ W, Kept [] wr W → Calls Tryz.prog 124 #[.agg #[x, .int .i64 p.c, y]] W fun e w6 => ∃ a6 c6 b6 d6, e = .returned (.agg #[.slice a6 p.ns.length c6, .int .i64 p.c, .slice b6 p.ks.length d6]) ∧ Hid (Sl w6 W3.heap.size (.slice a6 p.ns.length c6) p.ns ∧ Sl w6 W3.heap.size (.slice b6 p.ks.length d6) p.ks ∧ Kept [] wr w6) ∧ (w6.cell? ⟨w2.heap.size, 0, none⟩ = some (.slice a2 d.now.ns.length cp2) ∧ w6.cell? ⟨w2.heap.size, 1, none⟩ = some (.int .i64 d.now.c) ∧ w6.cell? ⟨w2.heap.size, 2, none⟩ = some (.slice b2 d.now.ks.length cp3) ∧ w6.cell? ⟨w2.heap.size, 3, none⟩ = some (.slice ar vs.length cr)) ∧ w2.heap.size < w6.heap.size) := Lib.hid (fun W hk => by
        refine (sPlace_any p HLK.out.1 HLK.out.2 W _ base (HPK.out.stay hk)).mono ?_
        rintro e w6 ⟨y6, rfl, ⟨v6, u6, rfl, hv6, hu6⟩, hk6⟩
        have k6 := hk.trans hk6 (by simp)
        have hb6 := HBK.out.stay k6
        have hz := hk.size
        obtain ⟨a6, c6, rfl, _, _, _⟩ := hv6.any
        obtain ⟨b6, d6, rfl, _, _, _⟩ := hu6.any
        exact ⟨a6, c6, b6, d6, rfl, ⟨hv6.mono (by omega), hu6.mono (by omega), k6⟩, hb6.four, hb6.lt⟩)
      have HARM : Hid (∀ w6 a6 c6 b6 d6, Sl w6 W3.heap.size (.slice a6 p.ns.length c6) p.ns ∧ Sl w6 W3.heap.size (.slice b6 p.ks.length d6) p.ks ∧ Kept [] wr w6 → ∀ u9 w9, Tg 30 w9 W3.heap.size u9 (vs ++ [(.slice a6 p.ns.length c6, .int .i64 p.c, .slice b6 p.ks.length d6)]) → Kept (Value.slice ar vs.length cr).ownBlock.toList (w6.alloc (.cells (tri [(.slice a6 p.ns.length c6, .int .i64 p.c, .slice b6 p.ks.length d6)]).toArray 30)) w9 →
          ∃ g9 c9, u9 = .slice (some ⟨g9, 0, none⟩) (k + 1) c9 ∧ Hid (Po w9 W3.heap.size u9 (d.past.take (k + 1)) ∧ Bk w9 w2.heap.size 33 #[.slice a2 d.now.ns.length cp2, .int .i64 d.now.c, .slice b2 d.now.ks.length cp3, .slice ar vs.length cr] ∧ Kept [w2.heap.size] W3 w9) ∧ (w9.cell? ⟨w2.heap.size, 3, none⟩ = some (.slice ar vs.length cr) ∧ w9.frozen? ⟨w2.heap.size, 3, none⟩ = false) ∧ w2.heap.size < w9.heap.size) := Lib.hid (fun w6 a6 c6 b6 d6 h6 u9 w9 hs9 hk9 => by
        obtain ⟨hv6, hu6, k6⟩ := h6
        have kW : Kept [] w6 (w6.alloc (.cells (tri [(.slice a6 p.ns.length c6, .int .i64 p.c, .slice b6 p.ks.length d6)]).toArray 30)) := (Kept.refl [] w6).alloc _
        have kw := k6.trans kW (by simp)
        have hb9 := (HBK.out.stay kw).kept hk9 (fun hx => by have h := (HVS1.out.block (g := w2.heap.size) (by simpa using hx)).1; have := HBO.out; omega)
        have hpo9 : Po w9 W3.heap.size u9 (d.past.take (k + 1)) := by
          rw [HTK.out]
          exact Po.snoc (HVS1.out.stay kw) HVS2.out (fun j hj => by obtain ⟨x, y, e, h1, h2⟩ := HVS3.out j hj; exact ⟨x, y, e, h1.stay kw, h2.stay kw⟩) (hv6.stay kW) (hu6.stay kW) hk9 hs9
        obtain ⟨g9, c9, rfl, _⟩ := hs9.shape (n := k + 1) (by simp; rw [HVS2.out, HTL.out]) (by omega)
        exact ⟨g9, c9, rfl, ⟨hpo9, hb9, (HK.out.trans kw (by simp)).trans hk9 (fun x hx => .inr (HVS1.out.block (g := x) (by simpa using hx)).1)⟩, ⟨hb9.four.2.2.2, hb9.frozen 3⟩, hb9.lt⟩)
      have HVL2 : Hid (vs.length + 1 ≤ 2000000) := Lib.hid (by rw [HVS2.out, HTL.out]; omega)
      have HW := Lib.hid hW
      clear hW
      go_region_law (first
        | (go_simp; go_at_call 124; refine (HCALL.out _ (by repeat (first | exact Kept.refl _ _ | assumption | apply Kept.alloc | apply Kept.drew))).mono ?_; rintro e w6 ⟨a6, c6, b6, d6, rfl, h6, ⟨s0, s1, s2, s3⟩, l6⟩)
        | (refine step_app_tri 30 31 (.agg #[.slice none 0 0, .int .i64 0, .slice none 0 0]) 56 Tryz.underlying31 info_place rfl (by omega) vs [(.slice a6 p.ns.length c6, .int .i64 p.c, .slice b6 p.ks.length d6)] (by intro u hu; simp [tri] at hu; rcases hu with rfl | rfl | rfl <;> rfl) rfl _ _ rfl W3.heap.size _ (HVS1.out.stay (h6.out.2.2.alloc _)) (by go_simp) 1 rfl w6.heap.size (by go_simp) (Bk.new w6 _ _) HVL2.out (by have h := h6.out.2.2.size; have := HW.out; simp; omega) ?_; intro u9 w9 hs9 hk9; obtain ⟨g9, c9, rfl, H9, ⟨s3, t3⟩, l9⟩ := HARM.out w6 a6 c6 b6 d6 h6.out u9 w9 hs9 hk9; clear hs9 hk9))
      all_goals
        clear c0 c1 c2 c3 p0 p1 p2 p3 q0 q1 q2
        go_wp2
        go_roundw
        case rel =>
          refine ⟨k + 1, _, by omega, by go_num, ?_, H9.out.2.1.set 3 _, H9.out.2.2.setCell (.inl (by simp)) _⟩
          exact H9.out.1.kept ((Kept.refl [w2.heap.size] _).setCell (.inl (by simp)) _) (fun g hg hm => by have := HBO.out; simp at hm; omega)
        case measure => simp [intOf]; omega
    · have hk' : k = d.past.length := by omega
      have HTE : Hid (d.past.take k = d.past) := Lib.hid (by rw [hk', List.take_length])
      have HR9 := Lib.hid (HR.out.stay HKW.out)
      obtain ⟨r0, r1, r2, r3⟩ := HR9.out.four
      have f0 := HR9.out.frozen 0
      have f1 := HR9.out.frozen 1
      have f2 := HR9.out.frozen 2
      have f3 := HR9.out.frozen 3
      have HPE : Hid (Po wr W3.heap.size rr d.past) := Lib.hid (by have h := HPO.out; rw [HTE.out] at h; exact h)
      obtain ⟨vs, hvs1, hvs2, hvs3⟩ := HPE.out
      obtain ⟨ar, cr, hrr⟩ := hvs1.any
      subst hrr
      have hzz : w.heap.size + 1 < W3.heap.size := by have := HR.out.lt; have := HK3.out.size; omega
      have HZZ := Lib.hid hzz
      have HZ2 : Hid (w.heap.size + 1 < w2.heap.size ∧ w2.heap.size < W3.heap.size) := Lib.hid ⟨by have := HR.out.lt; have := HK2.out.size; omega, HBO.out⟩
      clear hvs1 hvs2 hvs3 hzz
      go_wp2
      (try simp only [Exit.inBlock, Exit.then])
      refine bodyPost_ret (results_cell_row rfl _ _ (w.heap.size + 1) 33 #[.slice a2 d.now.ns.length cp2, .int .i64 d.now.c, .slice b2 d.now.ks.length cp3, .slice ar vs.length cr] (0, 0) _ rfl (HR9.out.set4 _ _ _ _) Tryz.underlying33 rfl (by kernel_rfl)) rfl ?_
      have hsz0 : w.heap.size ≤ W0.heap.size := HK0.out.size
      have hW : W0.heap.size ≤ W3.heap.size := HK3.out.size
      have hne1 : ∀ g : Nat, W0.heap.size ≤ g → ¬ g ∈ [w.heap.size + 1] := fun g h hm => by have := HR.out.lt; simp at hm; omega
      have hk4 := Kept.rows4 wr (w.heap.size + 1) (.slice a2 d.now.ns.length cp2) (.int .i64 d.now.c) (.slice b2 d.now.ks.length cp3) (.slice ar vs.length cr)
      have hV : Sl wr W0.heap.size (.slice a2 d.now.ns.length cp2) d.now.ns := HV3.out.kept HK.out (fun g hg hm => by have := HVB.out.1 g hg; simp at hm; omega)
      have hU : Sl wr W0.heap.size (.slice b2 d.now.ks.length cp3) d.now.ks := HU3.out.kept HK.out (fun g hg hm => by have := HVB.out.2 g hg; simp at hm; omega)
      exact ⟨_, rfl, ⟨_, _, _, rfl, (hV.kept hk4 (fun g hg => hne1 g (hV.block hg).1)).mono hsz0, (hU.kept hk4 (fun g hg => hne1 g (hU.block hg).1)).mono hsz0, (HPE.out.kept hk4 (fun g hg => hne1 g (by omega))).mono (by omega)⟩, (HK0.out.trans HKW.out (by simp)).set4 (by omega) _ _ _ _⟩
end Go.Proofs.YtnajdbnacdnnlaaGreatDoor

namespace Go.Proofs.YtnajdbnacdnnlaaGreatDoor
open Go.RowKit

/-- The deed of a text, or none. -/
def rdD (t : List Nat) : Nt.Dd := (Nt.readD t).getD ⟨0, 0, 0⟩
def rdB (t : List Nat) : Bool := (Nt.readD t).isSome
theorem rd_some {t : List Nat} {d : Nt.Dd} (h : Nt.readD t = some d) : rdD t = d ∧ rdB t = true := by unfold rdD rdB; rw [h]; exact ⟨rfl, rfl⟩
theorem rd_none {t : List Nat} (h : Nt.readD t = none) : rdD t = ⟨0, 0, 0⟩ ∧ rdB t = false := by unfold rdD rdB; rw [h]; exact ⟨rfl, rfl⟩
theorem rd_hit {t : List Nat} {k : Nat} (ht : t ≠ []) (h : Nt.deedT ((Nt.cands t).getD k ⟨0, 0, 0⟩) = t) : Nt.readD t = some ((Nt.cands t).getD k ⟨0, 0, 0⟩) := Nt.readD_some.2 ⟨h, ht⟩
theorem rd_miss {t : List Nat} (h : ∀ k, k < (Nt.cands t).length → Nt.deedT ((Nt.cands t).getD k ⟨0, 0, 0⟩) ≠ t) : Nt.readD t = none := by
  cases e : Nt.readD t with
  | none => rfl
  | some d =>
    obtain ⟨h1, h2⟩ := Nt.readD_some.1 e
    have hd : Nt.DOk d := Nt.readD_ok e
    have hm := Nt.mem_cands hd
    rw [h1] at hm
    obtain ⟨k, hk, hk2⟩ := List.getElem_of_mem hm
    refine absurd h1 ?_
    have := h k hk
    rw [List.getD_eq_getElem?_getD, List.getElem?_eq_getElem hk, Option.getD_some, hk2] at this
    exact this
theorem rd_empty {t : List Nat} (h : t = []) : Nt.readD t = none := by unfold Nt.readD; rw [if_pos h]
theorem cands_two {t : List Nat} (h : (Nt.cut 32 t).length = 2) : Nt.cands t = [⟨2, 0, 0⟩, ⟨4, 0, 0⟩] ++ [⟨1, Nt.dval ((Nt.cut 32 t).getD 1 []), 0⟩, ⟨3, Nt.dval ((Nt.cut 32 t).getD 1 []), 0⟩] := by
  unfold Nt.cands; rw [if_pos h, if_neg (by omega)]; simp
theorem cands_three {t : List Nat} (h : (Nt.cut 32 t).length = 3) : Nt.cands t = [⟨2, 0, 0⟩, ⟨4, 0, 0⟩] ++ [⟨0, Nt.dval ((Nt.cut 32 t).getD 1 []), Nt.dval ((Nt.cut 32 t).getD 2 [])⟩] := by
  unfold Nt.cands; rw [if_neg (by omega), if_pos h]; simp
theorem cands_other {t : List Nat} (h2 : ¬ (Nt.cut 32 t).length = 2) (h3 : ¬ (Nt.cut 32 t).length = 3) : Nt.cands t = [⟨2, 0, 0⟩, ⟨4, 0, 0⟩] := by
  unfold Nt.cands; rw [if_neg h2, if_neg h3]; rfl

/-- A deed that is returned, with a truth. -/
theorem ret_deed {W : World} {g : Nat} {a b c : Value} (h : Bk W g 41 #[a, b, c]) :
    (loadVar 41 ⟨g, 0, none⟩).run Tryz.prog W = .ok (.agg #[a, b, c]) W :=
  run_loadVar_row W g 41 41 #[a, b, c] (0, 0) _ h Tryz.underlying41 rfl (by kernel_rfl)

set_option maxHeartbeats 4000000 in
set_option maxRecDepth 100000 in
theorem sReadDeed_any (s : ByteArray) (hs : s.size ≤ 1100000) (w : World) :
    Calls Tryz.prog 60 #[.string s] w fun e w' => e = .returned (.tuple #[dv (rdD (tx s)), .bool (rdB (tx s))]) ∧ Kept [] w w' := by
  have HR0 := Lib.hid (Bk.new w 41 #[.int .i64 0, .int .i64 0, .int .i64 0])
  have HK0 : Hid (Kept [] w (w.alloc (.cells #[.int .i64 0, .int .i64 0, .int .i64 0] 41))) := Lib.hid ((Kept.refl [] w).alloc _)
  have HS := Lib.hid hs
  clear hs
  go_enter Tryz.func60, Tryz.ntmps60
  go_wp2_with fail
  generalize w.alloc (.cells #[.int .i64 0, .int .i64 0, .int .i64 0] 41) = W0 at *
  refine (l1Cut32_any s HS.out _).mono ?_
  rintro e w1 ⟨u1, ps, rfl, hts, hpm, hk1⟩
  obtain ⟨hcl, hcp⟩ := cut_at hpm
  have HCL := Lib.hid hcl
  have HCP := Lib.hid hcp
  have HR1 := Lib.hid (HR0.out.stay hk1)
  have HK1 := Lib.hid (HK0.out.trans hk1 (by simp))
  obtain ⟨a, cap, rfl, _, hm, hc⟩ := hts.any
  have HC := Lib.hid hc
  have HLT := Lib.hid (Tg.lit 41 w1 ([(⟨2, 0, 0⟩ : Nt.Dd), ⟨4, 0, 0⟩].map d3) (by simp))
  have HKL : Hid (Kept [] w1 (w1.alloc (.cells (tri ([(⟨2, 0, 0⟩ : Nt.Dd), ⟨4, 0, 0⟩].map d3)).toArray 41))) := Lib.hid ((Kept.refl [] w1).alloc _)
  clear hts hpm hk1 HR0 HK0 hcl hcp hc
  obtain ⟨L, hL⟩ : ∃ L, L = ps.length := ⟨_, rfl⟩
  rw [← hL] at HCL HCP HC hm ⊢
  have HLP := Lib.hid hL
  clear hL
  by_cases h2 : L = 2
  · subst h2
    have hcw : ∃ gw, a = some ⟨gw, 0, none⟩ ∧ gw < w1.heap.size ∧ (∀ k, k < 2 → w1.cell? ⟨gw, k, none⟩ = some (.string (atT ps k))) := by
      obtain ⟨g, e, _, hg, _⟩ := HC.out 0 (by omega)
      refine ⟨g, e, hg, fun k hk => ?_⟩
      obtain ⟨g', e', _, _, hcc⟩ := HC.out k hk
      rw [e] at e'
      simp only [Option.some.injEq, Addr.mk.injEq] at e'
      obtain ⟨rfl, _⟩ := e'
      exact hcc
    obtain ⟨gw, rfl, hgw, hcw⟩ := hcw
    have w1c := hcw 1 (by omega)
    obtain ⟨hp1, hs1⟩ := HCP.out 1 (by omega)
    obtain ⟨n, hn⟩ : ∃ n, n = Nt.dval (tx (atT ps 1)) := ⟨_, rfl⟩
    have HD1 : Hid (∀ W : World, Calls Tryz.prog 110 #[.string (atT ps 1)] W fun e w' => e = .returned (.int .i64 n) ∧ W = w') := Lib.hid (fun W => by rw [hn]; exact l1Digits_any _ (by have := HS.out; omega) W)
    have HCD : Hid (Nt.cands (tx s) = [⟨2, 0, 0⟩, ⟨4, 0, 0⟩] ++ [⟨1, n, 0⟩, ⟨3, n, 0⟩]) := Lib.hid (by rw [cands_two HCL.out, hn, hp1])
    have HLEN : Hid (((Nt.cands (tx s)).map d3).length = 4) := Lib.hid (by rw [HCD.out]; rfl)
    have w1d := (HKL.out.cell (p := ⟨gw, 1, none⟩) hgw (by simp)).trans w1c
    clear hcw hp1 hs1 hn
    generalize atT ps 1 = P1 at *
    have HKLs := HKL.out.size
    obtain ⟨W8, hW8⟩ : ∃ W8, W8 = w1.alloc (.cells (tri ([(⟨2, 0, 0⟩ : Nt.Dd), ⟨4, 0, 0⟩].map d3)).toArray 41) := ⟨_, rfl⟩
    rw [← hW8] at HLT HKL w1d HKLs
    have HW8 : Hid (w1.alloc (.cells #[.int .i64 2, .int .i64 0, .int .i64 0, .int .i64 4, .int .i64 0, .int .i64 0] 41) = W8) := Lib.hid hW8.symm
    clear hW8
    go_wp2_with fail
    rw [HW8.out]
    refine (HD1.out _).mono ?_
    rintro e w' ⟨rfl, rfl⟩
    go_wp2_with (at_builtin; refine app_tri 41 24 (.agg #[.int .i64 0, .int .i64 0, .int .i64 0]) 24 Tryz.underlying24 info_deed rfl (by omega) ([(⟨2, 0, 0⟩ : Nt.Dd), ⟨4, 0, 0⟩].map d3) ([(⟨1, n, 0⟩ : Nt.Dd), ⟨3, n, 0⟩].map d3) (d3_one _) rfl _ _ rfl w1.heap.size _ HLT.out rfl 2 rfl rfl (by simp) HKL.out.size ?_; intro u9 w9 hs9 hk9; have HTG9 : Hid (Tg 41 w9 w1.heap.size u9 ((Nt.cands (tx s)).map d3)) := Lib.hid (by rw [HCD.out, List.map_append]; exact hs9); have HK9 : Hid (Kept [] w1 w9) := Lib.hid (HKL.out.own hk9 (fun g hg => (HLT.out.block hg).1)); obtain ⟨gd, cd, rfl, _⟩ := HTG9.out.shape (n := 4) HLEN.out (by omega); clear hs9 hk9)
    go_loopw [7] (fun i wr => ∃ k : Nat, k ≤ 4 ∧ i = .int .i64 k ∧ (∀ j, j < k → Nt.deedT ((Nt.cands (tx s)).getD j ⟨0, 0, 0⟩) ≠ tx s ∨ tx s = []) ∧ Tg 41 wr w1.heap.size (.slice (some ⟨gd, 0, none⟩) 4 cd) ((Nt.cands (tx s)).map d3) ∧ Kept [] w1 wr) (fun i _ => 4 - (intOf i).toNat)
    case atStart => exact ⟨0, Nat.zero_le _, rfl, fun j hj => absurd hj (by omega), HTG9.out, HK9.out⟩
    case round =>
      obtain ⟨k, hk, rfl, hno, htg, hkept⟩ := hrel
      have HNO := Lib.hid hno
      have HTG := Lib.hid htg
      have HK := Lib.hid hkept
      obtain ⟨_, _, e, _, hgd, _, _, hcell⟩ := htg.shape (n := 4) HLEN.out (by omega)
      simp only [Value.slice.injEq, Option.some.injEq, Addr.mk.injEq, and_true, true_and] at e
      obtain ⟨rfl, rfl⟩ := e
      have hr := HR1.out.stay hkept
      have HR := Lib.hid hr
      obtain ⟨r0, r1, r2⟩ := hr.three
      have f0 := hr.frozen 0
      have f1 := hr.frozen 1
      have f2 := hr.frozen 2
      have HKK := Lib.hid (HK1.out.trans hkept (by simp))
      clear hno htg hkept hr
      by_cases hlt : k < 4
      · obtain ⟨c0, c1, c2⟩ := hcell k hlt
        rw [d3_at _ (by have h := HLEN.out; rw [List.length_map] at h; omega)] at c0 c1 c2
        by_cases hte : tx s = []
        · have hse := empty_yes hte
          have HTE := Lib.hid hte
          clear hte hcell
          go_wp2
          go_roundw
          case rel => exact ⟨k + 1, by omega, by go_num, fun j _ => .inr HTE.out, HTG.out, HK.out⟩
          case measure => simp [intOf]; omega
        · have hse := empty_no hte
          have HTE := Lib.hid hte
          obtain ⟨d, hd⟩ : ∃ d, (Nt.cands (tx s)).getD k ⟨0, 0, 0⟩ = d := ⟨_, rfl⟩
          rw [hd] at c0 c1 c2
          have HD := Lib.hid hd
          obtain ⟨dk, da, db⟩ := d
          have c0' : wr.cell? ⟨gd, k * 3, none⟩ = some (.int .i64 dk) := c0
          have c1' : wr.cell? ⟨gd, k * 3 + 1, none⟩ = some (.int .i64 da) := c1
          have c2' : wr.cell? ⟨gd, k * 3 + 2, none⟩ = some (.int .i64 db) := c2
          clear hte hd hcell c0 c1 c2
          go_wp2_with fail
          refine (sDeedText_any dk da db _).mono ?_
          rintro e w6 ⟨z6, rfl, hz6, hk6⟩
          have HZ6 := Lib.hid hz6
          have HK6 := Lib.hid (HK.out.trans hk6 (by simp))
          have HTG6 := Lib.hid (HTG.out.stay hk6)
          have hr6 := HR.out.stay hk6
          have HR6 := Lib.hid hr6
          have d0 := (hk6.cell (p := ⟨gd, k * 3, none⟩) hgd (by simp)).trans c0'
          have d1 := (hk6.cell (p := ⟨gd, k * 3 + 1, none⟩) hgd (by simp)).trans c1'
          have d2 := (hk6.cell (p := ⟨gd, k * 3 + 2, none⟩) hgd (by simp)).trans c2'
          clear hz6 hk6 c0' c1' c2' r0 r1 r2 f0 f1 f2
          obtain ⟨r0, r1, r2⟩ := hr6.three
          have f0 := hr6.frozen 0
          have f1 := hr6.frozen 1
          have f2 := hr6.frozen 2
          clear hr6
          by_cases he : Nt.deedT ⟨dk, da, db⟩ = tx s
          · have hq := str_yes (a := z6) (b := s) (by rw [HZ6.out, he])
            have HF := Lib.hid (rd_some (rd_hit HTE.out (by rw [HD.out]; exact he)))
            clear he
            go_wp2
            (try simp only [Exit.inBlock, Exit.then])
            refine bodyPost_ret (v := .tuple #[.agg #[.int .i64 dk, .int .i64 da, .int .i64 db], .bool true]) ?_ rfl ⟨by rw [HF.out.1, HF.out.2, HD.out]; rfl, (HK1.out.trans HK6.out (by simp)).set3 (Nat.le_refl _) _ _ _⟩
            rw [results_cell_tmp rfl]
            simp [asAddr, ret_deed ((HR6.out).set3 _ _ _)]
          · have hq := str_no (a := z6) (b := s) (by rw [HZ6.out]; exact he)
            have HF := Lib.hid he
            clear he
            go_wp2
            go_roundw
            case rel =>
              refine ⟨k + 1, by omega, by go_num, fun j hj => ?_, HTG6.out, HK6.out⟩
              by_cases e : j = k
              · subst e; exact .inl (by rw [HD.out]; exact HF.out)
              · exact HNO.out j (by omega)
            case measure => simp [intOf]; omega
      · have hk' : k = 4 := by omega
        subst hk'
        have HF : Hid (rdD (tx s) = ⟨0, 0, 0⟩ ∧ rdB (tx s) = false) := Lib.hid (by
          by_cases hte : tx s = []
          · exact rd_none (rd_empty hte)
          · refine rd_none (rd_miss fun j hj => ?_)
            have h := HLEN.out
            rw [List.length_map] at h
            rcases HNO.out j (by omega) with h1 | h1
            · exact h1
            · exact absurd h1 hte)
        clear hcell
        go_wp2
        (try simp only [Exit.inBlock, Exit.then])
        refine bodyPost_ret (v := .tuple #[.agg #[.int .i64 0, .int .i64 0, .int .i64 0], .bool false]) ?_ rfl ⟨by rw [HF.out.1, HF.out.2]; rfl, (HKK.out).set3 (Nat.le_refl _) _ _ _⟩
        rw [results_cell_tmp rfl]
        simp [asAddr, ret_deed ((HR.out).set3 _ _ _)]
  · by_cases h3 : L = 3
    · subst h3
      have hcw : ∃ gw, a = some ⟨gw, 0, none⟩ ∧ gw < w1.heap.size ∧ (∀ k, k < 3 → w1.cell? ⟨gw, k, none⟩ = some (.string (atT ps k))) := by
        obtain ⟨g, e, _, hg, _⟩ := HC.out 0 (by omega)
        refine ⟨g, e, hg, fun k hk => ?_⟩
        obtain ⟨g', e', _, _, hcc⟩ := HC.out k hk
        rw [e] at e'
        simp only [Option.some.injEq, Addr.mk.injEq] at e'
        obtain ⟨rfl, _⟩ := e'
        exact hcc
      obtain ⟨gw, rfl, hgw, hcw⟩ := hcw
      have w1c := hcw 1 (by omega)
      have w2c := hcw 2 (by omega)
      obtain ⟨hp1, hs1⟩ := HCP.out 1 (by omega)
      obtain ⟨hp2, hs2⟩ := HCP.out 2 (by omega)
      obtain ⟨n, hn⟩ : ∃ n, n = Nt.dval (tx (atT ps 1)) := ⟨_, rfl⟩
      obtain ⟨m, hm2⟩ : ∃ m, m = Nt.dval (tx (atT ps 2)) := ⟨_, rfl⟩
      have HD1 : Hid (∀ W : World, Calls Tryz.prog 110 #[.string (atT ps 1)] W fun e w' => e = .returned (.int .i64 n) ∧ W = w') := Lib.hid (fun W => by rw [hn]; exact l1Digits_any _ (by have := HS.out; omega) W)
      have HD2 : Hid (∀ W : World, Calls Tryz.prog 110 #[.string (atT ps 2)] W fun e w' => e = .returned (.int .i64 m) ∧ W = w') := Lib.hid (fun W => by rw [hm2]; exact l1Digits_any _ (by have := HS.out; omega) W)
      have HCD : Hid (Nt.cands (tx s) = [⟨2, 0, 0⟩, ⟨4, 0, 0⟩] ++ [⟨0, n, m⟩]) := Lib.hid (by rw [cands_three HCL.out, hn, hm2, hp1, hp2])
      have HLEN : Hid (((Nt.cands (tx s)).map d3).length = 3) := Lib.hid (by rw [HCD.out]; rfl)
      have w1d := (HKL.out.cell (p := ⟨gw, 1, none⟩) hgw (by simp)).trans w1c
      have w2d := (HKL.out.cell (p := ⟨gw, 2, none⟩) hgw (by simp)).trans w2c
      have HKLs := HKL.out.size
      clear hcw hp1 hs1 hn hp2 hs2 hm2
      generalize atT ps 1 = P1 at *
      generalize atT ps 2 = P2 at *
      obtain ⟨W8, hW8⟩ : ∃ W8, W8 = w1.alloc (.cells (tri ([(⟨2, 0, 0⟩ : Nt.Dd), ⟨4, 0, 0⟩].map d3)).toArray 41) := ⟨_, rfl⟩
      rw [← hW8] at HLT HKL w1d w2d HKLs
      have HW8 : Hid (w1.alloc (.cells #[.int .i64 2, .int .i64 0, .int .i64 0, .int .i64 4, .int .i64 0, .int .i64 0] 41) = W8) := Lib.hid hW8.symm
      clear hW8
      go_wp2_with fail
      rw [HW8.out]
      have HCW : Hid (∀ W, Kept [w1.heap.size] W8 W → W.cell? ⟨gw, 1, none⟩ = some (.string P1) ∧ W.cell? ⟨gw, 2, none⟩ = some (.string P2)) := Lib.hid (fun W hk => ⟨(hk.cell (p := ⟨gw, 1, none⟩) (by show gw < _; omega) (by simp; omega)).trans w1d, (hk.cell (p := ⟨gw, 2, none⟩) (by show gw < _; omega) (by simp; omega)).trans w2d⟩)
      clear w1c w2c w1d w2d
      go_region_held3 (fun w' => w'.cell? ⟨gw, 1, none⟩ = some (.string P1) ∧ w'.cell? ⟨gw, 2, none⟩ = some (.string P2))
        ((refine HCW.out _ ?_; repeat (first | exact Kept.refl _ _ | assumption | apply Kept.alloc | apply Kept.drew)))
        (first
          | (go_simp; go_at_call 110; (with_reducible refine (HD1.out _).mono ?_); rintro e w' ⟨rfl, rfl⟩)
          | (go_simp; go_at_call 110; (with_reducible refine (HD2.out _).mono ?_); rintro e w' ⟨rfl, rfl⟩)
          | (refine step_app_tri 41 24 (.agg #[.int .i64 0, .int .i64 0, .int .i64 0]) 24 Tryz.underlying24 info_deed rfl (by omega) ([(⟨2, 0, 0⟩ : Nt.Dd), ⟨4, 0, 0⟩].map d3) ([(⟨0, n, m⟩ : Nt.Dd)].map d3) (d3_one _) rfl _ _ rfl w1.heap.size _ (HLT.out.stay ((Kept.refl [] W8).drew.alloc _)) (by go_simp) 1 rfl W8.heap.size (by go_simp) (Bk.new W8.drew _ _) (by simp) (by simp; omega) ?_; intro u9 w9 hs9 hk9; have HTG9 : Hid (Tg 41 w9 w1.heap.size u9 ((Nt.cands (tx s)).map d3)) := Lib.hid (by rw [HCD.out, List.map_append]; exact hs9); have k9 : Kept [w1.heap.size] W8 w9 := Kept.trans (rows' := (Value.slice (some ⟨w1.heap.size, 0, none⟩) 2 2).ownBlock.toList) ((Kept.weak [w1.heap.size] ((Kept.refl [] W8).drew.alloc _))) hk9 (fun x hx => .inl (by simpa [Value.ownBlock] using hx)); obtain ⟨gd, cd, rfl, _⟩ := HTG9.out.shape (n := 3) HLEN.out (by omega); clear hs9 hk9))
      all_goals
        have HK9 : Hid (Kept [] w1 w9) := Lib.hid (HKL.out.trans k9 (fun x hx => .inr (by simp at hx; omega)))
        clear k9
        go_wp2_with fail
        go_loopw [7] (fun i wr => ∃ k : Nat, k ≤ 3 ∧ i = .int .i64 k ∧ (∀ j, j < k → Nt.deedT ((Nt.cands (tx s)).getD j ⟨0, 0, 0⟩) ≠ tx s ∨ tx s = []) ∧ Tg 41 wr w1.heap.size (.slice (some ⟨gd, 0, none⟩) 3 cd) ((Nt.cands (tx s)).map d3) ∧ Kept [] w1 wr) (fun i _ => 3 - (intOf i).toNat)
        case atStart => exact ⟨0, Nat.zero_le _, rfl, fun j hj => absurd hj (by omega), HTG9.out, HK9.out⟩
        case round =>
          obtain ⟨k, hk, rfl, hno, htg, hkept⟩ := hrel
          have HNO := Lib.hid hno
          have HTG := Lib.hid htg
          have HK := Lib.hid hkept
          obtain ⟨_, _, e, _, hgd, _, _, hcell⟩ := htg.shape (n := 3) HLEN.out (by omega)
          simp only [Value.slice.injEq, Option.some.injEq, Addr.mk.injEq, and_true, true_and] at e
          obtain ⟨rfl, rfl⟩ := e
          have hr := HR1.out.stay hkept
          have HR := Lib.hid hr
          obtain ⟨r0, r1, r2⟩ := hr.three
          have f0 := hr.frozen 0
          have f1 := hr.frozen 1
          have f2 := hr.frozen 2
          have HKK := Lib.hid (HK1.out.trans hkept (by simp))
          clear hno htg hkept hr
          by_cases hlt : k < 3
          · obtain ⟨c0, c1, c2⟩ := hcell k hlt
            rw [d3_at _ (by have h := HLEN.out; rw [List.length_map] at h; omega)] at c0 c1 c2
            by_cases hte : tx s = []
            · have hse := empty_yes hte
              have HTE := Lib.hid hte
              clear hte hcell
              go_wp2
              go_roundw
              case rel => exact ⟨k + 1, by omega, by go_num, fun j _ => .inr HTE.out, HTG.out, HK.out⟩
              case measure => simp [intOf]; omega
            · have hse := empty_no hte
              have HTE := Lib.hid hte
              obtain ⟨d, hd⟩ : ∃ d, (Nt.cands (tx s)).getD k ⟨0, 0, 0⟩ = d := ⟨_, rfl⟩
              rw [hd] at c0 c1 c2
              have HD := Lib.hid hd
              obtain ⟨dk, da, db⟩ := d
              have c0' : wr.cell? ⟨gd, k * 3, none⟩ = some (.int .i64 dk) := c0
              have c1' : wr.cell? ⟨gd, k * 3 + 1, none⟩ = some (.int .i64 da) := c1
              have c2' : wr.cell? ⟨gd, k * 3 + 2, none⟩ = some (.int .i64 db) := c2
              clear hte hd hcell c0 c1 c2
              go_wp2_with fail
              refine (sDeedText_any dk da db _).mono ?_
              rintro e w6 ⟨z6, rfl, hz6, hk6⟩
              have HZ6 := Lib.hid hz6
              have HK6 := Lib.hid (HK.out.trans hk6 (by simp))
              have HTG6 := Lib.hid (HTG.out.stay hk6)
              have hr6 := HR.out.stay hk6
              have HR6 := Lib.hid hr6
              have d0 := (hk6.cell (p := ⟨gd, k * 3, none⟩) hgd (by simp)).trans c0'
              have d1 := (hk6.cell (p := ⟨gd, k * 3 + 1, none⟩) hgd (by simp)).trans c1'
              have d2 := (hk6.cell (p := ⟨gd, k * 3 + 2, none⟩) hgd (by simp)).trans c2'
              clear hz6 hk6 c0' c1' c2' r0 r1 r2 f0 f1 f2
              obtain ⟨r0, r1, r2⟩ := hr6.three
              have f0 := hr6.frozen 0
              have f1 := hr6.frozen 1
              have f2 := hr6.frozen 2
              clear hr6
              by_cases he : Nt.deedT ⟨dk, da, db⟩ = tx s
              · have hq := str_yes (a := z6) (b := s) (by rw [HZ6.out, he])
                have HF := Lib.hid (rd_some (rd_hit HTE.out (by rw [HD.out]; exact he)))
                clear he
                go_wp2
                (try simp only [Exit.inBlock, Exit.then])
                refine bodyPost_ret (v := .tuple #[.agg #[.int .i64 dk, .int .i64 da, .int .i64 db], .bool true]) ?_ rfl ⟨by rw [HF.out.1, HF.out.2, HD.out]; rfl, (HK1.out.trans HK6.out (by simp)).set3 (Nat.le_refl _) _ _ _⟩
                rw [results_cell_tmp rfl]
                simp [asAddr, ret_deed ((HR6.out).set3 _ _ _)]
              · have hq := str_no (a := z6) (b := s) (by rw [HZ6.out]; exact he)
                have HF := Lib.hid he
                clear he
                go_wp2
                go_roundw
                case rel =>
                  refine ⟨k + 1, by omega, by go_num, fun j hj => ?_, HTG6.out, HK6.out⟩
                  by_cases e : j = k
                  · subst e; exact .inl (by rw [HD.out]; exact HF.out)
                  · exact HNO.out j (by omega)
                case measure => simp [intOf]; omega
          · have hk' : k = 3 := by omega
            subst hk'
            have HF : Hid (rdD (tx s) = ⟨0, 0, 0⟩ ∧ rdB (tx s) = false) := Lib.hid (by
              by_cases hte : tx s = []
              · exact rd_none (rd_empty hte)
              · refine rd_none (rd_miss fun j hj => ?_)
                have h := HLEN.out
                rw [List.length_map] at h
                rcases HNO.out j (by omega) with h1 | h1
                · exact h1
                · exact absurd h1 hte)
            clear hcell
            go_wp2
            (try simp only [Exit.inBlock, Exit.then])
            refine bodyPost_ret (v := .tuple #[.agg #[.int .i64 0, .int .i64 0, .int .i64 0], .bool false]) ?_ rfl ⟨by rw [HF.out.1, HF.out.2]; rfl, (HKK.out).set3 (Nat.le_refl _) _ _ _⟩
            rw [results_cell_tmp rfl]
            simp [asAddr, ret_deed ((HR.out).set3 _ _ _)]
    · have e2 : ((L : Int) == 2) = false := by simp; omega
      have e3 : ((L : Int) == 3) = false := by simp; omega
      have HCD := Lib.hid (cands_other (t := tx s) (by rw [HCL.out]; exact h2) (by rw [HCL.out]; exact h3))
      clear h2 h3
      have HLEN : Hid (((Nt.cands (tx s)).map d3).length = 2) := Lib.hid (by rw [HCD.out]; rfl)
      have HST : Hid (Tg 41 (w1.alloc (.cells #[.int .i64 2, .int .i64 0, .int .i64 0, .int .i64 4, .int .i64 0, .int .i64 0] 41)) w1.heap.size (.slice (some ⟨w1.heap.size, 0, none⟩) 2 2) ((Nt.cands (tx s)).map d3)) := Lib.hid (by rw [HCD.out]; exact HLT.out)
      go_wp2_with fail
      go_loopw [7] (fun i wr => ∃ k : Nat, k ≤ 2 ∧ i = .int .i64 k ∧ (∀ j, j < k → Nt.deedT ((Nt.cands (tx s)).getD j ⟨0, 0, 0⟩) ≠ tx s ∨ tx s = []) ∧ Tg 41 wr w1.heap.size (.slice (some ⟨w1.heap.size, 0, none⟩) 2 2) ((Nt.cands (tx s)).map d3) ∧ Kept [] w1 wr) (fun i _ => 2 - (intOf i).toNat)
      case atStart => exact ⟨0, Nat.zero_le _, rfl, fun j hj => absurd hj (by omega), HST.out, HKL.out⟩
      case round =>
        obtain ⟨k, hk, rfl, hno, htg, hkept⟩ := hrel
        have HNO := Lib.hid hno
        have HTG := Lib.hid htg
        have HK := Lib.hid hkept
        obtain ⟨_, _, e, _, hgd, _, _, hcell⟩ := htg.shape (n := 2) HLEN.out (by omega)
        simp only [Value.slice.injEq, Option.some.injEq, Addr.mk.injEq, and_true, true_and] at e
        obtain ⟨rfl, rfl⟩ := e
        have hr := HR1.out.stay hkept
        have HR := Lib.hid hr
        obtain ⟨r0, r1, r2⟩ := hr.three
        have f0 := hr.frozen 0
        have f1 := hr.frozen 1
        have f2 := hr.frozen 2
        have HKK := Lib.hid (HK1.out.trans hkept (by simp))
        clear hno htg hkept hr
        by_cases hlt : k < 2
        · obtain ⟨c0, c1, c2⟩ := hcell k hlt
          rw [d3_at _ (by have h := HLEN.out; rw [List.length_map] at h; omega)] at c0 c1 c2
          by_cases hte : tx s = []
          · have hse := empty_yes hte
            have HTE := Lib.hid hte
            clear hte hcell
            go_wp2
            go_roundw
            case rel => exact ⟨k + 1, by omega, by go_num, fun j _ => .inr HTE.out, HTG.out, HK.out⟩
            case measure => simp [intOf]; omega
          · have hse := empty_no hte
            have HTE := Lib.hid hte
            obtain ⟨d, hd⟩ : ∃ d, (Nt.cands (tx s)).getD k ⟨0, 0, 0⟩ = d := ⟨_, rfl⟩
            rw [hd] at c0 c1 c2
            have HD := Lib.hid hd
            obtain ⟨dk, da, db⟩ := d
            have c0' : wr.cell? ⟨w1.heap.size, k * 3, none⟩ = some (.int .i64 dk) := c0
            have c1' : wr.cell? ⟨w1.heap.size, k * 3 + 1, none⟩ = some (.int .i64 da) := c1
            have c2' : wr.cell? ⟨w1.heap.size, k * 3 + 2, none⟩ = some (.int .i64 db) := c2
            clear hte hd hcell c0 c1 c2
            go_wp2_with fail
            refine (sDeedText_any dk da db _).mono ?_
            rintro e w6 ⟨z6, rfl, hz6, hk6⟩
            have HZ6 := Lib.hid hz6
            have HK6 := Lib.hid (HK.out.trans hk6 (by simp))
            have HTG6 := Lib.hid (HTG.out.stay hk6)
            have hr6 := HR.out.stay hk6
            have HR6 := Lib.hid hr6
            have d0 := (hk6.cell (p := ⟨w1.heap.size, k * 3, none⟩) hgd (by simp)).trans c0'
            have d1 := (hk6.cell (p := ⟨w1.heap.size, k * 3 + 1, none⟩) hgd (by simp)).trans c1'
            have d2 := (hk6.cell (p := ⟨w1.heap.size, k * 3 + 2, none⟩) hgd (by simp)).trans c2'
            clear hz6 hk6 c0' c1' c2' r0 r1 r2 f0 f1 f2
            obtain ⟨r0, r1, r2⟩ := hr6.three
            have f0 := hr6.frozen 0
            have f1 := hr6.frozen 1
            have f2 := hr6.frozen 2
            clear hr6
            by_cases he : Nt.deedT ⟨dk, da, db⟩ = tx s
            · have hq := str_yes (a := z6) (b := s) (by rw [HZ6.out, he])
              have HF := Lib.hid (rd_some (rd_hit HTE.out (by rw [HD.out]; exact he)))
              clear he
              go_wp2
              (try simp only [Exit.inBlock, Exit.then])
              refine bodyPost_ret (v := .tuple #[.agg #[.int .i64 dk, .int .i64 da, .int .i64 db], .bool true]) ?_ rfl ⟨by rw [HF.out.1, HF.out.2, HD.out]; rfl, (HK1.out.trans HK6.out (by simp)).set3 (Nat.le_refl _) _ _ _⟩
              rw [results_cell_tmp rfl]
              simp [asAddr, ret_deed ((HR6.out).set3 _ _ _)]
            · have hq := str_no (a := z6) (b := s) (by rw [HZ6.out]; exact he)
              have HF := Lib.hid he
              clear he
              go_wp2
              go_roundw
              case rel =>
                refine ⟨k + 1, by omega, by go_num, fun j hj => ?_, HTG6.out, HK6.out⟩
                by_cases e : j = k
                · subst e; exact .inl (by rw [HD.out]; exact HF.out)
                · exact HNO.out j (by omega)
              case measure => simp [intOf]; omega
        · have hk' : k = 2 := by omega
          subst hk'
          have HF : Hid (rdD (tx s) = ⟨0, 0, 0⟩ ∧ rdB (tx s) = false) := Lib.hid (by
            by_cases hte : tx s = []
            · exact rd_none (rd_empty hte)
            · refine rd_none (rd_miss fun j hj => ?_)
              have h := HLEN.out
              rw [List.length_map] at h
              rcases HNO.out j (by omega) with h1 | h1
              · exact h1
              · exact absurd h1 hte)
          clear hcell
          go_wp2
          (try simp only [Exit.inBlock, Exit.then])
          refine bodyPost_ret (v := .tuple #[.agg #[.int .i64 0, .int .i64 0, .int .i64 0], .bool false]) ?_ rfl ⟨by rw [HF.out.1, HF.out.2]; rfl, (HKK.out).set3 (Nat.le_refl _) _ _ _⟩
          rw [results_cell_tmp rfl]
          simp [asAddr, ret_deed ((HR.out).set3 _ _ _)]
end Go.Proofs.YtnajdbnacdnnlaaGreatDoor

namespace Go.Proofs.YtnajdbnacdnnlaaGreatDoor
open Go.RowKit

theorem drop_at {t : List Nat} {k : Nat} (h : k < t.length) : t.drop k = t.getD k 0 :: t.drop (k + 1) := by
  rw [List.drop_eq_getElem_cons h, List.getD_eq_getElem?_getD, List.getElem?_eq_getElem h]; rfl
theorem seen_more {t : List Nat} {f k : Nat} (hf : f ≤ k) (h : k < t.length) : (t.take (k + 1)).drop f = (t.take k).drop f ++ [t.getD k 0] := by
  rw [List.take_succ_eq_append_getElem h, List.drop_append_of_le_length (by rw [List.length_take]; omega), List.getD_eq_getElem?_getD, List.getElem?_eq_getElem h]; rfl
theorem seen_len {t : List Nat} {f k : Nat} (h : k ≤ t.length) : ((t.take k).drop f).length = k - f := by
  rw [List.length_drop, List.length_take]; omega
theorem seen_none (t : List Nat) (k : Nat) : (t.take k).drop k = [] := List.drop_eq_nil_of_le (by rw [List.length_take]; omega)
theorem jrn_on {t : List Nat} {f k : Nat} (hf : f ≤ k) (h : k < t.length) (hx : t.getD k 0 ≠ 10) :
    Nt.jgo ((t.take k).drop f) (t.drop k) = Nt.jgo ((t.take (k + 1)).drop f) (t.drop (k + 1)) ∧ Nt.jlen ((t.take k).drop f) (t.drop k) = Nt.jlen ((t.take (k + 1)).drop f) (t.drop (k + 1)) := by
  rw [drop_at h, seen_more hf h]
  exact Nt.jgo_on hx _ _
theorem jrn_nl {t : List Nat} {f k : Nat} (hf : f ≤ k) (h : k < t.length) (hx : t.getD k 0 = 10) {d : Nt.Dd} (hd : Nt.readD ((t.take k).drop f) = some d) :
    Nt.jgo ((t.take k).drop f) (t.drop k) = d :: Nt.jgo ((t.take (k + 1)).drop (k + 1)) (t.drop (k + 1)) ∧ f + Nt.jlen ((t.take k).drop f) (t.drop k) = k + 1 + Nt.jlen ((t.take (k + 1)).drop (k + 1)) (t.drop (k + 1)) := by
  rw [drop_at h, hx, seen_none]
  obtain ⟨h1, h2⟩ := Nt.jgo_nl hd (t.drop (k + 1))
  refine ⟨h1, ?_⟩
  rw [h2, seen_len (by omega)]
  omega
theorem jrn_stop {t : List Nat} {f k : Nat} (h : k < t.length) (hx : t.getD k 0 = 10) (hd : Nt.readD ((t.take k).drop f) = none) :
    Nt.jgo ((t.take k).drop f) (t.drop k) = [] ∧ Nt.jlen ((t.take k).drop f) (t.drop k) = 0 := by
  rw [drop_at h, hx]
  exact Nt.jgo_stop hd _
theorem jrn_end (t : List Nat) (f : Nat) : Nt.jgo ((t.take t.length).drop f) (t.drop t.length) = [] ∧ Nt.jlen ((t.take t.length).drop f) (t.drop t.length) = 0 := by
  rw [List.drop_length]
  exact ⟨rfl, rfl⟩

set_option maxHeartbeats 4000000 in
set_option maxRecDepth 100000 in
theorem sReadJournal_any (s : ByteArray) (hs : s.size ≤ 1100000) (w : World) :
    Calls Tryz.prog 13 #[.string s] w fun e w' => ∃ u, e = .returned (.tuple #[u, .int .i64 (Nt.jlen [] (tx s) : Nat)]) ∧ Dg w' w.heap.size u (Nt.jgo [] (tx s)) ∧ Kept [] w w' := by
  have HL := Lib.hid (tx_length s)
  have HS := Lib.hid hs
  go_enter Tryz.func13, Tryz.ntmps13
  go_wp2
  go_loopw [4, 5, 6] (fun u fr i wr => ∃ (k f : Nat) (ds : List Nt.Dd), k ≤ s.size ∧ f ≤ k ∧ i = .int .i64 k ∧ fr = .int .i64 f ∧ Dg wr w.heap.size u ds ∧ ds.length ≤ k ∧
      Nt.jgo [] (tx s) = ds ++ Nt.jgo (((tx s).take k).drop f) ((tx s).drop k) ∧ Nt.jlen [] (tx s) = f + Nt.jlen (((tx s).take k).drop f) ((tx s).drop k) ∧ Kept [] w wr) (fun _ _ i _ => s.size - (intOf i).toNat)
  case atStart => exact ⟨0, 0, [], Nat.zero_le _, Nat.le_refl _, rfl, rfl, Tg.lit 41 w [] (by simp), Nat.le_refl _, by simp, by simp, (Kept.refl _ _).alloc _⟩
  case round =>
    obtain ⟨k, f, ds, hk, hf, rfl, rfl, hdg, hdl, hgo, hlen, hkept⟩ := hrel
    have HDG := Lib.hid hdg
    have HK := Lib.hid hkept
    have HGO := Lib.hid hgo
    have HLEN := Lib.hid hlen
    have hsz := hkept.size
    clear hdg hkept hgo hlen
    by_cases hlt : k < s.size
    · have HX := Lib.hid (tx_get hlt)
      have HKL : Hid (k < (tx s).length) := Lib.hid (by rw [HL.out]; exact hlt)
      by_cases hh : s[k].toNat = 10
      · have d1 : ((s[k].toNat : Int) == 10) = true := by simp [hh]
        have HPT : Hid (tx (s.extract f k) = ((tx s).take k).drop f) := Lib.hid (tx_part s f k)
        have HSZ : Hid ((s.extract f k).size ≤ 1100000) := Lib.hid (by rw [← tx_length, HPT.out, seen_len (Nat.le_of_lt HKL.out)]; omega)
        have HX10 : Hid ((tx s).getD k 0 = 10) := Lib.hid (by rw [HX.out, hh])
        clear hh
        go_wp2_with fail
        refine (sReadDeed_any (s.extract f k) HSZ.out _).mono ?_
        rintro e w5 ⟨rfl, hk5⟩
        rw [HPT.out]
        have HK5 := Lib.hid (HK.out.trans hk5 (by simp))
        have HDG5 := Lib.hid (Tg.stay HDG.out hk5)
        have hsz5 := HK5.out.size
        clear hk5
        cases hrd : Nt.readD (((tx s).take k).drop f) with
        | none =>
          have HJ := Lib.hid (jrn_stop HKL.out HX10.out hrd)
          obtain ⟨e1, e2⟩ := rd_none hrd
          rw [e1, e2, dv_eq]
          have HFG : Hid (Nt.jgo [] (tx s) = ds) := Lib.hid (by rw [HGO.out, HJ.out.1, List.append_nil])
          have HFL : Hid (Nt.jlen [] (tx s) = f) := Lib.hid (by rw [HLEN.out, HJ.out.2, Nat.add_zero])
          clear hrd e1 e2
          go_wp2
          go_ret2
          rw [HFL.out, HFG.out]
          exact ⟨_, rfl, Tg.stay HDG5.out ((Kept.refl _ _).alloc _), HK5.out.alloc _⟩
        | some d =>
          have HJ := Lib.hid (jrn_nl hf HKL.out HX10.out hrd)
          obtain ⟨e1, e2⟩ := rd_some hrd
          obtain ⟨dk, da, db⟩ := d
          rw [e1, e2, dv_eq]
          clear hrd e1 e2
          obtain ⟨t1, _, t3⟩ := two_new w5 41 41 #[.int .i64 dk, .int .i64 da, .int .i64 db] #[.int .i64 dk, .int .i64 da, .int .i64 db]
          have HDG6 := Lib.hid (Tg.stay HDG5.out t1)
          have HK6 := Lib.hid (HK5.out.trans t1 (by simp))
          have HB6 := Lib.hid t3
          clear t1 t3
          go_wp2_with (at_builtin; refine app_triG 41 24 (.agg #[.int .i64 0, .int .i64 0, .int .i64 0]) 24 Tryz.underlying24 info_deed rfl (by omega) (ds.map d3) ([(⟨dk, da, db⟩ : Nt.Dd)].map d3) (d3_one _) rfl _ _ rfl w.heap.size _ HDG6.out rfl 1 rfl (w5.heap.size + 1) rfl HB6.out (by simp; omega) HK6.out.size ?_; intro u9 w9 hs9 hk9; have HDG9 : Hid (Dg w9 w.heap.size u9 (ds ++ [⟨dk, da, db⟩])) := Lib.hid (by unfold Dg; rw [List.map_append]; exact hs9); have HK9 := Lib.hid (HK6.out.own hk9 (fun g hg => (Tg.block HDG6.out hg).1)); clear hs9 hk9)
          go_roundw
          case rel => exact ⟨k + 1, k + 1, _, by omega, Nat.le_refl _, by go_num, by go_num, HDG9.out, by rw [List.length_append]; show ds.length + 1 ≤ k + 1; omega, by rw [HGO.out, HJ.out.1, List.append_assoc]; rfl, by rw [HLEN.out, HJ.out.2], HK9.out⟩
          case measure => simp [intOf]; omega
      · have d1 : ((s[k].toNat : Int) == 10) = false := beq_eq_false_iff_ne.2 (by omega)
        have HJ := Lib.hid (jrn_on hf HKL.out (by rw [HX.out]; exact hh))
        clear hh
        go_wp2
        go_roundw
        case rel => exact ⟨k + 1, f, ds, by omega, by omega, by go_num, rfl, HDG.out, by omega, by rw [HGO.out, HJ.out.1], by rw [HLEN.out, HJ.out.2], HK.out⟩
        case measure => simp [intOf]; omega
    · have hk' : k = (tx s).length := by rw [HL.out]; omega
      have HE := Lib.hid (jrn_end (tx s) f)
      have HFG : Hid (Nt.jgo [] (tx s) = ds) := Lib.hid (by rw [HGO.out, hk', HE.out.1, List.append_nil])
      have HFL : Hid (Nt.jlen [] (tx s) = f) := Lib.hid (by rw [HLEN.out, hk', HE.out.2, Nat.add_zero])
      clear hk'
      go_wp2
      go_ret2
      rw [HFL.out, HFG.out]
      exact ⟨_, rfl, HDG.out, HK.out⟩
end Go.Proofs.YtnajdbnacdnnlaaGreatDoor

namespace Go.Proofs.YtnajdbnacdnnlaaGreatDoor
open Go.RowKit

/-- A store as a value, and what it says. -/
def sv (z1 z2 : ByteArray) (n : Int) : Value := .agg #[.string z1, .string z2, .int .i64 n]
def si (z1 z2 : ByteArray) (n : Int) : Nt.Si := ⟨tx z1, tx z2, n⟩
/-- What is returned says so. -/
def SvIs (y : Value) (r : Nt.Si) : Prop := ∃ a b m, y = sv a b m ∧ si a b m = r
theorem SvIs.zero : SvIs (.agg #[.string ⟨#[]⟩, .string ⟨#[]⟩, .int .i64 0]) Nt.Si.zero := ⟨_, _, _, rfl, rfl⟩
theorem ret_store {W : World} {g : Nat} {a b c : Value} (h : Bk W g 73 #[a, b, c]) :
    (loadVar 73 ⟨g, 0, none⟩).run Tryz.prog W = .ok (.agg #[a, b, c]) W :=
  run_loadVar_row W g 73 73 #[a, b, c] (0, 0) _ h Tryz.underlying73 rfl (by kernel_rfl)
theorem soB_is (z1 z2 : ByteArray) (n : Int) : Nt.soB (si z1 z2 n) = (Nt.readPB (tx z1) && decide (z2.size ≤ 1000) && decide (0 ≤ n ∧ n ≤ (z2.size : Int))) := by
  unfold Nt.soB si
  simp only [tx_length]

set_option maxHeartbeats 2000000 in
set_option maxRecDepth 100000 in
theorem sStoreOk_any (z1 z2 : ByteArray) (n : Int) (h1 : z1.size ≤ 1100000) (h2 : z2.size ≤ 1100000) (w : World) :
    Calls Tryz.prog 98 #[.agg #[.string z1, .string z2, .int .i64 n]] w fun e w' => e = .returned (.bool (Nt.soB (si z1 z2 n))) ∧ Kept [] w w' := by
  have HB := Lib.hid (Bk.new w 73 #[.string z1, .string z2, .int .i64 n])
  have HK0 : Hid (Kept [] w (w.alloc (.cells #[.string z1, .string z2, .int .i64 n] 73))) := Lib.hid ((Kept.refl [] w).alloc _)
  have HF := Lib.hid (soB_is z1 z2 n)
  have H1 := Lib.hid h1
  clear h1
  go_enter Tryz.func98, Tryz.ntmps98
  go_wp2_with fail
  generalize w.alloc (.cells #[.string z1, .string z2, .int .i64 n] 73) = W0 at *
  refine (sReadPlace_any z1 H1.out _).mono ?_
  rintro e w1 ⟨y1, rfl, ⟨v1, u1, rfl, hv, hu⟩, hk1⟩
  obtain ⟨a, c, rfl, _, _, _⟩ := hv.any
  obtain ⟨b, c', rfl, _, _, _⟩ := hu.any
  have HK1 := Lib.hid (HK0.out.trans hk1 (by simp))
  obtain ⟨t1, t2, _⟩ := two_new w1 30 30 #[] #[]
  obtain ⟨c0, c1, c2⟩ := (HB.out.stay hk1).three
  have hbl := (HB.out.stay hk1).lt
  clear hv hu hk1 t1 t2
  generalize Nt.readPI (tx z1) = P at *
  cases hb : Nt.readPB (tx z1)
  · rw [hb] at HF
    go_wp2
    go_ret
    exact ⟨by rw [HF.out]; rfl, HK1.out.alloc _⟩
  · rw [hb] at HF
    by_cases h1000 : z2.size ≤ 1000
    · have d1 : decide ((z2.size : Int) ≤ 1000) = true := dec_of (by omega)
      rw [show decide (z2.size ≤ 1000) = true from dec_of h1000] at HF
      cases hin : decide (0 ≤ n ∧ n ≤ (z2.size : Int))
      all_goals
        rw [hin] at HF
        go_wp2_with (go_at_call 151; refine (l1In_any n 0 (z2.size : Int) _).mono ?_; rintro e w' ⟨rfl, rfl⟩; rw [hin])
        go_ret
        exact ⟨by rw [HF.out]; rfl, HK1.out.alloc _⟩
    · have d1 : decide ((z2.size : Int) ≤ 1000) = false := dec_not (by omega)
      rw [show decide (z2.size ≤ 1000) = false from dec_not h1000] at HF
      clear h1000
      go_wp2
      go_ret
      exact ⟨by rw [HF.out]; rfl, HK1.out.alloc _⟩

set_option maxHeartbeats 2000000 in
set_option maxRecDepth 100000 in
theorem sMend_any (z1 z2 : ByteArray) (n : Int) (h1 : z1.size ≤ 1100000) (h2 : z2.size ≤ 1100000) (w : World) :
    Calls Tryz.prog 51 #[.agg #[.string z1, .string z2, .int .i64 n]] w fun e w' => ∃ y, e = .returned (.tuple #[y, .bool (Nt.soB (si z1 z2 n))]) ∧ SvIs y (Nt.smend (si z1 z2 n)) ∧ Kept [] w w' := by
  obtain ⟨hk0, hb0, hr0⟩ := two_new w 73 73 #[.string z1, .string z2, .int .i64 n] #[.string ⟨#[]⟩, .string ⟨#[]⟩, .int .i64 0]
  have HB := Lib.hid hb0
  have HR := Lib.hid hr0
  have HK0 := Lib.hid hk0
  have H2 := Lib.hid h2
  obtain ⟨c0, c1, c2⟩ := hb0.three
  have HC := Lib.hid (fun W => sStoreOk_any z1 z2 n h1 h2 W)
  clear hb0 hr0 hk0 h1
  go_enter Tryz.func51, Tryz.ntmps51
  go_wp2_with fail
  generalize ((w.alloc (.cells #[.string z1, .string z2, .int .i64 n] 73)).alloc (.cells #[.string ⟨#[]⟩, .string ⟨#[]⟩, .int .i64 0] 73)) = W0 at *
  refine (HC.out _).mono ?_
  rintro e w1 ⟨rfl, hk1⟩
  have HB1 := Lib.hid (HB.out.stay hk1)
  have HR1 := Lib.hid (HR.out.stay hk1)
  have HK1 := Lib.hid (HK0.out.trans hk1 (by simp))
  clear hk1 c0 c1 c2
  obtain ⟨c0, c1, c2⟩ := HB1.out.three
  obtain ⟨r0, r1, r2⟩ := HR1.out.three
  have f0 := HR1.out.frozen 0
  have f1 := HR1.out.frozen 1
  have f2 := HR1.out.frozen 2
  cases ho : Nt.soB (si z1 z2 n)
  · have HO := Lib.hid ho
    have HF := Lib.hid (Nt.smend_no ho)
    clear ho
    go_wp2
    (try simp only [Exit.inBlock, Exit.then])
    refine bodyPost_ret (v := .tuple #[.agg #[.string ⟨#[]⟩, .string ⟨#[]⟩, .int .i64 0], .bool false]) ?_ rfl ?_
    · rw [results_cell_tmp rfl]
      simp [asAddr, ret_store (HR1.out.set3 _ _ _)]
    · rw [HO.out, HF.out]
      exact ⟨_, rfl, SvIs.zero, HK1.out.set3 (by omega) _ _ _⟩
  · have HO := Lib.hid ho
    obtain ⟨_, _, _, _, _, hn0, hn1⟩ := Nt.soB_ok ho
    have hj := Nt.jlen_le (tx z2)
    rw [tx_length] at hj
    have hn1' : n ≤ (z2.size : Int) := by have h : n ≤ ((tx z2).length : Int) := hn1; rw [tx_length] at h; exact h
    have hn0' : 0 ≤ n := hn0
    have HF : Hid (si z1 (z2.extract 0 (Nt.jlen [] (tx z2))) (min n (Nt.jlen [] (tx z2) : Nat)) = Nt.smend (si z1 z2 n)) := Lib.hid (by
      rw [(Nt.smend_ok ho).1]; unfold si; simp only [tx_part, List.drop_zero])
    have HJ := Lib.hid (fun W => sReadJournal_any z2 H2.out W)
    clear ho hn0 hn1
    go_wp2_with fail
    refine (HJ.out _).mono ?_
    rintro e w2 ⟨u2, rfl, hdg, hk2⟩
    have HB2 := Lib.hid (HB1.out.stay hk2)
    have HR2 := Lib.hid (HR1.out.stay hk2)
    have HK2 := Lib.hid (HK1.out.trans hk2 (by simp))
    obtain ⟨a2, cp2, rfl⟩ := Tg.any hdg
    clear hk2 hdg c0 c1 c2 r0 r1 r2 f0 f1 f2
    obtain ⟨c0, c1, c2⟩ := HB2.out.three
    obtain ⟨r0, r1, r2⟩ := HR2.out.three
    have f0 := HR2.out.frozen 0
    have f1 := HR2.out.frozen 1
    have f2 := HR2.out.frozen 2
    generalize Nt.jlen [] (tx z2) = k at *
    by_cases hm : n ≤ (k : Int)
    · have HM : Hid (si z1 (z2.extract 0 k) n = Nt.smend (si z1 z2 n)) := Lib.hid (by rw [← HF.out, Int.min_eq_left hm])
      go_wp2_with fail
      go_region
      all_goals (try omega)
      go_wp2
      (try simp only [Exit.inBlock, Exit.then])
      have hb9 : Bk (((w2.setCell ⟨w.heap.size + 1, 0, none⟩ (.string z1)).setCell ⟨w.heap.size + 1, 1, none⟩ (.string (z2.extract 0 k))).setCell ⟨w.heap.size + 1, 2, none⟩ (.int .i64 n)).drew (w.heap.size + 1) 73 #[.string z1, .string (z2.extract 0 k), .int .i64 n] := HR2.out.set3 _ _ _
      refine bodyPost_ret (v := .tuple #[.agg #[.string z1, .string (z2.extract 0 k), .int .i64 n], .bool true]) ?_ rfl ?_
      · rw [results_cell_tmp rfl]
        simp [asAddr, ret_store hb9]
      · rw [HO.out]
        exact ⟨_, rfl, ⟨_, _, _, rfl, HM.out⟩, (HK2.out.set3 (by omega) _ _ _).drew⟩
    · have HM : Hid (si z1 (z2.extract 0 k) (k : Int) = Nt.smend (si z1 z2 n)) := Lib.hid (by rw [← HF.out, Int.min_eq_right (by omega)])
      go_wp2_with fail
      go_region
      all_goals (try omega)
      go_wp2
      (try simp only [Exit.inBlock, Exit.then])
      have hb9 : Bk (((w2.setCell ⟨w.heap.size + 1, 0, none⟩ (.string z1)).setCell ⟨w.heap.size + 1, 1, none⟩ (.string (z2.extract 0 k))).setCell ⟨w.heap.size + 1, 2, none⟩ (.int .i64 (k : Int))).drew (w.heap.size + 1) 73 #[.string z1, .string (z2.extract 0 k), .int .i64 (k : Int)] := HR2.out.set3 _ _ _
      refine bodyPost_ret (v := .tuple #[.agg #[.string z1, .string (z2.extract 0 k), .int .i64 (k : Int)], .bool true]) ?_ rfl ?_
      · rw [results_cell_tmp rfl]
        simp [asAddr, ret_store hb9]
      · rw [HO.out]
        exact ⟨_, rfl, ⟨_, _, _, rfl, HM.out⟩, (HK2.out.set3 (by omega) _ _ _).drew⟩

end Go.Proofs.YtnajdbnacdnnlaaGreatDoor
