/-
  Texts of deeds, by the model.
-/
import Derived.Test.YtnajdbnacdnnlaaGreatDoorPV2
import Derived.Test.YtnajdbnacdnnlaaGreatDoorTxD
namespace Go.Proofs.YtnajdbnacdnnlaaGreatDoor
open Go.RowKit

/-- A deed as a value. -/
def dv (d : Nt.Dd) : Value := .agg #[.int .i64 d.kind, .int .i64 d.a, .int .i64 d.b]
theorem dv_eq (k a b : Int) : dv ⟨k, a, b⟩ = .agg #[.int .i64 k, .int .i64 a, .int .i64 b] := rfl
theorem deedT_no1 {k a b : Int} (h : ¬ (0 ≤ a ∧ a ≤ 99)) : Nt.deedT ⟨k, a, b⟩ = [] := by
  refine Nt.deedT_none (fun hd => ?_)
  rcases hd.cases with ⟨x, y, hx, hy, e⟩ | ⟨x, hx, e⟩ | ⟨x, hx, e⟩ | e | e <;> (simp only [Nt.Dd.mk.injEq] at e; omega)
theorem deedT_no2 {k a b : Int} (h : ¬ (0 ≤ b ∧ b ≤ 99)) : Nt.deedT ⟨k, a, b⟩ = [] := by
  refine Nt.deedT_none (fun hd => ?_)
  rcases hd.cases with ⟨x, y, hx, hy, e⟩ | ⟨x, hx, e⟩ | ⟨x, hx, e⟩ | e | e <;> (simp only [Nt.Dd.mk.injEq] at e; omega)
theorem deedT_no3 {k a b : Int} (h0 : ¬ k = 0) (h1 : ¬ (k = 1 ∧ b = 0)) (h3 : ¬ (k = 3 ∧ b = 0)) (h2 : ¬ (k = 2 ∧ a = 0 ∧ b = 0)) (h4 : ¬ (k = 4 ∧ a = 0 ∧ b = 0)) : Nt.deedT ⟨k, a, b⟩ = [] := by
  refine Nt.deedT_none (fun hd => ?_)
  rcases hd.cases with ⟨x, y, hx, hy, e⟩ | ⟨x, hx, e⟩ | ⟨x, hx, e⟩ | e | e <;> (simp only [Nt.Dd.mk.injEq] at e; omega)
theorem deedT_join {a b : Nat} (ha : a ≤ 99) (hb : b ≤ 99) : Nt.deedT ⟨0, a, b⟩ = [106, 111, 105, 110, 32] ++ Nt.digs a ++ [32] ++ Nt.digs b := by
  unfold Nt.deedT
  rw [Nt.deedW_join ha hb, Nt.join_cons 32 _ (by simp), Nt.join_cons 32 _ (by simp)]
  simp [Nt.join, Nt.wJoin]
theorem deedT_light {a : Nat} (ha : a ≤ 99) : Nt.deedT ⟨1, a, 0⟩ = [108, 105, 103, 104, 116, 32] ++ Nt.digs a := by
  unfold Nt.deedT
  rw [Nt.deedW_light ha, Nt.join_cons 32 _ (by simp)]
  simp [Nt.join, Nt.wLight]
theorem deedT_kinds {a : Nat} (ha : a ≤ 99) : Nt.deedT ⟨3, a, 0⟩ = [107, 105, 110, 100, 115, 32] ++ Nt.digs a := by
  unfold Nt.deedT
  rw [Nt.deedW_kinds ha, Nt.join_cons 32 _ (by simp)]
  simp [Nt.join, Nt.wKinds]
theorem deedT_step : Nt.deedT ⟨2, 0, 0⟩ = [115, 116, 101, 112] := by decide
theorem deedT_back : Nt.deedT ⟨4, 0, 0⟩ = [98, 97, 99, 107] := by decide
theorem digs99 {n : Nat} (h : n ≤ 99) : (Nt.digs n).length ≤ 2 := Nt.digs_length (n := n) 1 (by omega)

set_option maxHeartbeats 4000000 in
set_option maxRecDepth 100000 in
theorem sDeedText_any (k a b : Int) (w : World) :
    Calls Tryz.prog 100 #[.agg #[.int .i64 k, .int .i64 a, .int .i64 b]] w fun e w' => ∃ z, e = .returned (.string z) ∧ tx z = Nt.deedT ⟨k, a, b⟩ ∧ Kept [] w w' := by
  have hk0 : Kept [] w (w.alloc (.cells #[.int .i64 k, .int .i64 a, .int .i64 b] 41)) := (Kept.refl [] w).alloc _
  have hb0 := Bk.new w 41 #[.int .i64 k, .int .i64 a, .int .i64 b]
  have HB := Lib.hid hb0
  have HK0 := Lib.hid hk0
  obtain ⟨c0, c1, c2⟩ := hb0.three
  clear hb0 hk0
  by_cases ha : 0 ≤ a ∧ a ≤ 99
  · have d1 : decide (0 ≤ a ∧ a ≤ 99) = true := dec_of ha
    by_cases hb : 0 ≤ b ∧ b ≤ 99
    · have d2 : decide (0 ≤ b ∧ b ≤ 99) = true := dec_of hb
      obtain ⟨x, rfl⟩ := Int.eq_ofNat_of_zero_le ha.1
      obtain ⟨y, rfl⟩ := Int.eq_ofNat_of_zero_le hb.1
      have hx : x ≤ 99 := by omega
      have hy : y ≤ 99 := by omega
      have HDX := Lib.hid (digs99 hx)
      have HDY := Lib.hid (digs99 hy)
      have HX6 := Lib.hid (show x < 1000000 by omega)
      have HY6 := Lib.hid (show y < 1000000 by omega)
      clear ha hb
      go_enter Tryz.func100, Tryz.ntmps100
      go_wp2_with fail
      generalize w.alloc (.cells #[.int .i64 k, .int .i64 (x : Int), .int .i64 (y : Int)] 41) = W0 at *
      refine (l1In_any (x : Int) 0 99 _).mono ?_
      rintro e w' ⟨rfl, rfl⟩
      rw [d1]
      go_wp2_with fail
      refine (l1In_any (y : Int) 0 99 _).mono ?_
      rintro e w' ⟨rfl, rfl⟩
      rw [d2]
      clear d1 d2
      by_cases h0 : k = 0
      · subst h0
        have HF := Lib.hid (deedT_join hx hy)
        have hs4 : (fun w' : World => w'.cell? ⟨w.heap.size, 0, none⟩ = some (.int .i64 0) ∧ w'.cell? ⟨w.heap.size, 1, none⟩ = some (.int .i64 (x : Int)) ∧ w'.cell? ⟨w.heap.size, 2, none⟩ = some (.int .i64 (y : Int))) W0.drew := (HB.out.stay ((Kept.refl [] W0).drew)).three
        clear hx hy
        go_wp2_with fail
        clear c0 c1 c2
        go_region_held3 (fun w' => w'.cell? ⟨w.heap.size, 0, none⟩ = some (.int .i64 0) ∧ w'.cell? ⟨w.heap.size, 1, none⟩ = some (.int .i64 (x : Int)) ∧ w'.cell? ⟨w.heap.size, 2, none⟩ = some (.int .i64 (y : Int)))
          (first | exact hs4 | exact y5 | exact y6 | go_keep)
          (first
            | (go_simp; go_at_call 123; (with_reducible refine (l1Number_any x HX6.out _).mono ?_); rintro e w5 ⟨z5, rfl, hz5, hk5⟩; have hk5' := (show Kept [] W0 w5 from ⟨hk5.os, hk5.tape, hk5.output, hk5.size, hk5.block⟩); have HK5 := Lib.hid hk5'; have y5 := (HB.out.stay hk5').three; have hl5 : z5.size ≤ 2 := (by rw [← tx_length, hz5]; exact HDX.out); obtain ⟨p1, hp1, hl1, hadd1⟩ := add_tx ⟨#[106, 111, 105, 110, 32]⟩ z5 (by show 5 + z5.size ≤ _; omega); obtain ⟨p2, hp2, hl2, hadd2⟩ := add_tx p1 ⟨#[32]⟩ (by rw [hl1]; show 5 + z5.size + 1 ≤ _; omega); have HP2 : Hid (tx p2 = [106, 111, 105, 110, 32] ++ Nt.digs x ++ [32]) := Lib.hid (by rw [hp2, hp1, hz5]; rfl); have HL2 : Hid (p2.size ≤ 10) := Lib.hid (by rw [hl2, hl1]; show 5 + z5.size + 1 ≤ _; omega); clear hk5 hk5' hz5 hl5 hp1 hp2 hl1 hl2)
            | (go_simp; go_at_call 123; (with_reducible refine (l1Number_any y HY6.out _).mono ?_); rintro e w6 ⟨z6, rfl, hz6, hk6⟩; have HK6 := Lib.hid (HK5.out.trans hk6 (by simp)); have y6 := (HB.out.stay HK6.out).three; have hl6 : z6.size ≤ 2 := (by rw [← tx_length, hz6]; exact HDY.out); obtain ⟨p3, hp3, hl3, hadd3⟩ := add_tx p2 z6 (by have := HL2.out; omega); have HP3 : Hid (tx p3 = Nt.deedT ⟨0, (x : Int), (y : Int)⟩) := Lib.hid (by rw [HF.out, hp3, HP2.out, hz6]); clear hk6 hz6 hl6 hp3 hl3 y5))
        all_goals
          go_wp2
          go_ret
          exact ⟨_, rfl, HP3.out, HK0.out.trans HK6.out (by simp)⟩
      have k0 : (k == 0) = false := by simpa using h0
      by_cases h1 : k = 1 ∧ y = 0
      · obtain ⟨rfl, rfl⟩ := h1
        have HF := Lib.hid (deedT_light (a := x) (by omega))
        go_wp2_with fail
        refine (l1Number_any x (by omega) _).mono ?_
        rintro e w5 ⟨z5, rfl, hz5, hk5⟩
        obtain ⟨p1, hp1, _, hadd1⟩ := add_tx ⟨#[108, 105, 103, 104, 116, 32]⟩ z5 (by have := HDX.out; rw [← hz5, tx_length] at this; show 6 + z5.size ≤ _; omega)
        have HP : Hid (tx p1 = Nt.deedT _) := Lib.hid (by rw [HF.out, hp1, hz5]; rfl)
        have HK5 := Lib.hid (HK0.out.trans hk5 (by simp))
        clear hp1 hz5 hk5
        go_wp2
        go_ret
        exact ⟨_, rfl, HP.out, HK5.out⟩
      by_cases h3 : k = 3 ∧ y = 0
      · obtain ⟨rfl, rfl⟩ := h3
        have HF := Lib.hid (deedT_kinds (a := x) (by omega))
        go_wp2_with fail
        refine (l1Number_any x (by omega) _).mono ?_
        rintro e w5 ⟨z5, rfl, hz5, hk5⟩
        obtain ⟨p1, hp1, _, hadd1⟩ := add_tx ⟨#[107, 105, 110, 100, 115, 32]⟩ z5 (by have := HDX.out; rw [← hz5, tx_length] at this; show 6 + z5.size ≤ _; omega)
        have HP : Hid (tx p1 = Nt.deedT _) := Lib.hid (by rw [HF.out, hp1, hz5]; rfl)
        have HK5 := Lib.hid (HK0.out.trans hk5 (by simp))
        clear hp1 hz5 hk5
        go_wp2
        go_ret
        exact ⟨_, rfl, HP.out, HK5.out⟩
      by_cases h2 : k = 2 ∧ x = 0 ∧ y = 0
      · obtain ⟨rfl, rfl, rfl⟩ := h2
        go_wp2
        go_ret
        exact ⟨_, rfl, by rw [show Nt.deedT ⟨2, ((0 : Nat) : Int), ((0 : Nat) : Int)⟩ = _ from deedT_step]; rfl, HK0.out⟩
      by_cases h4 : k = 4 ∧ x = 0 ∧ y = 0
      · obtain ⟨rfl, rfl, rfl⟩ := h4
        go_wp2
        go_ret
        exact ⟨_, rfl, by rw [show Nt.deedT ⟨4, ((0 : Nat) : Int), ((0 : Nat) : Int)⟩ = _ from deedT_back]; rfl, HK0.out⟩
      have HF := Lib.hid (deedT_no3 (a := (x : Int)) (b := (y : Int)) h0 (by omega) (by omega) (by omega) (by omega))
      by_cases hy0 : y = 0
      · subst hy0
        have k1 : (k == 1) = false := by simp; omega
        have k3 : (k == 3) = false := by simp; omega
        by_cases hx0 : x = 0
        · subst hx0
          have k2 : (k == 2) = false := by simp; omega
          have k4 : (k == 4) = false := by simp; omega
          clear h0 h1 h2 h3 h4
          go_wp2
          go_ret
          exact ⟨_, rfl, by rw [HF.out]; rfl, HK0.out⟩
        · have e0 : ((x : Int) == 0) = false := by simp; omega
          clear h0 h1 h2 h3 h4
          go_wp2
          go_ret
          exact ⟨_, rfl, by rw [HF.out]; rfl, HK0.out⟩
      · have e0 : ((y : Int) == 0) = false := by simp; omega
        clear h0 h1 h2 h3 h4
        go_wp2
        go_ret
        exact ⟨_, rfl, by rw [HF.out]; rfl, HK0.out⟩
    · have d2 : decide (0 ≤ b ∧ b ≤ 99) = false := dec_not hb
      have HF := Lib.hid (deedT_no2 (k := k) (a := a) hb)
      go_enter Tryz.func100, Tryz.ntmps100
      go_wp2_with (go_at_call 151; first | (with_reducible refine (l1In_any a 0 99 _).mono ?_; rintro e w' ⟨rfl, rfl⟩; rw [d1]) | (refine (l1In_any b 0 99 _).mono ?_; rintro e w' ⟨rfl, rfl⟩; rw [d2]))
      go_ret
      exact ⟨_, rfl, by rw [HF.out]; rfl, HK0.out⟩
  · have d1 : decide (0 ≤ a ∧ a ≤ 99) = false := dec_not ha
    have HF := Lib.hid (deedT_no1 (k := k) (b := b) ha)
    go_enter Tryz.func100, Tryz.ntmps100
    go_wp2_with (go_at_call 151; refine (l1In_any a 0 99 _).mono ?_; rintro e w' ⟨rfl, rfl⟩; rw [d1])
    go_ret
    exact ⟨_, rfl, by rw [HF.out]; rfl, HK0.out⟩
end Go.Proofs.YtnajdbnacdnnlaaGreatDoor
