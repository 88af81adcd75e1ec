/-
  Walks: desks of exact laws: copied, compared, marked, looked over.
-/
import Derived.Test.YtofgfhfdmkcmcaaE5
namespace Go.Proofs.Ytofgfhfdmkcmcaa
open Go.RowKit

/-- All is as it was but for some blocks between two. -/
def Kin (lo hi : Nat) (w w' : World) : Prop := ∃ rows, Kept rows w w' ∧ ∀ g, g ∈ rows → lo ≤ g ∧ g < hi
theorem Kin.of {lo hi : Nat} {w w' : World} (h : Kept [] w w') : Kin lo hi w w' := ⟨[], h, by simp⟩
theorem Kin.size {lo hi : Nat} {w w' : World} (h : Kin lo hi w w') : w.heap.size ≤ w'.heap.size := by
  obtain ⟨rows, hk, _⟩ := h
  exact hk.size
theorem Bk.kin {w w' : World} {g lo hi : Nat} {T : TypeId} {cs : Array Value} (h : Bk w g T cs) (hk : Kin lo hi w w') (hn : g < lo ∨ hi ≤ g) : Bk w' g T cs := by
  obtain ⟨rows, hk, hr⟩ := hk
  exact h.kept hk (fun hg => by have := hr g hg; omega)
theorem Sl.kin {w w' : World} {base lo hi : Nat} {v : Value} {xs : List Int} (h : Sl w base v xs) (hk : Kin lo hi w w') (hn : hi ≤ base) : Sl w' base v xs := by
  obtain ⟨rows, hk, hr⟩ := hk
  exact h.kept hk (fun g hg hm => by have h1 := hr g hm; have h2 := (h.block hg).1; omega)
/-- What lay ahead of the marked blocks is as it was. -/
theorem Kept.kin {w a b : World} {lo hi : Nat} (h : Kept [] w a) (k : Kin lo hi a b) (hl : w.heap.size ≤ lo) : Kept [] w b := by
  obtain ⟨rows, hk, hr⟩ := k
  exact h.trans hk (fun x hx => .inr (by have := hr x hx; omega))

def dkLen (d : Nt.Di) : Nat := plLen d.now + d.past.length + psLen d.past d.past.length
def mkDi (d : Nt.Di) (m : Int) : Nt.Di := ⟨⟨marks m d.now.ns.length, d.now.c, marks (m + (d.now.ns.length : Nat)) d.now.ks.length⟩, mkTo d.past (m + (d.now.ns.length : Nat) + (d.now.ks.length : Nat)) d.past.length⟩
theorem mkDi_zero (m : Int) : mkDi Nt.Di.zero m = Nt.Di.zero := by
  simp [mkDi, Nt.Di.zero, Nt.Pi.zero, marks, mkTo]
theorem dkLen_zero : dkLen Nt.Di.zero = 0 := rfl
theorem dkLen_ok {d : Nt.Di} (h : Nt.dkB d = true) : dkLen d ≤ 3000 := by
  obtain ⟨h1, h2, h3⟩ := dk_parts h
  obtain ⟨a, b⟩ := pl_len h1
  have hs : ∀ k, k ≤ d.past.length → psLen d.past k ≤ 200 * k := by
    intro k
    induction k with
    | zero => intro _; exact Nat.le_refl _
    | succ k ih =>
      intro hk
      have h4 := ih (by omega)
      obtain ⟨c, e⟩ := pl_len (h2 k (by omega))
      show psLen d.past k + plLen (piAt d.past k) ≤ _
      unfold plLen
      omega
  have := hs _ (Nat.le_refl _)
  unfold dkLen plLen
  omega

/-- A desk in memory of its own, between two blocks; or none. -/
def Dm (w : World) (lo hi : Nat) (y : Value) (d : Nt.Di) : Prop :=
  (d = Nt.Di.zero ∧ y = .agg #[.slice none 0 0, .int .i64 0, .slice none 0 0, .slice none 0 0]) ∨
  ∃ G C r vs, Dx w lo y d G C r vs ∧ (∀ g, r.ownBlock = some g → g < hi) ∧ (∀ i, i < 2 * d.past.length + 2 → G i < hi)
theorem Dm.dv {w : World} {lo hi : Nat} {y : Value} {d : Nt.Di} (h : Dm w lo hi y d) : Dv w lo y d := by
  rcases h with ⟨rfl, rfl⟩ | ⟨G, C, r, vs, h, _⟩
  · exact Dv.zero w lo
  · exact h.dv
theorem Dm.stay {w w' : World} {lo hi : Nat} {y : Value} {d : Nt.Di} (h : Dm w lo hi y d) (hk : Kept [] w w') : Dm w' lo hi y d := by
  rcases h with ⟨rfl, rfl⟩ | ⟨G, C, r, vs, h, h2⟩
  · exact .inl ⟨rfl, rfl⟩
  · exact .inr ⟨G, C, r, vs, h.stay hk, h2⟩
theorem Dm.kin {w w' : World} {lo hi lo' hi' : Nat} {y : Value} {d : Nt.Di} (h : Dm w lo hi y d) (hk : Kin lo' hi' w w') (hn : hi' ≤ lo) : Dm w' lo hi y d := by
  rcases h with ⟨rfl, rfl⟩ | ⟨G, C, r, vs, h, h2⟩
  · exact .inl ⟨rfl, rfl⟩
  · obtain ⟨rows, hk, hr⟩ := hk
    exact .inr ⟨G, C, r, vs, h.kept hk (fun g hg _ hm => by have := hr g hm; omega), h2⟩
theorem Dx.blk {w : World} {base : Nat} {y : Value} {d : Nt.Di} {G C : Nat → Nat} {r : Value} {vs : List (Value × Value × Value)} (h : Dx w base y d G C r vs) {i : Nat} (hi : i < 2 * d.past.length + 2) : base ≤ G i ∧ G i < w.heap.size := by
  by_cases e0 : i = 0
  · subst e0; exact h.net.block rfl
  by_cases e1 : i = 1
  · subst e1; exact h.st.block rfl
  by_cases e : i % 2 = 0
  · obtain ⟨k, rfl⟩ : ∃ k, i = 2 * k + 2 := ⟨i / 2 - 1, by omega⟩
    exact (h.past k (by omega)).2.1.block rfl
  · obtain ⟨k, rfl⟩ : ∃ k, i = 2 * k + 3 := ⟨i / 2 - 1, by omega⟩
    exact (h.past k (by omega)).2.2.block rfl
theorem Dx.dm {w : World} {base : Nat} {y : Value} {d : Nt.Di} {G C : Nat → Nat} {r : Value} {vs : List (Value × Value × Value)} (h : Dx w base y d G C r vs) : Dm w base w.heap.size y d :=
  .inr ⟨G, C, r, vs, h, fun _ hg => (h.row.block hg).2, fun _ hi => (h.blk hi).2⟩
/-- A desk that a call returned is one in memory of its own. -/
theorem DxR.dm {w : World} {base : Nat} {x : Value} {d : Nt.Di} (h : DxR w base x d) : Dm w base w.heap.size x d ∧ dkLen d ≤ 3000 := by
  rcases h with ⟨rfl, rfl⟩ | ⟨h1, G, C, r, vs, h⟩
  · exact ⟨.inl ⟨rfl, rfl⟩, by rw [dkLen_zero]; omega⟩
  · exact ⟨h.dm, dkLen_ok h1⟩

set_option maxHeartbeats 2000000 in
set_option maxRecDepth 100000 in
theorem eqDesk_same (d : Nt.Di) (w : World) (x y : Value) (base base' : Nat) (h : Dv w base x d) (h' : Dv w base' y d) :
    Calls Try.prog 38 #[x, y] w fun e w' => e = .returned (.bool true) ∧ Kept [] w w' := by
  obtain ⟨v, u, r, rfl, h1, h2, h5⟩ := h
  obtain ⟨v', u', r', rfl, h3, h4, h6⟩ := h'
  obtain ⟨hk0, hb0, hr0⟩ := two_new w 32 32 #[v, .int .i64 d.now.c, u, r] #[v', .int .i64 d.now.c, u', r']
  obtain ⟨a, cap, rfl, _, _, _⟩ := h1.any
  obtain ⟨b, cap2, rfl, _, _, _⟩ := h2.any
  obtain ⟨a3, cap3, rfl⟩ := h5.any3
  obtain ⟨a', cap', rfl, _, _, _⟩ := h3.any
  obtain ⟨b', cap2', rfl, _, _, _⟩ := h4.any
  obtain ⟨a3', cap3', rfl⟩ := h6.any3
  have HK0 := Lib.hid hk0
  have HP1 := Lib.hid (show Pv _ base (.agg #[.slice a d.now.ns.length cap, .int .i64 d.now.c, .slice b d.now.ks.length cap2]) d.now from ⟨_, _, rfl, h1.stay hk0, h2.stay hk0⟩)
  have HP2 := Lib.hid (show Pv _ base' (.agg #[.slice a' d.now.ns.length cap', .int .i64 d.now.c, .slice b' d.now.ks.length cap2']) d.now from ⟨_, _, rfl, h3.stay hk0, h4.stay hk0⟩)
  have H5 := Lib.hid (h5.stay hk0)
  have H6 := Lib.hid (h6.stay hk0)
  have HB := Lib.hid hb0
  have HR := Lib.hid hr0
  obtain ⟨c0, c1, c2, c3⟩ := hb0.four
  obtain ⟨d0, d1, d2, d3⟩ := hr0.four
  clear hb0 hr0 hk0 h1 h2 h3 h4 h5 h6
  go_enter Try.func38, Try.ntmps38
  go_wp2_with fail
  generalize ((w.alloc (.cells #[.slice a d.now.ns.length cap, .int .i64 d.now.c, .slice b d.now.ks.length cap2, .slice a3 d.past.length cap3] 32)).alloc (.cells #[.slice a' d.now.ns.length cap', .int .i64 d.now.c, .slice b' d.now.ks.length cap2', .slice a3' d.past.length cap3'] 32)) = W0 at *
  refine (eqPlace_same d.now _ _ _ _ _ HP1.out HP2.out).mono ?_
  rintro e w1 ⟨rfl, hk1⟩
  have HK1 := Lib.hid hk1
  clear c0 c1 c2 c3 d0 d1 d2 d3
  obtain ⟨c0, c1, c2, c3⟩ := (HB.out.stay hk1).four
  obtain ⟨d0, d1, d2, d3⟩ := (HR.out.stay hk1).four
  clear hk1
  go_wp2_with fail
  refine (eqPlaceS_same d.past _ _ _ _ _ (H5.out.stay HK1.out) (H6.out.stay HK1.out)).mono ?_
  rintro e w2 ⟨rfl, hk2⟩
  have HK2 := Lib.hid ((HK0.out.trans HK1.out (by simp)).trans hk2 (by simp))
  clear hk2 c0 c1 c2 c3 d0 d1 d2 d3
  go_wp2
  go_ret
  exact ⟨rfl, HK2.out⟩

set_option maxHeartbeats 400000 in
set_option maxRecDepth 100000 in
theorem markPlaceS_nil (m : Int) (w : World) : Calls Try.prog 77 #[.slice none 0 0, .int .i64 m] w fun e w' => e = .returned (.int .i64 m) ∧ w = w' := by
  go_enter Try.func77, Try.ntmps77
  go_wp2_with fail
  go_loop [1, 5] (fun q i => i = .int .i64 0 ∧ q = .int .i64 m) (fun _ _ => 0)
  case atStart => exact ⟨rfl, rfl⟩
  case round =>
    obtain ⟨rfl, rfl⟩ := hrel
    go_wp2
    go_ret
    exact ⟨rfl, rfl⟩

set_option maxHeartbeats 400000 in
set_option maxRecDepth 100000 in
theorem heldPlaceS_nil (m : Int) (w : World) : Calls Try.prog 79 #[.slice none 0 0, .int .i64 m] w fun e w' => e = .returned (.int .i64 m) ∧ w = w' := by
  go_enter Try.func79, Try.ntmps79
  go_wp2_with fail
  go_loop [1, 5] (fun q i => i = .int .i64 0 ∧ q = .int .i64 m) (fun _ _ => 0)
  case atStart => exact ⟨rfl, rfl⟩
  case round =>
    obtain ⟨rfl, rfl⟩ := hrel
    go_wp2
    go_ret
    exact ⟨rfl, rfl⟩

set_option maxHeartbeats 400000 in
set_option maxRecDepth 100000 in
theorem markIntS_nil (m : Int) (w : World) : Calls Try.prog 76 #[.slice none 0 0, .int .i64 m] w fun e w' => e = .returned (.int .i64 m) ∧ w = w' := by
  go_enter Try.func76, Try.ntmps76
  go_wp2_with fail
  go_loop [1, 5] (fun q i => i = .int .i64 0 ∧ q = .int .i64 m) (fun _ _ => 0)
  case atStart => exact ⟨rfl, rfl⟩
  case round =>
    obtain ⟨rfl, rfl⟩ := hrel
    go_wp2
    go_ret
    exact ⟨rfl, rfl⟩

set_option maxHeartbeats 400000 in
set_option maxRecDepth 100000 in
theorem markPlace_nil (m c : Int) (w : World) : Calls Try.prog 39 #[.agg #[.slice none 0 0, .int .i64 c, .slice none 0 0], .int .i64 m] w fun e w' => e = .returned (.int .i64 m) ∧ Kept [] w w' := by
  have HK := Lib.hid ((Kept.refl [] w).alloc (.cells #[.slice none 0 0, .int .i64 c, .slice none 0 0] 25))
  go_enter Try.func39, Try.ntmps39
  go_wp2_with fail
  refine (markIntS_nil m _).mono ?_
  rintro e w1 ⟨rfl, rfl⟩
  go_wp2_with fail
  refine (markIntS_nil m _).mono ?_
  rintro e w1 ⟨rfl, rfl⟩
  go_wp2
  go_ret
  exact ⟨rfl, HK.out⟩

/-- A row of places as part of a desk. -/
theorem Dx.rw {w : World} {base : Nat} {y : Value} {d : Nt.Di} {G C : Nat → Nat} {r : Value} {vs : List (Value × Value × Value)} (h : Dx w base y d G C r vs) : Rw w base r vs d.past G C :=
  ⟨h.row, h.len, h.past, fun i j _ h2 h3 => h.inc i j h2 h3⟩

set_option maxHeartbeats 4000000 in
set_option maxRecDepth 100000 in
theorem markDesk_any (m : Int) (h0 : 0 ≤ m) (d : Nt.Di) (hT : m + (dkLen d : Nat) ≤ 2000000) (w : World) (y : Value) (lo hi : Nat) (h : Dm w lo hi y d) :
    Calls Try.prog 40 #[y, .int .i64 m] w fun e w' => e = .returned (.int .i64 (m + (dkLen d : Nat))) ∧ Dm w' lo hi y (mkDi d m) ∧ Kin lo hi w w' := by
  rcases h with ⟨rfl, rfl⟩ | ⟨G, C, r, vs, h, hr, hG⟩
  · rw [mkDi_zero, dkLen_zero]
    have hk0 : Kept [] w (w.alloc (.cells #[.slice none 0 0, .int .i64 0, .slice none 0 0, .slice none 0 0] 32)) := (Kept.refl [] w).alloc _
    have HB := Lib.hid (Bk.new w 32 #[.slice none 0 0, .int .i64 0, .slice none 0 0, .slice none 0 0])
    obtain ⟨c0, c1, c2, c3⟩ := HB.out.four
    have HK0 := Lib.hid hk0
    clear hk0 h0 hT
    go_enter Try.func40, Try.ntmps40
    go_wp2_with fail
    generalize w.alloc (.cells #[.slice none 0 0, .int .i64 0, .slice none 0 0, .slice none 0 0] 32) = W0 at *
    refine (markPlace_nil m 0 _).mono ?_
    rintro e w1 ⟨rfl, hk1⟩
    have HK1 := Lib.hid (HK0.out.trans hk1 (by simp))
    clear c0 c1 c2 c3
    obtain ⟨c0, c1, c2, c3⟩ := (HB.out.stay hk1).four
    clear hk1
    go_wp2_with fail
    refine (markPlaceS_nil m _).mono ?_
    rintro e w2 ⟨rfl, rfl⟩
    go_wp2
    go_ret
    exact ⟨by simp, .inl ⟨rfl, rfl⟩, Kin.of HK1.out⟩
  · have hval := h.val
    have hblk := fun i hi => Dx.blk h (i := i) hi
    have hpv : PvA w lo (.agg #[.slice (some ⟨G 0, 0, none⟩) d.now.ns.length (C 0), .int .i64 d.now.c, .slice (some ⟨G 1, 0, none⟩) d.now.ks.length (C 1)]) d.now (G 0) (C 0) (G 1) (C 1) := ⟨rfl, h.net, h.st, h.inc 0 1 (by omega) (by omega)⟩
    subst hval
    have hrw := h.rw
    have hk0 : Kept [] w (w.alloc (.cells #[.slice (some ⟨G 0, 0, none⟩) d.now.ns.length (C 0), .int .i64 d.now.c, .slice (some ⟨G 1, 0, none⟩) d.now.ks.length (C 1), r] 32)) := (Kept.refl [] w).alloc _
    have HB := Lib.hid (Bk.new w 32 #[.slice (some ⟨G 0, 0, none⟩) d.now.ns.length (C 0), .int .i64 d.now.c, .slice (some ⟨G 1, 0, none⟩) d.now.ks.length (C 1), r])
    have HPV := Lib.hid (hpv.stay hk0)
    have HRW := Lib.hid (hrw.stay hk0)
    have HK0 := Lib.hid hk0
    have HBLK := Lib.hid hblk
    have HG := Lib.hid hG
    have HRO := Lib.hid hr
    have HINC := Lib.hid h.inc
    have HRB := Lib.hid (fun g (hg : r.ownBlock = some g) => h.row.block hg)
    have HSZ := Lib.hid (And.intro h0 hT)
    have HOWN := Lib.hid (fun i (hi : i < 2 * d.past.length + 2) => (show ∀ g, r.ownBlock = some g → g ≠ G i from by
      intro g hg e
      by_cases e0 : i = 0
      · subst e0; exact sl_tg h.net h.row (G 0) rfl (by rw [hg, e]; simp)
      by_cases e1 : i = 1
      · subst e1; exact sl_tg h.st h.row (G 1) rfl (by rw [hg, e]; simp)
      by_cases e2 : i % 2 = 0
      · obtain ⟨k, rfl⟩ : ∃ k, i = 2 * k + 2 := ⟨i / 2 - 1, by omega⟩
        exact sl_tg (h.past k (by omega)).2.1 h.row _ rfl (by rw [hg, e]; simp)
      · obtain ⟨k, rfl⟩ : ∃ k, i = 2 * k + 3 := ⟨i / 2 - 1, by omega⟩
        exact sl_tg (h.past k (by omega)).2.2 h.row _ rfl (by rw [hg, e]; simp)))
    have HONE := Lib.hid (And.intro (Nat.le_refl (plLen d.now)) (Nat.le_refl (dkLen d)))
    have hb2 : d.now.ns.length ≤ 2000000 ∧ d.now.ks.length ≤ 2000000 ∧ m ≤ 900000000 := by unfold dkLen plLen at hT; omega
    have HB2 := Lib.hid hb2
    have hsum : m + (d.now.ns.length : Nat) + (d.now.ks.length : Nat) + (d.past.length : Nat) + (psLen d.past d.past.length : Nat) = m + (dkLen d : Nat) := by unfold dkLen plLen; omega
    have HSUM := Lib.hid hsum
    have HVL := Lib.hid h.len
    clear hk0 hblk hG hr hpv hrw h0 hT h hb2 hsum HONE
    rcases HRW.out.row.form with ⟨rfl, hvs⟩ | ⟨g, cap, hreq, _⟩
    · have hp0 : d.past.length = 0 := by rw [← HVL.out, hvs]; rfl
      have hp : d.past = [] := List.eq_nil_of_length_eq_zero hp0
      have HP := Lib.hid hp
      obtain ⟨c0, c1, c2, c3⟩ := HB.out.four
      clear hp hp0 hvs
      go_enter Try.func40, Try.ntmps40
      go_wp2_with fail
      generalize w.alloc (.cells #[.slice (some ⟨G 0, 0, none⟩) d.now.ns.length (C 0), .int .i64 d.now.c, .slice (some ⟨G 1, 0, none⟩) d.now.ks.length (C 1), .slice none 0 0] 32) = W0 at *
      refine (markPlace_any m HSZ.out.1 HB2.out.2.2 d.now HB2.out.1 HB2.out.2.1 _ _ _ _ _ _ _ HPV.out).mono ?_
      rintro e w1 ⟨rfl, hpm, hk1⟩
      have HPM := Lib.hid hpm
      have HK1 := Lib.hid hk1
      clear c0 c1 c2 c3 hpm
      obtain ⟨c0, c1, c2, c3⟩ := (HB.out.kept hk1 (fun hm => by have h1 := (HBLK.out 0 (by omega)).2; have h2 := (HBLK.out 1 (by omega)).2; simp at hm; omega)).four
      clear hk1
      go_wp2_with fail
      refine (markPlaceS_nil _ _).mono ?_
      rintro e w2 ⟨rfl, rfl⟩
      go_wp2
      go_ret
      have hs := HSUM.out
      rw [HP.out] at hs
      simp [psLen] at hs
      refine ⟨by rw [hs]; rfl, .inr ⟨G, C, .slice none 0 0, [], ⟨by simp [mkDi, marks_length], by simpa [mkDi, marks_length] using HPM.out.2.1, by simpa [mkDi, marks_length] using HPM.out.2.2.1, Tg.nil _ _ _, by simp [mkDi, mkTo_length, HP.out], fun k hk => by simp [mkDi, mkTo_length, HP.out] at hk, by simpa [mkDi, mkTo_length] using HINC.out⟩, by simp [Value.ownBlock], by simpa [mkDi, mkTo_length] using HG.out⟩,
        ⟨[G 0, G 1], (Kept.weak _ HK0.out).trans HK1.out (fun x hx => .inl hx), fun g hg => ?_⟩⟩
      have h1 := HBLK.out 0 (by omega)
      have h2 := HBLK.out 1 (by omega)
      have h3 := HG.out 0 (by omega)
      have h4 := HG.out 1 (by omega)
      simp at hg
      omega
    · rw [HVL.out] at hreq
      subst hreq
      obtain ⟨c0, c1, c2, c3⟩ := HB.out.four
      go_enter Try.func40, Try.ntmps40
      go_wp2_with fail
      generalize w.alloc (.cells #[.slice (some ⟨G 0, 0, none⟩) d.now.ns.length (C 0), .int .i64 d.now.c, .slice (some ⟨G 1, 0, none⟩) d.now.ks.length (C 1), .slice (some ⟨g, 0, none⟩) d.past.length cap] 32) = W0 at *
      refine (markPlace_any m HSZ.out.1 HB2.out.2.2 d.now HB2.out.1 HB2.out.2.1 _ _ _ _ _ _ _ HPV.out).mono ?_
      rintro e w1 ⟨rfl, hpm, hk1⟩
      have HPM := Lib.hid hpm
      have HK1 := Lib.hid hk1
      have HB1 := Lib.hid (HB.out.kept hk1 (fun hm => by have h1 := (HBLK.out 0 (by omega)).2; have h2 := (HBLK.out 1 (by omega)).2; simp at hm; omega))
      have HRW1 := Lib.hid (HRW.out.kept hk1 (fun q hq hm => by have h1 := HOWN.out 0 (by omega) q hq; have h2 := HOWN.out 1 (by omega) q hq; simp at hm; omega) (fun i h2 hi hm => by have h1 := HINC.out 0 i (by omega) hi; have h2 := HINC.out 1 i (by omega) hi; simp at hm; omega))
      clear c0 c1 c2 c3 hpm hk1
      obtain ⟨c0, c1, c2, c3⟩ := HB1.out.four
      go_wp2_with fail
      refine (markPlaceS_any (m + (d.now.ns.length : Nat) + (d.now.ks.length : Nat)) (by have := HSZ.out; omega) d.past (by have := HSZ.out; have := HSUM.out; omega) _ _ _ _ _ _ _ HRW1.out).mono ?_
      rintro e w2 ⟨rfl, ⟨vs', hrw2⟩, hk2⟩
      have HRW2 := Lib.hid hrw2
      have HK2 := Lib.hid hk2
      clear hrw2 hk2 c0 c1 c2 c3
      go_wp2
      go_ret
      have hns : ∀ i, i < 2 → ¬ G i ∈ rwRows g d.past.length G := fun i hi hm => by
        rcases rwRows_of hm with h1 | ⟨j, h1, h2, h3⟩
        · exact HOWN.out i (by omega) g rfl h1.symm
        · have := HINC.out i j (by omega) h2; omega
      refine ⟨by rw [HSUM.out]; rfl, .inr ⟨G, C, .slice (some ⟨g, 0, none⟩) d.past.length cap, vs', ⟨by simp [mkDi, marks_length], ?_, ?_, ?_, ?_, ?_, by simpa [mkDi, mkTo_length] using HINC.out⟩, fun q hq => HRO.out q (by simpa [Value.ownBlock] using hq), by simpa [mkDi, mkTo_length] using HG.out⟩,
        ⟨G 0 :: G 1 :: rwRows g d.past.length G, ((Kept.weak _ HK0.out).trans HK1.out (fun x hx => .inl (by simp at hx; rcases hx with rfl | rfl <;> simp))).trans HK2.out (fun x hx => .inl (by simp [hx])), fun q hq => ?_⟩⟩
      · have h1 := HPM.out.2.1.kept HK2.out (fun q hq => by simp [Value.ownBlock] at hq; subst hq; exact hns 0 (by omega))
        simpa [mkDi, marks_length] using h1
      · have h1 := HPM.out.2.2.1.kept HK2.out (fun q hq => by simp [Value.ownBlock] at hq; subst hq; exact hns 1 (by omega))
        simpa [mkDi, marks_length] using h1
      · exact HRW2.out.row
      · exact HRW2.out.len
      · exact HRW2.out.past
      · have h1 := HBLK.out 0 (by omega)
        have h2 := HBLK.out 1 (by omega)
        have h3 := HG.out 0 (by omega)
        have h4 := HG.out 1 (by omega)
        simp only [List.mem_cons] at hq
        rcases hq with rfl | rfl | hq
        · omega
        · omega
        · rcases rwRows_of hq with rfl | ⟨i, h5, h6, rfl⟩
          · exact ⟨(HRB.out _ rfl).1, HRO.out _ rfl⟩
          · exact ⟨(HBLK.out i h6).1, HG.out i h6⟩

set_option maxHeartbeats 4000000 in
set_option maxRecDepth 100000 in
theorem heldDesk_any (m : Int) (h0 : 0 ≤ m) (d : Nt.Di) (hT : m + (dkLen d : Nat) ≤ 2000000) (w : World) (y : Value) (lo hi : Nat) (h : Dm w lo hi y (mkDi d m)) :
    Calls Try.prog 41 #[y, .int .i64 m] w fun e w' => e = .returned (.int .i64 (m + (dkLen d : Nat))) ∧ Kept [] w w' := by
  have hb2 : d.now.ns.length ≤ 2000000 ∧ d.now.ks.length ≤ 2000000 ∧ m ≤ 900000000 := by unfold dkLen plLen at hT; omega
  have hsum : m + (d.now.ns.length : Nat) + (d.now.ks.length : Nat) + (d.past.length : Nat) + (psLen d.past d.past.length : Nat) = m + (dkLen d : Nat) := by unfold dkLen plLen; omega
  obtain ⟨v, u, r, hy, hpv, hrest⟩ : ∃ v u r, y = .agg #[v, .int .i64 (mkDi d m).now.c, u, r] ∧ Pv w lo (.agg #[v, .int .i64 (mkDi d m).now.c, u]) ⟨marks m d.now.ns.length, d.now.c, marks (m + (d.now.ns.length : Nat)) d.now.ks.length⟩ ∧ ((r = .slice none 0 0 ∧ d.past.length = 0) ∨ ∃ g G C cap vs, r = .slice (some ⟨g, 0, none⟩) d.past.length cap ∧ Rw w lo r vs (mkTo d.past (m + (d.now.ns.length : Nat) + (d.now.ks.length : Nat)) d.past.length) G C) := by
    rcases h with ⟨e, rfl⟩ | ⟨G, C, r, vs, h, _⟩
    · rw [show (mkDi d m).now.c = 0 by rw [e]; rfl]
      have e1 : (mkDi d m).now = Nt.Pi.zero := by rw [e]; rfl
      have e2 : (mkDi d m).past = [] := by rw [e]; rfl
      refine ⟨_, _, _, rfl, ?_, .inl ⟨rfl, ?_⟩⟩
      · have h := Pv.zero w lo
        rw [← e1] at h
        exact h
      · have h := congrArg List.length e2
        simpa [mkDi, mkTo_length] using h
    · refine ⟨_, _, r, h.val, ⟨_, _, rfl, h.net, h.st⟩, ?_⟩
      have hl := h.len
      simp only [mkDi, mkTo_length] at hl
      rcases h.row.form with ⟨rfl, hvs⟩ | ⟨g, cap, hreq, _⟩
      · exact .inl ⟨rfl, by rw [← hl, hvs]; rfl⟩
      · exact .inr ⟨g, G, C, cap, vs, by rw [hreq, hl], h.rw⟩
  subst hy
  obtain ⟨b1, k1, rfl, _⟩ : ∃ b k, v = .slice b d.now.ns.length k ∧ True := by
    obtain ⟨v', u', e, h1, h2⟩ := hpv
    simp only [Value.agg.injEq, Array.mk.injEq, List.cons.injEq] at e
    obtain ⟨a, cap, e2, _⟩ := h1.any
    exact ⟨a, cap, by rw [e.1, e2, marks_length], trivial⟩
  obtain ⟨b2, k2, rfl, _⟩ : ∃ b k, u = .slice b d.now.ks.length k ∧ True := by
    obtain ⟨v', u', e, h1, h2⟩ := hpv
    simp only [Value.agg.injEq, Array.mk.injEq, List.cons.injEq] at e
    obtain ⟨a, cap, e2, _⟩ := h2.any
    exact ⟨a, cap, by rw [e.2.2.1, e2, marks_length], trivial⟩
  rw [show (mkDi d m).now.c = d.now.c from rfl] at *
  have HSZ := Lib.hid (And.intro h0 hT)
  have HB2 := Lib.hid hb2
  have HSUM := Lib.hid hsum
  have d1 : decide (m + (d.now.ns.length : Nat) + (d.now.ks.length : Nat) < 0) = false := dec_not (by omega)
  have d2 : decide (m + (d.now.ns.length : Nat) + (d.now.ks.length : Nat) + (d.past.length : Nat) + (psLen d.past d.past.length : Nat) < 0) = false := dec_not (by omega)
  rcases hrest with ⟨rfl, hp⟩ | ⟨g, G, C, cap, vs, rfl, hrw⟩
  · have hk0 : Kept [] w (w.alloc (.cells #[.slice b1 d.now.ns.length k1, .int .i64 d.now.c, .slice b2 d.now.ks.length k2, .slice none 0 0] 32)) := (Kept.refl [] w).alloc _
    have HB := Lib.hid (Bk.new w 32 #[.slice b1 d.now.ns.length k1, .int .i64 d.now.c, .slice b2 d.now.ks.length k2, .slice none 0 0])
    have HPV := Lib.hid (hpv.stay hk0)
    have HK0 := Lib.hid hk0
    have HP := Lib.hid hp
    obtain ⟨c0, c1, c2, c3⟩ := HB.out.four
    clear hk0 hpv hp h0 hT hb2 hsum h
    go_enter Try.func41, Try.ntmps41
    go_wp2_with fail
    generalize w.alloc (.cells #[.slice b1 d.now.ns.length k1, .int .i64 d.now.c, .slice b2 d.now.ks.length k2, .slice none 0 0] 32) = W0 at *
    refine (heldPlace_any m HSZ.out.1 HB2.out.2.2 d.now.c d.now.ns.length d.now.ks.length HB2.out.1 HB2.out.2.1 _ _ _ HPV.out).mono ?_
    rintro e w1 ⟨rfl, hk1⟩
    have HK1 := Lib.hid (HK0.out.trans hk1 (by simp))
    clear c0 c1 c2 c3
    obtain ⟨c0, c1, c2, c3⟩ := (HB.out.stay hk1).four
    clear hk1
    go_wp2_with fail
    refine (heldPlaceS_nil _ _).mono ?_
    rintro e w2 ⟨rfl, rfl⟩
    go_wp2
    go_ret
    have hs := HSUM.out
    have hp : d.past = [] := List.eq_nil_of_length_eq_zero HP.out
    rw [hp] at hs
    simp [psLen] at hs
    exact ⟨by rw [hs]; rfl, HK1.out⟩
  · have hk0 : Kept [] w (w.alloc (.cells #[.slice b1 d.now.ns.length k1, .int .i64 d.now.c, .slice b2 d.now.ks.length k2, .slice (some ⟨g, 0, none⟩) d.past.length cap] 32)) := (Kept.refl [] w).alloc _
    have HB := Lib.hid (Bk.new w 32 #[.slice b1 d.now.ns.length k1, .int .i64 d.now.c, .slice b2 d.now.ks.length k2, .slice (some ⟨g, 0, none⟩) d.past.length cap])
    have HPV := Lib.hid (hpv.stay hk0)
    have HRW := Lib.hid (hrw.stay hk0)
    have HK0 := Lib.hid hk0
    obtain ⟨c0, c1, c2, c3⟩ := HB.out.four
    clear hk0 hpv hrw h0 hT hb2 hsum h
    go_enter Try.func41, Try.ntmps41
    go_wp2_with fail
    generalize w.alloc (.cells #[.slice b1 d.now.ns.length k1, .int .i64 d.now.c, .slice b2 d.now.ks.length k2, .slice (some ⟨g, 0, none⟩) d.past.length cap] 32) = W0 at *
    refine (heldPlace_any m HSZ.out.1 HB2.out.2.2 d.now.c d.now.ns.length d.now.ks.length HB2.out.1 HB2.out.2.1 _ _ _ HPV.out).mono ?_
    rintro e w1 ⟨rfl, hk1⟩
    have HK1 := Lib.hid (HK0.out.trans hk1 (by simp))
    have HRW1 := Lib.hid (HRW.out.stay hk1)
    clear c0 c1 c2 c3
    obtain ⟨c0, c1, c2, c3⟩ := (HB.out.stay hk1).four
    clear hk1
    go_wp2_with fail
    refine (heldPlaceS_any (m + (d.now.ns.length : Nat) + (d.now.ks.length : Nat)) (by have := HSZ.out; omega) d.past (by have := HSZ.out; have := HSUM.out; omega) _ _ _ _ _ _ _ HRW1.out).mono ?_
    rintro e w2 ⟨rfl, rfl⟩
    go_wp2
    go_ret
    exact ⟨by rw [HSUM.out]; rfl, HK1.out⟩

set_option maxHeartbeats 4000000 in
set_option maxRecDepth 100000 in
theorem toDesk_any (d : Nt.Di) (hd : dkLen d ≤ 1048576) (w : World) (x : Value) (h : ArgDk w x d) :
    Calls Try.prog 37 #[x] w fun e w' => ∃ y G C r vs, e = .returned y ∧ Dx w' w.heap.size y d G C r vs ∧ Kept [] w w' := by
  have hlen : d.now.ns.length ≤ 1048576 ∧ d.now.ks.length ≤ 1048576 ∧ d.past.length ≤ 1048576 := by unfold dkLen plLen at hd; omega
  have HLEN := Lib.hid hlen
  have HONE : Hid (∀ k, k < d.past.length → (piAt d.past k).ns.length ≤ 1048576 ∧ (piAt d.past k).ks.length ≤ 1048576) := Lib.hid (fun k hk => by
    have h1 := psLen_one d.past hk
    unfold dkLen at hd
    unfold plLen at h1 hd
    omega)
  obtain ⟨v, u, r, rfl, h1, h2, h3⟩ := h
  obtain ⟨hk0, hb0, ho0, hr0⟩ := three_newE w 57 32 32 #[v, .int .i64 d.now.c, u, r] #[.slice none 0 0, .int .i64 0, .slice none 0 0, .slice none 0 0] #[.slice none 0 0, .int .i64 0, .slice none 0 0, .slice none 0 0]
  have HP0 := Lib.hid (show ArgPl _ (.agg #[v, .int .i64 d.now.c, u]) d.now from ⟨v, u, rfl, h1.stay hk0, h2.stay hk0⟩)
  have H3 := Lib.hid h3
  obtain ⟨a, cap, rfl, _, _⟩ := h1
  obtain ⟨b, cap2, rfl, _, _⟩ := h2
  obtain ⟨a3, cap3, rfl, _, _⟩ := h3
  have HB := Lib.hid hb0
  have HR := Lib.hid hr0
  have HK0 := Lib.hid hk0
  have HO := Lib.hid ho0
  obtain ⟨c0, c1, c2, c3⟩ := hb0.four
  clear hb0 hr0 hk0 ho0 hd hlen
  go_enter Try.func37, Try.ntmps37
  go_wp2_with fail
  generalize (((w.alloc (.cells #[.slice a d.now.ns.length cap, .int .i64 d.now.c, .slice b d.now.ks.length cap2, .slice a3 d.past.length cap3] 57)).alloc (.cells #[.slice none 0 0, .int .i64 0, .slice none 0 0, .slice none 0 0] 32)).alloc (.cells #[.slice none 0 0, .int .i64 0, .slice none 0 0, .slice none 0 0] 32)) = W0 at *
  refine (toPlace_any d.now HLEN.out.1 HLEN.out.2.1 _ _ HP0.out).mono ?_
  rintro e w1 ⟨y, g1, q1, g2, q2, rfl, hpv, hk1⟩
  obtain ⟨rfl, hs1, hs2, h12⟩ := hpv
  have HS1 := Lib.hid hs1
  have HS2 := Lib.hid hs2
  have H12 := Lib.hid h12
  have HK1 := Lib.hid hk1
  have hR1 := HR.out.stay hk1
  have HR1 := Lib.hid hR1
  clear c0 c1 c2 c3
  obtain ⟨c0, c1, c2, c3⟩ := (HB.out.stay hk1).four
  obtain ⟨r0, r1, r2, r3⟩ := hR1.four
  have f0 := hR1.frozen 0
  have f1 := hR1.frozen 1
  have f2 := hR1.frozen 2
  have hk2 := Kept.rows3 w1 (w.heap.size + 1 + 1) (.slice (some ⟨g1, 0, none⟩) d.now.ns.length q1) (.int .i64 d.now.c) (.slice (some ⟨g2, 0, none⟩) d.now.ks.length q2)
  have hr2 : Bk (((w1.setCell ⟨w.heap.size + 1 + 1, 0, none⟩ (.slice (some ⟨g1, 0, none⟩) d.now.ns.length q1)).setCell ⟨w.heap.size + 1 + 1, 1, none⟩ (.int .i64 d.now.c)).setCell ⟨w.heap.size + 1 + 1, 2, none⟩ (.slice (some ⟨g2, 0, none⟩) d.now.ks.length q2)) (w.heap.size + 1 + 1) 32 #[.slice (some ⟨g1, 0, none⟩) d.now.ns.length q1, .int .i64 d.now.c, .slice (some ⟨g2, 0, none⟩) d.now.ks.length q2, .slice none 0 0] := ((hR1.set 0 _).set 1 _).set 2 _
  have HK2 := Lib.hid hk2
  have HR2 := Lib.hid hr2
  have hsz : w.heap.size + 1 + 1 < W0.heap.size := HR.out.lt
  have HSZ := Lib.hid hsz
  clear hk2 hr2 hs1 hs2 h12 hk1 hR1
  go_wp2_with fail
  generalize (((w1.setCell ⟨w.heap.size + 1 + 1, 0, none⟩ (.slice (some ⟨g1, 0, none⟩) d.now.ns.length q1)).setCell ⟨w.heap.size + 1 + 1, 1, none⟩ (.int .i64 d.now.c)).setCell ⟨w.heap.size + 1 + 1, 2, none⟩ (.slice (some ⟨g2, 0, none⟩) d.now.ks.length q2)) = W2 at *
  have hold : Kept [] w W2 := (HK0.out.trans HK1.out (by simp)).trans HK2.out (fun x hx => .inr (by rw [List.mem_singleton] at hx; omega))
  have HOLD := Lib.hid hold
  have HS1' := Lib.hid (HS1.out.kept HK2.out (fun g hg => by have := (HS1.out.block hg).1; rw [List.mem_singleton]; omega))
  have HS2' := Lib.hid (HS2.out.kept HK2.out (fun g hg => by have := (HS2.out.block hg).1; rw [List.mem_singleton]; omega))
  have HB2 := Lib.hid ((HB.out.stay HK1.out).kept HK2.out (fun h => by rw [List.mem_singleton] at h; omega))
  have HO2 := Lib.hid ((HO.out.stay HK1.out).kept HK2.out (fun h => by rw [List.mem_singleton] at h; omega))
  have HA2 := Lib.hid (H3.out.stay hold)
  have HZ2 : Hid (w1.heap.size ≤ W2.heap.size) := Lib.hid HK2.out.size
  clear hold hsz c0 c1 c2 c3 r0 r1 r2 r3 f0 f1 f2
  obtain ⟨c0, c1, c2, c3⟩ := HB2.out.four
  refine (toPlaceS_any d.past HONE.out HLEN.out.2.2 _ _ HA2.out).mono ?_
  rintro e w3 ⟨G, C, vs, rfl, htg, hvl, hpa, hinc, hk3⟩
  have HTG := Lib.hid htg
  have HREST := Lib.hid (And.intro hvl (And.intro hpa hinc))
  have HK3 := Lib.hid hk3
  have hR3 := HR2.out.stay hk3
  have HR3 := Lib.hid hR3
  have hO3 := HO2.out.stay hk3
  have f3 := hR3.frozen 3
  obtain ⟨r0, r1, r2, r3⟩ := hR3.four
  clear htg hvl hpa hinc hk3 c0 c1 c2 c3
  generalize hB : W2.heap.size = B at *
  have HBB := Lib.hid hB
  have hk4 : Kept [w.heap.size + 1 + 1] w3 (w3.setCell ⟨w.heap.size + 1 + 1, 3, none⟩ (.slice (some ⟨B, 0, none⟩) d.past.length d.past.length)) := (Kept.refl _ _).setCell (.inl (by simp)) _
  have HK4 := Lib.hid hk4
  have HR4 := Lib.hid (hR3.set 3 (.slice (some ⟨B, 0, none⟩) d.past.length d.past.length))
  have HO4 := Lib.hid (hO3.kept hk4 (fun h => by rw [List.mem_singleton] at h; omega))
  obtain ⟨p0, p1, p2, p3⟩ := HO4.out.four
  have o0 := HO4.out.frozen 0
  have o1 := HO4.out.frozen 1
  have o2 := HO4.out.frozen 2
  have o3 := HO4.out.frozen 3
  obtain ⟨q0, q1', q2', q3⟩ := HR4.out.four
  clear hk4 hR3 hO3 hB
  go_wp2
  (try simp only [Exit.inBlock, Exit.then])
  generalize w3.setCell ⟨w.heap.size + 1 + 1, 3, none⟩ (.slice (some ⟨B, 0, none⟩) d.past.length d.past.length) = w4 at *
  refine bodyPost_ret (results_cell_row rfl _ _ (w.heap.size + 1) 32 #[.slice (some ⟨g1, 0, none⟩) d.now.ns.length q1, .int .i64 d.now.c, .slice (some ⟨g2, 0, none⟩) d.now.ks.length q2, .slice (some ⟨B, 0, none⟩) d.past.length d.past.length] (0, 0) _ rfl (HO4.out.set4 _ _ _ _) Try.underlying32 rfl (by kernel_rfl)) rfl ?_
  have hz := HSZ.out
  have hz2 := HZ2.out
  have hB := HBB.out
  have hg2 : g2 < w1.heap.size := (HS2.out.block rfl).2
  have hg0 := HK0.out.size
  have hw1 := HK1.out.size
  have hk5 := Kept.rows4 w4 (w.heap.size + 1) (.slice (some ⟨g1, 0, none⟩) d.now.ns.length q1) (.int .i64 d.now.c) (.slice (some ⟨g2, 0, none⟩) d.now.ks.length q2) (.slice (some ⟨B, 0, none⟩) d.past.length d.past.length)
  refine ⟨_, _, _, _, _, rfl, dx_of (m := B + 1) ((((HS1'.out.stay HK3.out).kept HK4.out (fun g hg => by have := (HS1.out.block hg).1; rw [List.mem_singleton]; omega)).kept hk5 (fun g hg => by have := (HS1.out.block hg).1; rw [List.mem_singleton]; omega)).mono (by omega))
    ((((HS2'.out.stay HK3.out).kept HK4.out (fun g hg => by have := (HS2.out.block hg).1; rw [List.mem_singleton]; omega)).kept hk5 (fun g hg => by have := (HS2.out.block hg).1; rw [List.mem_singleton]; omega)).mono (by omega)) H12.out (by omega)
    (((HTG.out.kept HK4.out (fun g hg => by have := (HTG.out.block hg).1; rw [List.mem_singleton]; omega)).kept hk5 (fun g hg => by have := (HTG.out.block hg).1; rw [List.mem_singleton]; omega)).mono (by omega)) HREST.out.1
    (fun k hk => ((HREST.out.2.1 k hk).kept HK4.out (fun g hg _ => by rw [List.mem_singleton]; omega)).kept hk5 (fun g hg _ => by rw [List.mem_singleton]; omega)) (by omega) HREST.out.2.2,
    ((HOLD.out.trans HK3.out (by simp)).trans HK4.out (fun x hx => .inr (by rw [List.mem_singleton] at hx; omega))).trans hk5 (fun x hx => .inr (by rw [List.mem_singleton] at hx; omega))⟩
end Go.Proofs.Ytofgfhfdmkcmcaa
