/-
  Places of exact laws in one form; what stays but for some blocks.
-/
import Derived.Test.YtaacehdfpoiljaaDoorE4
namespace Go.Proofs.YtaacehdfpoiljaaDoor
open Go.RowKit

/-- All is as it was but for some blocks between two. -/
def Kin (lo hi : Nat) (w w' : World) : Prop := ∃ rows, Kept rows w w' ∧ ∀ g, g ∈ rows → lo ≤ g ∧ g < hi

theorem Kin.of {lo hi : Nat} {w w' : World} (h : Kept [] w w') : Kin lo hi w w' := ⟨[], h, by simp⟩

theorem Kin.size {lo hi : Nat} {w w' : World} (h : Kin lo hi w w') : w.heap.size ≤ w'.heap.size := by
  obtain ⟨rows, hk, _⟩ := h
  exact hk.size

theorem Bk.kin {w w' : World} {g lo hi : Nat} {T : TypeId} {cs : Array Value} (h : Bk w g T cs) (hk : Kin lo hi w w') (hn : g < lo ∨ hi ≤ g) : Bk w' g T cs := by
  obtain ⟨rows, hk, hr⟩ := hk
  exact h.kept hk (fun hg => by have := hr g hg; omega)

theorem Sl.kin {w w' : World} {base lo hi : Nat} {v : Value} {xs : List Int} (h : Sl w base v xs) (hk : Kin lo hi w w') (hn : hi ≤ base) : Sl w' base v xs := by
  obtain ⟨rows, hk, hr⟩ := hk
  exact h.kept hk (fun g hg hm => by have h1 := hr g hm; have h2 := (h.block hg).1; omega)

/-- What lay ahead of the marked blocks is as it was. -/
theorem Kept.kin {w a b : World} {lo hi : Nat} (h : Kept [] w a) (k : Kin lo hi a b) (hl : w.heap.size ≤ lo) : Kept [] w b := by
  obtain ⟨rows, hk, hr⟩ := k
  exact h.trans hk (fun x hx => .inr (by have := hr x hx; omega))

set_option maxHeartbeats 400000 in
set_option maxRecDepth 100000 in
theorem markIntS_nil (m : Int) (w : World) : Calls Tryd.prog 78 #[.slice none 0 0, .int .i64 m] w fun e w' => e = .returned (.int .i64 m) ∧ w = w' := by
  go_enter Tryd.func78, Tryd.ntmps78
  go_wp2_with fail
  go_loop [1, 5] (fun q i => i = .int .i64 0 ∧ q = .int .i64 m) (fun _ _ => 0)
  case atStart => exact ⟨rfl, rfl⟩
  case round =>
    obtain ⟨rfl, rfl⟩ := hrel
    go_wp2
    go_ret
    exact ⟨rfl, rfl⟩

set_option maxHeartbeats 400000 in
set_option maxRecDepth 100000 in
theorem markPlace_nil (m c : Int) (w : World) : Calls Tryd.prog 37 #[.agg #[.slice none 0 0, .int .i64 c, .slice none 0 0], .int .i64 m] w fun e w' => e = .returned (.int .i64 m) ∧ Kept [] w w' := by
  have HK := Lib.hid ((Kept.refl [] w).alloc (.cells #[.slice none 0 0, .int .i64 c, .slice none 0 0] 25))
  go_enter Tryd.func37, Tryd.ntmps37
  go_wp2_with fail
  refine (markIntS_nil m _).mono ?_
  rintro e w1 ⟨rfl, rfl⟩
  go_wp2_with fail
  refine (markIntS_nil m _).mono ?_
  rintro e w1 ⟨rfl, rfl⟩
  go_wp2
  go_ret
  exact ⟨rfl, HK.out⟩

def mkPl (p : Nt.Pi) (m : Int) : Nt.Pi := ⟨marks m p.ns.length, p.c, marks (m + (p.ns.length : Nat)) p.ks.length⟩

theorem plLen_zero : plLen Nt.Pi.zero = 0 := rfl

/-- A place in memory of its own, between two blocks; or none. -/
def Pn (w : World) (lo hi : Nat) (y : Value) (p : Nt.Pi) : Prop :=
  (p = Nt.Pi.zero ∧ y = .agg #[.slice none 0 0, .int .i64 0, .slice none 0 0]) ∨ ∃ g1 q1 g2 q2, PvA w lo y p g1 q1 g2 q2 ∧ g2 < hi

theorem Pn.pv {w : World} {lo hi : Nat} {y : Value} {p : Nt.Pi} (h : Pn w lo hi y p) : Pv w lo y p := by
  rcases h with ⟨rfl, rfl⟩ | ⟨g1, q1, g2, q2, h, _⟩
  · exact Pv.zero w lo
  · exact h.pv

theorem Pn.stay {w w' : World} {lo hi : Nat} {y : Value} {p : Nt.Pi} (h : Pn w lo hi y p) (hk : Kept [] w w') : Pn w' lo hi y p := by
  rcases h with ⟨rfl, rfl⟩ | ⟨g1, q1, g2, q2, h, h2⟩
  · exact .inl ⟨rfl, rfl⟩
  · exact .inr ⟨g1, q1, g2, q2, h.stay hk, h2⟩

theorem Pn.kin {w w' : World} {lo hi lo' hi' : Nat} {y : Value} {p : Nt.Pi} (h : Pn w lo hi y p) (hk : Kin lo' hi' w w') (hn : hi' ≤ lo) : Pn w' lo hi y p := by
  rcases h with ⟨rfl, rfl⟩ | ⟨g1, q1, g2, q2, ⟨e, h1, h2, h3⟩, h4⟩
  · exact .inl ⟨rfl, rfl⟩
  · exact .inr ⟨g1, q1, g2, q2, ⟨e, h1.kin hk hn, h2.kin hk hn, h3⟩, h4⟩

theorem ArgPl.form {w : World} {x : Value} {p : Nt.Pi} (h : ArgPl w x p) : ∃ a n cap b m cap2, x = .agg #[.slice a n cap, .int .i64 p.c, .slice b m cap2] := by
  obtain ⟨v, u, rfl, ⟨a, cap, rfl, _, _⟩, ⟨b, cap2, rfl, _, _⟩⟩ := h
  exact ⟨_, _, _, _, _, _, rfl⟩

theorem toPlace_pn (p : Nt.Pi) (hp : plLen p ≤ 1048576) (w : World) (x : Value) (h : ArgPl w x p) :
    Calls Tryd.prog 35 #[x] w fun e w' => ∃ y, e = .returned y ∧ Pn w' w.heap.size w'.heap.size y p ∧ Kept [] w w' :=
  (toPlace_any p (by unfold plLen at hp; omega) (by unfold plLen at hp; omega) w x h).mono (by
    rintro e w' ⟨y, g1, q1, g2, q2, rfl, h1, h2⟩
    exact ⟨y, rfl, .inr ⟨g1, q1, g2, q2, h1, h1.block.2⟩, h2⟩)

theorem markPlace_pn (m : Int) (h0 : 0 ≤ m) (p : Nt.Pi) (hT : m + (plLen p : Nat) ≤ 2000000) (w : World) (y : Value) (lo hi : Nat) (h : Pn w lo hi y p) :
    Calls Tryd.prog 37 #[y, .int .i64 m] w fun e w' => e = .returned (.int .i64 (m + (plLen p : Nat))) ∧ Pn w' lo hi y (mkPl p m) ∧ Kin lo hi w w' := by
  rcases h with ⟨rfl, rfl⟩ | ⟨g1, q1, g2, q2, h, h2⟩
  · refine (markPlace_nil m 0 w).mono ?_
    rintro e w' ⟨rfl, hk⟩
    exact ⟨by simp [plLen_zero], .inl ⟨by simp [mkPl, Nt.Pi.zero, marks], rfl⟩, Kin.of hk⟩
  · refine (markPlace_any m h0 (by omega) p (by unfold plLen at hT; omega) (by unfold plLen at hT; omega) w y lo g1 q1 g2 q2 h).mono ?_
    rintro e w' ⟨rfl, h3, hk⟩
    have hb := h.block
    have hlt := h.2.2.2
    exact ⟨by unfold plLen; go_num, .inr ⟨g1, q1, g2, q2, h3, h2⟩, ⟨[g1, g2], hk, fun g hg => by simp at hg; omega⟩⟩

theorem heldPlace_pn (m : Int) (h0 : 0 ≤ m) (p : Nt.Pi) (hT : m + (plLen p : Nat) ≤ 2000000) (w : World) (y : Value) (lo hi : Nat) (h : Pn w lo hi y (mkPl p m)) :
    Calls Tryd.prog 38 #[y, .int .i64 m] w fun e w' => e = .returned (.int .i64 (m + (plLen p : Nat))) ∧ Kept [] w w' :=
  (heldPlace_any m h0 (by omega) p.c p.ns.length p.ks.length (by unfold plLen at hT; omega) (by unfold plLen at hT; omega) w y lo h.pv).mono (by
    rintro e w' ⟨rfl, hk⟩
    exact ⟨by unfold plLen; go_num, hk⟩)

theorem szPlace_pn (p : Nt.Pi) (w : World) (x : Value) (h : ArgPl w x p) :
    Calls Tryd.prog 34 #[x, .int .i64 1048576] w fun e w' => ∃ r : Int, e = .returned (.int .i64 r) ∧ Hid (¬ r < 0 → plLen p ≤ 1048576) ∧ Kept [] w w' :=
  (szPlace_any p 1048576 (by omega) (by omega) w x h).mono (by
    rintro e w' ⟨⟨r, rfl, hr⟩, hk⟩
    exact ⟨r, rfl, Lib.hid (fun h => by have := hr.out.resolve_left (by omega); unfold plLen; omega), hk⟩)

/-- Desks and places of whoever, compared with what they are. -/
theorem eqPlace_pv (p : Nt.Pi) (w : World) (x y : Value) (h : ∃ b, Pv w b x p) (h' : ∃ b, Pv w b y p) :
    Calls Tryd.prog 36 #[x, y] w fun e w' => e = .returned (.bool true) ∧ Kept [] w w' := by
  obtain ⟨b, h⟩ := h
  obtain ⟨b', h'⟩ := h'
  exact eqPlace_same p w x y b b' h h'
end Go.Proofs.YtaacehdfpoiljaaDoor
