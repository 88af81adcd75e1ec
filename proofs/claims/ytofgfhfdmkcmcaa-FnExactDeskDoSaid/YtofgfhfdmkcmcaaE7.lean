/-
  Walks: places and desks of exact laws, in one form each.
-/
import Derived.Test.YtofgfhfdmkcmcaaE6
namespace Go.Proofs.Ytofgfhfdmkcmcaa
open Go.RowKit

def mkPl (p : Nt.Pi) (m : Int) : Nt.Pi := ⟨marks m p.ns.length, p.c, marks (m + (p.ns.length : Nat)) p.ks.length⟩
theorem plLen_zero : plLen Nt.Pi.zero = 0 := rfl
/-- A place in memory of its own, between two blocks; or none. -/
def Pn (w : World) (lo hi : Nat) (y : Value) (p : Nt.Pi) : Prop :=
  (p = Nt.Pi.zero ∧ y = .agg #[.slice none 0 0, .int .i64 0, .slice none 0 0]) ∨ ∃ g1 q1 g2 q2, PvA w lo y p g1 q1 g2 q2 ∧ g2 < hi
theorem Pn.pv {w : World} {lo hi : Nat} {y : Value} {p : Nt.Pi} (h : Pn w lo hi y p) : Pv w lo y p := by
  rcases h with ⟨rfl, rfl⟩ | ⟨g1, q1, g2, q2, h, _⟩
  · exact Pv.zero w lo
  · exact h.pv
theorem Pn.stay {w w' : World} {lo hi : Nat} {y : Value} {p : Nt.Pi} (h : Pn w lo hi y p) (hk : Kept [] w w') : Pn w' lo hi y p := by
  rcases h with ⟨rfl, rfl⟩ | ⟨g1, q1, g2, q2, h, h2⟩
  · exact .inl ⟨rfl, rfl⟩
  · exact .inr ⟨g1, q1, g2, q2, h.stay hk, h2⟩
theorem Pn.kin {w w' : World} {lo hi lo' hi' : Nat} {y : Value} {p : Nt.Pi} (h : Pn w lo hi y p) (hk : Kin lo' hi' w w') (hn : hi' ≤ lo) : Pn w' lo hi y p := by
  rcases h with ⟨rfl, rfl⟩ | ⟨g1, q1, g2, q2, ⟨e, h1, h2, h3⟩, h4⟩
  · exact .inl ⟨rfl, rfl⟩
  · exact .inr ⟨g1, q1, g2, q2, ⟨e, h1.kin hk hn, h2.kin hk hn, h3⟩, h4⟩
theorem Pv.form {w : World} {base : Nat} {y : Value} {p : Nt.Pi} (h : Pv w base y p) : ∃ a n cap b m cap2, y = .agg #[.slice a n cap, .int .i64 p.c, .slice b m cap2] := by
  obtain ⟨v, u, rfl, h1, h2⟩ := h
  obtain ⟨a, cap, rfl, _, _, _⟩ := h1.any
  obtain ⟨b, cap2, rfl, _, _, _⟩ := h2.any
  exact ⟨_, _, _, _, _, _, rfl⟩
theorem Dv.form {w : World} {base : Nat} {y : Value} {d : Nt.Di} (h : Dv w base y d) : ∃ a n cap b m cap2 a3 n3 cap3, y = .agg #[.slice a n cap, .int .i64 d.now.c, .slice b m cap2, .slice a3 n3 cap3] := by
  obtain ⟨v, u, r, rfl, h1, h2, h3⟩ := h
  obtain ⟨a, cap, rfl, _, _, _⟩ := h1.any
  obtain ⟨b, cap2, rfl, _, _, _⟩ := h2.any
  obtain ⟨a3, cap3, rfl⟩ := h3.any3
  exact ⟨_, _, _, _, _, _, _, _, _, rfl⟩
theorem ArgPl.form {w : World} {x : Value} {p : Nt.Pi} (h : ArgPl w x p) : ∃ a n cap b m cap2, x = .agg #[.slice a n cap, .int .i64 p.c, .slice b m cap2] := by
  obtain ⟨v, u, rfl, ⟨a, cap, rfl, _, _⟩, ⟨b, cap2, rfl, _, _⟩⟩ := h
  exact ⟨_, _, _, _, _, _, rfl⟩
theorem ArgDk.form {w : World} {x : Value} {d : Nt.Di} (h : ArgDk w x d) : ∃ a n cap b m cap2 a3 n3 cap3, x = .agg #[.slice a n cap, .int .i64 d.now.c, .slice b m cap2, .slice a3 n3 cap3] := by
  obtain ⟨v, u, r, rfl, ⟨a, cap, rfl, _, _⟩, ⟨b, cap2, rfl, _, _⟩, ⟨a3, cap3, rfl, _, _⟩⟩ := h
  exact ⟨_, _, _, _, _, _, _, _, _, rfl⟩
theorem toPlace_pn (p : Nt.Pi) (hp : plLen p ≤ 1048576) (w : World) (x : Value) (h : ArgPl w x p) :
    Calls Try.prog 34 #[x] w fun e w' => ∃ y, e = .returned y ∧ Pn w' w.heap.size w'.heap.size y p ∧ Kept [] w w' :=
  (toPlace_any p (by unfold plLen at hp; omega) (by unfold plLen at hp; omega) w x h).mono (by
    rintro e w' ⟨y, g1, q1, g2, q2, rfl, h1, h2⟩
    exact ⟨y, rfl, .inr ⟨g1, q1, g2, q2, h1, h1.block.2⟩, h2⟩)
theorem toDesk_dm (d : Nt.Di) (hd : dkLen d ≤ 1048576) (w : World) (x : Value) (h : ArgDk w x d) :
    Calls Try.prog 37 #[x] w fun e w' => ∃ y, e = .returned y ∧ Dm w' w.heap.size w'.heap.size y d ∧ Kept [] w w' :=
  (toDesk_any d hd w x h).mono (by
    rintro e w' ⟨y, G, C, r, vs, rfl, h1, h2⟩
    exact ⟨y, rfl, h1.dm, h2⟩)
theorem markPlace_pn (m : Int) (h0 : 0 ≤ m) (p : Nt.Pi) (hT : m + (plLen p : Nat) ≤ 2000000) (w : World) (y : Value) (lo hi : Nat) (h : Pn w lo hi y p) :
    Calls Try.prog 39 #[y, .int .i64 m] w fun e w' => e = .returned (.int .i64 (m + (plLen p : Nat))) ∧ Pn w' lo hi y (mkPl p m) ∧ Kin lo hi w w' := by
  rcases h with ⟨rfl, rfl⟩ | ⟨g1, q1, g2, q2, h, h2⟩
  · refine (markPlace_nil m 0 w).mono ?_
    rintro e w' ⟨rfl, hk⟩
    exact ⟨by simp [plLen_zero], .inl ⟨by simp [mkPl, Nt.Pi.zero, marks], rfl⟩, Kin.of hk⟩
  · refine (markPlace_any m h0 (by omega) p (by unfold plLen at hT; omega) (by unfold plLen at hT; omega) w y lo g1 q1 g2 q2 h).mono ?_
    rintro e w' ⟨rfl, h3, hk⟩
    have hb := h.block
    have hlt := h.2.2.2
    exact ⟨by unfold plLen; go_num, .inr ⟨g1, q1, g2, q2, h3, h2⟩, ⟨[g1, g2], hk, fun g hg => by simp at hg; omega⟩⟩
theorem heldPlace_pn (m : Int) (h0 : 0 ≤ m) (p : Nt.Pi) (hT : m + (plLen p : Nat) ≤ 2000000) (w : World) (y : Value) (lo hi : Nat) (h : Pn w lo hi y (mkPl p m)) :
    Calls Try.prog 78 #[y, .int .i64 m] w fun e w' => e = .returned (.int .i64 (m + (plLen p : Nat))) ∧ Kept [] w w' :=
  (heldPlace_any m h0 (by omega) p.c p.ns.length p.ks.length (by unfold plLen at hT; omega) (by unfold plLen at hT; omega) w y lo h.pv).mono (by
    rintro e w' ⟨rfl, hk⟩
    exact ⟨by unfold plLen; go_num, hk⟩)
theorem szPlace_pn (p : Nt.Pi) (w : World) (x : Value) (h : ArgPl w x p) :
    Calls Try.prog 33 #[x, .int .i64 1048576] w fun e w' => ∃ r : Int, e = .returned (.int .i64 r) ∧ Hid (¬ r < 0 → plLen p ≤ 1048576) ∧ Kept [] w w' :=
  (szPlace_any p 1048576 (by omega) (by omega) w x h).mono (by
    rintro e w' ⟨⟨r, rfl, hr⟩, hk⟩
    exact ⟨r, rfl, Lib.hid (fun h => by have := hr.out.resolve_left (by omega); unfold plLen; omega), hk⟩)
theorem szDesk_dm (d : Nt.Di) (w : World) (x : Value) (h : ArgDk w x d) :
    Calls Try.prog 36 #[x, .int .i64 1048576] w fun e w' => ∃ r : Int, e = .returned (.int .i64 r) ∧ Hid (¬ r < 0 → dkLen d ≤ 1048576) ∧ Kept [] w w' :=
  (szDesk_any d w x h).mono (by
    rintro e w' ⟨⟨r, rfl, hr⟩, hk⟩
    exact ⟨r, rfl, Lib.hid (fun h => by have := hr.out.resolve_left (by omega); unfold dkLen; omega), hk⟩)
/-- Desks and places of whoever, compared with what they are. -/
theorem eqPlace_pv (p : Nt.Pi) (w : World) (x y : Value) (h : ∃ b, Pv w b x p) (h' : ∃ b, Pv w b y p) :
    Calls Try.prog 35 #[x, y] w fun e w' => e = .returned (.bool true) ∧ Kept [] w w' := by
  obtain ⟨b, h⟩ := h
  obtain ⟨b', h'⟩ := h'
  exact eqPlace_same p w x y b b' h h'
theorem eqDesk_dv (d : Nt.Di) (w : World) (x y : Value) (h : ∃ b, Dv w b x d) (h' : ∃ b, Dv w b y d) :
    Calls Try.prog 38 #[x, y] w fun e w' => e = .returned (.bool true) ∧ Kept [] w w' := by
  obtain ⟨b, h⟩ := h
  obtain ⟨b', h'⟩ := h'
  exact eqDesk_same d w x y b b' h h'
end Go.Proofs.Ytofgfhfdmkcmcaa
