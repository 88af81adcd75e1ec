/-
  Arguments that are places and desks, opened to what the walks want of them.
-/
import Derived.Test.YtofgfhfdmkcmcaaE5
import Derived.ProofKit
import Derived.OpenShut
import Derived.Lib.SmallJoins
import Derived.Deep.Slices
import Derived.ChangeSame
namespace Go.Proofs.Ytofgfhfdmkcmcaa
open Go.RowKit Go.ChangeShapes Go.WideShapes Go.Deep Go.Joins

theorem addr_add (b off j : Nat) : (⟨b, off, none⟩ : Addr).add j = ⟨b, off + j, none⟩ := by unfold Addr.add; split <;> simp_all
theorem addr_spot {W : World} {b off : Nat} {spot : Option Nat} {v : Value} (h : W.cell? ((⟨b, off, spot⟩ : Addr).add (0 * 3)) = some v) : spot = none := by
  simpa [Addr.add] using World.cell?_spot h

set_option maxRecDepth 100000 in
theorem ints_arg {H : Type} {enc : TypeId × Value → H} {W : World} {base n : Nat} {v : Value} {y : DataW H × List MemPlace} (h : DataW.trod enc Try.prog W base (fun _ => true) true n 23 [v] = some y) : ∃ xs, Arg W v xs := by
  rcases open_ints Try.underlying23 Try.underlying3 (by kernel_rfl) h with ⟨hcs, _⟩ | ⟨x, l, c, zs, hcs, _, hl, hm, hz, _, hcell, hwz⟩
  · simp at hcs
    subst hcs
    exact ⟨[], none, 0, rfl, by simp, fun k hk => by simp at hk⟩
  · simp at hcs
    subst hcs
    exact ⟨zs.take l, arg_of (.inr ⟨_, rfl, hl, hm, by simpa using hz, hcell, hwz⟩)⟩

set_option maxRecDepth 100000 in
theorem place_cells {H : Type} {enc : TypeId × Value → H} {W : World} {base n : Nat} {cs : List Value} {y : DataW H × List MemPlace} (h : DataW.trod enc Try.prog W base (fun _ => true) true n 51 cs = some y) :
    ∃ v c u xs ss, cs = [v, .int .i64 c, u] ∧ Arg W v xs ∧ Arg W u ss := by
  obtain ⟨y0, y1, y2, m, _, hl, h0, h1, h2⟩ := trod_struct3 Try.underlying51 h
  rw [show Try.prog.cellsOf 51 = 3 from by kernel_rfl] at hl
  have e1 : Try.prog.cellsOf 23 = 1 := by kernel_rfl
  have e2 : Try.prog.cellsOf 3 = 1 := by kernel_rfl
  match cs, hl with
  | [c0, c1, c2], _ =>
    simp [e1, e2] at h0 h1 h2
    obtain ⟨xs, hx⟩ := ints_arg h0
    obtain ⟨ss, hs⟩ := ints_arg h2
    obtain ⟨c, ec, _⟩ := DataW.trod_int Try.underlying3 h1
    simp at ec
    subst ec
    exact ⟨c0, c, c2, xs, ss, rfl, hx, hs⟩

set_option maxRecDepth 100000 in
theorem place_arg {H : Type} {enc : TypeId × Value → H} {W : World} {base b0 : Nat} {r : Reach} {v : Value} {d : DataW H} {p : List MemPlace}
    (hv : Value.okWide Try.prog W r b0 51 v) (h : DataW.Trod enc Try.prog W base (fun _ => true) true 51 v d p) : ∃ q, ArgPl W v q := by
  obtain ⟨cs, rfl, hsz⟩ := okWide_struct Try.underlying51 hv
  obtain ⟨fuel, hf⟩ := h
  obtain ⟨x, c, u, xs, ss, e, hx, hs⟩ := place_cells hf
  have e' : cs = #[x, .int .i64 c, u] := by
    cases cs
    simpa [Value.cells] using e
  exact ⟨⟨xs, c, ss⟩, x, u, by rw [e'], hx, hs⟩

set_option maxRecDepth 100000 in
theorem places_arg {H : Type} {enc : TypeId × Value → H} {W : World} {base n : Nat} {v : Value} {y : DataW H × List MemPlace} (h : DataW.trod enc Try.prog W base (fun _ => true) true n 55 [v] = some y) : ∃ ps, ArgPs W v ps := by
  have e3 : Try.prog.cellsOf 51 = 3 := by kernel_rfl
  rcases open_slice Try.underlying55 h with ⟨hcs, _⟩ | ⟨a, len, cap, m, n', D, Pl, hcs, _, hl, hm, hmm, _, hi⟩
  · simp at hcs
    subst hcs
    exact ⟨[], none, 0, rfl, by simp, fun k hk => by simp at hk⟩
  · simp at hcs
    subst hcs
    have hmc : m = cap := by simpa using hmm
    subst hmc
    have hv : ∀ i, i < m → ∃ p : Nt.Pi, ∃ x y, W.cell? (a.add (i * 3)) = some x ∧ W.cell? (a.add (i * 3 + 1)) = some (.int .i64 p.c) ∧ W.cell? (a.add (i * 3 + 2)) = some y ∧ Arg W x p.ns ∧ Arg W y p.ks := fun i him => by
      obtain ⟨cs', hc, ht'⟩ := hi i him
      rw [e3] at hc
      obtain ⟨x, c, u, xs, ss, e, hx, hs⟩ := place_cells ht'
      subst e
      obtain ⟨_, _, hat⟩ := World.cells?_some hc
      have h0 := hat 0 (by omega)
      have h1 := hat 1 (by omega)
      have h2 := hat 2 (by omega)
      rw [add_add] at h0 h1 h2
      exact ⟨⟨xs, c, ss⟩, x, u, by simpa using h0, by simpa using h1, by simpa using h2, hx, hs⟩
    haveI : Inhabited Nt.Pi := ⟨Nt.Pi.zero⟩
    obtain ⟨q, hq⟩ := choose_lt hv
    refine ⟨(List.range len).map q, some a, m, by simp, by simp; unfold maxLen at hm; omega, fun k hk => ?_⟩
    have hkl : k < len := by simpa using hk
    have e : piAt ((List.range len).map q) k = q k := by simp [piAt, List.getD_eq_getElem?_getD, hkl]
    rw [e]
    obtain ⟨x, y, c0, c1, c2, hx, hy⟩ := hq k (by omega)
    obtain ⟨_, _, z0, _⟩ := hq 0 (by omega)
    obtain ⟨b, off, spot⟩ := a
    obtain rfl := addr_spot z0
    rw [addr_add] at c0 c1 c2
    exact ⟨b, off, rfl, World.block_lt_of_cell? W _ c0, x, y, c0, by rw [← c1, Nat.add_assoc], by rw [← c2, Nat.add_assoc], hx, hy⟩

set_option maxRecDepth 100000 in
theorem desk_arg {H : Type} {enc : TypeId × Value → H} {W : World} {base b0 : Nat} {r : Reach} {v : Value} {d : DataW H} {p : List MemPlace}
    (hv : Value.okWide Try.prog W r b0 57 v) (h : DataW.Trod enc Try.prog W base (fun _ => true) true 57 v d p) : ∃ q, ArgDk W v q := by
  obtain ⟨cs, rfl, hsz⟩ := okWide_struct Try.underlying57 hv
  obtain ⟨fuel, hf⟩ := h
  obtain ⟨y0, y1, m, _, hl, h0, h1⟩ := trod_struct2 Try.underlying57 hf
  have e4 : Try.prog.cellsOf 57 = 4 := by kernel_rfl
  have e3 : Try.prog.cellsOf 51 = 3 := by kernel_rfl
  have e1 : Try.prog.cellsOf 55 = 1 := by kernel_rfl
  rw [e4] at hl
  obtain ⟨l⟩ := cs
  match l, hl with
  | [c0, c1, c2, c3], _ =>
    simp [Value.cells, e1, e3] at h0 h1
    obtain ⟨x, c, u, xs, ss, e, hx, hs⟩ := place_cells h0
    simp at e
    obtain ⟨rfl, rfl, rfl⟩ := e
    obtain ⟨ps, hps⟩ := places_arg h1
    exact ⟨⟨⟨xs, c, ss⟩, ps⟩, c0, c2, c3, rfl, hx, hs, hps⟩
end Go.Proofs.Ytofgfhfdmkcmcaa
