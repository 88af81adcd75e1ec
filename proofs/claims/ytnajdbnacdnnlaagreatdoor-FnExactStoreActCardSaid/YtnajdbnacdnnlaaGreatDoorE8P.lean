/-
  Arguments that are places, opened to what the walks want of them.
-/
import Derived.Test.YtnajdbnacdnnlaaGreatDoorQK
import Derived.ProofKit
import Derived.OpenShut
import Derived.Lib.SmallJoins
import Derived.Deep.Slices
import Derived.ChangeSame
namespace Go.Proofs.YtnajdbnacdnnlaaGreatDoor
open Go.RowKit Go.ChangeShapes Go.WideShapes Go.Deep Go.Joins

theorem addr_add (b off j : Nat) : (⟨b, off, none⟩ : Addr).add j = ⟨b, off + j, none⟩ := by unfold Addr.add; split <;> simp_all

theorem addr_spot {W : World} {b off : Nat} {spot : Option Nat} {v : Value} (h : W.cell? ((⟨b, off, spot⟩ : Addr).add (0 * 3)) = some v) : spot = none := by
  simpa [Addr.add] using World.cell?_spot h

set_option maxRecDepth 100000 in
theorem ints_arg {H : Type} {enc : TypeId × Value → H} {W : World} {base n : Nat} {v : Value} {y : DataW H × List MemPlace} (h : DataW.trod enc Tryz.prog W base (fun _ => true) true n 28 [v] = some y) : ∃ xs, Arg W v xs := by
  rcases open_ints Tryz.underlying28 Tryz.underlying3 (by kernel_rfl) h with ⟨hcs, _⟩ | ⟨x, l, c, zs, hcs, _, hl, hm, hz, _, hcell, hwz⟩
  · simp at hcs
    subst hcs
    exact ⟨[], none, 0, rfl, by simp, fun k hk => by simp at hk⟩
  · simp at hcs
    subst hcs
    exact ⟨zs.take l, arg_of (.inr ⟨_, rfl, hl, hm, by simpa using hz, hcell, hwz⟩)⟩

set_option maxRecDepth 100000 in
theorem place_cells {H : Type} {enc : TypeId × Value → H} {W : World} {base n : Nat} {cs : List Value} {y : DataW H × List MemPlace} (h : DataW.trod enc Tryz.prog W base (fun _ => true) true n 58 cs = some y) :
    ∃ v c u xs ss, cs = [v, .int .i64 c, u] ∧ Arg W v xs ∧ Arg W u ss := by
  obtain ⟨y0, y1, y2, m, _, hl, h0, h1, h2⟩ := trod_struct3 Tryz.underlying58 h
  rw [show Tryz.prog.cellsOf 58 = 3 from by kernel_rfl] at hl
  have e1 : Tryz.prog.cellsOf 28 = 1 := by kernel_rfl
  have e2 : Tryz.prog.cellsOf 3 = 1 := by kernel_rfl
  match cs, hl with
  | [c0, c1, c2], _ =>
    simp [e1, e2] at h0 h1 h2
    obtain ⟨xs, hx⟩ := ints_arg h0
    obtain ⟨ss, hs⟩ := ints_arg h2
    obtain ⟨c, ec, _⟩ := DataW.trod_int Tryz.underlying3 h1
    simp at ec
    subst ec
    exact ⟨c0, c, c2, xs, ss, rfl, hx, hs⟩

set_option maxRecDepth 100000 in
theorem place_arg {H : Type} {enc : TypeId × Value → H} {W : World} {base b0 : Nat} {r : Reach} {v : Value} {d : DataW H} {p : List MemPlace}
    (hv : Value.okWide Tryz.prog W r b0 58 v) (h : DataW.Trod enc Tryz.prog W base (fun _ => true) true 58 v d p) : ∃ q, ArgPl W v q := by
  obtain ⟨cs, rfl, hsz⟩ := okWide_struct Tryz.underlying58 hv
  obtain ⟨fuel, hf⟩ := h
  obtain ⟨x, c, u, xs, ss, e, hx, hs⟩ := place_cells hf
  have e' : cs = #[x, .int .i64 c, u] := by
    cases cs
    simpa [Value.cells] using e
  exact ⟨⟨xs, c, ss⟩, x, u, by rw [e'], hx, hs⟩
end Go.Proofs.YtnajdbnacdnnlaaGreatDoor
