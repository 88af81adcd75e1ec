/-
  Arguments that are stores, opened to what the walks want of them.
-/
import Derived.Test.YtnajdbnacdnnlaaGreatDoorQK
import Derived.ProofKit
import Derived.OpenShut
import Derived.Lib.SmallJoins
import Derived.Deep.Slices
import Derived.ChangeSame
namespace Go.Proofs.YtnajdbnacdnnlaaGreatDoor
open Go.RowKit Go.ChangeShapes Go.WideShapes Go.Deep Go.Joins

set_option maxRecDepth 100000 in
theorem store_cells {H : Type} {enc : TypeId × Value → H} {W : World} {base n : Nat} {cs : List Value} {y : DataW H × List MemPlace} (h : DataW.trod enc Tryz.prog W base (fun _ => true) true n 70 cs = some y) :
    ∃ z1 z2 m, cs = [.string z1, .string z2, .int .i64 m] ∧ z1.size ≤ 9223372036854775807 ∧ z2.size ≤ 9223372036854775807 := by
  obtain ⟨y0, y1, y2, m, _, hl, h0, h1, h2⟩ := trod_struct3 Tryz.underlying70 h
  rw [show Tryz.prog.cellsOf 70 = 3 from by kernel_rfl] at hl
  have e1 : Tryz.prog.cellsOf 9 = 1 := by kernel_rfl
  have e2 : Tryz.prog.cellsOf 3 = 1 := by kernel_rfl
  match cs, hl with
  | [c0, c1, c2], _ =>
    simp [e1, e2] at h0 h1 h2
    obtain ⟨a, ea, _, ha⟩ := DataW.trod_string Tryz.underlying9 h0
    obtain ⟨b, eb, _, hb⟩ := DataW.trod_string Tryz.underlying9 h1
    obtain ⟨c, ec, _⟩ := DataW.trod_int Tryz.underlying3 h2
    simp at ea eb ec
    subst ea
    subst eb
    subst ec
    exact ⟨a, b, c, rfl, by simpa [maxLen] using ha, by simpa [maxLen] using hb⟩

set_option maxRecDepth 100000 in
theorem store_arg {H : Type} {enc : TypeId × Value → H} {W : World} {base b0 : Nat} {r : Reach} {v : Value} {d : DataW H} {p : List MemPlace}
    (hv : Value.okWide Tryz.prog W r b0 70 v) (h : DataW.Trod enc Tryz.prog W base (fun _ => true) true 70 v d p) : ∃ q, ArgSt W v q := by
  obtain ⟨cs, rfl, hsz⟩ := okWide_struct Tryz.underlying70 hv
  obtain ⟨fuel, hf⟩ := h
  obtain ⟨a, b, c, e, h1, h2⟩ := store_cells hf
  have e' : cs = #[.string a, .string b, .int .i64 c] := by
    cases cs
    simpa [Value.cells] using e
  exact ⟨_, a, b, c, by rw [e'], rfl, h1, h2⟩
end Go.Proofs.YtnajdbnacdnnlaaGreatDoor
