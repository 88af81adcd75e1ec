/-
  Arguments that are deeds and slices of deeds, opened to what the walks want of them.
-/
import Derived.Test.YtnajdbnacdnnlaaGreatDoorE8P
import Derived.Test.YtnajdbnacdnnlaaGreatDoorQK
namespace Go.Proofs.YtnajdbnacdnnlaaGreatDoor
open Go.RowKit Go.ChangeShapes Go.WideShapes Go.Deep Go.Joins

set_option maxRecDepth 100000 in
theorem deed_cells {H : Type} {enc : TypeId × Value → H} {W : World} {base n : Nat} {cs : List Value} {y : DataW H × List MemPlace} (h : DataW.trod enc Tryz.prog W base (fun _ => true) true n 71 cs = some y) :
    ∃ a b c, cs = [.int .i64 a, .int .i64 b, .int .i64 c] := by
  obtain ⟨y0, y1, y2, m, _, hl, h0, h1, h2⟩ := trod_struct3 Tryz.underlying71 h
  rw [show Tryz.prog.cellsOf 71 = 3 from by kernel_rfl] at hl
  have e2 : Tryz.prog.cellsOf 3 = 1 := by kernel_rfl
  match cs, hl with
  | [c0, c1, c2], _ =>
    simp [e2] at h0 h1 h2
    obtain ⟨a, ea, _⟩ := DataW.trod_int Tryz.underlying3 h0
    obtain ⟨b, eb, _⟩ := DataW.trod_int Tryz.underlying3 h1
    obtain ⟨c, ec, _⟩ := DataW.trod_int Tryz.underlying3 h2
    simp at ea eb ec
    subst ea
    subst eb
    subst ec
    exact ⟨a, b, c, rfl⟩

set_option maxRecDepth 100000 in
theorem deed_arg {H : Type} {enc : TypeId × Value → H} {W : World} {base b0 : Nat} {r : Reach} {v : Value} {d : DataW H} {p : List MemPlace}
    (hv : Value.okWide Tryz.prog W r b0 71 v) (h : DataW.Trod enc Tryz.prog W base (fun _ => true) true 71 v d p) : ∃ q, ArgDd W v q := by
  obtain ⟨cs, rfl, hsz⟩ := okWide_struct Tryz.underlying71 hv
  obtain ⟨fuel, hf⟩ := h
  obtain ⟨a, b, c, e⟩ := deed_cells hf
  have e' : cs = #[.int .i64 a, .int .i64 b, .int .i64 c] := by
    cases cs
    simpa [Value.cells] using e
  exact ⟨⟨a, b, c⟩, by rw [e']; rfl⟩

end Go.Proofs.YtnajdbnacdnnlaaGreatDoor
