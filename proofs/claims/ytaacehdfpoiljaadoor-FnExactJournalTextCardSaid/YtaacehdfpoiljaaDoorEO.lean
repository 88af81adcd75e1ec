/-
  Arguments that are deeds and slices of deeds, opened to what the walks want of them.
-/
import Derived.Test.YtaacehdfpoiljaaDoorE8P
import Derived.Test.YtaacehdfpoiljaaDoorED
namespace Go.Proofs.YtaacehdfpoiljaaDoor
open Go.RowKit Go.ChangeShapes Go.WideShapes Go.Deep Go.Joins

set_option maxRecDepth 100000 in
theorem deed_cells {H : Type} {enc : TypeId × Value → H} {W : World} {base n : Nat} {cs : List Value} {y : DataW H × List MemPlace} (h : DataW.trod enc Tryd.prog W base (fun _ => true) true n 53 cs = some y) :
    ∃ a b c, cs = [.int .i64 a, .int .i64 b, .int .i64 c] := by
  obtain ⟨y0, y1, y2, m, _, hl, h0, h1, h2⟩ := trod_struct3 Tryd.underlying53 h
  rw [show Tryd.prog.cellsOf 53 = 3 from by kernel_rfl] at hl
  have e2 : Tryd.prog.cellsOf 3 = 1 := by kernel_rfl
  match cs, hl with
  | [c0, c1, c2], _ =>
    simp [e2] at h0 h1 h2
    obtain ⟨a, ea, _⟩ := DataW.trod_int Tryd.underlying3 h0
    obtain ⟨b, eb, _⟩ := DataW.trod_int Tryd.underlying3 h1
    obtain ⟨c, ec, _⟩ := DataW.trod_int Tryd.underlying3 h2
    simp at ea eb ec
    subst ea
    subst eb
    subst ec
    exact ⟨a, b, c, rfl⟩

set_option maxRecDepth 100000 in
theorem deed_arg {H : Type} {enc : TypeId × Value → H} {W : World} {base b0 : Nat} {r : Reach} {v : Value} {d : DataW H} {p : List MemPlace}
    (hv : Value.okWide Tryd.prog W r b0 53 v) (h : DataW.Trod enc Tryd.prog W base (fun _ => true) true 53 v d p) : ∃ q, ArgDd W v q := by
  obtain ⟨cs, rfl, hsz⟩ := okWide_struct Tryd.underlying53 hv
  obtain ⟨fuel, hf⟩ := h
  obtain ⟨a, b, c, e⟩ := deed_cells hf
  have e' : cs = #[.int .i64 a, .int .i64 b, .int .i64 c] := by
    cases cs
    simpa [Value.cells] using e
  exact ⟨⟨a, b, c⟩, by rw [e']; rfl⟩

set_option maxRecDepth 100000 in
theorem deeds_arg {H : Type} {enc : TypeId × Value → H} {W : World} {base b0 : Nat} {r : Reach} {v : Value} {d : DataW H} {p : List MemPlace}
    (hv : Value.okWide Tryd.prog W r b0 57 v) (h : DataW.Trod enc Tryd.prog W base (fun _ => true) true 57 v d p) : ∃ q, ArgDs W v q := by
  have e3 : Tryd.prog.cellsOf 53 = 3 := by kernel_rfl
  obtain ⟨a0, len0, cap0, rfl⟩ := okWide_slice Tryd.underlying57 hv
  obtain ⟨fuel, hf⟩ := h
  rcases open_slice Tryd.underlying57 hf with ⟨hcs, _⟩ | ⟨a, len, cap, m, n', D, Pl, hcs, _, hl, hm, hmm, _, hi⟩
  · simp [Value.cells] at hcs
    obtain ⟨rfl, rfl, rfl⟩ := hcs
    exact ⟨[], none, 0, rfl, by simp, fun k hk => by simp at hk⟩
  · simp [Value.cells] at hcs
    obtain ⟨rfl, rfl, rfl⟩ := hcs
    have hmc : m = cap0 := by simpa using hmm
    subst hmc
    have hv : ∀ i, i < m → ∃ p : Nt.Dd, W.cell? (a.add (i * 3)) = some (.int .i64 p.kind) ∧ W.cell? (a.add (i * 3 + 1)) = some (.int .i64 p.a) ∧ W.cell? (a.add (i * 3 + 2)) = some (.int .i64 p.b) := fun i him => by
      obtain ⟨cs', hc, ht'⟩ := hi i him
      rw [e3] at hc
      obtain ⟨x, y, z, e⟩ := deed_cells ht'
      subst e
      obtain ⟨_, _, hat⟩ := World.cells?_some hc
      have h0 := hat 0 (by omega)
      have h1 := hat 1 (by omega)
      have h2 := hat 2 (by omega)
      rw [add_add] at h0 h1 h2
      exact ⟨⟨x, y, z⟩, by simpa using h0, by simpa using h1, by simpa using h2⟩
    haveI : Inhabited Nt.Dd := ⟨⟨0, 0, 0⟩⟩
    obtain ⟨q, hq⟩ := choose_lt hv
    refine ⟨(List.range len0).map q, some a, m, by simp, by simp; unfold maxLen at hm; omega, fun k hk => ?_⟩
    have hkl : k < len0 := by simpa using hk
    have e : ddAt ((List.range len0).map q) k = q k := by simp [ddAt, List.getD_eq_getElem?_getD, hkl]
    rw [e]
    obtain ⟨c0, c1, c2⟩ := hq k (by omega)
    obtain ⟨z0, _, _⟩ := hq 0 (by omega)
    obtain ⟨b, off, spot⟩ := a
    obtain rfl := addr_spot z0
    rw [addr_add] at c0 c1 c2
    exact ⟨b, off, rfl, World.block_lt_of_cell? W _ c0, c0, by rw [← c1, Nat.add_assoc], by rw [← c2, Nat.add_assoc]⟩
end Go.Proofs.YtaacehdfpoiljaaDoor
