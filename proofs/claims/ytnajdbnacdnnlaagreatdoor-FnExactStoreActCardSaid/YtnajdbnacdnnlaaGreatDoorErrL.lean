/-
  What the library reads of its variables, out of what a row lists.
-/
import Derived.Test.YtnajdbnacdnnlaaGreatDoorQG
import Derived.Test.YtnajdbnacdnnlaaGreatDoorCards
import Derived.Stop.LaidErr
import Derived.MakeChecks
import Derived.Shelf.Vars
import Derived.LaidLaws
namespace Go.Proofs.YtnajdbnacdnnlaaGreatDoor
open Go.RowKit

theorem errStar : "*" ++ "errors.errorString" = "*errors.errorString" := by decide

theorem errRow (u : TypeId) (h : Tryz.prog.typeName? 3 u = some "*errors.errorString") : u = 236 :=
  typeName_ptr_named (nm := "errors.errorString") (by rw [errStar]; kernel_rfl) (by kernel_rfl) (by decide) u (by rw [errStar]; exact h)

theorem errW_of_tail {W : World} {r : List (String × DataW Unit)} (hsh : W.ShapedOpen Tryz.prog)
    (hT : laidMet Tryz.prog (("strconv.ErrRange", Rows.laid_strconv_ErrRange) :: ("strconv.ErrSyntax", Rows.laid_strconv_ErrSyntax) :: r) W) : ErrW W := by
  obtain ⟨a1, _, hv1, _⟩ := laid_sentinel (g := 3) (ti := 139) hT (by kernel_rfl) (by kernel_rfl) Tryz.underlying139 errRow Tryz.underlying236 Tryz.underlying238 rfl rfl Tryz.underlying9 (by kernel_rfl) (by kernel_rfl)
  obtain ⟨a2, _, hv2, _⟩ := laid_sentinel (g := 2) (ti := 139) hT.tail (by kernel_rfl) (by kernel_rfl) Tryz.underlying139 errRow Tryz.underlying236 Tryz.underlying238 rfl rfl Tryz.underlying9 (by kernel_rfl) (by kernel_rfl)
  refine ⟨cell_of_shapedOpen_int (P := Tryz.prog) (g := 0) (t := 3) (zero := #[.int .i64 0]) hsh (of_decide_eq_true (by kernel_rfl)) (by kernel_rfl) rfl (by kernel_rfl) (by kernel_rfl) Tryz.underlying3, ?_, ?_⟩
  · have := World.var?_cell (P := Tryz.prog) (g := 2) (by kernel_rfl) hv2 0
    exact ⟨_, _, this⟩
  · have := World.var?_cell (P := Tryz.prog) (g := 3) (by kernel_rfl) hv1 0
    exact ⟨_, _, this⟩
theorem errW_of_laid {W : World} {a b c d : DataW Unit} {r : List (String × DataW Unit)} (hsh : W.ShapedOpen Tryz.prog)
    (h : laidMet Tryz.prog (("math/bits.deBruijn32tab", a) :: ("math/bits.deBruijn64tab", b) :: ("internal/strconv.uint64pow10", c) :: ("unicode/utf8.acceptRanges", d) :: ("strconv.ErrRange", Rows.laid_strconv_ErrRange) :: ("strconv.ErrSyntax", Rows.laid_strconv_ErrSyntax) :: r) W) : ErrW W := errW_of_tail hsh h.tail.tail.tail.tail
theorem errW_of_laid3 {W : World} {a b c : DataW Unit} {r : List (String × DataW Unit)} (hsh : W.ShapedOpen Tryz.prog)
    (h : laidMet Tryz.prog (("math/bits.deBruijn32tab", a) :: ("math/bits.deBruijn64tab", b) :: ("internal/strconv.uint64pow10", c) :: ("strconv.ErrRange", Rows.laid_strconv_ErrRange) :: ("strconv.ErrSyntax", Rows.laid_strconv_ErrSyntax) :: r) W) : ErrW W := errW_of_tail hsh h.tail.tail.tail
end Go.Proofs.YtnajdbnacdnnlaaGreatDoor
