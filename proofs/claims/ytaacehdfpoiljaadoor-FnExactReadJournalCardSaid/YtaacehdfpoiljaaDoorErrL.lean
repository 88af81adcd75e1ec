/-
  What the library reads of its variables, out of what a row lists.
-/
import Derived.Test.YtaacehdfpoiljaaDoorSH
import Derived.Test.YtaacehdfpoiljaaDoorCards
import Derived.Stop.LaidErr
import Derived.MakeChecks
import Derived.Shelf.Vars
import Derived.LaidLaws
namespace Go.Proofs.YtaacehdfpoiljaaDoor
open Go.RowKit

theorem errStar : "*" ++ "errors.errorString" = "*errors.errorString" := by decide

theorem errRow (u : TypeId) (h : Tryd.prog.typeName? 3 u = some "*errors.errorString") : u = 158 :=
  typeName_ptr_named (nm := "errors.errorString") (by rw [errStar]; kernel_rfl) (by kernel_rfl) (by decide) u (by rw [errStar]; exact h)

theorem errW_of_tail {W : World} {r : List (String × DataW Unit)} (hsh : W.ShapedOpen Tryd.prog)
    (hT : laidMet Tryd.prog (("strconv.ErrRange", Rows.laid_strconv_ErrRange) :: ("strconv.ErrSyntax", Rows.laid_strconv_ErrSyntax) :: r) W) : ErrW W := by
  obtain ⟨a1, _, hv1, _⟩ := laid_sentinel (g := 3) (ti := 103) hT (by kernel_rfl) (by kernel_rfl) Tryd.underlying103 errRow Tryd.underlying158 Tryd.underlying160 rfl rfl Tryd.underlying9 (by kernel_rfl) (by kernel_rfl)
  obtain ⟨a2, _, hv2, _⟩ := laid_sentinel (g := 2) (ti := 103) hT.tail (by kernel_rfl) (by kernel_rfl) Tryd.underlying103 errRow Tryd.underlying158 Tryd.underlying160 rfl rfl Tryd.underlying9 (by kernel_rfl) (by kernel_rfl)
  refine ⟨cell_of_shapedOpen_int (P := Tryd.prog) (g := 0) (t := 3) (zero := #[.int .i64 0]) hsh (of_decide_eq_true (by kernel_rfl)) (by kernel_rfl) rfl (by kernel_rfl) (by kernel_rfl) Tryd.underlying3, ?_, ?_⟩
  · have := World.var?_cell (P := Tryd.prog) (g := 2) (by kernel_rfl) hv2 0
    exact ⟨_, _, this⟩
  · have := World.var?_cell (P := Tryd.prog) (g := 3) (by kernel_rfl) hv1 0
    exact ⟨_, _, this⟩
theorem errW_of_laid {W : World} {a b c d : DataW Unit} {r : List (String × DataW Unit)} (hsh : W.ShapedOpen Tryd.prog)
    (h : laidMet Tryd.prog (("math/bits.deBruijn32tab", a) :: ("math/bits.deBruijn64tab", b) :: ("internal/strconv.uint64pow10", c) :: ("unicode/utf8.acceptRanges", d) :: ("strconv.ErrRange", Rows.laid_strconv_ErrRange) :: ("strconv.ErrSyntax", Rows.laid_strconv_ErrSyntax) :: r) W) : ErrW W := errW_of_tail hsh h.tail.tail.tail.tail
theorem errW_of_laid3 {W : World} {a b c : DataW Unit} {r : List (String × DataW Unit)} (hsh : W.ShapedOpen Tryd.prog)
    (h : laidMet Tryd.prog (("math/bits.deBruijn32tab", a) :: ("math/bits.deBruijn64tab", b) :: ("internal/strconv.uint64pow10", c) :: ("strconv.ErrRange", Rows.laid_strconv_ErrRange) :: ("strconv.ErrSyntax", Rows.laid_strconv_ErrSyntax) :: r) W) : ErrW W := errW_of_tail hsh h.tail.tail.tail
end Go.Proofs.YtaacehdfpoiljaaDoor
