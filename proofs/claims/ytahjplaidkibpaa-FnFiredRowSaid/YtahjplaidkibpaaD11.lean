/-
  Walks: a lit state's numbers drawn; a state's number drawn.
-/
import Derived.Test.YtahjplaidkibpaaD10
namespace Go.Proofs.Ytahjplaidkibpaa
open Go.RowKit

/-- A reader, and nothing else has turned since w0. -/
def RdQ (w0 w : World) (B R P : Nat) : Prop := Rd w B R P ∧ Kept [R] w0 w

theorem pickQ {w0 w : World} {B R P : Nat} (hr : RdQ w0 w B R P) (m : Int) (hm : m ≤ 1000000) (hP : P ≤ 100000) :
    Calls Try.prog 47 #[.pointer (some ⟨R, 0, none⟩), .int .i64 m] w fun e w' => ∃ x : Int, e = .returned (.int .i64 x) ∧ 0 ≤ x ∧ x ≤ 1000000 ∧ RdQ w0 w' B R (P + 1) :=
  (pick_any B R P hP m hm w hr.1).mono fun _ _ h => by
    obtain ⟨x, h1, h2, h3, h4, h5⟩ := h
    exact ⟨x, h1, h2, by omega, h4, hr.2.trans h5 (by simp)⟩

/-- Two numbers are drawn. -/
def DrawnTwoInts (w : World) (e : Ending) (w' : World) : Prop :=
  ∃ x y : Int, e = .returned (.tuple #[.int .i64 x, .int .i64 y]) ∧ Kept [] w w'

end Go.Proofs.Ytahjplaidkibpaa
