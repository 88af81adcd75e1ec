/-
  The walk of an exact law: SquareTours of the program answers as its model does.
-/
import Derived.Test.YtllbdhfckdljgaaE3
import Derived.Test.YtllbdhfckdljgaaGP
namespace Go.Proofs.Ytllbdhfckdljgaa
open Go.RowKit

set_option maxHeartbeats 4000000 in
set_option maxRecDepth 100000 in
theorem ExactSquareTours_calls (r c : Int) (w : World) :
    Calls Try.prog 9 #[.int .i64 r, .int .i64 c] w fun e w' => e = .returned (.bool true) ∧ Kept [] w w' := by
  obtain ⟨f, hf⟩ : ∃ f : Nat → List Int, f = fun i => if i < (Nt.sqsOf r c).length then Nt.nats ((Nt.sqsOf r c).getD i []) else [] := ⟨_, rfl⟩
  have h12 : ∀ i, (f i).length ≤ 12 := fun i => by
    rw [hf]
    show (if i < (Nt.sqsOf r c).length then Nt.nats ((Nt.sqsOf r c).getD i []) else []).length ≤ 12
    by_cases h : i < (Nt.sqsOf r c).length
    · rw [if_pos h, Nt.nats_length, Nt.sqsOf_five h]; omega
    · rw [if_neg h]; simp
  have HFF := Lib.hid (fun (w : World) (base : Nat) (v : Value) (vs : List Value) (hl : vs.length = (Nt.sqsOf r c).length) (h : Rw w base v vs (fun i => (Nt.sqsOf r c).getD i [])) => show Rf w base v vs f from ⟨h.1, fun i hi => by
    rw [hf]
    show Sl w base _ (if i < (Nt.sqsOf r c).length then Nt.nats ((Nt.sqsOf r c).getD i []) else [])
    rw [if_pos (by omega)]; exact h.2 i hi⟩)
  have h6 := Nt.sqsOf_small r c
  have H12 := Lib.hid h12
  have hbnd : ∀ k, offs f k ≤ 12 * k := fun k => by
    induction k with
    | zero => exact Nat.le_refl _
    | succ k ih => rw [offs]; have := h12 k; omega
  have HBN := Lib.hid hbnd
  clear hf h12 hbnd
  go_enter Try.func9, Try.ntmps9
  go_wp2_with fail
  refine (sSquares_any r c _).mono ?_
  rintro e w1 ⟨u1, vs, rfl, hvl, hrw, hap, hk⟩
  have R1 := Lib.hid (HFF.out _ _ _ _ hvl hrw)
  have K1 := Lib.hid hk
  have V1 := Lib.hid hvl
  clear hrw hap hk hvl
  go_wp2_with fail
  refine (iSquares_any r c _).mono ?_
  rintro e w2 ⟨u2, ws, rfl, hwl, hrw, hap, hk⟩
  have R2 := Lib.hid (HFF.out _ _ _ _ hwl hrw)
  have Q2 := Lib.hid (R1.out.stay hk)
  have K2 := Lib.hid (K1.out.trans hk (by simp))
  have AP := Lib.hid hap
  have V2 := Lib.hid hwl
  have LO := Lib.hid (show w1.heap.size ≤ w2.heap.size from hk.size)
  have LW := Lib.hid (show w.heap.size ≤ w1.heap.size from K1.out.size)
  have D1 := Lib.hid (fun g (hg : g ∈ rowBlocks u1 vs) => (rowBlocks_out R1.out hg).2)
  clear hrw hap hk hwl
  have hw6 : ws.length ≤ 6 := by rw [V2.out]; exact h6
  have hv6 : vs.length ≤ 6 := by rw [V1.out]; exact h6
  have W6 := Lib.hid (And.intro hw6 hv6)
  clear hw6 hv6 h6
  go_wp2_with fail
  refine (eqIntSS_yes ws vs f f (by rw [V1.out, V2.out]) (by have := W6.out; omega) (fun _ _ => rfl) _ _ _ _ _ R2.out Q2.out).mono ?_
  rintro e w3 ⟨rfl, hq⟩
  have R3 := Lib.hid (R2.out.stay hq.kept)
  have Q3 := Lib.hid (Q2.out.stay hq.kept)
  have K3 := Lib.hid (K2.out.trans hq.kept (by simp))
  clear hq
  go_wp2_with fail
  refine (markIntSS_any 1 (by omega) (by omega) ws f AP.out W6.out.1 H12.out _ _ _ R3.out).mono ?_
  rintro e w4 ⟨rfl, hr, hk⟩
  have R4 := Lib.hid hr
  have Q4 := Lib.hid (Q3.out.kept hk fun g hg hm => by
    have h1 := D1.out g hg
    have h2 := (rowBlocks_out R2.out hm).1
    omega)
  have K4 := Lib.hid (K3.out.trans hk fun g hm => .inr (Nat.le_trans LW.out (rowBlocks_out R2.out hm).1))
  have hb := HBN.out ws.length
  have hw6 := W6.out.1
  clear hr hk
  have HH := Lib.hid (fun w' base v h => heldIntSS_any 1 (by omega) (by omega) ws f W6.out.1 H12.out w' v base h)
  have ht : offs f ws.length ≤ 72 := by omega
  clear hb hw6
  generalize offs f ws.length = t at *
  have d1 : decide (1 + (t : Int) < 0) = false := dec_not (by omega)
  have d2 : ((1 + (t : Int)) != (1 + (t : Int))) = false := by simp
  go_wp2_with fail
  refine (HH.out _ _ _ R4.out).mono ?_
  rintro e w' ⟨rfl, rfl⟩
  go_wp2_with fail
  refine (iSquares_any r c _).mono ?_
  rintro e w5 ⟨u5, us, rfl, hul, hrw, hap, hk⟩
  have R5 := Lib.hid (HFF.out _ _ _ _ hul hrw)
  have P5 := Lib.hid (R4.out.stay hk)
  have Q5 := Lib.hid (Q4.out.stay hk)
  have K5 := Lib.hid (K4.out.trans hk (by simp))
  have V5 := Lib.hid hul
  clear hrw hap hk hul
  go_wp2_with fail
  refine (eqIntSS_yes us vs f f (by rw [V1.out, V5.out]) (by have := W6.out; rw [V5.out, ← V1.out]; omega) (fun _ _ => rfl) _ _ _ _ _ R5.out Q5.out).mono ?_
  rintro e w6 ⟨rfl, hq⟩
  have P6 := Lib.hid (P5.out.stay hq.kept)
  have K6 := Lib.hid (K5.out.trans hq.kept (by simp))
  clear hq
  go_wp2_with fail
  refine (HH.out _ _ _ P6.out).mono ?_
  rintro e w' ⟨rfl, rfl⟩
  go_wp2_with fail
  go_ret
  exact ⟨rfl, K6.out⟩
end Go.Proofs.Ytllbdhfckdljgaa
