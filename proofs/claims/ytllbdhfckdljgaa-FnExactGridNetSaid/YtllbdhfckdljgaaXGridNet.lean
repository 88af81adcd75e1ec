/-
  The walk of an exact law: GridNet of the program answers as its model does.
-/
import Derived.Test.YtllbdhfckdljgaaE1
import Derived.Test.YtllbdhfckdljgaaGP
namespace Go.Proofs.Ytllbdhfckdljgaa
open Go.RowKit

set_option maxHeartbeats 4000000 in
set_option maxRecDepth 100000 in
theorem ExactGridNet_calls (r : Int) (c : Int) (w : World)   :
    Calls Try.prog 8 #[.int .i64 r, .int .i64 c] w fun e w' => e = .returned (.bool true) ∧ Kept [] w w' := by
  have hlen : (Nt.gridOf r c).length ≤ 2000000 := Nat.le_trans (Nt.gridOf_small r c) (by omega)
  go_enter Try.func8, Try.ntmps8
  go_wp2_with fail
  refine (sGrid_any r c _).mono ?_
  rintro e w1 ⟨u1, rfl, hs, hk⟩
  have H1 := Lib.hid hk; clear hk
  have S2 := Lib.hid hs; clear hs
  have B3 := Lib.hid (fun g (hg : u1.ownBlock = some g) => (S2.out.block hg).1)
  have A4 := Lib.hid (fun g (hg : u1.ownBlock = some g) => Nat.le_trans (Nat.le_refl _) (B3.out g hg))
  have K5 := Lib.hid H1.out
  clear H1
  go_wp2_with fail
  have L6 := Lib.hid (fun g (hg : u1.ownBlock = some g) => (S2.out.block hg).2)
  refine (iGrid_any r c _).mono ?_
  rintro e w2 ⟨u2, rfl, hs, hk⟩
  have H7 := Lib.hid hk; clear hk
  have S8 := Lib.hid (S2.out.stay H7.out); clear S2
  have S9 := Lib.hid hs; clear hs
  have B10 := Lib.hid (fun g (hg : u2.ownBlock = some g) => (S9.out.block hg).1)
  have A11 := Lib.hid (fun g (hg : u2.ownBlock = some g) => Nat.le_trans (K5.out.size) (B10.out g hg))
  have K12 := Lib.hid (K5.out.trans H7.out (by simp))
  clear H7
  go_wp2_with fail
  refine (eqIntS_any _ _ _ _ _ _ _ S9.out S8.out).mono ?_
  rintro e w3 ⟨rfl, hq⟩
  have H13 := Lib.hid hq.kept; clear hq
  have S14 := Lib.hid (S8.out.stay H13.out); clear S8
  have S15 := Lib.hid (S9.out.stay H13.out); clear S9
  have K16 := Lib.hid (K12.out.trans H13.out (by simp))
  clear H13
  go_wp2_with fail
  refine (markIntS_any 1 (by omega) (by omega) _ hlen _ _ _ S15.out).mono ?_
  rintro e w4 ⟨rfl, hs, hk⟩
  have H17 := Lib.hid hk; clear hk
  have S18 := Lib.hid (S14.out.kept H17.out (apart L6.out B10.out)); clear S14
  have S20 := Lib.hid hs; clear hs S15
  have K21 := Lib.hid (K16.out.own H17.out A11.out)
  clear H17
  go_wp2_with fail
  refine (heldIntS_any _ hlen _ _ _ S20.out).mono ?_
  rintro e w' ⟨rfl, rfl⟩
  go_wp2_with fail
  have L22 := Lib.hid (fun g (hg : u1.ownBlock = some g) => (S18.out.block hg).2)
  have L23 := Lib.hid (fun g (hg : u2.ownBlock = some g) => (S20.out.block hg).2)
  refine (iGrid_any r c _).mono ?_
  rintro e w5 ⟨u5, rfl, hs, hk⟩
  have H24 := Lib.hid hk; clear hk
  have S25 := Lib.hid (S18.out.stay H24.out); clear S18
  have S26 := Lib.hid (S20.out.stay H24.out); clear S20
  have S27 := Lib.hid hs; clear hs
  have B28 := Lib.hid (fun g (hg : u5.ownBlock = some g) => (S27.out.block hg).1)
  have A29 := Lib.hid (fun g (hg : u5.ownBlock = some g) => Nat.le_trans (K21.out.size) (B28.out g hg))
  have K30 := Lib.hid (K21.out.trans H24.out (by simp))
  clear H24
  go_wp2_with fail
  refine (eqIntS_any _ _ _ _ _ _ _ S27.out S25.out).mono ?_
  rintro e w6 ⟨rfl, hq⟩
  have H31 := Lib.hid hq.kept; clear hq
  have S32 := Lib.hid (S25.out.stay H31.out); clear S25
  have S33 := Lib.hid (S26.out.stay H31.out); clear S26
  have S34 := Lib.hid (S27.out.stay H31.out); clear S27
  have K35 := Lib.hid (K30.out.trans H31.out (by simp))
  clear H31
  go_wp2_with fail
  refine (heldIntS_any _ hlen _ _ _ S33.out).mono ?_
  rintro e w' ⟨rfl, rfl⟩
  go_wp2_with fail
  go_ret
  exact ⟨rfl, K35.out⟩
end Go.Proofs.Ytllbdhfckdljgaa
