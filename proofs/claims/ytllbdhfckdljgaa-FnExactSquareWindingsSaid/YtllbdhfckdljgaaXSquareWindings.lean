/-
  The walk of an exact law: SquareWindings of the program answers as its model does.
-/
import Derived.Test.YtllbdhfckdljgaaE1
import Derived.Test.YtllbdhfckdljgaaGP
namespace Go.Proofs.Ytllbdhfckdljgaa
open Go.RowKit

set_option maxHeartbeats 4000000 in
set_option maxRecDepth 100000 in
theorem ExactSquareWindings_calls (r : Int) (c : Int) (xs : List Int) (w : World) (vxs : Value) (haxs : Arg w vxs xs) :
    Calls Try.prog 10 #[.int .i64 r, .int .i64 c, vxs] w fun e w' => e = .returned (.bool true) ∧ Kept [] w w' := by
  have HAxs := Lib.hid haxs
  obtain ⟨axs, capxs, rfl, hmxs, _⟩ := haxs
  by_cases hbigxs : 1048576 < xs.length
  · have hb : (1048576 : Int) < xs.length := by omega
    clear hbigxs
    go_enter Try.func10, Try.ntmps10
    go_wp2
    go_ret
    exact ⟨rfl, Kept.refl _ _⟩
  have hbxs : ¬ (1048576 : Int) < xs.length := by omega
  have h20xs : xs.length ≤ 1048576 := by omega
  clear hbigxs
  have hlen : (Nt.sqwOf r c xs).length ≤ 2000000 := Nat.le_trans (Nt.sqwOf_small r c xs) (by omega)
  go_enter Try.func10, Try.ntmps10
  go_wp2_with fail
  refine (toIntS_any xs h20xs _ _ HAxs.out).mono ?_
  rintro e w1 ⟨u1, rfl, hs, hk⟩
  have H1 := Lib.hid hk; clear hk
  have S2 := Lib.hid hs; clear hs
  have B3 := Lib.hid (fun g (hg : u1.ownBlock = some g) => (S2.out.block hg).1)
  have A4 := Lib.hid (fun g (hg : u1.ownBlock = some g) => Nat.le_trans (Nat.le_refl _) (B3.out g hg))
  have K5 := Lib.hid H1.out
  clear H1
  go_wp2_with fail
  have L6 := Lib.hid (fun g (hg : u1.ownBlock = some g) => (S2.out.block hg).2)
  refine (sSqW_any r c xs _ _ _ S2.out).mono ?_
  rintro e w2 ⟨u2, rfl, hs, hk⟩
  have H7 := Lib.hid hk; clear hk
  have S8 := Lib.hid (S2.out.stay H7.out); clear S2
  have S9 := Lib.hid hs; clear hs
  have B10 := Lib.hid (fun g (hg : u2.ownBlock = some g) => (S9.out.block hg).1)
  have A11 := Lib.hid (fun g (hg : u2.ownBlock = some g) => Nat.le_trans (K5.out.size) (B10.out g hg))
  have K12 := Lib.hid (K5.out.trans H7.out (by simp))
  clear H7
  go_wp2_with fail
  have L13 := Lib.hid (fun g (hg : u1.ownBlock = some g) => (S8.out.block hg).2)
  have L14 := Lib.hid (fun g (hg : u2.ownBlock = some g) => (S9.out.block hg).2)
  refine (toIntS_any xs h20xs _ _ (HAxs.out.stay K12.out)).mono ?_
  rintro e w3 ⟨u3, rfl, hs, hk⟩
  have H15 := Lib.hid hk; clear hk
  have S16 := Lib.hid (S8.out.stay H15.out); clear S8
  have S17 := Lib.hid (S9.out.stay H15.out); clear S9
  have S18 := Lib.hid hs; clear hs
  have B19 := Lib.hid (fun g (hg : u3.ownBlock = some g) => (S18.out.block hg).1)
  have A20 := Lib.hid (fun g (hg : u3.ownBlock = some g) => Nat.le_trans (K12.out.size) (B19.out g hg))
  have K21 := Lib.hid (K12.out.trans H15.out (by simp))
  clear H15
  go_wp2_with fail
  have L22 := Lib.hid (fun g (hg : u1.ownBlock = some g) => (S16.out.block hg).2)
  have L23 := Lib.hid (fun g (hg : u2.ownBlock = some g) => (S17.out.block hg).2)
  have L24 := Lib.hid (fun g (hg : u3.ownBlock = some g) => (S18.out.block hg).2)
  refine (iSqW_any r c xs _ _ _ S18.out).mono ?_
  rintro e w4 ⟨u4, rfl, hs, hk⟩
  have H25 := Lib.hid hk; clear hk
  have S26 := Lib.hid (S16.out.stay H25.out); clear S16
  have S27 := Lib.hid (S17.out.stay H25.out); clear S17
  have S28 := Lib.hid (S18.out.stay H25.out); clear S18
  have S29 := Lib.hid hs; clear hs
  have B30 := Lib.hid (fun g (hg : u4.ownBlock = some g) => (S29.out.block hg).1)
  have A31 := Lib.hid (fun g (hg : u4.ownBlock = some g) => Nat.le_trans (K21.out.size) (B30.out g hg))
  have K32 := Lib.hid (K21.out.trans H25.out (by simp))
  clear H25
  go_wp2_with fail
  refine (eqIntS_any _ _ _ _ _ _ _ S29.out S27.out).mono ?_
  rintro e w5 ⟨rfl, hq⟩
  have H33 := Lib.hid hq.kept; clear hq
  have S34 := Lib.hid (S26.out.stay H33.out); clear S26
  have S35 := Lib.hid (S27.out.stay H33.out); clear S27
  have S36 := Lib.hid (S28.out.stay H33.out); clear S28
  have S37 := Lib.hid (S29.out.stay H33.out); clear S29
  have K38 := Lib.hid (K32.out.trans H33.out (by simp))
  clear H33
  go_wp2_with fail
  have L39 := Lib.hid (fun g (hg : u1.ownBlock = some g) => (S34.out.block hg).2)
  have L40 := Lib.hid (fun g (hg : u2.ownBlock = some g) => (S35.out.block hg).2)
  have L41 := Lib.hid (fun g (hg : u3.ownBlock = some g) => (S36.out.block hg).2)
  have L42 := Lib.hid (fun g (hg : u4.ownBlock = some g) => (S37.out.block hg).2)
  refine (toIntS_any xs h20xs _ _ (HAxs.out.stay K38.out)).mono ?_
  rintro e w6 ⟨u6, rfl, hs, hk⟩
  have H43 := Lib.hid hk; clear hk
  have S44 := Lib.hid (S34.out.stay H43.out); clear S34
  have S45 := Lib.hid (S35.out.stay H43.out); clear S35
  have S46 := Lib.hid (S36.out.stay H43.out); clear S36
  have S47 := Lib.hid (S37.out.stay H43.out); clear S37
  have S48 := Lib.hid hs; clear hs
  have B49 := Lib.hid (fun g (hg : u6.ownBlock = some g) => (S48.out.block hg).1)
  have A50 := Lib.hid (fun g (hg : u6.ownBlock = some g) => Nat.le_trans (K38.out.size) (B49.out g hg))
  have K51 := Lib.hid (K38.out.trans H43.out (by simp))
  clear H43
  go_wp2_with fail
  refine (eqIntS_any _ _ _ _ _ _ _ S46.out S48.out).mono ?_
  rintro e w7 ⟨rfl, hq⟩
  have H52 := Lib.hid hq.kept; clear hq
  have S53 := Lib.hid (S44.out.stay H52.out); clear S44
  have S54 := Lib.hid (S45.out.stay H52.out); clear S45
  have S55 := Lib.hid (S46.out.stay H52.out); clear S46
  have S56 := Lib.hid (S47.out.stay H52.out); clear S47
  have S57 := Lib.hid (S48.out.stay H52.out); clear S48
  have K58 := Lib.hid (K51.out.trans H52.out (by simp))
  clear H52
  go_wp2_with fail
  refine (markIntS_any (1) (by omega) (by omega) _ (by omega) _ _ _ S55.out).mono ?_
  rintro e w8 ⟨rfl, hs, hk⟩
  have H59 := Lib.hid hk; clear hk
  have S60 := Lib.hid (S53.out.kept H59.out (apart L13.out B19.out)); clear S53
  have S61 := Lib.hid (S54.out.kept H59.out (apart L14.out B19.out)); clear S54
  have S63 := Lib.hid (S56.out.kept H59.out (apart' L24.out B30.out)); clear S56
  have S64 := Lib.hid (S57.out.kept H59.out (apart' L41.out B49.out)); clear S57
  have S65 := Lib.hid hs; clear hs S55
  have K66 := Lib.hid (K58.out.own H59.out A20.out)
  clear H59
  go_wp2_with fail
  refine (eqIntS_any _ _ _ _ _ _ _ S63.out S61.out).mono ?_
  rintro e w9 ⟨rfl, hq⟩
  have H67 := Lib.hid hq.kept; clear hq
  have S68 := Lib.hid (S60.out.stay H67.out); clear S60
  have S69 := Lib.hid (S61.out.stay H67.out); clear S61
  have S70 := Lib.hid (S65.out.stay H67.out); clear S65
  have S71 := Lib.hid (S63.out.stay H67.out); clear S63
  have S72 := Lib.hid (S64.out.stay H67.out); clear S64
  have K73 := Lib.hid (K66.out.trans H67.out (by simp))
  clear H67
  go_wp2_with fail
  refine (markIntS_any 1 (by omega) (by omega) _ hlen _ _ _ S71.out).mono ?_
  rintro e w10 ⟨rfl, hs, hk⟩
  have H74 := Lib.hid hk; clear hk
  have S75 := Lib.hid (S68.out.kept H74.out (apart L22.out B30.out)); clear S68
  have S76 := Lib.hid (S69.out.kept H74.out (apart L23.out B30.out)); clear S69
  have S77 := Lib.hid (S70.out.kept H74.out (apart L24.out B30.out)); clear S70
  have S79 := Lib.hid (S72.out.kept H74.out (apart' L42.out B49.out)); clear S72
  have S80 := Lib.hid hs; clear hs S71
  have K81 := Lib.hid (K73.out.own H74.out A31.out)
  clear H74
  go_wp2_with fail
  refine (heldIntS_any _ hlen _ _ _ S80.out).mono ?_
  rintro e w' ⟨rfl, rfl⟩
  go_wp2_with fail
  have L82 := Lib.hid (fun g (hg : u1.ownBlock = some g) => (S75.out.block hg).2)
  have L83 := Lib.hid (fun g (hg : u2.ownBlock = some g) => (S76.out.block hg).2)
  have L84 := Lib.hid (fun g (hg : u3.ownBlock = some g) => (S77.out.block hg).2)
  have L85 := Lib.hid (fun g (hg : u4.ownBlock = some g) => (S80.out.block hg).2)
  have L86 := Lib.hid (fun g (hg : u6.ownBlock = some g) => (S79.out.block hg).2)
  refine (toIntS_any xs h20xs _ _ (HAxs.out.stay K81.out)).mono ?_
  rintro e w11 ⟨u11, rfl, hs, hk⟩
  have H87 := Lib.hid hk; clear hk
  have S88 := Lib.hid (S75.out.stay H87.out); clear S75
  have S89 := Lib.hid (S76.out.stay H87.out); clear S76
  have S90 := Lib.hid (S77.out.stay H87.out); clear S77
  have S91 := Lib.hid (S80.out.stay H87.out); clear S80
  have S92 := Lib.hid (S79.out.stay H87.out); clear S79
  have S93 := Lib.hid hs; clear hs
  have B94 := Lib.hid (fun g (hg : u11.ownBlock = some g) => (S93.out.block hg).1)
  have A95 := Lib.hid (fun g (hg : u11.ownBlock = some g) => Nat.le_trans (K81.out.size) (B94.out g hg))
  have K96 := Lib.hid (K81.out.trans H87.out (by simp))
  clear H87
  go_wp2_with fail
  have L97 := Lib.hid (fun g (hg : u1.ownBlock = some g) => (S88.out.block hg).2)
  have L98 := Lib.hid (fun g (hg : u2.ownBlock = some g) => (S89.out.block hg).2)
  have L99 := Lib.hid (fun g (hg : u3.ownBlock = some g) => (S90.out.block hg).2)
  have L100 := Lib.hid (fun g (hg : u4.ownBlock = some g) => (S91.out.block hg).2)
  have L101 := Lib.hid (fun g (hg : u6.ownBlock = some g) => (S92.out.block hg).2)
  have L102 := Lib.hid (fun g (hg : u11.ownBlock = some g) => (S93.out.block hg).2)
  refine (iSqW_any r c xs _ _ _ S93.out).mono ?_
  rintro e w12 ⟨u12, rfl, hs, hk⟩
  have H103 := Lib.hid hk; clear hk
  have S104 := Lib.hid (S88.out.stay H103.out); clear S88
  have S105 := Lib.hid (S89.out.stay H103.out); clear S89
  have S106 := Lib.hid (S90.out.stay H103.out); clear S90
  have S107 := Lib.hid (S91.out.stay H103.out); clear S91
  have S108 := Lib.hid (S92.out.stay H103.out); clear S92
  have S109 := Lib.hid (S93.out.stay H103.out); clear S93
  have S110 := Lib.hid hs; clear hs
  have B111 := Lib.hid (fun g (hg : u12.ownBlock = some g) => (S110.out.block hg).1)
  have A112 := Lib.hid (fun g (hg : u12.ownBlock = some g) => Nat.le_trans (K96.out.size) (B111.out g hg))
  have K113 := Lib.hid (K96.out.trans H103.out (by simp))
  clear H103
  go_wp2_with fail
  refine (eqIntS_any _ _ _ _ _ _ _ S110.out S105.out).mono ?_
  rintro e w13 ⟨rfl, hq⟩
  have H114 := Lib.hid hq.kept; clear hq
  have S115 := Lib.hid (S104.out.stay H114.out); clear S104
  have S116 := Lib.hid (S105.out.stay H114.out); clear S105
  have S117 := Lib.hid (S106.out.stay H114.out); clear S106
  have S118 := Lib.hid (S107.out.stay H114.out); clear S107
  have S119 := Lib.hid (S108.out.stay H114.out); clear S108
  have S120 := Lib.hid (S109.out.stay H114.out); clear S109
  have S121 := Lib.hid (S110.out.stay H114.out); clear S110
  have K122 := Lib.hid (K113.out.trans H114.out (by simp))
  clear H114
  go_wp2_with fail
  refine (heldIntS_any _ hlen _ _ _ S118.out).mono ?_
  rintro e w' ⟨rfl, rfl⟩
  go_wp2_with fail
  go_ret
  exact ⟨rfl, K122.out⟩
end Go.Proofs.Ytllbdhfckdljgaa
