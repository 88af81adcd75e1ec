/-
  The walk of an exact law: OneByOne of the program answers as its model does.
-/
import Derived.Test.YtgibncpgdbldnabE1
import Derived.Test.YtgibncpgdbldnabZM
import Derived.Test.YtgibncpgdbldnabZP
namespace Go.Proofs.Ytgibncpgdbldnab
open Go.RowKit

set_option maxHeartbeats 4000000 in
set_option maxRecDepth 100000 in
theorem ExactOneByOne_calls (xs : List Int) (nds : List Int) (set : Int) (os : List Int) (w : World) (vxs : Value) (vnds : Value) (vos : Value) (haxs : Arg w vxs xs) (hands : Arg w vnds nds) (haos : Arg w vos os) :
    Calls Try.prog 7 #[vxs, vnds, .int .i64 set, vos] w fun e w' => e = .returned (.bool true) ∧ Kept [] w w' := by
  have HAxs := Lib.hid haxs
  obtain ⟨axs, capxs, rfl, hmxs, _⟩ := haxs
  have HAnds := Lib.hid hands
  obtain ⟨ands, capnds, rfl, hmnds, _⟩ := hands
  have HAos := Lib.hid haos
  obtain ⟨aos, capos, rfl, hmos, _⟩ := haos
  by_cases hbigxs : 1048576 < xs.length
  · have hb : (1048576 : Int) < xs.length := by omega
    clear hbigxs
    go_enter Try.func7, Try.ntmps7
    go_wp2
    go_ret
    exact ⟨rfl, Kept.refl _ _⟩
  have hbxs : ¬ (1048576 : Int) < xs.length := by omega
  have h20xs : xs.length ≤ 1048576 := by omega
  clear hbigxs
  by_cases hbignds : 1048576 < nds.length
  · have hb : (1048576 : Int) < nds.length := by omega
    have hcxs : ¬ (1048576 : Int) < xs.length := by omega
    clear hbignds
    go_enter Try.func7, Try.ntmps7
    go_wp2
    go_ret
    exact ⟨rfl, Kept.refl _ _⟩
  have hbnds : ¬ (1048576 : Int) < nds.length := by omega
  have h20nds : nds.length ≤ 1048576 := by omega
  clear hbignds
  by_cases hbigos : 1048576 < os.length
  · have hb : (1048576 : Int) < os.length := by omega
    have hcxs : ¬ (1048576 : Int) < xs.length := by omega
    have hcnds : ¬ (1048576 : Int) < nds.length := by omega
    clear hbigos
    go_enter Try.func7, Try.ntmps7
    go_wp2
    go_ret
    exact ⟨rfl, Kept.refl _ _⟩
  have hbos : ¬ (1048576 : Int) < os.length := by omega
  have h20os : os.length ≤ 1048576 := by omega
  clear hbigos
  go_enter Try.func7, Try.ntmps7
  go_wp2_with fail
  refine (toIntS_any xs h20xs _ _ HAxs.out).mono ?_
  rintro e w1 ⟨u1, rfl, hs, hk⟩
  have H1 := Lib.hid hk; clear hk
  have S2 := Lib.hid hs; clear hs
  have B3 := Lib.hid (fun g (hg : u1.ownBlock = some g) => (S2.out.block hg).1)
  have A4 := Lib.hid (fun g (hg : u1.ownBlock = some g) => Nat.le_trans (Nat.le_refl _) (B3.out g hg))
  have K5 := Lib.hid H1.out
  clear H1
  go_wp2_with fail
  have L6 := Lib.hid (fun g (hg : u1.ownBlock = some g) => (S2.out.block hg).2)
  refine (toIntS_any nds h20nds _ _ (HAnds.out.stay K5.out)).mono ?_
  rintro e w2 ⟨u2, rfl, hs, hk⟩
  have H7 := Lib.hid hk; clear hk
  have S8 := Lib.hid (S2.out.stay H7.out); clear S2
  have S9 := Lib.hid hs; clear hs
  have B10 := Lib.hid (fun g (hg : u2.ownBlock = some g) => (S9.out.block hg).1)
  have A11 := Lib.hid (fun g (hg : u2.ownBlock = some g) => Nat.le_trans (K5.out.size) (B10.out g hg))
  have K12 := Lib.hid (K5.out.trans H7.out (by simp))
  clear H7
  go_wp2_with fail
  have L13 := Lib.hid (fun g (hg : u1.ownBlock = some g) => (S8.out.block hg).2)
  have L14 := Lib.hid (fun g (hg : u2.ownBlock = some g) => (S9.out.block hg).2)
  refine (toIntS_any os h20os _ _ (HAos.out.stay K12.out)).mono ?_
  rintro e w3 ⟨u3, rfl, hs, hk⟩
  have H15 := Lib.hid hk; clear hk
  have S16 := Lib.hid (S8.out.stay H15.out); clear S8
  have S17 := Lib.hid (S9.out.stay H15.out); clear S9
  have S18 := Lib.hid hs; clear hs
  have B19 := Lib.hid (fun g (hg : u3.ownBlock = some g) => (S18.out.block hg).1)
  have A20 := Lib.hid (fun g (hg : u3.ownBlock = some g) => Nat.le_trans (K12.out.size) (B19.out g hg))
  have K21 := Lib.hid (K12.out.trans H15.out (by simp))
  clear H15
  go_wp2_with fail
  refine (sOneByOne_any xs nds set os _ _ _ _ _ _ _ S16.out S17.out S18.out).mono ?_
  rintro e w4 ⟨rfl, hq⟩
  have H22 := Lib.hid hq.kept; clear hq
  have S23 := Lib.hid (S16.out.stay H22.out); clear S16
  have S24 := Lib.hid (S17.out.stay H22.out); clear S17
  have S25 := Lib.hid (S18.out.stay H22.out); clear S18
  have K26 := Lib.hid (K21.out.trans H22.out (by simp))
  clear H22
  go_wp2_with fail
  have L27 := Lib.hid (fun g (hg : u1.ownBlock = some g) => (S23.out.block hg).2)
  have L28 := Lib.hid (fun g (hg : u2.ownBlock = some g) => (S24.out.block hg).2)
  have L29 := Lib.hid (fun g (hg : u3.ownBlock = some g) => (S25.out.block hg).2)
  refine (toIntS_any xs h20xs _ _ (HAxs.out.stay K26.out)).mono ?_
  rintro e w5 ⟨u5, rfl, hs, hk⟩
  have H30 := Lib.hid hk; clear hk
  have S31 := Lib.hid (S23.out.stay H30.out); clear S23
  have S32 := Lib.hid (S24.out.stay H30.out); clear S24
  have S33 := Lib.hid (S25.out.stay H30.out); clear S25
  have S34 := Lib.hid hs; clear hs
  have B35 := Lib.hid (fun g (hg : u5.ownBlock = some g) => (S34.out.block hg).1)
  have A36 := Lib.hid (fun g (hg : u5.ownBlock = some g) => Nat.le_trans (K26.out.size) (B35.out g hg))
  have K37 := Lib.hid (K26.out.trans H30.out (by simp))
  clear H30
  go_wp2_with fail
  have L38 := Lib.hid (fun g (hg : u1.ownBlock = some g) => (S31.out.block hg).2)
  have L39 := Lib.hid (fun g (hg : u2.ownBlock = some g) => (S32.out.block hg).2)
  have L40 := Lib.hid (fun g (hg : u3.ownBlock = some g) => (S33.out.block hg).2)
  have L41 := Lib.hid (fun g (hg : u5.ownBlock = some g) => (S34.out.block hg).2)
  refine (toIntS_any nds h20nds _ _ (HAnds.out.stay K37.out)).mono ?_
  rintro e w6 ⟨u6, rfl, hs, hk⟩
  have H42 := Lib.hid hk; clear hk
  have S43 := Lib.hid (S31.out.stay H42.out); clear S31
  have S44 := Lib.hid (S32.out.stay H42.out); clear S32
  have S45 := Lib.hid (S33.out.stay H42.out); clear S33
  have S46 := Lib.hid (S34.out.stay H42.out); clear S34
  have S47 := Lib.hid hs; clear hs
  have B48 := Lib.hid (fun g (hg : u6.ownBlock = some g) => (S47.out.block hg).1)
  have A49 := Lib.hid (fun g (hg : u6.ownBlock = some g) => Nat.le_trans (K37.out.size) (B48.out g hg))
  have K50 := Lib.hid (K37.out.trans H42.out (by simp))
  clear H42
  go_wp2_with fail
  have L51 := Lib.hid (fun g (hg : u1.ownBlock = some g) => (S43.out.block hg).2)
  have L52 := Lib.hid (fun g (hg : u2.ownBlock = some g) => (S44.out.block hg).2)
  have L53 := Lib.hid (fun g (hg : u3.ownBlock = some g) => (S45.out.block hg).2)
  have L54 := Lib.hid (fun g (hg : u5.ownBlock = some g) => (S46.out.block hg).2)
  have L55 := Lib.hid (fun g (hg : u6.ownBlock = some g) => (S47.out.block hg).2)
  refine (toIntS_any os h20os _ _ (HAos.out.stay K50.out)).mono ?_
  rintro e w7 ⟨u7, rfl, hs, hk⟩
  have H56 := Lib.hid hk; clear hk
  have S57 := Lib.hid (S43.out.stay H56.out); clear S43
  have S58 := Lib.hid (S44.out.stay H56.out); clear S44
  have S59 := Lib.hid (S45.out.stay H56.out); clear S45
  have S60 := Lib.hid (S46.out.stay H56.out); clear S46
  have S61 := Lib.hid (S47.out.stay H56.out); clear S47
  have S62 := Lib.hid hs; clear hs
  have B63 := Lib.hid (fun g (hg : u7.ownBlock = some g) => (S62.out.block hg).1)
  have A64 := Lib.hid (fun g (hg : u7.ownBlock = some g) => Nat.le_trans (K50.out.size) (B63.out g hg))
  have K65 := Lib.hid (K50.out.trans H56.out (by simp))
  clear H56
  go_wp2_with fail
  refine (iOneByOne_any xs nds set os _ _ _ _ _ _ _ S60.out S61.out S62.out).mono ?_
  rintro e w8 ⟨rfl, hk⟩
  have H66 := Lib.hid hk; clear hk
  have S67 := Lib.hid (S57.out.stay H66.out); clear S57
  have S68 := Lib.hid (S58.out.stay H66.out); clear S58
  have S69 := Lib.hid (S59.out.stay H66.out); clear S59
  have S70 := Lib.hid (S60.out.stay H66.out); clear S60
  have S71 := Lib.hid (S61.out.stay H66.out); clear S61
  have S72 := Lib.hid (S62.out.stay H66.out); clear S62
  have K73 := Lib.hid (K65.out.trans H66.out (by simp))
  clear H66
  go_wp2_with fail
  have L74 := Lib.hid (fun g (hg : u1.ownBlock = some g) => (S67.out.block hg).2)
  have L75 := Lib.hid (fun g (hg : u2.ownBlock = some g) => (S68.out.block hg).2)
  have L76 := Lib.hid (fun g (hg : u3.ownBlock = some g) => (S69.out.block hg).2)
  have L77 := Lib.hid (fun g (hg : u5.ownBlock = some g) => (S70.out.block hg).2)
  have L78 := Lib.hid (fun g (hg : u6.ownBlock = some g) => (S71.out.block hg).2)
  have L79 := Lib.hid (fun g (hg : u7.ownBlock = some g) => (S72.out.block hg).2)
  refine (toIntS_any xs h20xs _ _ (HAxs.out.stay K73.out)).mono ?_
  rintro e w9 ⟨u9, rfl, hs, hk⟩
  have H80 := Lib.hid hk; clear hk
  have S81 := Lib.hid (S67.out.stay H80.out); clear S67
  have S82 := Lib.hid (S68.out.stay H80.out); clear S68
  have S83 := Lib.hid (S69.out.stay H80.out); clear S69
  have S84 := Lib.hid (S70.out.stay H80.out); clear S70
  have S85 := Lib.hid (S71.out.stay H80.out); clear S71
  have S86 := Lib.hid (S72.out.stay H80.out); clear S72
  have S87 := Lib.hid hs; clear hs
  have B88 := Lib.hid (fun g (hg : u9.ownBlock = some g) => (S87.out.block hg).1)
  have A89 := Lib.hid (fun g (hg : u9.ownBlock = some g) => Nat.le_trans (K73.out.size) (B88.out g hg))
  have K90 := Lib.hid (K73.out.trans H80.out (by simp))
  clear H80
  go_wp2_with fail
  refine (eqIntS_any _ _ _ _ _ _ _ S84.out S87.out).mono ?_
  rintro e w10 ⟨rfl, hq⟩
  have H91 := Lib.hid hq.kept; clear hq
  have S92 := Lib.hid (S81.out.stay H91.out); clear S81
  have S93 := Lib.hid (S82.out.stay H91.out); clear S82
  have S94 := Lib.hid (S83.out.stay H91.out); clear S83
  have S95 := Lib.hid (S84.out.stay H91.out); clear S84
  have S96 := Lib.hid (S85.out.stay H91.out); clear S85
  have S97 := Lib.hid (S86.out.stay H91.out); clear S86
  have S98 := Lib.hid (S87.out.stay H91.out); clear S87
  have K99 := Lib.hid (K90.out.trans H91.out (by simp))
  clear H91
  go_wp2_with fail
  have L100 := Lib.hid (fun g (hg : u1.ownBlock = some g) => (S92.out.block hg).2)
  have L101 := Lib.hid (fun g (hg : u2.ownBlock = some g) => (S93.out.block hg).2)
  have L102 := Lib.hid (fun g (hg : u3.ownBlock = some g) => (S94.out.block hg).2)
  have L103 := Lib.hid (fun g (hg : u5.ownBlock = some g) => (S95.out.block hg).2)
  have L104 := Lib.hid (fun g (hg : u6.ownBlock = some g) => (S96.out.block hg).2)
  have L105 := Lib.hid (fun g (hg : u7.ownBlock = some g) => (S97.out.block hg).2)
  have L106 := Lib.hid (fun g (hg : u9.ownBlock = some g) => (S98.out.block hg).2)
  refine (toIntS_any nds h20nds _ _ (HAnds.out.stay K99.out)).mono ?_
  rintro e w11 ⟨u11, rfl, hs, hk⟩
  have H107 := Lib.hid hk; clear hk
  have S108 := Lib.hid (S92.out.stay H107.out); clear S92
  have S109 := Lib.hid (S93.out.stay H107.out); clear S93
  have S110 := Lib.hid (S94.out.stay H107.out); clear S94
  have S111 := Lib.hid (S95.out.stay H107.out); clear S95
  have S112 := Lib.hid (S96.out.stay H107.out); clear S96
  have S113 := Lib.hid (S97.out.stay H107.out); clear S97
  have S114 := Lib.hid (S98.out.stay H107.out); clear S98
  have S115 := Lib.hid hs; clear hs
  have B116 := Lib.hid (fun g (hg : u11.ownBlock = some g) => (S115.out.block hg).1)
  have A117 := Lib.hid (fun g (hg : u11.ownBlock = some g) => Nat.le_trans (K99.out.size) (B116.out g hg))
  have K118 := Lib.hid (K99.out.trans H107.out (by simp))
  clear H107
  go_wp2_with fail
  refine (eqIntS_any _ _ _ _ _ _ _ S112.out S115.out).mono ?_
  rintro e w12 ⟨rfl, hq⟩
  have H119 := Lib.hid hq.kept; clear hq
  have S120 := Lib.hid (S108.out.stay H119.out); clear S108
  have S121 := Lib.hid (S109.out.stay H119.out); clear S109
  have S122 := Lib.hid (S110.out.stay H119.out); clear S110
  have S123 := Lib.hid (S111.out.stay H119.out); clear S111
  have S124 := Lib.hid (S112.out.stay H119.out); clear S112
  have S125 := Lib.hid (S113.out.stay H119.out); clear S113
  have S126 := Lib.hid (S114.out.stay H119.out); clear S114
  have S127 := Lib.hid (S115.out.stay H119.out); clear S115
  have K128 := Lib.hid (K118.out.trans H119.out (by simp))
  clear H119
  go_wp2_with fail
  have L129 := Lib.hid (fun g (hg : u1.ownBlock = some g) => (S120.out.block hg).2)
  have L130 := Lib.hid (fun g (hg : u2.ownBlock = some g) => (S121.out.block hg).2)
  have L131 := Lib.hid (fun g (hg : u3.ownBlock = some g) => (S122.out.block hg).2)
  have L132 := Lib.hid (fun g (hg : u5.ownBlock = some g) => (S123.out.block hg).2)
  have L133 := Lib.hid (fun g (hg : u6.ownBlock = some g) => (S124.out.block hg).2)
  have L134 := Lib.hid (fun g (hg : u7.ownBlock = some g) => (S125.out.block hg).2)
  have L135 := Lib.hid (fun g (hg : u9.ownBlock = some g) => (S126.out.block hg).2)
  have L136 := Lib.hid (fun g (hg : u11.ownBlock = some g) => (S127.out.block hg).2)
  refine (toIntS_any os h20os _ _ (HAos.out.stay K128.out)).mono ?_
  rintro e w13 ⟨u13, rfl, hs, hk⟩
  have H137 := Lib.hid hk; clear hk
  have S138 := Lib.hid (S120.out.stay H137.out); clear S120
  have S139 := Lib.hid (S121.out.stay H137.out); clear S121
  have S140 := Lib.hid (S122.out.stay H137.out); clear S122
  have S141 := Lib.hid (S123.out.stay H137.out); clear S123
  have S142 := Lib.hid (S124.out.stay H137.out); clear S124
  have S143 := Lib.hid (S125.out.stay H137.out); clear S125
  have S144 := Lib.hid (S126.out.stay H137.out); clear S126
  have S145 := Lib.hid (S127.out.stay H137.out); clear S127
  have S146 := Lib.hid hs; clear hs
  have B147 := Lib.hid (fun g (hg : u13.ownBlock = some g) => (S146.out.block hg).1)
  have A148 := Lib.hid (fun g (hg : u13.ownBlock = some g) => Nat.le_trans (K128.out.size) (B147.out g hg))
  have K149 := Lib.hid (K128.out.trans H137.out (by simp))
  clear H137
  go_wp2_with fail
  refine (eqIntS_any _ _ _ _ _ _ _ S143.out S146.out).mono ?_
  rintro e w14 ⟨rfl, hq⟩
  have H150 := Lib.hid hq.kept; clear hq
  have S151 := Lib.hid (S138.out.stay H150.out); clear S138
  have S152 := Lib.hid (S139.out.stay H150.out); clear S139
  have S153 := Lib.hid (S140.out.stay H150.out); clear S140
  have S154 := Lib.hid (S141.out.stay H150.out); clear S141
  have S155 := Lib.hid (S142.out.stay H150.out); clear S142
  have S156 := Lib.hid (S143.out.stay H150.out); clear S143
  have S157 := Lib.hid (S144.out.stay H150.out); clear S144
  have S158 := Lib.hid (S145.out.stay H150.out); clear S145
  have S159 := Lib.hid (S146.out.stay H150.out); clear S146
  have K160 := Lib.hid (K149.out.trans H150.out (by simp))
  clear H150
  go_wp2_with fail
  go_ret
  exact ⟨rfl, K160.out⟩
end Go.Proofs.Ytgibncpgdbldnab
