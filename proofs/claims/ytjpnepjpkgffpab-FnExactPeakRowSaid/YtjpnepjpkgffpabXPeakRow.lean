/-
  The walk of an exact law: PeakRow of the program answers as its model does.
-/
import Derived.Test.YtjpnepjpkgffpabE1
import Derived.Test.YtjpnepjpkgffpabXP
import Derived.Test.YtjpnepjpkgffpabXM
namespace Go.Proofs.Ytjpnepjpkgffpab
open Go.RowKit

set_option maxHeartbeats 4000000 in
set_option maxRecDepth 100000 in
theorem ExactPeakRow_calls (xs : List Int) (ys : List Int) (w : World) (vxs : Value) (vys : Value) (haxs : Arg w vxs xs) (hays : Arg w vys ys) :
    Calls Try.prog 7 #[vxs, vys] w fun e w' => e = .returned (.bool true) ∧ Kept [] w w' := by
  have HAxs := Lib.hid haxs
  obtain ⟨axs, capxs, rfl, hmxs, _⟩ := haxs
  have HAys := Lib.hid hays
  obtain ⟨ays, capys, rfl, hmys, _⟩ := hays
  by_cases hbigxs : 1048576 < xs.length
  · have hb : (1048576 : Int) < xs.length := by omega
    clear hbigxs
    go_enter Try.func7, Try.ntmps7
    go_wp2
    go_ret
    exact ⟨rfl, Kept.refl _ _⟩
  have hbxs : ¬ (1048576 : Int) < xs.length := by omega
  have h20xs : xs.length ≤ 1048576 := by omega
  clear hbigxs
  by_cases hbigys : 1048576 < ys.length
  · have hb : (1048576 : Int) < ys.length := by omega
    have hcxs : ¬ (1048576 : Int) < xs.length := by omega
    clear hbigys
    go_enter Try.func7, Try.ntmps7
    go_wp2
    go_ret
    exact ⟨rfl, Kept.refl _ _⟩
  have hbys : ¬ (1048576 : Int) < ys.length := by omega
  have h20ys : ys.length ≤ 1048576 := by omega
  clear hbigys
  have hlen : (Nt.peaksOf xs ys).length ≤ 2000000 := Nt.peaksOf_small xs ys
  go_enter Try.func7, Try.ntmps7
  go_wp2_with fail
  refine (toIntS_any xs h20xs _ _ HAxs.out).mono ?_
  rintro e w1 ⟨u1, rfl, hs, hk⟩
  have H1 := Lib.hid hk; clear hk
  have S2 := Lib.hid hs; clear hs
  have B3 := Lib.hid (fun g (hg : u1.ownBlock = some g) => (S2.out.block hg).1)
  have A4 := Lib.hid (fun g (hg : u1.ownBlock = some g) => Nat.le_trans (Nat.le_refl _) (B3.out g hg))
  have K5 := Lib.hid H1.out
  clear H1
  go_wp2_with fail
  have L6 := Lib.hid (fun g (hg : u1.ownBlock = some g) => (S2.out.block hg).2)
  refine (toIntS_any ys h20ys _ _ (HAys.out.stay K5.out)).mono ?_
  rintro e w2 ⟨u2, rfl, hs, hk⟩
  have H7 := Lib.hid hk; clear hk
  have S8 := Lib.hid (S2.out.stay H7.out); clear S2
  have S9 := Lib.hid hs; clear hs
  have B10 := Lib.hid (fun g (hg : u2.ownBlock = some g) => (S9.out.block hg).1)
  have A11 := Lib.hid (fun g (hg : u2.ownBlock = some g) => Nat.le_trans (K5.out.size) (B10.out g hg))
  have K12 := Lib.hid (K5.out.trans H7.out (by simp))
  clear H7
  go_wp2_with fail
  have L13 := Lib.hid (fun g (hg : u1.ownBlock = some g) => (S8.out.block hg).2)
  have L14 := Lib.hid (fun g (hg : u2.ownBlock = some g) => (S9.out.block hg).2)
  refine (sPeak_any xs ys _ _ _ _ _ S8.out S9.out).mono ?_
  rintro e w3 ⟨u3, rfl, hs, hk⟩
  have H15 := Lib.hid hk; clear hk
  have S16 := Lib.hid (S8.out.stay H15.out); clear S8
  have S17 := Lib.hid (S9.out.stay H15.out); clear S9
  have S18 := Lib.hid hs; clear hs
  have B19 := Lib.hid (fun g (hg : u3.ownBlock = some g) => (S18.out.block hg).1)
  have A20 := Lib.hid (fun g (hg : u3.ownBlock = some g) => Nat.le_trans (K12.out.size) (B19.out g hg))
  have K21 := Lib.hid (K12.out.trans H15.out (by simp))
  clear H15
  go_wp2_with fail
  have L22 := Lib.hid (fun g (hg : u1.ownBlock = some g) => (S16.out.block hg).2)
  have L23 := Lib.hid (fun g (hg : u2.ownBlock = some g) => (S17.out.block hg).2)
  have L24 := Lib.hid (fun g (hg : u3.ownBlock = some g) => (S18.out.block hg).2)
  refine (toIntS_any xs h20xs _ _ (HAxs.out.stay K21.out)).mono ?_
  rintro e w4 ⟨u4, rfl, hs, hk⟩
  have H25 := Lib.hid hk; clear hk
  have S26 := Lib.hid (S16.out.stay H25.out); clear S16
  have S27 := Lib.hid (S17.out.stay H25.out); clear S17
  have S28 := Lib.hid (S18.out.stay H25.out); clear S18
  have S29 := Lib.hid hs; clear hs
  have B30 := Lib.hid (fun g (hg : u4.ownBlock = some g) => (S29.out.block hg).1)
  have A31 := Lib.hid (fun g (hg : u4.ownBlock = some g) => Nat.le_trans (K21.out.size) (B30.out g hg))
  have K32 := Lib.hid (K21.out.trans H25.out (by simp))
  clear H25
  go_wp2_with fail
  have L33 := Lib.hid (fun g (hg : u1.ownBlock = some g) => (S26.out.block hg).2)
  have L34 := Lib.hid (fun g (hg : u2.ownBlock = some g) => (S27.out.block hg).2)
  have L35 := Lib.hid (fun g (hg : u3.ownBlock = some g) => (S28.out.block hg).2)
  have L36 := Lib.hid (fun g (hg : u4.ownBlock = some g) => (S29.out.block hg).2)
  refine (toIntS_any ys h20ys _ _ (HAys.out.stay K32.out)).mono ?_
  rintro e w5 ⟨u5, rfl, hs, hk⟩
  have H37 := Lib.hid hk; clear hk
  have S38 := Lib.hid (S26.out.stay H37.out); clear S26
  have S39 := Lib.hid (S27.out.stay H37.out); clear S27
  have S40 := Lib.hid (S28.out.stay H37.out); clear S28
  have S41 := Lib.hid (S29.out.stay H37.out); clear S29
  have S42 := Lib.hid hs; clear hs
  have B43 := Lib.hid (fun g (hg : u5.ownBlock = some g) => (S42.out.block hg).1)
  have A44 := Lib.hid (fun g (hg : u5.ownBlock = some g) => Nat.le_trans (K32.out.size) (B43.out g hg))
  have K45 := Lib.hid (K32.out.trans H37.out (by simp))
  clear H37
  go_wp2_with fail
  have L46 := Lib.hid (fun g (hg : u1.ownBlock = some g) => (S38.out.block hg).2)
  have L47 := Lib.hid (fun g (hg : u2.ownBlock = some g) => (S39.out.block hg).2)
  have L48 := Lib.hid (fun g (hg : u3.ownBlock = some g) => (S40.out.block hg).2)
  have L49 := Lib.hid (fun g (hg : u4.ownBlock = some g) => (S41.out.block hg).2)
  have L50 := Lib.hid (fun g (hg : u5.ownBlock = some g) => (S42.out.block hg).2)
  refine (iPeak_any xs ys _ _ _ _ _ S41.out S42.out).mono ?_
  rintro e w6 ⟨u6, rfl, hs, hk⟩
  have H51 := Lib.hid hk; clear hk
  have S52 := Lib.hid (S38.out.stay H51.out); clear S38
  have S53 := Lib.hid (S39.out.stay H51.out); clear S39
  have S54 := Lib.hid (S40.out.stay H51.out); clear S40
  have S55 := Lib.hid (S41.out.stay H51.out); clear S41
  have S56 := Lib.hid (S42.out.stay H51.out); clear S42
  have S57 := Lib.hid hs; clear hs
  have B58 := Lib.hid (fun g (hg : u6.ownBlock = some g) => (S57.out.block hg).1)
  have A59 := Lib.hid (fun g (hg : u6.ownBlock = some g) => Nat.le_trans (K45.out.size) (B58.out g hg))
  have K60 := Lib.hid (K45.out.trans H51.out (by simp))
  clear H51
  go_wp2_with fail
  refine (eqIntS_any _ _ _ _ _ _ _ S57.out S54.out).mono ?_
  rintro e w7 ⟨rfl, hq⟩
  have H61 := Lib.hid hq.kept; clear hq
  have S62 := Lib.hid (S52.out.stay H61.out); clear S52
  have S63 := Lib.hid (S53.out.stay H61.out); clear S53
  have S64 := Lib.hid (S54.out.stay H61.out); clear S54
  have S65 := Lib.hid (S55.out.stay H61.out); clear S55
  have S66 := Lib.hid (S56.out.stay H61.out); clear S56
  have S67 := Lib.hid (S57.out.stay H61.out); clear S57
  have K68 := Lib.hid (K60.out.trans H61.out (by simp))
  clear H61
  go_wp2_with fail
  have L69 := Lib.hid (fun g (hg : u1.ownBlock = some g) => (S62.out.block hg).2)
  have L70 := Lib.hid (fun g (hg : u2.ownBlock = some g) => (S63.out.block hg).2)
  have L71 := Lib.hid (fun g (hg : u3.ownBlock = some g) => (S64.out.block hg).2)
  have L72 := Lib.hid (fun g (hg : u4.ownBlock = some g) => (S65.out.block hg).2)
  have L73 := Lib.hid (fun g (hg : u5.ownBlock = some g) => (S66.out.block hg).2)
  have L74 := Lib.hid (fun g (hg : u6.ownBlock = some g) => (S67.out.block hg).2)
  refine (toIntS_any xs h20xs _ _ (HAxs.out.stay K68.out)).mono ?_
  rintro e w8 ⟨u8, rfl, hs, hk⟩
  have H75 := Lib.hid hk; clear hk
  have S76 := Lib.hid (S62.out.stay H75.out); clear S62
  have S77 := Lib.hid (S63.out.stay H75.out); clear S63
  have S78 := Lib.hid (S64.out.stay H75.out); clear S64
  have S79 := Lib.hid (S65.out.stay H75.out); clear S65
  have S80 := Lib.hid (S66.out.stay H75.out); clear S66
  have S81 := Lib.hid (S67.out.stay H75.out); clear S67
  have S82 := Lib.hid hs; clear hs
  have B83 := Lib.hid (fun g (hg : u8.ownBlock = some g) => (S82.out.block hg).1)
  have A84 := Lib.hid (fun g (hg : u8.ownBlock = some g) => Nat.le_trans (K68.out.size) (B83.out g hg))
  have K85 := Lib.hid (K68.out.trans H75.out (by simp))
  clear H75
  go_wp2_with fail
  refine (eqIntS_any _ _ _ _ _ _ _ S79.out S82.out).mono ?_
  rintro e w9 ⟨rfl, hq⟩
  have H86 := Lib.hid hq.kept; clear hq
  have S87 := Lib.hid (S76.out.stay H86.out); clear S76
  have S88 := Lib.hid (S77.out.stay H86.out); clear S77
  have S89 := Lib.hid (S78.out.stay H86.out); clear S78
  have S90 := Lib.hid (S79.out.stay H86.out); clear S79
  have S91 := Lib.hid (S80.out.stay H86.out); clear S80
  have S92 := Lib.hid (S81.out.stay H86.out); clear S81
  have S93 := Lib.hid (S82.out.stay H86.out); clear S82
  have K94 := Lib.hid (K85.out.trans H86.out (by simp))
  clear H86
  go_wp2_with fail
  have L95 := Lib.hid (fun g (hg : u1.ownBlock = some g) => (S87.out.block hg).2)
  have L96 := Lib.hid (fun g (hg : u2.ownBlock = some g) => (S88.out.block hg).2)
  have L97 := Lib.hid (fun g (hg : u3.ownBlock = some g) => (S89.out.block hg).2)
  have L98 := Lib.hid (fun g (hg : u4.ownBlock = some g) => (S90.out.block hg).2)
  have L99 := Lib.hid (fun g (hg : u5.ownBlock = some g) => (S91.out.block hg).2)
  have L100 := Lib.hid (fun g (hg : u6.ownBlock = some g) => (S92.out.block hg).2)
  have L101 := Lib.hid (fun g (hg : u8.ownBlock = some g) => (S93.out.block hg).2)
  refine (toIntS_any ys h20ys _ _ (HAys.out.stay K94.out)).mono ?_
  rintro e w10 ⟨u10, rfl, hs, hk⟩
  have H102 := Lib.hid hk; clear hk
  have S103 := Lib.hid (S87.out.stay H102.out); clear S87
  have S104 := Lib.hid (S88.out.stay H102.out); clear S88
  have S105 := Lib.hid (S89.out.stay H102.out); clear S89
  have S106 := Lib.hid (S90.out.stay H102.out); clear S90
  have S107 := Lib.hid (S91.out.stay H102.out); clear S91
  have S108 := Lib.hid (S92.out.stay H102.out); clear S92
  have S109 := Lib.hid (S93.out.stay H102.out); clear S93
  have S110 := Lib.hid hs; clear hs
  have B111 := Lib.hid (fun g (hg : u10.ownBlock = some g) => (S110.out.block hg).1)
  have A112 := Lib.hid (fun g (hg : u10.ownBlock = some g) => Nat.le_trans (K94.out.size) (B111.out g hg))
  have K113 := Lib.hid (K94.out.trans H102.out (by simp))
  clear H102
  go_wp2_with fail
  refine (eqIntS_any _ _ _ _ _ _ _ S107.out S110.out).mono ?_
  rintro e w11 ⟨rfl, hq⟩
  have H114 := Lib.hid hq.kept; clear hq
  have S115 := Lib.hid (S103.out.stay H114.out); clear S103
  have S116 := Lib.hid (S104.out.stay H114.out); clear S104
  have S117 := Lib.hid (S105.out.stay H114.out); clear S105
  have S118 := Lib.hid (S106.out.stay H114.out); clear S106
  have S119 := Lib.hid (S107.out.stay H114.out); clear S107
  have S120 := Lib.hid (S108.out.stay H114.out); clear S108
  have S121 := Lib.hid (S109.out.stay H114.out); clear S109
  have S122 := Lib.hid (S110.out.stay H114.out); clear S110
  have K123 := Lib.hid (K113.out.trans H114.out (by simp))
  clear H114
  go_wp2_with fail
  refine (markIntS_any (1) (by omega) (by omega) _ (by omega) _ _ _ S118.out).mono ?_
  rintro e w12 ⟨rfl, hs, hk⟩
  have H124 := Lib.hid hk; clear hk
  have S125 := Lib.hid (S115.out.kept H124.out (apart L22.out B30.out)); clear S115
  have S126 := Lib.hid (S116.out.kept H124.out (apart L23.out B30.out)); clear S116
  have S127 := Lib.hid (S117.out.kept H124.out (apart L24.out B30.out)); clear S117
  have S129 := Lib.hid (S119.out.kept H124.out (apart' L36.out B43.out)); clear S119
  have S130 := Lib.hid (S120.out.kept H124.out (apart' L49.out B58.out)); clear S120
  have S131 := Lib.hid (S121.out.kept H124.out (apart' L72.out B83.out)); clear S121
  have S132 := Lib.hid (S122.out.kept H124.out (apart' L98.out B111.out)); clear S122
  have S133 := Lib.hid hs; clear hs S118
  have K134 := Lib.hid (K123.out.own H124.out A31.out)
  clear H124
  go_wp2_with fail
  refine (markIntS_any (1 + (xs.length : Nat)) (by omega) (by omega) _ (by omega) _ _ _ S129.out).mono ?_
  rintro e w13 ⟨rfl, hs, hk⟩
  have H135 := Lib.hid hk; clear hk
  have S136 := Lib.hid (S125.out.kept H135.out (apart L33.out B43.out)); clear S125
  have S137 := Lib.hid (S126.out.kept H135.out (apart L34.out B43.out)); clear S126
  have S138 := Lib.hid (S127.out.kept H135.out (apart L35.out B43.out)); clear S127
  have S139 := Lib.hid (S133.out.kept H135.out (apart L36.out B43.out)); clear S133
  have S141 := Lib.hid (S130.out.kept H135.out (apart' L50.out B58.out)); clear S130
  have S142 := Lib.hid (S131.out.kept H135.out (apart' L73.out B83.out)); clear S131
  have S143 := Lib.hid (S132.out.kept H135.out (apart' L99.out B111.out)); clear S132
  have S144 := Lib.hid hs; clear hs S129
  have K145 := Lib.hid (K134.out.own H135.out A44.out)
  clear H135
  go_wp2_with fail
  refine (eqIntS_any _ _ _ _ _ _ _ S141.out S138.out).mono ?_
  rintro e w14 ⟨rfl, hq⟩
  have H146 := Lib.hid hq.kept; clear hq
  have S147 := Lib.hid (S136.out.stay H146.out); clear S136
  have S148 := Lib.hid (S137.out.stay H146.out); clear S137
  have S149 := Lib.hid (S138.out.stay H146.out); clear S138
  have S150 := Lib.hid (S139.out.stay H146.out); clear S139
  have S151 := Lib.hid (S144.out.stay H146.out); clear S144
  have S152 := Lib.hid (S141.out.stay H146.out); clear S141
  have S153 := Lib.hid (S142.out.stay H146.out); clear S142
  have S154 := Lib.hid (S143.out.stay H146.out); clear S143
  have K155 := Lib.hid (K145.out.trans H146.out (by simp))
  clear H146
  go_wp2_with fail
  refine (markIntS_any 1 (by omega) (by omega) _ hlen _ _ _ S152.out).mono ?_
  rintro e w15 ⟨rfl, hs, hk⟩
  have H156 := Lib.hid hk; clear hk
  have S157 := Lib.hid (S147.out.kept H156.out (apart L46.out B58.out)); clear S147
  have S158 := Lib.hid (S148.out.kept H156.out (apart L47.out B58.out)); clear S148
  have S159 := Lib.hid (S149.out.kept H156.out (apart L48.out B58.out)); clear S149
  have S160 := Lib.hid (S150.out.kept H156.out (apart L49.out B58.out)); clear S150
  have S161 := Lib.hid (S151.out.kept H156.out (apart L50.out B58.out)); clear S151
  have S163 := Lib.hid (S153.out.kept H156.out (apart' L74.out B83.out)); clear S153
  have S164 := Lib.hid (S154.out.kept H156.out (apart' L100.out B111.out)); clear S154
  have S165 := Lib.hid hs; clear hs S152
  have K166 := Lib.hid (K155.out.own H156.out A59.out)
  clear H156
  go_wp2_with fail
  refine (heldIntS_any _ hlen _ _ _ S165.out).mono ?_
  rintro e w' ⟨rfl, rfl⟩
  go_wp2_with fail
  have L167 := Lib.hid (fun g (hg : u1.ownBlock = some g) => (S157.out.block hg).2)
  have L168 := Lib.hid (fun g (hg : u2.ownBlock = some g) => (S158.out.block hg).2)
  have L169 := Lib.hid (fun g (hg : u3.ownBlock = some g) => (S159.out.block hg).2)
  have L170 := Lib.hid (fun g (hg : u4.ownBlock = some g) => (S160.out.block hg).2)
  have L171 := Lib.hid (fun g (hg : u5.ownBlock = some g) => (S161.out.block hg).2)
  have L172 := Lib.hid (fun g (hg : u6.ownBlock = some g) => (S165.out.block hg).2)
  have L173 := Lib.hid (fun g (hg : u8.ownBlock = some g) => (S163.out.block hg).2)
  have L174 := Lib.hid (fun g (hg : u10.ownBlock = some g) => (S164.out.block hg).2)
  refine (toIntS_any xs h20xs _ _ (HAxs.out.stay K166.out)).mono ?_
  rintro e w16 ⟨u16, rfl, hs, hk⟩
  have H175 := Lib.hid hk; clear hk
  have S176 := Lib.hid (S157.out.stay H175.out); clear S157
  have S177 := Lib.hid (S158.out.stay H175.out); clear S158
  have S178 := Lib.hid (S159.out.stay H175.out); clear S159
  have S179 := Lib.hid (S160.out.stay H175.out); clear S160
  have S180 := Lib.hid (S161.out.stay H175.out); clear S161
  have S181 := Lib.hid (S165.out.stay H175.out); clear S165
  have S182 := Lib.hid (S163.out.stay H175.out); clear S163
  have S183 := Lib.hid (S164.out.stay H175.out); clear S164
  have S184 := Lib.hid hs; clear hs
  have B185 := Lib.hid (fun g (hg : u16.ownBlock = some g) => (S184.out.block hg).1)
  have A186 := Lib.hid (fun g (hg : u16.ownBlock = some g) => Nat.le_trans (K166.out.size) (B185.out g hg))
  have K187 := Lib.hid (K166.out.trans H175.out (by simp))
  clear H175
  go_wp2_with fail
  have L188 := Lib.hid (fun g (hg : u1.ownBlock = some g) => (S176.out.block hg).2)
  have L189 := Lib.hid (fun g (hg : u2.ownBlock = some g) => (S177.out.block hg).2)
  have L190 := Lib.hid (fun g (hg : u3.ownBlock = some g) => (S178.out.block hg).2)
  have L191 := Lib.hid (fun g (hg : u4.ownBlock = some g) => (S179.out.block hg).2)
  have L192 := Lib.hid (fun g (hg : u5.ownBlock = some g) => (S180.out.block hg).2)
  have L193 := Lib.hid (fun g (hg : u6.ownBlock = some g) => (S181.out.block hg).2)
  have L194 := Lib.hid (fun g (hg : u8.ownBlock = some g) => (S182.out.block hg).2)
  have L195 := Lib.hid (fun g (hg : u10.ownBlock = some g) => (S183.out.block hg).2)
  have L196 := Lib.hid (fun g (hg : u16.ownBlock = some g) => (S184.out.block hg).2)
  refine (toIntS_any ys h20ys _ _ (HAys.out.stay K187.out)).mono ?_
  rintro e w17 ⟨u17, rfl, hs, hk⟩
  have H197 := Lib.hid hk; clear hk
  have S198 := Lib.hid (S176.out.stay H197.out); clear S176
  have S199 := Lib.hid (S177.out.stay H197.out); clear S177
  have S200 := Lib.hid (S178.out.stay H197.out); clear S178
  have S201 := Lib.hid (S179.out.stay H197.out); clear S179
  have S202 := Lib.hid (S180.out.stay H197.out); clear S180
  have S203 := Lib.hid (S181.out.stay H197.out); clear S181
  have S204 := Lib.hid (S182.out.stay H197.out); clear S182
  have S205 := Lib.hid (S183.out.stay H197.out); clear S183
  have S206 := Lib.hid (S184.out.stay H197.out); clear S184
  have S207 := Lib.hid hs; clear hs
  have B208 := Lib.hid (fun g (hg : u17.ownBlock = some g) => (S207.out.block hg).1)
  have A209 := Lib.hid (fun g (hg : u17.ownBlock = some g) => Nat.le_trans (K187.out.size) (B208.out g hg))
  have K210 := Lib.hid (K187.out.trans H197.out (by simp))
  clear H197
  go_wp2_with fail
  have L211 := Lib.hid (fun g (hg : u1.ownBlock = some g) => (S198.out.block hg).2)
  have L212 := Lib.hid (fun g (hg : u2.ownBlock = some g) => (S199.out.block hg).2)
  have L213 := Lib.hid (fun g (hg : u3.ownBlock = some g) => (S200.out.block hg).2)
  have L214 := Lib.hid (fun g (hg : u4.ownBlock = some g) => (S201.out.block hg).2)
  have L215 := Lib.hid (fun g (hg : u5.ownBlock = some g) => (S202.out.block hg).2)
  have L216 := Lib.hid (fun g (hg : u6.ownBlock = some g) => (S203.out.block hg).2)
  have L217 := Lib.hid (fun g (hg : u8.ownBlock = some g) => (S204.out.block hg).2)
  have L218 := Lib.hid (fun g (hg : u10.ownBlock = some g) => (S205.out.block hg).2)
  have L219 := Lib.hid (fun g (hg : u16.ownBlock = some g) => (S206.out.block hg).2)
  have L220 := Lib.hid (fun g (hg : u17.ownBlock = some g) => (S207.out.block hg).2)
  refine (iPeak_any xs ys _ _ _ _ _ S206.out S207.out).mono ?_
  rintro e w18 ⟨u18, rfl, hs, hk⟩
  have H221 := Lib.hid hk; clear hk
  have S222 := Lib.hid (S198.out.stay H221.out); clear S198
  have S223 := Lib.hid (S199.out.stay H221.out); clear S199
  have S224 := Lib.hid (S200.out.stay H221.out); clear S200
  have S225 := Lib.hid (S201.out.stay H221.out); clear S201
  have S226 := Lib.hid (S202.out.stay H221.out); clear S202
  have S227 := Lib.hid (S203.out.stay H221.out); clear S203
  have S228 := Lib.hid (S204.out.stay H221.out); clear S204
  have S229 := Lib.hid (S205.out.stay H221.out); clear S205
  have S230 := Lib.hid (S206.out.stay H221.out); clear S206
  have S231 := Lib.hid (S207.out.stay H221.out); clear S207
  have S232 := Lib.hid hs; clear hs
  have B233 := Lib.hid (fun g (hg : u18.ownBlock = some g) => (S232.out.block hg).1)
  have A234 := Lib.hid (fun g (hg : u18.ownBlock = some g) => Nat.le_trans (K210.out.size) (B233.out g hg))
  have K235 := Lib.hid (K210.out.trans H221.out (by simp))
  clear H221
  go_wp2_with fail
  refine (eqIntS_any _ _ _ _ _ _ _ S232.out S224.out).mono ?_
  rintro e w19 ⟨rfl, hq⟩
  have H236 := Lib.hid hq.kept; clear hq
  have S237 := Lib.hid (S222.out.stay H236.out); clear S222
  have S238 := Lib.hid (S223.out.stay H236.out); clear S223
  have S239 := Lib.hid (S224.out.stay H236.out); clear S224
  have S240 := Lib.hid (S225.out.stay H236.out); clear S225
  have S241 := Lib.hid (S226.out.stay H236.out); clear S226
  have S242 := Lib.hid (S227.out.stay H236.out); clear S227
  have S243 := Lib.hid (S228.out.stay H236.out); clear S228
  have S244 := Lib.hid (S229.out.stay H236.out); clear S229
  have S245 := Lib.hid (S230.out.stay H236.out); clear S230
  have S246 := Lib.hid (S231.out.stay H236.out); clear S231
  have S247 := Lib.hid (S232.out.stay H236.out); clear S232
  have K248 := Lib.hid (K235.out.trans H236.out (by simp))
  clear H236
  go_wp2_with fail
  refine (heldIntS_any _ hlen _ _ _ S242.out).mono ?_
  rintro e w' ⟨rfl, rfl⟩
  go_wp2_with fail
  go_ret
  exact ⟨rfl, K248.out⟩
end Go.Proofs.Ytjpnepjpkgffpab
