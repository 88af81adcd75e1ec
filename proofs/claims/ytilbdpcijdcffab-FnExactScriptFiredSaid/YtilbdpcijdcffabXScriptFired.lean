/-
  The walk of an exact law: ScriptFired of the program answers as its model does.
-/
import Derived.Test.YtilbdpcijdcffabE1
import Derived.Test.YtilbdpcijdcffabE2
import Derived.Test.YtilbdpcijdcffabSM
import Derived.Test.YtilbdpcijdcffabSP4
namespace Go.Proofs.Ytilbdpcijdcffab
open Go.RowKit

theorem sfiredOf_small (xs : List Int) (kinds : Int) (ys : List Int) (ls : List (Int × Int)) (steps : Int) : (Nt.sfiredOf xs kinds ys ls steps).length ≤ 6 := by
  cases h : Nt.playB xs kinds ys ls steps
  · rw [Nt.sfiredOf_no h]; simp
  · obtain ⟨ns, c, ks, sc, t, rfl, rfl, rfl, rfl, rfl, ok, st, hl, so, ht⟩ := Nt.playB_ok h
    rw [Nt.sfiredOf_ok ok st hl so ht, Nt.nats_length, Nt.firedSL_length]
    exact ok.few

set_option maxHeartbeats 4000000 in
set_option maxRecDepth 100000 in
theorem ExactScriptFired_calls (xs : List Int) (kinds : Int) (ys : List Int) (ls : List (Int × Int)) (steps : Int) (w : World) (vxs : Value) (vys : Value) (vls : Value) (haxs : Arg w vxs xs) (hays : Arg w vys ys) (hals : ArgL w vls ls) :
    Calls Try.prog 4 #[vxs, .int .i64 kinds, vys, vls, .int .i64 steps] w fun e w' => e = .returned (.bool true) ∧ Kept [] w w' := by
  have HAxs := Lib.hid haxs
  obtain ⟨axs, capxs, rfl, hmxs, _⟩ := haxs
  have HAys := Lib.hid hays
  obtain ⟨ays, capys, rfl, hmys, _⟩ := hays
  have HAls := Lib.hid hals
  obtain ⟨als, capls, rfl, hmls, _⟩ := hals
  by_cases hbigxs : 1048576 < xs.length
  · have hb : (1048576 : Int) < xs.length := by omega
    clear hbigxs
    go_enter Try.func4, Try.ntmps4
    go_wp2
    go_ret
    exact ⟨rfl, Kept.refl _ _⟩
  have hbxs : ¬ (1048576 : Int) < xs.length := by omega
  have h20xs : xs.length ≤ 1048576 := by omega
  clear hbigxs
  by_cases hbigys : 1048576 < ys.length
  · have hb : (1048576 : Int) < ys.length := by omega
    have hcxs : ¬ (1048576 : Int) < xs.length := by omega
    clear hbigys
    go_enter Try.func4, Try.ntmps4
    go_wp2
    go_ret
    exact ⟨rfl, Kept.refl _ _⟩
  have hbys : ¬ (1048576 : Int) < ys.length := by omega
  have h20ys : ys.length ≤ 1048576 := by omega
  clear hbigys
  by_cases hbigls : 1048576 < ls.length
  · have hb : (1048576 : Int) - ls.length < 0 := by omega
    have hcxs : ¬ (1048576 : Int) < xs.length := by omega
    have hcys : ¬ (1048576 : Int) < ys.length := by omega
    have HBIG := Lib.hid hbigls
    clear hbigls hb
    go_enter Try.func4, Try.ntmps4
    go_wp2_with (go_at_call 6; refine (szLightS_big ls.length HBIG.out hmls _ _ _).mono ?_; rintro e w' ⟨rfl, rfl⟩)
    go_ret
    exact ⟨rfl, Kept.refl _ _⟩
  have hzls : ¬ (1048576 : Int) - ls.length < 0 := by omega
  have hz2ls : decide ((1048576 : Int) - ls.length < 0) = false := dec_not hzls
  have h20ls : ls.length ≤ 1048576 := by omega
  clear hbigls hzls
  have hlen : (Nt.sfiredOf xs kinds ys ls steps).length ≤ 2000000 := by have := sfiredOf_small xs kinds ys ls steps; omega
  go_enter Try.func4, Try.ntmps4
  go_wp2_with fail
  refine (szLightS_ok ls.length h20ls _ _ _).mono ?_
  rintro e w' ⟨rfl, rfl⟩
  go_wp2_with fail
  refine (toIntS_any xs h20xs _ _ HAxs.out).mono ?_
  rintro e w1 ⟨u1, rfl, hs, hk⟩
  have H1 := Lib.hid hk; clear hk
  have S2 := Lib.hid hs; clear hs
  have B3 := Lib.hid (fun g (hg : u1.ownBlock = some g) => (S2.out.block hg).1)
  have A4 := Lib.hid (fun g (hg : u1.ownBlock = some g) => Nat.le_trans (Nat.le_refl _) (B3.out g hg))
  have K5 := Lib.hid H1.out
  clear H1
  go_wp2_with fail
  have L6 := Lib.hid (fun g (hg : u1.ownBlock = some g) => (S2.out.block hg).2)
  refine (toIntS_any ys h20ys _ _ (HAys.out.stay K5.out)).mono ?_
  rintro e w2 ⟨u2, rfl, hs, hk⟩
  have H7 := Lib.hid hk; clear hk
  have S8 := Lib.hid (S2.out.stay H7.out); clear S2
  have S9 := Lib.hid hs; clear hs
  have B10 := Lib.hid (fun g (hg : u2.ownBlock = some g) => (S9.out.block hg).1)
  have A11 := Lib.hid (fun g (hg : u2.ownBlock = some g) => Nat.le_trans (K5.out.size) (B10.out g hg))
  have K12 := Lib.hid (K5.out.trans H7.out (by simp))
  clear H7
  go_wp2_with fail
  have L13 := Lib.hid (fun g (hg : u1.ownBlock = some g) => (S8.out.block hg).2)
  have L14 := Lib.hid (fun g (hg : u2.ownBlock = some g) => (S9.out.block hg).2)
  refine (toLightS_any ls h20ls _ _ (HAls.out.stay K12.out)).mono ?_
  rintro e w3 ⟨u3, rfl, hs, hk⟩
  have H15 := Lib.hid hk; clear hk
  have S16 := Lib.hid (S8.out.stay H15.out); clear S8
  have S17 := Lib.hid (S9.out.stay H15.out); clear S9
  have S18 := Lib.hid hs; clear hs
  have B19 := Lib.hid (fun g (hg : u3.ownBlock = some g) => (S18.out.block hg).1)
  have A20 := Lib.hid (fun g (hg : u3.ownBlock = some g) => Nat.le_trans (K12.out.size) (B19.out g hg))
  have K21 := Lib.hid (K12.out.trans H15.out (by simp))
  clear H15
  go_wp2_with fail
  have L22 := Lib.hid (fun g (hg : u1.ownBlock = some g) => (S16.out.block hg).2)
  have L23 := Lib.hid (fun g (hg : u2.ownBlock = some g) => (S17.out.block hg).2)
  have L24 := Lib.hid (fun g (hg : u3.ownBlock = some g) => (S18.out.block hg).2)
  refine (sScriptFired_any xs kinds ys ls steps _ _ _ _ _ _ _ S16.out S17.out S18.out).mono ?_
  rintro e w4 ⟨u4, rfl, hs, hk⟩
  have H25 := Lib.hid hk; clear hk
  have S26 := Lib.hid (S16.out.stay H25.out); clear S16
  have S27 := Lib.hid (S17.out.stay H25.out); clear S17
  have S28 := Lib.hid (S18.out.stay H25.out); clear S18
  have S29 := Lib.hid hs; clear hs
  have B30 := Lib.hid (fun g (hg : u4.ownBlock = some g) => (S29.out.block hg).1)
  have A31 := Lib.hid (fun g (hg : u4.ownBlock = some g) => Nat.le_trans (K21.out.size) (B30.out g hg))
  have K32 := Lib.hid (K21.out.trans H25.out (by simp))
  clear H25
  go_wp2_with fail
  have L33 := Lib.hid (fun g (hg : u1.ownBlock = some g) => (S26.out.block hg).2)
  have L34 := Lib.hid (fun g (hg : u2.ownBlock = some g) => (S27.out.block hg).2)
  have L35 := Lib.hid (fun g (hg : u3.ownBlock = some g) => (S28.out.block hg).2)
  have L36 := Lib.hid (fun g (hg : u4.ownBlock = some g) => (S29.out.block hg).2)
  refine (toIntS_any xs h20xs _ _ (HAxs.out.stay K32.out)).mono ?_
  rintro e w5 ⟨u5, rfl, hs, hk⟩
  have H37 := Lib.hid hk; clear hk
  have S38 := Lib.hid (S26.out.stay H37.out); clear S26
  have S39 := Lib.hid (S27.out.stay H37.out); clear S27
  have S40 := Lib.hid (S28.out.stay H37.out); clear S28
  have S41 := Lib.hid (S29.out.stay H37.out); clear S29
  have S42 := Lib.hid hs; clear hs
  have B43 := Lib.hid (fun g (hg : u5.ownBlock = some g) => (S42.out.block hg).1)
  have A44 := Lib.hid (fun g (hg : u5.ownBlock = some g) => Nat.le_trans (K32.out.size) (B43.out g hg))
  have K45 := Lib.hid (K32.out.trans H37.out (by simp))
  clear H37
  go_wp2_with fail
  have L46 := Lib.hid (fun g (hg : u1.ownBlock = some g) => (S38.out.block hg).2)
  have L47 := Lib.hid (fun g (hg : u2.ownBlock = some g) => (S39.out.block hg).2)
  have L48 := Lib.hid (fun g (hg : u3.ownBlock = some g) => (S40.out.block hg).2)
  have L49 := Lib.hid (fun g (hg : u4.ownBlock = some g) => (S41.out.block hg).2)
  have L50 := Lib.hid (fun g (hg : u5.ownBlock = some g) => (S42.out.block hg).2)
  refine (toIntS_any ys h20ys _ _ (HAys.out.stay K45.out)).mono ?_
  rintro e w6 ⟨u6, rfl, hs, hk⟩
  have H51 := Lib.hid hk; clear hk
  have S52 := Lib.hid (S38.out.stay H51.out); clear S38
  have S53 := Lib.hid (S39.out.stay H51.out); clear S39
  have S54 := Lib.hid (S40.out.stay H51.out); clear S40
  have S55 := Lib.hid (S41.out.stay H51.out); clear S41
  have S56 := Lib.hid (S42.out.stay H51.out); clear S42
  have S57 := Lib.hid hs; clear hs
  have B58 := Lib.hid (fun g (hg : u6.ownBlock = some g) => (S57.out.block hg).1)
  have A59 := Lib.hid (fun g (hg : u6.ownBlock = some g) => Nat.le_trans (K45.out.size) (B58.out g hg))
  have K60 := Lib.hid (K45.out.trans H51.out (by simp))
  clear H51
  go_wp2_with fail
  have L61 := Lib.hid (fun g (hg : u1.ownBlock = some g) => (S52.out.block hg).2)
  have L62 := Lib.hid (fun g (hg : u2.ownBlock = some g) => (S53.out.block hg).2)
  have L63 := Lib.hid (fun g (hg : u3.ownBlock = some g) => (S54.out.block hg).2)
  have L64 := Lib.hid (fun g (hg : u4.ownBlock = some g) => (S55.out.block hg).2)
  have L65 := Lib.hid (fun g (hg : u5.ownBlock = some g) => (S56.out.block hg).2)
  have L66 := Lib.hid (fun g (hg : u6.ownBlock = some g) => (S57.out.block hg).2)
  refine (toLightS_any ls h20ls _ _ (HAls.out.stay K60.out)).mono ?_
  rintro e w7 ⟨u7, rfl, hs, hk⟩
  have H67 := Lib.hid hk; clear hk
  have S68 := Lib.hid (S52.out.stay H67.out); clear S52
  have S69 := Lib.hid (S53.out.stay H67.out); clear S53
  have S70 := Lib.hid (S54.out.stay H67.out); clear S54
  have S71 := Lib.hid (S55.out.stay H67.out); clear S55
  have S72 := Lib.hid (S56.out.stay H67.out); clear S56
  have S73 := Lib.hid (S57.out.stay H67.out); clear S57
  have S74 := Lib.hid hs; clear hs
  have B75 := Lib.hid (fun g (hg : u7.ownBlock = some g) => (S74.out.block hg).1)
  have A76 := Lib.hid (fun g (hg : u7.ownBlock = some g) => Nat.le_trans (K60.out.size) (B75.out g hg))
  have K77 := Lib.hid (K60.out.trans H67.out (by simp))
  clear H67
  go_wp2_with fail
  have L78 := Lib.hid (fun g (hg : u1.ownBlock = some g) => (S68.out.block hg).2)
  have L79 := Lib.hid (fun g (hg : u2.ownBlock = some g) => (S69.out.block hg).2)
  have L80 := Lib.hid (fun g (hg : u3.ownBlock = some g) => (S70.out.block hg).2)
  have L81 := Lib.hid (fun g (hg : u4.ownBlock = some g) => (S71.out.block hg).2)
  have L82 := Lib.hid (fun g (hg : u5.ownBlock = some g) => (S72.out.block hg).2)
  have L83 := Lib.hid (fun g (hg : u6.ownBlock = some g) => (S73.out.block hg).2)
  have L84 := Lib.hid (fun g (hg : u7.ownBlock = some g) => (S74.out.block hg).2)
  refine (iScriptFired_any xs kinds ys ls steps _ _ _ _ _ _ _ S72.out S73.out S74.out).mono ?_
  rintro e w8 ⟨u8, rfl, hs, hk⟩
  have H85 := Lib.hid hk; clear hk
  have S86 := Lib.hid (S68.out.stay H85.out); clear S68
  have S87 := Lib.hid (S69.out.stay H85.out); clear S69
  have S88 := Lib.hid (S70.out.stay H85.out); clear S70
  have S89 := Lib.hid (S71.out.stay H85.out); clear S71
  have S90 := Lib.hid (S72.out.stay H85.out); clear S72
  have S91 := Lib.hid (S73.out.stay H85.out); clear S73
  have S92 := Lib.hid (S74.out.stay H85.out); clear S74
  have S93 := Lib.hid hs; clear hs
  have B94 := Lib.hid (fun g (hg : u8.ownBlock = some g) => (S93.out.block hg).1)
  have A95 := Lib.hid (fun g (hg : u8.ownBlock = some g) => Nat.le_trans (K77.out.size) (B94.out g hg))
  have K96 := Lib.hid (K77.out.trans H85.out (by simp))
  clear H85
  go_wp2_with fail
  refine (eqIntS_any _ _ _ _ _ _ _ S93.out S89.out).mono ?_
  rintro e w9 ⟨rfl, hq⟩
  have H97 := Lib.hid hq.kept; clear hq
  have S98 := Lib.hid (S86.out.stay H97.out); clear S86
  have S99 := Lib.hid (S87.out.stay H97.out); clear S87
  have S100 := Lib.hid (S88.out.stay H97.out); clear S88
  have S101 := Lib.hid (S89.out.stay H97.out); clear S89
  have S102 := Lib.hid (S90.out.stay H97.out); clear S90
  have S103 := Lib.hid (S91.out.stay H97.out); clear S91
  have S104 := Lib.hid (S92.out.stay H97.out); clear S92
  have S105 := Lib.hid (S93.out.stay H97.out); clear S93
  have K106 := Lib.hid (K96.out.trans H97.out (by simp))
  clear H97
  go_wp2_with fail
  have L107 := Lib.hid (fun g (hg : u1.ownBlock = some g) => (S98.out.block hg).2)
  have L108 := Lib.hid (fun g (hg : u2.ownBlock = some g) => (S99.out.block hg).2)
  have L109 := Lib.hid (fun g (hg : u3.ownBlock = some g) => (S100.out.block hg).2)
  have L110 := Lib.hid (fun g (hg : u4.ownBlock = some g) => (S101.out.block hg).2)
  have L111 := Lib.hid (fun g (hg : u5.ownBlock = some g) => (S102.out.block hg).2)
  have L112 := Lib.hid (fun g (hg : u6.ownBlock = some g) => (S103.out.block hg).2)
  have L113 := Lib.hid (fun g (hg : u7.ownBlock = some g) => (S104.out.block hg).2)
  have L114 := Lib.hid (fun g (hg : u8.ownBlock = some g) => (S105.out.block hg).2)
  refine (toIntS_any xs h20xs _ _ (HAxs.out.stay K106.out)).mono ?_
  rintro e w10 ⟨u10, rfl, hs, hk⟩
  have H115 := Lib.hid hk; clear hk
  have S116 := Lib.hid (S98.out.stay H115.out); clear S98
  have S117 := Lib.hid (S99.out.stay H115.out); clear S99
  have S118 := Lib.hid (S100.out.stay H115.out); clear S100
  have S119 := Lib.hid (S101.out.stay H115.out); clear S101
  have S120 := Lib.hid (S102.out.stay H115.out); clear S102
  have S121 := Lib.hid (S103.out.stay H115.out); clear S103
  have S122 := Lib.hid (S104.out.stay H115.out); clear S104
  have S123 := Lib.hid (S105.out.stay H115.out); clear S105
  have S124 := Lib.hid hs; clear hs
  have B125 := Lib.hid (fun g (hg : u10.ownBlock = some g) => (S124.out.block hg).1)
  have A126 := Lib.hid (fun g (hg : u10.ownBlock = some g) => Nat.le_trans (K106.out.size) (B125.out g hg))
  have K127 := Lib.hid (K106.out.trans H115.out (by simp))
  clear H115
  go_wp2_with fail
  refine (eqIntS_any _ _ _ _ _ _ _ S120.out S124.out).mono ?_
  rintro e w11 ⟨rfl, hq⟩
  have H128 := Lib.hid hq.kept; clear hq
  have S129 := Lib.hid (S116.out.stay H128.out); clear S116
  have S130 := Lib.hid (S117.out.stay H128.out); clear S117
  have S131 := Lib.hid (S118.out.stay H128.out); clear S118
  have S132 := Lib.hid (S119.out.stay H128.out); clear S119
  have S133 := Lib.hid (S120.out.stay H128.out); clear S120
  have S134 := Lib.hid (S121.out.stay H128.out); clear S121
  have S135 := Lib.hid (S122.out.stay H128.out); clear S122
  have S136 := Lib.hid (S123.out.stay H128.out); clear S123
  have S137 := Lib.hid (S124.out.stay H128.out); clear S124
  have K138 := Lib.hid (K127.out.trans H128.out (by simp))
  clear H128
  go_wp2_with fail
  have L139 := Lib.hid (fun g (hg : u1.ownBlock = some g) => (S129.out.block hg).2)
  have L140 := Lib.hid (fun g (hg : u2.ownBlock = some g) => (S130.out.block hg).2)
  have L141 := Lib.hid (fun g (hg : u3.ownBlock = some g) => (S131.out.block hg).2)
  have L142 := Lib.hid (fun g (hg : u4.ownBlock = some g) => (S132.out.block hg).2)
  have L143 := Lib.hid (fun g (hg : u5.ownBlock = some g) => (S133.out.block hg).2)
  have L144 := Lib.hid (fun g (hg : u6.ownBlock = some g) => (S134.out.block hg).2)
  have L145 := Lib.hid (fun g (hg : u7.ownBlock = some g) => (S135.out.block hg).2)
  have L146 := Lib.hid (fun g (hg : u8.ownBlock = some g) => (S136.out.block hg).2)
  have L147 := Lib.hid (fun g (hg : u10.ownBlock = some g) => (S137.out.block hg).2)
  refine (toIntS_any ys h20ys _ _ (HAys.out.stay K138.out)).mono ?_
  rintro e w12 ⟨u12, rfl, hs, hk⟩
  have H148 := Lib.hid hk; clear hk
  have S149 := Lib.hid (S129.out.stay H148.out); clear S129
  have S150 := Lib.hid (S130.out.stay H148.out); clear S130
  have S151 := Lib.hid (S131.out.stay H148.out); clear S131
  have S152 := Lib.hid (S132.out.stay H148.out); clear S132
  have S153 := Lib.hid (S133.out.stay H148.out); clear S133
  have S154 := Lib.hid (S134.out.stay H148.out); clear S134
  have S155 := Lib.hid (S135.out.stay H148.out); clear S135
  have S156 := Lib.hid (S136.out.stay H148.out); clear S136
  have S157 := Lib.hid (S137.out.stay H148.out); clear S137
  have S158 := Lib.hid hs; clear hs
  have B159 := Lib.hid (fun g (hg : u12.ownBlock = some g) => (S158.out.block hg).1)
  have A160 := Lib.hid (fun g (hg : u12.ownBlock = some g) => Nat.le_trans (K138.out.size) (B159.out g hg))
  have K161 := Lib.hid (K138.out.trans H148.out (by simp))
  clear H148
  go_wp2_with fail
  refine (eqIntS_any _ _ _ _ _ _ _ S154.out S158.out).mono ?_
  rintro e w13 ⟨rfl, hq⟩
  have H162 := Lib.hid hq.kept; clear hq
  have S163 := Lib.hid (S149.out.stay H162.out); clear S149
  have S164 := Lib.hid (S150.out.stay H162.out); clear S150
  have S165 := Lib.hid (S151.out.stay H162.out); clear S151
  have S166 := Lib.hid (S152.out.stay H162.out); clear S152
  have S167 := Lib.hid (S153.out.stay H162.out); clear S153
  have S168 := Lib.hid (S154.out.stay H162.out); clear S154
  have S169 := Lib.hid (S155.out.stay H162.out); clear S155
  have S170 := Lib.hid (S156.out.stay H162.out); clear S156
  have S171 := Lib.hid (S157.out.stay H162.out); clear S157
  have S172 := Lib.hid (S158.out.stay H162.out); clear S158
  have K173 := Lib.hid (K161.out.trans H162.out (by simp))
  clear H162
  go_wp2_with fail
  have L174 := Lib.hid (fun g (hg : u1.ownBlock = some g) => (S163.out.block hg).2)
  have L175 := Lib.hid (fun g (hg : u2.ownBlock = some g) => (S164.out.block hg).2)
  have L176 := Lib.hid (fun g (hg : u3.ownBlock = some g) => (S165.out.block hg).2)
  have L177 := Lib.hid (fun g (hg : u4.ownBlock = some g) => (S166.out.block hg).2)
  have L178 := Lib.hid (fun g (hg : u5.ownBlock = some g) => (S167.out.block hg).2)
  have L179 := Lib.hid (fun g (hg : u6.ownBlock = some g) => (S168.out.block hg).2)
  have L180 := Lib.hid (fun g (hg : u7.ownBlock = some g) => (S169.out.block hg).2)
  have L181 := Lib.hid (fun g (hg : u8.ownBlock = some g) => (S170.out.block hg).2)
  have L182 := Lib.hid (fun g (hg : u10.ownBlock = some g) => (S171.out.block hg).2)
  have L183 := Lib.hid (fun g (hg : u12.ownBlock = some g) => (S172.out.block hg).2)
  refine (toLightS_any ls h20ls _ _ (HAls.out.stay K173.out)).mono ?_
  rintro e w14 ⟨u14, rfl, hs, hk⟩
  have H184 := Lib.hid hk; clear hk
  have S185 := Lib.hid (S163.out.stay H184.out); clear S163
  have S186 := Lib.hid (S164.out.stay H184.out); clear S164
  have S187 := Lib.hid (S165.out.stay H184.out); clear S165
  have S188 := Lib.hid (S166.out.stay H184.out); clear S166
  have S189 := Lib.hid (S167.out.stay H184.out); clear S167
  have S190 := Lib.hid (S168.out.stay H184.out); clear S168
  have S191 := Lib.hid (S169.out.stay H184.out); clear S169
  have S192 := Lib.hid (S170.out.stay H184.out); clear S170
  have S193 := Lib.hid (S171.out.stay H184.out); clear S171
  have S194 := Lib.hid (S172.out.stay H184.out); clear S172
  have S195 := Lib.hid hs; clear hs
  have B196 := Lib.hid (fun g (hg : u14.ownBlock = some g) => (S195.out.block hg).1)
  have A197 := Lib.hid (fun g (hg : u14.ownBlock = some g) => Nat.le_trans (K173.out.size) (B196.out g hg))
  have K198 := Lib.hid (K173.out.trans H184.out (by simp))
  clear H184
  go_wp2_with fail
  refine (eqLightS_any _ _ _ _ _ _ _ S191.out S195.out).mono ?_
  rintro e w15 ⟨rfl, hk⟩
  have H199 := Lib.hid hk; clear hk
  have S200 := Lib.hid (S185.out.stay H199.out); clear S185
  have S201 := Lib.hid (S186.out.stay H199.out); clear S186
  have S202 := Lib.hid (S187.out.stay H199.out); clear S187
  have S203 := Lib.hid (S188.out.stay H199.out); clear S188
  have S204 := Lib.hid (S189.out.stay H199.out); clear S189
  have S205 := Lib.hid (S190.out.stay H199.out); clear S190
  have S206 := Lib.hid (S191.out.stay H199.out); clear S191
  have S207 := Lib.hid (S192.out.stay H199.out); clear S192
  have S208 := Lib.hid (S193.out.stay H199.out); clear S193
  have S209 := Lib.hid (S194.out.stay H199.out); clear S194
  have S210 := Lib.hid (S195.out.stay H199.out); clear S195
  have K211 := Lib.hid (K198.out.trans H199.out (by simp))
  clear H199
  go_wp2_with fail
  refine (markIntS_any (1) (by omega) (by omega) _ (by omega) _ _ _ S204.out).mono ?_
  rintro e w16 ⟨rfl, hs, hk⟩
  have H212 := Lib.hid hk; clear hk
  have S213 := Lib.hid (S200.out.kept H212.out (apart L33.out B43.out)); clear S200
  have S214 := Lib.hid (S201.out.kept H212.out (apart L34.out B43.out)); clear S201
  have S215 := Lib.hid (S202.out.kept H212.out (apart L35.out B43.out)); clear S202
  have S216 := Lib.hid (S203.out.kept H212.out (apart L36.out B43.out)); clear S203
  have S218 := Lib.hid (S205.out.kept H212.out (apart' L50.out B58.out)); clear S205
  have S219 := Lib.hid (S206.out.kept H212.out (apart' L65.out B75.out)); clear S206
  have S220 := Lib.hid (S207.out.kept H212.out (apart' L82.out B94.out)); clear S207
  have S221 := Lib.hid (S208.out.kept H212.out (apart' L111.out B125.out)); clear S208
  have S222 := Lib.hid (S209.out.kept H212.out (apart' L143.out B159.out)); clear S209
  have S223 := Lib.hid (S210.out.kept H212.out (apart' L178.out B196.out)); clear S210
  have S224 := Lib.hid hs; clear hs S204
  have K225 := Lib.hid (K211.out.own H212.out A44.out)
  clear H212
  go_wp2_with fail
  refine (markIntS_any (1 + (xs.length : Nat)) (by omega) (by omega) _ (by omega) _ _ _ S218.out).mono ?_
  rintro e w17 ⟨rfl, hs, hk⟩
  have H226 := Lib.hid hk; clear hk
  have S227 := Lib.hid (S213.out.kept H226.out (apart L46.out B58.out)); clear S213
  have S228 := Lib.hid (S214.out.kept H226.out (apart L47.out B58.out)); clear S214
  have S229 := Lib.hid (S215.out.kept H226.out (apart L48.out B58.out)); clear S215
  have S230 := Lib.hid (S216.out.kept H226.out (apart L49.out B58.out)); clear S216
  have S231 := Lib.hid (S224.out.kept H226.out (apart L50.out B58.out)); clear S224
  have S233 := Lib.hid (S219.out.kept H226.out (apart' L66.out B75.out)); clear S219
  have S234 := Lib.hid (S220.out.kept H226.out (apart' L83.out B94.out)); clear S220
  have S235 := Lib.hid (S221.out.kept H226.out (apart' L112.out B125.out)); clear S221
  have S236 := Lib.hid (S222.out.kept H226.out (apart' L144.out B159.out)); clear S222
  have S237 := Lib.hid (S223.out.kept H226.out (apart' L179.out B196.out)); clear S223
  have S238 := Lib.hid hs; clear hs S218
  have K239 := Lib.hid (K225.out.own H226.out A59.out)
  clear H226
  go_wp2_with fail
  refine (markLightS_any (1 + (xs.length : Nat) + (ys.length : Nat)) (by omega) (by omega) _ (by omega) _ _ _ S233.out).mono ?_
  rintro e w18 ⟨rfl, hs, hk⟩
  have H240 := Lib.hid hk; clear hk
  have S241 := Lib.hid (S227.out.kept H240.out (apart L61.out B75.out)); clear S227
  have S242 := Lib.hid (S228.out.kept H240.out (apart L62.out B75.out)); clear S228
  have S243 := Lib.hid (S229.out.kept H240.out (apart L63.out B75.out)); clear S229
  have S244 := Lib.hid (S230.out.kept H240.out (apart L64.out B75.out)); clear S230
  have S245 := Lib.hid (S231.out.kept H240.out (apart L65.out B75.out)); clear S231
  have S246 := Lib.hid (S238.out.kept H240.out (apart L66.out B75.out)); clear S238
  have S248 := Lib.hid (S234.out.kept H240.out (apart' L84.out B94.out)); clear S234
  have S249 := Lib.hid (S235.out.kept H240.out (apart' L113.out B125.out)); clear S235
  have S250 := Lib.hid (S236.out.kept H240.out (apart' L145.out B159.out)); clear S236
  have S251 := Lib.hid (S237.out.kept H240.out (apart' L180.out B196.out)); clear S237
  have S252 := Lib.hid hs; clear hs S233
  have K253 := Lib.hid (K239.out.own H240.out A76.out)
  clear H240
  go_wp2_with fail
  refine (eqIntS_any _ _ _ _ _ _ _ S248.out S244.out).mono ?_
  rintro e w19 ⟨rfl, hq⟩
  have H254 := Lib.hid hq.kept; clear hq
  have S255 := Lib.hid (S241.out.stay H254.out); clear S241
  have S256 := Lib.hid (S242.out.stay H254.out); clear S242
  have S257 := Lib.hid (S243.out.stay H254.out); clear S243
  have S258 := Lib.hid (S244.out.stay H254.out); clear S244
  have S259 := Lib.hid (S245.out.stay H254.out); clear S245
  have S260 := Lib.hid (S246.out.stay H254.out); clear S246
  have S261 := Lib.hid (S252.out.stay H254.out); clear S252
  have S262 := Lib.hid (S248.out.stay H254.out); clear S248
  have S263 := Lib.hid (S249.out.stay H254.out); clear S249
  have S264 := Lib.hid (S250.out.stay H254.out); clear S250
  have S265 := Lib.hid (S251.out.stay H254.out); clear S251
  have K266 := Lib.hid (K253.out.trans H254.out (by simp))
  clear H254
  go_wp2_with fail
  refine (markIntS_any 1 (by omega) (by omega) _ hlen _ _ _ S262.out).mono ?_
  rintro e w20 ⟨rfl, hs, hk⟩
  have H267 := Lib.hid hk; clear hk
  have S268 := Lib.hid (S255.out.kept H267.out (apart L78.out B94.out)); clear S255
  have S269 := Lib.hid (S256.out.kept H267.out (apart L79.out B94.out)); clear S256
  have S270 := Lib.hid (S257.out.kept H267.out (apart L80.out B94.out)); clear S257
  have S271 := Lib.hid (S258.out.kept H267.out (apart L81.out B94.out)); clear S258
  have S272 := Lib.hid (S259.out.kept H267.out (apart L82.out B94.out)); clear S259
  have S273 := Lib.hid (S260.out.kept H267.out (apart L83.out B94.out)); clear S260
  have S274 := Lib.hid (S261.out.kept H267.out (apart L84.out B94.out)); clear S261
  have S276 := Lib.hid (S263.out.kept H267.out (apart' L114.out B125.out)); clear S263
  have S277 := Lib.hid (S264.out.kept H267.out (apart' L146.out B159.out)); clear S264
  have S278 := Lib.hid (S265.out.kept H267.out (apart' L181.out B196.out)); clear S265
  have S279 := Lib.hid hs; clear hs S262
  have K280 := Lib.hid (K266.out.own H267.out A95.out)
  clear H267
  go_wp2_with fail
  refine (heldIntS_any _ hlen _ _ _ S279.out).mono ?_
  rintro e w' ⟨rfl, rfl⟩
  go_wp2_with fail
  have L281 := Lib.hid (fun g (hg : u1.ownBlock = some g) => (S268.out.block hg).2)
  have L282 := Lib.hid (fun g (hg : u2.ownBlock = some g) => (S269.out.block hg).2)
  have L283 := Lib.hid (fun g (hg : u3.ownBlock = some g) => (S270.out.block hg).2)
  have L284 := Lib.hid (fun g (hg : u4.ownBlock = some g) => (S271.out.block hg).2)
  have L285 := Lib.hid (fun g (hg : u5.ownBlock = some g) => (S272.out.block hg).2)
  have L286 := Lib.hid (fun g (hg : u6.ownBlock = some g) => (S273.out.block hg).2)
  have L287 := Lib.hid (fun g (hg : u7.ownBlock = some g) => (S274.out.block hg).2)
  have L288 := Lib.hid (fun g (hg : u8.ownBlock = some g) => (S279.out.block hg).2)
  have L289 := Lib.hid (fun g (hg : u10.ownBlock = some g) => (S276.out.block hg).2)
  have L290 := Lib.hid (fun g (hg : u12.ownBlock = some g) => (S277.out.block hg).2)
  have L291 := Lib.hid (fun g (hg : u14.ownBlock = some g) => (S278.out.block hg).2)
  refine (toIntS_any xs h20xs _ _ (HAxs.out.stay K280.out)).mono ?_
  rintro e w21 ⟨u21, rfl, hs, hk⟩
  have H292 := Lib.hid hk; clear hk
  have S293 := Lib.hid (S268.out.stay H292.out); clear S268
  have S294 := Lib.hid (S269.out.stay H292.out); clear S269
  have S295 := Lib.hid (S270.out.stay H292.out); clear S270
  have S296 := Lib.hid (S271.out.stay H292.out); clear S271
  have S297 := Lib.hid (S272.out.stay H292.out); clear S272
  have S298 := Lib.hid (S273.out.stay H292.out); clear S273
  have S299 := Lib.hid (S274.out.stay H292.out); clear S274
  have S300 := Lib.hid (S279.out.stay H292.out); clear S279
  have S301 := Lib.hid (S276.out.stay H292.out); clear S276
  have S302 := Lib.hid (S277.out.stay H292.out); clear S277
  have S303 := Lib.hid (S278.out.stay H292.out); clear S278
  have S304 := Lib.hid hs; clear hs
  have B305 := Lib.hid (fun g (hg : u21.ownBlock = some g) => (S304.out.block hg).1)
  have A306 := Lib.hid (fun g (hg : u21.ownBlock = some g) => Nat.le_trans (K280.out.size) (B305.out g hg))
  have K307 := Lib.hid (K280.out.trans H292.out (by simp))
  clear H292
  go_wp2_with fail
  have L308 := Lib.hid (fun g (hg : u1.ownBlock = some g) => (S293.out.block hg).2)
  have L309 := Lib.hid (fun g (hg : u2.ownBlock = some g) => (S294.out.block hg).2)
  have L310 := Lib.hid (fun g (hg : u3.ownBlock = some g) => (S295.out.block hg).2)
  have L311 := Lib.hid (fun g (hg : u4.ownBlock = some g) => (S296.out.block hg).2)
  have L312 := Lib.hid (fun g (hg : u5.ownBlock = some g) => (S297.out.block hg).2)
  have L313 := Lib.hid (fun g (hg : u6.ownBlock = some g) => (S298.out.block hg).2)
  have L314 := Lib.hid (fun g (hg : u7.ownBlock = some g) => (S299.out.block hg).2)
  have L315 := Lib.hid (fun g (hg : u8.ownBlock = some g) => (S300.out.block hg).2)
  have L316 := Lib.hid (fun g (hg : u10.ownBlock = some g) => (S301.out.block hg).2)
  have L317 := Lib.hid (fun g (hg : u12.ownBlock = some g) => (S302.out.block hg).2)
  have L318 := Lib.hid (fun g (hg : u14.ownBlock = some g) => (S303.out.block hg).2)
  have L319 := Lib.hid (fun g (hg : u21.ownBlock = some g) => (S304.out.block hg).2)
  refine (toIntS_any ys h20ys _ _ (HAys.out.stay K307.out)).mono ?_
  rintro e w22 ⟨u22, rfl, hs, hk⟩
  have H320 := Lib.hid hk; clear hk
  have S321 := Lib.hid (S293.out.stay H320.out); clear S293
  have S322 := Lib.hid (S294.out.stay H320.out); clear S294
  have S323 := Lib.hid (S295.out.stay H320.out); clear S295
  have S324 := Lib.hid (S296.out.stay H320.out); clear S296
  have S325 := Lib.hid (S297.out.stay H320.out); clear S297
  have S326 := Lib.hid (S298.out.stay H320.out); clear S298
  have S327 := Lib.hid (S299.out.stay H320.out); clear S299
  have S328 := Lib.hid (S300.out.stay H320.out); clear S300
  have S329 := Lib.hid (S301.out.stay H320.out); clear S301
  have S330 := Lib.hid (S302.out.stay H320.out); clear S302
  have S331 := Lib.hid (S303.out.stay H320.out); clear S303
  have S332 := Lib.hid (S304.out.stay H320.out); clear S304
  have S333 := Lib.hid hs; clear hs
  have B334 := Lib.hid (fun g (hg : u22.ownBlock = some g) => (S333.out.block hg).1)
  have A335 := Lib.hid (fun g (hg : u22.ownBlock = some g) => Nat.le_trans (K307.out.size) (B334.out g hg))
  have K336 := Lib.hid (K307.out.trans H320.out (by simp))
  clear H320
  go_wp2_with fail
  have L337 := Lib.hid (fun g (hg : u1.ownBlock = some g) => (S321.out.block hg).2)
  have L338 := Lib.hid (fun g (hg : u2.ownBlock = some g) => (S322.out.block hg).2)
  have L339 := Lib.hid (fun g (hg : u3.ownBlock = some g) => (S323.out.block hg).2)
  have L340 := Lib.hid (fun g (hg : u4.ownBlock = some g) => (S324.out.block hg).2)
  have L341 := Lib.hid (fun g (hg : u5.ownBlock = some g) => (S325.out.block hg).2)
  have L342 := Lib.hid (fun g (hg : u6.ownBlock = some g) => (S326.out.block hg).2)
  have L343 := Lib.hid (fun g (hg : u7.ownBlock = some g) => (S327.out.block hg).2)
  have L344 := Lib.hid (fun g (hg : u8.ownBlock = some g) => (S328.out.block hg).2)
  have L345 := Lib.hid (fun g (hg : u10.ownBlock = some g) => (S329.out.block hg).2)
  have L346 := Lib.hid (fun g (hg : u12.ownBlock = some g) => (S330.out.block hg).2)
  have L347 := Lib.hid (fun g (hg : u14.ownBlock = some g) => (S331.out.block hg).2)
  have L348 := Lib.hid (fun g (hg : u21.ownBlock = some g) => (S332.out.block hg).2)
  have L349 := Lib.hid (fun g (hg : u22.ownBlock = some g) => (S333.out.block hg).2)
  refine (toLightS_any ls h20ls _ _ (HAls.out.stay K336.out)).mono ?_
  rintro e w23 ⟨u23, rfl, hs, hk⟩
  have H350 := Lib.hid hk; clear hk
  have S351 := Lib.hid (S321.out.stay H350.out); clear S321
  have S352 := Lib.hid (S322.out.stay H350.out); clear S322
  have S353 := Lib.hid (S323.out.stay H350.out); clear S323
  have S354 := Lib.hid (S324.out.stay H350.out); clear S324
  have S355 := Lib.hid (S325.out.stay H350.out); clear S325
  have S356 := Lib.hid (S326.out.stay H350.out); clear S326
  have S357 := Lib.hid (S327.out.stay H350.out); clear S327
  have S358 := Lib.hid (S328.out.stay H350.out); clear S328
  have S359 := Lib.hid (S329.out.stay H350.out); clear S329
  have S360 := Lib.hid (S330.out.stay H350.out); clear S330
  have S361 := Lib.hid (S331.out.stay H350.out); clear S331
  have S362 := Lib.hid (S332.out.stay H350.out); clear S332
  have S363 := Lib.hid (S333.out.stay H350.out); clear S333
  have S364 := Lib.hid hs; clear hs
  have B365 := Lib.hid (fun g (hg : u23.ownBlock = some g) => (S364.out.block hg).1)
  have A366 := Lib.hid (fun g (hg : u23.ownBlock = some g) => Nat.le_trans (K336.out.size) (B365.out g hg))
  have K367 := Lib.hid (K336.out.trans H350.out (by simp))
  clear H350
  go_wp2_with fail
  have L368 := Lib.hid (fun g (hg : u1.ownBlock = some g) => (S351.out.block hg).2)
  have L369 := Lib.hid (fun g (hg : u2.ownBlock = some g) => (S352.out.block hg).2)
  have L370 := Lib.hid (fun g (hg : u3.ownBlock = some g) => (S353.out.block hg).2)
  have L371 := Lib.hid (fun g (hg : u4.ownBlock = some g) => (S354.out.block hg).2)
  have L372 := Lib.hid (fun g (hg : u5.ownBlock = some g) => (S355.out.block hg).2)
  have L373 := Lib.hid (fun g (hg : u6.ownBlock = some g) => (S356.out.block hg).2)
  have L374 := Lib.hid (fun g (hg : u7.ownBlock = some g) => (S357.out.block hg).2)
  have L375 := Lib.hid (fun g (hg : u8.ownBlock = some g) => (S358.out.block hg).2)
  have L376 := Lib.hid (fun g (hg : u10.ownBlock = some g) => (S359.out.block hg).2)
  have L377 := Lib.hid (fun g (hg : u12.ownBlock = some g) => (S360.out.block hg).2)
  have L378 := Lib.hid (fun g (hg : u14.ownBlock = some g) => (S361.out.block hg).2)
  have L379 := Lib.hid (fun g (hg : u21.ownBlock = some g) => (S362.out.block hg).2)
  have L380 := Lib.hid (fun g (hg : u22.ownBlock = some g) => (S363.out.block hg).2)
  have L381 := Lib.hid (fun g (hg : u23.ownBlock = some g) => (S364.out.block hg).2)
  refine (iScriptFired_any xs kinds ys ls steps _ _ _ _ _ _ _ S362.out S363.out S364.out).mono ?_
  rintro e w24 ⟨u24, rfl, hs, hk⟩
  have H382 := Lib.hid hk; clear hk
  have S383 := Lib.hid (S351.out.stay H382.out); clear S351
  have S384 := Lib.hid (S352.out.stay H382.out); clear S352
  have S385 := Lib.hid (S353.out.stay H382.out); clear S353
  have S386 := Lib.hid (S354.out.stay H382.out); clear S354
  have S387 := Lib.hid (S355.out.stay H382.out); clear S355
  have S388 := Lib.hid (S356.out.stay H382.out); clear S356
  have S389 := Lib.hid (S357.out.stay H382.out); clear S357
  have S390 := Lib.hid (S358.out.stay H382.out); clear S358
  have S391 := Lib.hid (S359.out.stay H382.out); clear S359
  have S392 := Lib.hid (S360.out.stay H382.out); clear S360
  have S393 := Lib.hid (S361.out.stay H382.out); clear S361
  have S394 := Lib.hid (S362.out.stay H382.out); clear S362
  have S395 := Lib.hid (S363.out.stay H382.out); clear S363
  have S396 := Lib.hid (S364.out.stay H382.out); clear S364
  have S397 := Lib.hid hs; clear hs
  have B398 := Lib.hid (fun g (hg : u24.ownBlock = some g) => (S397.out.block hg).1)
  have A399 := Lib.hid (fun g (hg : u24.ownBlock = some g) => Nat.le_trans (K367.out.size) (B398.out g hg))
  have K400 := Lib.hid (K367.out.trans H382.out (by simp))
  clear H382
  go_wp2_with fail
  refine (eqIntS_any _ _ _ _ _ _ _ S397.out S386.out).mono ?_
  rintro e w25 ⟨rfl, hq⟩
  have H401 := Lib.hid hq.kept; clear hq
  have S402 := Lib.hid (S383.out.stay H401.out); clear S383
  have S403 := Lib.hid (S384.out.stay H401.out); clear S384
  have S404 := Lib.hid (S385.out.stay H401.out); clear S385
  have S405 := Lib.hid (S386.out.stay H401.out); clear S386
  have S406 := Lib.hid (S387.out.stay H401.out); clear S387
  have S407 := Lib.hid (S388.out.stay H401.out); clear S388
  have S408 := Lib.hid (S389.out.stay H401.out); clear S389
  have S409 := Lib.hid (S390.out.stay H401.out); clear S390
  have S410 := Lib.hid (S391.out.stay H401.out); clear S391
  have S411 := Lib.hid (S392.out.stay H401.out); clear S392
  have S412 := Lib.hid (S393.out.stay H401.out); clear S393
  have S413 := Lib.hid (S394.out.stay H401.out); clear S394
  have S414 := Lib.hid (S395.out.stay H401.out); clear S395
  have S415 := Lib.hid (S396.out.stay H401.out); clear S396
  have S416 := Lib.hid (S397.out.stay H401.out); clear S397
  have K417 := Lib.hid (K400.out.trans H401.out (by simp))
  clear H401
  go_wp2_with fail
  refine (heldIntS_any _ hlen _ _ _ S409.out).mono ?_
  rintro e w' ⟨rfl, rfl⟩
  go_wp2_with fail
  go_ret
  exact ⟨rfl, K417.out⟩
end Go.Proofs.Ytilbdpcijdcffab
