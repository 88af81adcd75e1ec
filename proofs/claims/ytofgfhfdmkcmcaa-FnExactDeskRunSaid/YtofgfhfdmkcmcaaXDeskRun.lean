/-
  The walk of an exact law: DeskRun of the program answers as its model does.
-/
import Derived.Test.YtofgfhfdmkcmcaaE9
import Derived.Test.YtofgfhfdmkcmcaaIPC
import Derived.Test.YtofgfhfdmkcmcaaPO3
namespace Go.Proofs.Ytofgfhfdmkcmcaa
open Go.RowKit

set_option maxHeartbeats 8000000 in
set_option maxRecDepth 100000 in
theorem ExactDeskRun_calls (d0 : Nt.Di) (ds : List Nt.Dd) (w : World) (x v : Value) (h : ArgDk w x d0) (hb : ArgDs w v ds) :
    Calls Try.prog 12 #[x, v] w fun e w' => e = .returned (.bool true) ∧ Kept [] w w' := by
  have HA := Lib.hid h
  have HB := Lib.hid hb
  obtain ⟨a1, n1, q1, b1, m1, r1, d1, l1, s1, rfl⟩ := h.form
  obtain ⟨la, lcap, rfl, hlm, _⟩ := hb
  clear h
  obtain ⟨d, hd⟩ : ∃ d, d = Nt.drun d0 ds := ⟨_, rfl⟩
  obtain ⟨ok, hok⟩ : ∃ ok : Int, ok = Nt.drunN d0 ds := ⟨_, rfl⟩
  have HD := Lib.hid hd
  have HOK := Lib.hid hok
  have hxx : (ok != ok) = false := by simp
  clear hd hok
  have K2 := Lib.hid (Kept.refl [] w)
  have hka : Kept [] w (w.alloc (.cells #[.slice a1 n1 q1, .int .i64 d0.now.c, .slice b1 m1 r1, .slice d1 l1 s1] 57)) := (Kept.refl _ _).alloc _
  have B3 := Lib.hid (Bk.new w 57 #[.slice a1 n1 q1, .int .i64 d0.now.c, .slice b1 m1 r1, .slice d1 l1 s1])
  have Z4 := Lib.hid (show w.heap.size + 1 ≤ (w.alloc (.cells #[.slice a1 n1 q1, .int .i64 d0.now.c, .slice b1 m1 r1, .slice d1 l1 s1] 57)).heap.size from by simp)
  have K5 := Lib.hid (K2.out.trans hka (by simp))
  clear K2
  have Z6 := Lib.hid (Kept.size (rows := []) hka)
  clear hka
  have K8 := Lib.hid (Kept.refl [] (w.alloc (.cells #[.slice a1 n1 q1, .int .i64 d0.now.c, .slice b1 m1 r1, .slice d1 l1 s1] 57)))
  go_enter Try.func12, Try.ntmps12
  obtain ⟨c9, c10, c11, c12⟩ := (B3.out.stay K8.out).four
  go_wp2_with fail
  generalize (w.alloc (.cells #[.slice a1 n1 q1, .int .i64 d0.now.c, .slice b1 m1 r1, .slice d1 l1 s1] 57)) = W7 at *
  refine (szDesk_r d0 _ _ (HA.out.stay K5.out)).mono ?_
  rintro e w1 ⟨r, rfl, hr, hk⟩
  clear c9 c10 c11 c12
  have K13 := Lib.hid (K5.out.trans hk (by simp))
  clear K5
  have K14 := Lib.hid (K8.out.trans hk (by simp))
  clear K8
  have Z15 := Lib.hid (Kept.size (rows := []) hk)
  clear hk
  by_cases hn : r < 0
  · have hd : decide (r < 0) = true := dec_of hn
    clear hn
    go_wp2
    go_ret
    exact ⟨rfl, K13.out⟩
  have hd : decide (r < 0) = false := dec_not hn
  have HL0 := Lib.hid (hr.out hn)
  have HLE : Hid (dkLen d0 ≤ 1048576) := Lib.hid HL0.out.1
  clear hn hr
  go_wp2_with fail
  refine (szDeedS_n ds r HL0.out.2.1 HL0.out.2.2 _ _ (HB.out.stay K13.out)).mono ?_
  rintro e w2 ⟨r, rfl, hr, hk⟩
  have K16 := Lib.hid (K13.out.trans hk (by simp))
  clear K13
  have K17 := Lib.hid (K14.out.trans hk (by simp))
  clear K14
  have Z18 := Lib.hid (Kept.size (rows := []) hk)
  clear hk hd
  by_cases hn : r < 0
  · have hd : decide (r < 0) = true := dec_of hn
    clear hn
    go_wp2
    go_ret
    exact ⟨rfl, K16.out⟩
  have hd : decide (r < 0) = false := dec_not hn
  have HLD := Lib.hid (hr.out hn)
  clear hn hr
  obtain ⟨c19, c20, c21, c22⟩ := (B3.out.stay K17.out).four
  go_wp2_with fail
  refine (toDesk_dm d0 HLE.out _ _ (HA.out.stay K16.out)).mono ?_
  rintro e w3 ⟨y23, rfl, hp, hk⟩
  clear c19 c20 c21 c22
  have P24 := Lib.hid (hp)
  have K25 := Lib.hid (K16.out.trans hk (by simp))
  clear K16
  have K26 := Lib.hid (K17.out.trans hk (by simp))
  clear K17
  have Z27 := Lib.hid (Kept.size (rows := []) hk)
  clear hk hp
  have K28 := Lib.hid (Kept.refl [] w3)
  go_wp2_with fail
  refine (toDeedS_dn ds HLD.out _ _ (HB.out.stay K25.out)).mono ?_
  rintro e w4 ⟨u29, rfl, hp, hk⟩
  have P30 := Lib.hid (hp)
  have K31 := Lib.hid (K25.out.trans hk (by simp))
  clear K25
  have K32 := Lib.hid (K26.out.trans hk (by simp))
  clear K26
  have K33 := Lib.hid (K28.out.trans hk (by simp))
  clear K28
  have Z34 := Lib.hid (Kept.size (rows := []) hk)
  clear hk hp
  have K35 := Lib.hid (Kept.refl [] w4)
  go_wp2_with fail
  refine (sDeskRun_any d0 ds _ _ _ (P24.out.stay K33.out).de (P30.out.stay K35.out).1.ds).mono ?_
  rintro e w5 ⟨y, rfl, hv, hk⟩
  rw [← HOK.out]
  rw [← HD.out] at hv
  have V36 := Lib.hid (hv)
  have K37 := Lib.hid (K31.out.trans hk (by simp))
  clear K31
  have K38 := Lib.hid (K32.out.trans hk (by simp))
  clear K32
  have K39 := Lib.hid (K33.out.trans hk (by simp))
  clear K33
  have K40 := Lib.hid (K35.out.trans hk (by simp))
  clear K35
  have Z41 := Lib.hid (Kept.size (rows := []) hk)
  clear hk
  have K42 := Lib.hid (Kept.refl [] w5)
  obtain ⟨a43, n43, q43, b43, m43, r43, d43, l43, s43, rfl⟩ := hv.dv.form
  clear hv
  have hka : Kept [] w5 (w5.alloc (.cells #[.slice a43 n43 q43, .int .i64 d.now.c, .slice b43 m43 r43, .slice d43 l43 s43] 32)) := (Kept.refl _ _).alloc _
  have B44 := Lib.hid (Bk.new w5 32 #[.slice a43 n43 q43, .int .i64 d.now.c, .slice b43 m43 r43, .slice d43 l43 s43])
  have Z45 := Lib.hid (show w5.heap.size + 1 ≤ (w5.alloc (.cells #[.slice a43 n43 q43, .int .i64 d.now.c, .slice b43 m43 r43, .slice d43 l43 s43] 32)).heap.size from by simp)
  have K46 := Lib.hid (K37.out.trans hka (by simp))
  clear K37
  have K47 := Lib.hid (K38.out.trans hka (by simp))
  clear K38
  have K48 := Lib.hid (K39.out.trans hka (by simp))
  clear K39
  have K49 := Lib.hid (K40.out.trans hka (by simp))
  clear K40
  have K50 := Lib.hid (K42.out.trans hka (by simp))
  clear K42
  have Z51 := Lib.hid (Kept.size (rows := []) hka)
  clear hka
  have K53 := Lib.hid (Kept.refl [] (w5.alloc (.cells #[.slice a43 n43 q43, .int .i64 d.now.c, .slice b43 m43 r43, .slice d43 l43 s43] 32)))
  obtain ⟨c54, c55, c56, c57⟩ := (B3.out.stay K47.out).four
  go_wp2_with fail
  generalize (w5.alloc (.cells #[.slice a43 n43 q43, .int .i64 d.now.c, .slice b43 m43 r43, .slice d43 l43 s43] 32)) = W52 at *
  refine (toDesk_dm d0 HLE.out _ _ (HA.out.stay K46.out)).mono ?_
  rintro e w6 ⟨y58, rfl, hp, hk⟩
  clear c54 c55 c56 c57
  have P59 := Lib.hid (hp)
  have K60 := Lib.hid (K46.out.trans hk (by simp))
  clear K46
  have K61 := Lib.hid (K47.out.trans hk (by simp))
  clear K47
  have K62 := Lib.hid (K48.out.trans hk (by simp))
  clear K48
  have K63 := Lib.hid (K49.out.trans hk (by simp))
  clear K49
  have K64 := Lib.hid (K50.out.trans hk (by simp))
  clear K50
  have K65 := Lib.hid (K53.out.trans hk (by simp))
  clear K53
  have Z66 := Lib.hid (Kept.size (rows := []) hk)
  clear hk hp
  have K67 := Lib.hid (Kept.refl [] w6)
  obtain ⟨a68, n68, q68, b68, m68, r68, d68, l68, s68, rfl⟩ := P59.out.dv.form
  have hka : Kept [] w6 (w6.alloc (.cells #[.slice a68 n68 q68, .int .i64 d0.now.c, .slice b68 m68 r68, .slice d68 l68 s68] 32)) := (Kept.refl _ _).alloc _
  have B69 := Lib.hid (Bk.new w6 32 #[.slice a68 n68 q68, .int .i64 d0.now.c, .slice b68 m68 r68, .slice d68 l68 s68])
  have Z70 := Lib.hid (show w6.heap.size + 1 ≤ (w6.alloc (.cells #[.slice a68 n68 q68, .int .i64 d0.now.c, .slice b68 m68 r68, .slice d68 l68 s68] 32)).heap.size from by simp)
  have K71 := Lib.hid (K60.out.trans hka (by simp))
  clear K60
  have K72 := Lib.hid (K61.out.trans hka (by simp))
  clear K61
  have K73 := Lib.hid (K62.out.trans hka (by simp))
  clear K62
  have K74 := Lib.hid (K63.out.trans hka (by simp))
  clear K63
  have K75 := Lib.hid (K64.out.trans hka (by simp))
  clear K64
  have K76 := Lib.hid (K65.out.trans hka (by simp))
  clear K65
  have K77 := Lib.hid (K67.out.trans hka (by simp))
  clear K67
  have Z78 := Lib.hid (Kept.size (rows := []) hka)
  clear hka
  have K80 := Lib.hid (Kept.refl [] (w6.alloc (.cells #[.slice a68 n68 q68, .int .i64 d0.now.c, .slice b68 m68 r68, .slice d68 l68 s68] 32)))
  go_wp2_with fail
  generalize (w6.alloc (.cells #[.slice a68 n68 q68, .int .i64 d0.now.c, .slice b68 m68 r68, .slice d68 l68 s68] 32)) = W79 at *
  refine (toDeedS_dn ds HLD.out _ _ (HB.out.stay K71.out)).mono ?_
  rintro e w7 ⟨u81, rfl, hp, hk⟩
  have P82 := Lib.hid (hp)
  obtain ⟨u81a, u81c, rfl, _⟩ := hp.1.cells
  have K83 := Lib.hid (K71.out.trans hk (by simp))
  clear K71
  have K84 := Lib.hid (K72.out.trans hk (by simp))
  clear K72
  have K85 := Lib.hid (K73.out.trans hk (by simp))
  clear K73
  have K86 := Lib.hid (K74.out.trans hk (by simp))
  clear K74
  have K87 := Lib.hid (K75.out.trans hk (by simp))
  clear K75
  have K88 := Lib.hid (K76.out.trans hk (by simp))
  clear K76
  have K89 := Lib.hid (K77.out.trans hk (by simp))
  clear K77
  have K90 := Lib.hid (K80.out.trans hk (by simp))
  clear K80
  have Z91 := Lib.hid (Kept.size (rows := []) hk)
  clear hk hp
  have K92 := Lib.hid (Kept.refl [] w7)
  obtain ⟨c93, c94, c95, c96⟩ := (B69.out.stay K90.out).four
  go_wp2_with fail
  refine (iDeskRun_any d0 ds _ _ _ (P59.out.stay K89.out).de (P82.out.stay K92.out).1.ds).mono ?_
  rintro e w8 ⟨y, rfl, hv, hk⟩
  clear c93 c94 c95 c96
  rw [← HOK.out]
  rw [← HD.out] at hv
  have hdm := hv.dm
  have V97 := Lib.hid (hdm.1)
  have HLG := Lib.hid hdm.2
  clear hdm
  have K98 := Lib.hid (K83.out.trans hk (by simp))
  clear K83
  have K99 := Lib.hid (K84.out.trans hk (by simp))
  clear K84
  have K100 := Lib.hid (K85.out.trans hk (by simp))
  clear K85
  have K101 := Lib.hid (K86.out.trans hk (by simp))
  clear K86
  have K102 := Lib.hid (K87.out.trans hk (by simp))
  clear K87
  have K103 := Lib.hid (K88.out.trans hk (by simp))
  clear K88
  have K104 := Lib.hid (K89.out.trans hk (by simp))
  clear K89
  have K105 := Lib.hid (K90.out.trans hk (by simp))
  clear K90
  have K106 := Lib.hid (K92.out.trans hk (by simp))
  clear K92
  have Z107 := Lib.hid (Kept.size (rows := []) hk)
  clear hk
  have K108 := Lib.hid (Kept.refl [] w8)
  obtain ⟨a109, n109, q109, b109, m109, r109, d109, l109, s109, rfl⟩ := hv.dv.form
  clear hv
  have hka : Kept [] w8 (w8.alloc (.cells #[.slice a109 n109 q109, .int .i64 d.now.c, .slice b109 m109 r109, .slice d109 l109 s109] 32)) := (Kept.refl _ _).alloc _
  have B110 := Lib.hid (Bk.new w8 32 #[.slice a109 n109 q109, .int .i64 d.now.c, .slice b109 m109 r109, .slice d109 l109 s109])
  have Z111 := Lib.hid (show w8.heap.size + 1 ≤ (w8.alloc (.cells #[.slice a109 n109 q109, .int .i64 d.now.c, .slice b109 m109 r109, .slice d109 l109 s109] 32)).heap.size from by simp)
  have K112 := Lib.hid (K98.out.trans hka (by simp))
  clear K98
  have K113 := Lib.hid (K99.out.trans hka (by simp))
  clear K99
  have K114 := Lib.hid (K100.out.trans hka (by simp))
  clear K100
  have K115 := Lib.hid (K101.out.trans hka (by simp))
  clear K101
  have K116 := Lib.hid (K102.out.trans hka (by simp))
  clear K102
  have K117 := Lib.hid (K103.out.trans hka (by simp))
  clear K103
  have K118 := Lib.hid (K104.out.trans hka (by simp))
  clear K104
  have K119 := Lib.hid (K105.out.trans hka (by simp))
  clear K105
  have K120 := Lib.hid (K106.out.trans hka (by simp))
  clear K106
  have K121 := Lib.hid (K108.out.trans hka (by simp))
  clear K108
  have Z122 := Lib.hid (Kept.size (rows := []) hka)
  clear hka
  have K124 := Lib.hid (Kept.refl [] (w8.alloc (.cells #[.slice a109 n109 q109, .int .i64 d.now.c, .slice b109 m109 r109, .slice d109 l109 s109] 32)))
  obtain ⟨c125, c126, c127, c128⟩ := (B110.out.stay K124.out).four
  obtain ⟨c129, c130, c131, c132⟩ := (B44.out.stay K117.out).four
  go_wp2_with fail
  generalize (w8.alloc (.cells #[.slice a109 n109 q109, .int .i64 d.now.c, .slice b109 m109 r109, .slice d109 l109 s109] 32)) = W123 at *
  refine (eqDesk_dv d _ _ _ ⟨_, (V97.out.stay K121.out).dv⟩ ⟨_, (V36.out.stay K116.out).dv⟩).mono ?_
  rintro e w9 ⟨rfl, hk⟩
  clear c125 c126 c127 c128 c129 c130 c131 c132
  have K133 := Lib.hid (K112.out.trans hk (by simp))
  clear K112
  have K134 := Lib.hid (K113.out.trans hk (by simp))
  clear K113
  have K135 := Lib.hid (K114.out.trans hk (by simp))
  clear K114
  have K136 := Lib.hid (K115.out.trans hk (by simp))
  clear K115
  have K137 := Lib.hid (K116.out.trans hk (by simp))
  clear K116
  have K138 := Lib.hid (K117.out.trans hk (by simp))
  clear K117
  have K139 := Lib.hid (K118.out.trans hk (by simp))
  clear K118
  have K140 := Lib.hid (K119.out.trans hk (by simp))
  clear K119
  have K141 := Lib.hid (K120.out.trans hk (by simp))
  clear K120
  have K142 := Lib.hid (K121.out.trans hk (by simp))
  clear K121
  have K143 := Lib.hid (K124.out.trans hk (by simp))
  clear K124
  have Z144 := Lib.hid (Kept.size (rows := []) hk)
  clear hk
  go_wp2_with fail
  have S145 : Hid (∀ w', Kept [] w9 w' → w'.cell? ⟨w6.heap.size, 0, none⟩ = some (.slice a68 n68 q68) ∧ w'.cell? ⟨w6.heap.size, 1, none⟩ = some (.int .i64 d0.now.c) ∧ w'.cell? ⟨w6.heap.size, 2, none⟩ = some (.slice b68 m68 r68) ∧ w'.cell? ⟨w6.heap.size, 3, none⟩ = some (.slice d68 l68 s68) ∧ w'.cell? ⟨w.heap.size, 0, none⟩ = some (.slice a1 n1 q1) ∧ w'.cell? ⟨w.heap.size, 1, none⟩ = some (.int .i64 d0.now.c) ∧ w'.cell? ⟨w.heap.size, 2, none⟩ = some (.slice b1 m1 r1) ∧ w'.cell? ⟨w.heap.size, 3, none⟩ = some (.slice d1 l1 s1)) := Lib.hid (fun w' k' => ⟨((B69.out.stay K140.out).stay k').four.1, ((B69.out.stay K140.out).stay k').four.2.1, ((B69.out.stay K140.out).stay k').four.2.2.1, ((B69.out.stay K140.out).stay k').four.2.2.2, ((B3.out.stay K134.out).stay k').four.1, ((B3.out.stay K134.out).stay k').four.2.1, ((B3.out.stay K134.out).stay k').four.2.2.1, ((B3.out.stay K134.out).stay k').four.2.2.2⟩)
  have T146 : Hid (∀ W, Kept [] w9 W → Calls Try.prog 37 #[.agg #[.slice a1 n1 q1, .int .i64 d0.now.c, .slice b1 m1 r1, .slice d1 l1 s1]] W fun e w' => ∃ y, e = .returned y ∧ Hid (∃ b, Dv w' b y d0) ∧ Kept [] w9 w') := Lib.hid (fun W k => (toDesk_dm d0 HLE.out W _ ((HA.out.stay K133.out).stay k)).mono (by rintro e w' ⟨y, rfl, hp, hk⟩; exact ⟨y, rfl, Lib.hid ⟨_, hp.dv⟩, k.trans hk (by simp)⟩))
  have E147 : Hid (∀ W y, Kept [] w9 W → (∃ b, Dv W b y d0) → Calls Try.prog 38 #[.agg #[.slice a68 n68 q68, .int .i64 d0.now.c, .slice b68 m68 r68, .slice d68 l68 s68], y] W fun e w' => e = .returned (.bool true) ∧ Kept [] w9 w') := Lib.hid (fun W y k h => (eqDesk_dv d0 W _ y ⟨_, ((P59.out.stay K139.out).stay k).dv⟩ h).mono (by rintro e w' ⟨rfl, hk⟩; exact ⟨rfl, k.trans hk (by simp)⟩))
  go_region_held3 (fun w' => w'.cell? ⟨w6.heap.size, 0, none⟩ = some (.slice a68 n68 q68) ∧ w'.cell? ⟨w6.heap.size, 1, none⟩ = some (.int .i64 d0.now.c) ∧ w'.cell? ⟨w6.heap.size, 2, none⟩ = some (.slice b68 m68 r68) ∧ w'.cell? ⟨w6.heap.size, 3, none⟩ = some (.slice d68 l68 s68) ∧ w'.cell? ⟨w.heap.size, 0, none⟩ = some (.slice a1 n1 q1) ∧ w'.cell? ⟨w.heap.size, 1, none⟩ = some (.int .i64 d0.now.c) ∧ w'.cell? ⟨w.heap.size, 2, none⟩ = some (.slice b1 m1 r1) ∧ w'.cell? ⟨w.heap.size, 3, none⟩ = some (.slice d1 l1 s1))
    ((refine S145.out _ ?_; repeat (first | exact Kept.refl _ _ | assumption | apply Kept.alloc | apply Kept.drew)))
    (first
    | (go_simp; go_at_call 37; refine (T146.out _ (by repeat (first | exact Kept.refl _ _ | assumption | apply Kept.alloc | apply Kept.drew))).mono ?_; rintro e wa148 ⟨ya149, rfl, HY150, ka151⟩)
    | (refine (T146.out _ (by repeat (first | exact Kept.refl _ _ | assumption | apply Kept.alloc | apply Kept.drew))).mono ?_; rintro e wa148 ⟨ya149, rfl, HY150, ka151⟩)
    | (go_simp; go_at_call 38; refine (E147.out _ _ (by repeat (first | exact Kept.refl _ _ | assumption | apply Kept.alloc | apply Kept.drew)) (by obtain ⟨bb, hb⟩ := HY150.out; exact ⟨bb, hb.stay (by repeat (first | exact Kept.refl _ _ | apply Kept.alloc | apply Kept.drew))⟩)).mono ?_; rintro e wb152 ⟨rfl, kb153⟩)
    | (refine (E147.out _ _ (by repeat (first | exact Kept.refl _ _ | assumption | apply Kept.alloc | apply Kept.drew)) (by obtain ⟨bb, hb⟩ := HY150.out; exact ⟨bb, hb.stay (by repeat (first | exact Kept.refl _ _ | apply Kept.alloc | apply Kept.drew))⟩)).mono ?_; rintro e wb152 ⟨rfl, kb153⟩))
  clear S145 T146 E147 HY150 ka151
  have K154 := Lib.hid (K133.out.trans kb153 (by simp))
  clear K133
  have K155 := Lib.hid (K134.out.trans kb153 (by simp))
  clear K134
  have K156 := Lib.hid (K135.out.trans kb153 (by simp))
  clear K135
  have K157 := Lib.hid (K136.out.trans kb153 (by simp))
  clear K136
  have K158 := Lib.hid (K137.out.trans kb153 (by simp))
  clear K137
  have K159 := Lib.hid (K138.out.trans kb153 (by simp))
  clear K138
  have K160 := Lib.hid (K139.out.trans kb153 (by simp))
  clear K139
  have K161 := Lib.hid (K140.out.trans kb153 (by simp))
  clear K140
  have K162 := Lib.hid (K141.out.trans kb153 (by simp))
  clear K141
  have K163 := Lib.hid (K142.out.trans kb153 (by simp))
  clear K142
  have K164 := Lib.hid (K143.out.trans kb153 (by simp))
  clear K143
  have Z165 := Lib.hid (Kept.size (rows := []) kb153)
  clear kb153
  go_wp2_with fail
  refine (toDeedS_dn ds HLD.out _ _ (HB.out.stay K154.out)).mono ?_
  rintro e w10 ⟨u166, rfl, hp, hk⟩
  have P167 := Lib.hid (hp)
  have K168 := Lib.hid (K154.out.trans hk (by simp))
  clear K154
  have K169 := Lib.hid (K155.out.trans hk (by simp))
  clear K155
  have K170 := Lib.hid (K156.out.trans hk (by simp))
  clear K156
  have K171 := Lib.hid (K157.out.trans hk (by simp))
  clear K157
  have K172 := Lib.hid (K158.out.trans hk (by simp))
  clear K158
  have K173 := Lib.hid (K159.out.trans hk (by simp))
  clear K159
  have K174 := Lib.hid (K160.out.trans hk (by simp))
  clear K160
  have K175 := Lib.hid (K161.out.trans hk (by simp))
  clear K161
  have K176 := Lib.hid (K162.out.trans hk (by simp))
  clear K162
  have K177 := Lib.hid (K163.out.trans hk (by simp))
  clear K163
  have K178 := Lib.hid (K164.out.trans hk (by simp))
  clear K164
  have Z179 := Lib.hid (Kept.size (rows := []) hk)
  clear hk hp
  have K180 := Lib.hid (Kept.refl [] w10)
  go_wp2_with fail
  refine (eqDeedS_same ds _ _ _ _ _ (P82.out.stay K176.out).1 (P167.out.stay K180.out).1).mono ?_
  rintro e w11 ⟨rfl, hk⟩
  have K181 := Lib.hid (K168.out.trans hk (by simp))
  clear K168
  have K182 := Lib.hid (K169.out.trans hk (by simp))
  clear K169
  have K183 := Lib.hid (K170.out.trans hk (by simp))
  clear K170
  have K184 := Lib.hid (K171.out.trans hk (by simp))
  clear K171
  have K185 := Lib.hid (K172.out.trans hk (by simp))
  clear K172
  have K186 := Lib.hid (K173.out.trans hk (by simp))
  clear K173
  have K187 := Lib.hid (K174.out.trans hk (by simp))
  clear K174
  have K188 := Lib.hid (K175.out.trans hk (by simp))
  clear K175
  have K189 := Lib.hid (K176.out.trans hk (by simp))
  clear K176
  have K190 := Lib.hid (K177.out.trans hk (by simp))
  clear K177
  have K191 := Lib.hid (K178.out.trans hk (by simp))
  clear K178
  have K192 := Lib.hid (K180.out.trans hk (by simp))
  clear K180
  have Z193 := Lib.hid (Kept.size (rows := []) hk)
  clear hk
  obtain ⟨c194, c195, c196, c197⟩ := (B69.out.stay K188.out).four
  go_wp2_with fail
  refine (markDesk_any (1) (by omega) d0 (by have := HLE.out; omega) _ _ _ _ (P59.out.stay K187.out)).mono ?_
  rintro e w12 ⟨rfl, hp, hk⟩
  clear c194 c195 c196 c197
  have M198 := Lib.hid (hp)
  have Q199 := Lib.hid (hk)
  clear hp hk
  clear M198
  have F200 := Lib.hid ((P82.out.stay K189.out).kin Q199.out (by have := Z6.out; have := Z4.out; have := Z15.out; have := Z18.out; have := Z27.out; have := Z34.out; have := Z41.out; have := Z51.out; have := Z45.out; have := Z66.out; have := Z78.out; have := Z70.out; have := Z91.out; have := Z107.out; have := Z122.out; have := Z111.out; have := Z144.out; have := Z165.out; have := Z179.out; have := Z193.out; omega))
  have F201 := Lib.hid ((V97.out.stay K190.out).kin Q199.out (by have := Z6.out; have := Z4.out; have := Z15.out; have := Z18.out; have := Z27.out; have := Z34.out; have := Z41.out; have := Z51.out; have := Z45.out; have := Z66.out; have := Z78.out; have := Z70.out; have := Z91.out; have := Z107.out; have := Z122.out; have := Z111.out; have := Z144.out; have := Z165.out; have := Z179.out; have := Z193.out; omega))
  have F202 := Lib.hid ((B110.out.stay K191.out).kin Q199.out (.inr (by have := Z6.out; have := Z4.out; have := Z15.out; have := Z18.out; have := Z27.out; have := Z34.out; have := Z41.out; have := Z51.out; have := Z45.out; have := Z66.out; have := Z78.out; have := Z70.out; have := Z91.out; have := Z107.out; have := Z122.out; have := Z111.out; have := Z144.out; have := Z165.out; have := Z179.out; have := Z193.out; omega)))
  have K203 := Lib.hid (K181.out.kin Q199.out (by have := Z6.out; have := Z4.out; have := Z15.out; have := Z18.out; have := Z27.out; have := Z34.out; have := Z41.out; have := Z51.out; have := Z45.out; have := Z66.out; have := Z78.out; have := Z70.out; have := Z91.out; have := Z107.out; have := Z122.out; have := Z111.out; have := Z144.out; have := Z165.out; have := Z179.out; have := Z193.out; omega))
  clear K181
  have K204 := Lib.hid (K182.out.kin Q199.out (by have := Z6.out; have := Z4.out; have := Z15.out; have := Z18.out; have := Z27.out; have := Z34.out; have := Z41.out; have := Z51.out; have := Z45.out; have := Z66.out; have := Z78.out; have := Z70.out; have := Z91.out; have := Z107.out; have := Z122.out; have := Z111.out; have := Z144.out; have := Z165.out; have := Z179.out; have := Z193.out; omega))
  clear K182
  have K205 := Lib.hid (K183.out.kin Q199.out (by have := Z6.out; have := Z4.out; have := Z15.out; have := Z18.out; have := Z27.out; have := Z34.out; have := Z41.out; have := Z51.out; have := Z45.out; have := Z66.out; have := Z78.out; have := Z70.out; have := Z91.out; have := Z107.out; have := Z122.out; have := Z111.out; have := Z144.out; have := Z165.out; have := Z179.out; have := Z193.out; omega))
  clear K183
  have K206 := Lib.hid (K184.out.kin Q199.out (by have := Z6.out; have := Z4.out; have := Z15.out; have := Z18.out; have := Z27.out; have := Z34.out; have := Z41.out; have := Z51.out; have := Z45.out; have := Z66.out; have := Z78.out; have := Z70.out; have := Z91.out; have := Z107.out; have := Z122.out; have := Z111.out; have := Z144.out; have := Z165.out; have := Z179.out; have := Z193.out; omega))
  clear K184
  have K207 := Lib.hid (K185.out.kin Q199.out (by have := Z6.out; have := Z4.out; have := Z15.out; have := Z18.out; have := Z27.out; have := Z34.out; have := Z41.out; have := Z51.out; have := Z45.out; have := Z66.out; have := Z78.out; have := Z70.out; have := Z91.out; have := Z107.out; have := Z122.out; have := Z111.out; have := Z144.out; have := Z165.out; have := Z179.out; have := Z193.out; omega))
  clear K185
  have K208 := Lib.hid (K186.out.kin Q199.out (by have := Z6.out; have := Z4.out; have := Z15.out; have := Z18.out; have := Z27.out; have := Z34.out; have := Z41.out; have := Z51.out; have := Z45.out; have := Z66.out; have := Z78.out; have := Z70.out; have := Z91.out; have := Z107.out; have := Z122.out; have := Z111.out; have := Z144.out; have := Z165.out; have := Z179.out; have := Z193.out; omega))
  clear K186
  have Z209 := Lib.hid (Kin.size Q199.out)
  have K210 := Lib.hid (Kept.refl [] w12)
  go_wp2_with fail
  refine (markDeedS_dn (1 + (dkLen d0 : Nat)) (by omega) ds (by have := HLE.out; have := HLD.out; omega) _ _ _ _ (F200.out.stay K210.out)).mono ?_
  rintro e w13 ⟨rfl, hp, hk⟩
  have Q211 := Lib.hid (hk)
  clear hp hk
  have F212 := Lib.hid ((F201.out.stay K210.out).kin Q211.out (by have := Z6.out; have := Z4.out; have := Z15.out; have := Z18.out; have := Z27.out; have := Z34.out; have := Z41.out; have := Z51.out; have := Z45.out; have := Z66.out; have := Z78.out; have := Z70.out; have := Z91.out; have := Z107.out; have := Z122.out; have := Z111.out; have := Z144.out; have := Z165.out; have := Z179.out; have := Z193.out; have := Z209.out; omega))
  have F213 := Lib.hid ((F202.out.stay K210.out).kin Q211.out (.inr (by have := Z6.out; have := Z4.out; have := Z15.out; have := Z18.out; have := Z27.out; have := Z34.out; have := Z41.out; have := Z51.out; have := Z45.out; have := Z66.out; have := Z78.out; have := Z70.out; have := Z91.out; have := Z107.out; have := Z122.out; have := Z111.out; have := Z144.out; have := Z165.out; have := Z179.out; have := Z193.out; have := Z209.out; omega)))
  have K214 := Lib.hid (K203.out.kin Q211.out (by have := Z6.out; have := Z4.out; have := Z15.out; have := Z18.out; have := Z27.out; have := Z34.out; have := Z41.out; have := Z51.out; have := Z45.out; have := Z66.out; have := Z78.out; have := Z70.out; have := Z91.out; have := Z107.out; have := Z122.out; have := Z111.out; have := Z144.out; have := Z165.out; have := Z179.out; have := Z193.out; have := Z209.out; omega))
  clear K203
  have K215 := Lib.hid (K204.out.kin Q211.out (by have := Z6.out; have := Z4.out; have := Z15.out; have := Z18.out; have := Z27.out; have := Z34.out; have := Z41.out; have := Z51.out; have := Z45.out; have := Z66.out; have := Z78.out; have := Z70.out; have := Z91.out; have := Z107.out; have := Z122.out; have := Z111.out; have := Z144.out; have := Z165.out; have := Z179.out; have := Z193.out; have := Z209.out; omega))
  clear K204
  have K216 := Lib.hid (K205.out.kin Q211.out (by have := Z6.out; have := Z4.out; have := Z15.out; have := Z18.out; have := Z27.out; have := Z34.out; have := Z41.out; have := Z51.out; have := Z45.out; have := Z66.out; have := Z78.out; have := Z70.out; have := Z91.out; have := Z107.out; have := Z122.out; have := Z111.out; have := Z144.out; have := Z165.out; have := Z179.out; have := Z193.out; have := Z209.out; omega))
  clear K205
  have K217 := Lib.hid (K206.out.kin Q211.out (by have := Z6.out; have := Z4.out; have := Z15.out; have := Z18.out; have := Z27.out; have := Z34.out; have := Z41.out; have := Z51.out; have := Z45.out; have := Z66.out; have := Z78.out; have := Z70.out; have := Z91.out; have := Z107.out; have := Z122.out; have := Z111.out; have := Z144.out; have := Z165.out; have := Z179.out; have := Z193.out; have := Z209.out; omega))
  clear K206
  have K218 := Lib.hid (K207.out.kin Q211.out (by have := Z6.out; have := Z4.out; have := Z15.out; have := Z18.out; have := Z27.out; have := Z34.out; have := Z41.out; have := Z51.out; have := Z45.out; have := Z66.out; have := Z78.out; have := Z70.out; have := Z91.out; have := Z107.out; have := Z122.out; have := Z111.out; have := Z144.out; have := Z165.out; have := Z179.out; have := Z193.out; have := Z209.out; omega))
  clear K207
  have K219 := Lib.hid (K208.out.kin Q211.out (by have := Z6.out; have := Z4.out; have := Z15.out; have := Z18.out; have := Z27.out; have := Z34.out; have := Z41.out; have := Z51.out; have := Z45.out; have := Z66.out; have := Z78.out; have := Z70.out; have := Z91.out; have := Z107.out; have := Z122.out; have := Z111.out; have := Z144.out; have := Z165.out; have := Z179.out; have := Z193.out; have := Z209.out; omega))
  clear K208
  have Z220 := Lib.hid (Kin.size Q211.out)
  have K221 := Lib.hid (Kept.refl [] w13)
  have hk0 : decide ((1 : Int) + (dkLen d0 : Nat) + 3 * (ds.length : Nat) < 0) = false := dec_not (by omega)
  obtain ⟨c222, c223, c224, c225⟩ := (F213.out.stay K221.out).four
  obtain ⟨c226, c227, c228, c229⟩ := (B44.out.stay K219.out).four
  go_wp2_with fail
  refine (eqDesk_dv d _ _ _ ⟨_, (F212.out.stay K221.out).dv⟩ ⟨_, (V36.out.stay K218.out).dv⟩).mono ?_
  rintro e w14 ⟨rfl, hk⟩
  clear c222 c223 c224 c225 c226 c227 c228 c229
  have K230 := Lib.hid (K214.out.trans hk (by simp))
  clear K214
  have K231 := Lib.hid (K215.out.trans hk (by simp))
  clear K215
  have K232 := Lib.hid (K216.out.trans hk (by simp))
  clear K216
  have K233 := Lib.hid (K217.out.trans hk (by simp))
  clear K217
  have K234 := Lib.hid (K218.out.trans hk (by simp))
  clear K218
  have K235 := Lib.hid (K219.out.trans hk (by simp))
  clear K219
  have K236 := Lib.hid (K221.out.trans hk (by simp))
  clear K221
  have Z237 := Lib.hid (Kept.size (rows := []) hk)
  clear hk
  obtain ⟨c238, c239, c240, c241⟩ := (F213.out.stay K236.out).four
  go_wp2_with fail
  refine (markDesk_any (1) (by omega) d (by have := HLG.out; omega) _ _ _ _ (F212.out.stay K236.out)).mono ?_
  rintro e w15 ⟨rfl, hp, hk⟩
  clear c238 c239 c240 c241
  have M242 := Lib.hid (hp)
  have Q243 := Lib.hid (hk)
  clear hp hk
  have F244 := Lib.hid ((F213.out.stay K236.out).kin Q243.out (.inr (by have := Z6.out; have := Z4.out; have := Z15.out; have := Z18.out; have := Z27.out; have := Z34.out; have := Z41.out; have := Z51.out; have := Z45.out; have := Z66.out; have := Z78.out; have := Z70.out; have := Z91.out; have := Z107.out; have := Z122.out; have := Z111.out; have := Z144.out; have := Z165.out; have := Z179.out; have := Z193.out; have := Z209.out; have := Z220.out; have := Z237.out; omega)))
  have K245 := Lib.hid (K230.out.kin Q243.out (by have := Z6.out; have := Z4.out; have := Z15.out; have := Z18.out; have := Z27.out; have := Z34.out; have := Z41.out; have := Z51.out; have := Z45.out; have := Z66.out; have := Z78.out; have := Z70.out; have := Z91.out; have := Z107.out; have := Z122.out; have := Z111.out; have := Z144.out; have := Z165.out; have := Z179.out; have := Z193.out; have := Z209.out; have := Z220.out; have := Z237.out; omega))
  clear K230
  have K246 := Lib.hid (K231.out.kin Q243.out (by have := Z6.out; have := Z4.out; have := Z15.out; have := Z18.out; have := Z27.out; have := Z34.out; have := Z41.out; have := Z51.out; have := Z45.out; have := Z66.out; have := Z78.out; have := Z70.out; have := Z91.out; have := Z107.out; have := Z122.out; have := Z111.out; have := Z144.out; have := Z165.out; have := Z179.out; have := Z193.out; have := Z209.out; have := Z220.out; have := Z237.out; omega))
  clear K231
  have K247 := Lib.hid (K232.out.kin Q243.out (by have := Z6.out; have := Z4.out; have := Z15.out; have := Z18.out; have := Z27.out; have := Z34.out; have := Z41.out; have := Z51.out; have := Z45.out; have := Z66.out; have := Z78.out; have := Z70.out; have := Z91.out; have := Z107.out; have := Z122.out; have := Z111.out; have := Z144.out; have := Z165.out; have := Z179.out; have := Z193.out; have := Z209.out; have := Z220.out; have := Z237.out; omega))
  clear K232
  have K248 := Lib.hid (K233.out.kin Q243.out (by have := Z6.out; have := Z4.out; have := Z15.out; have := Z18.out; have := Z27.out; have := Z34.out; have := Z41.out; have := Z51.out; have := Z45.out; have := Z66.out; have := Z78.out; have := Z70.out; have := Z91.out; have := Z107.out; have := Z122.out; have := Z111.out; have := Z144.out; have := Z165.out; have := Z179.out; have := Z193.out; have := Z209.out; have := Z220.out; have := Z237.out; omega))
  clear K233
  have K249 := Lib.hid (K234.out.kin Q243.out (by have := Z6.out; have := Z4.out; have := Z15.out; have := Z18.out; have := Z27.out; have := Z34.out; have := Z41.out; have := Z51.out; have := Z45.out; have := Z66.out; have := Z78.out; have := Z70.out; have := Z91.out; have := Z107.out; have := Z122.out; have := Z111.out; have := Z144.out; have := Z165.out; have := Z179.out; have := Z193.out; have := Z209.out; have := Z220.out; have := Z237.out; omega))
  clear K234
  have K250 := Lib.hid (K235.out.kin Q243.out (by have := Z6.out; have := Z4.out; have := Z15.out; have := Z18.out; have := Z27.out; have := Z34.out; have := Z41.out; have := Z51.out; have := Z45.out; have := Z66.out; have := Z78.out; have := Z70.out; have := Z91.out; have := Z107.out; have := Z122.out; have := Z111.out; have := Z144.out; have := Z165.out; have := Z179.out; have := Z193.out; have := Z209.out; have := Z220.out; have := Z237.out; omega))
  clear K235
  have Z251 := Lib.hid (Kin.size Q243.out)
  have K252 := Lib.hid (Kept.refl [] w15)
  have hm0 : decide ((1 : Int) + (dkLen d : Nat) < 0) = false := dec_not (by omega)
  have hmm : ((1 : Int) + (dkLen d : Nat) != (1 : Int) + (dkLen d : Nat)) = false := by simp
  obtain ⟨c253, c254, c255, c256⟩ := (F244.out.stay K252.out).four
  go_wp2_with fail
  refine (heldDesk_any 1 (by omega) d (by have := HLG.out; omega) _ _ _ _ (M242.out.stay K252.out)).mono ?_
  rintro e w16 ⟨rfl, hk⟩
  clear c253 c254 c255 c256
  have K257 := Lib.hid (K245.out.trans hk (by simp))
  clear K245
  have K258 := Lib.hid (K246.out.trans hk (by simp))
  clear K246
  have K259 := Lib.hid (K247.out.trans hk (by simp))
  clear K247
  have K260 := Lib.hid (K248.out.trans hk (by simp))
  clear K248
  have K261 := Lib.hid (K249.out.trans hk (by simp))
  clear K249
  have K262 := Lib.hid (K250.out.trans hk (by simp))
  clear K250
  have K263 := Lib.hid (K252.out.trans hk (by simp))
  clear K252
  have Z264 := Lib.hid (Kept.size (rows := []) hk)
  clear hk
  obtain ⟨c265, c266, c267, c268⟩ := (B3.out.stay K258.out).four
  go_wp2_with fail
  refine (toDesk_dm d0 HLE.out _ _ (HA.out.stay K257.out)).mono ?_
  rintro e w17 ⟨y269, rfl, hp, hk⟩
  clear c265 c266 c267 c268
  have P270 := Lib.hid (hp)
  have K271 := Lib.hid (K257.out.trans hk (by simp))
  clear K257
  have K272 := Lib.hid (K258.out.trans hk (by simp))
  clear K258
  have K273 := Lib.hid (K259.out.trans hk (by simp))
  clear K259
  have K274 := Lib.hid (K260.out.trans hk (by simp))
  clear K260
  have K275 := Lib.hid (K261.out.trans hk (by simp))
  clear K261
  have K276 := Lib.hid (K262.out.trans hk (by simp))
  clear K262
  have K277 := Lib.hid (K263.out.trans hk (by simp))
  clear K263
  have Z278 := Lib.hid (Kept.size (rows := []) hk)
  clear hk hp
  have K279 := Lib.hid (Kept.refl [] w17)
  go_wp2_with fail
  refine (toDeedS_dn ds HLD.out _ _ (HB.out.stay K271.out)).mono ?_
  rintro e w18 ⟨u280, rfl, hp, hk⟩
  have P281 := Lib.hid (hp)
  have K282 := Lib.hid (K271.out.trans hk (by simp))
  clear K271
  have K283 := Lib.hid (K272.out.trans hk (by simp))
  clear K272
  have K284 := Lib.hid (K273.out.trans hk (by simp))
  clear K273
  have K285 := Lib.hid (K274.out.trans hk (by simp))
  clear K274
  have K286 := Lib.hid (K275.out.trans hk (by simp))
  clear K275
  have K287 := Lib.hid (K276.out.trans hk (by simp))
  clear K276
  have K288 := Lib.hid (K277.out.trans hk (by simp))
  clear K277
  have K289 := Lib.hid (K279.out.trans hk (by simp))
  clear K279
  have Z290 := Lib.hid (Kept.size (rows := []) hk)
  clear hk hp
  have K291 := Lib.hid (Kept.refl [] w18)
  go_wp2_with fail
  refine (iDeskRun_any d0 ds _ _ _ (P270.out.stay K289.out).de (P281.out.stay K291.out).1.ds).mono ?_
  rintro e w19 ⟨y, rfl, hv, hk⟩
  rw [← HOK.out]
  rw [← HD.out] at hv
  have hdm := hv.dm
  have V292 := Lib.hid (hdm.1)
  clear hdm
  have K293 := Lib.hid (K282.out.trans hk (by simp))
  clear K282
  have K294 := Lib.hid (K283.out.trans hk (by simp))
  clear K283
  have K295 := Lib.hid (K284.out.trans hk (by simp))
  clear K284
  have K296 := Lib.hid (K285.out.trans hk (by simp))
  clear K285
  have K297 := Lib.hid (K286.out.trans hk (by simp))
  clear K286
  have K298 := Lib.hid (K287.out.trans hk (by simp))
  clear K287
  have K299 := Lib.hid (K288.out.trans hk (by simp))
  clear K288
  have K300 := Lib.hid (K289.out.trans hk (by simp))
  clear K289
  have K301 := Lib.hid (K291.out.trans hk (by simp))
  clear K291
  have Z302 := Lib.hid (Kept.size (rows := []) hk)
  clear hk
  have K303 := Lib.hid (Kept.refl [] w19)
  obtain ⟨a304, n304, q304, b304, m304, r304, d304, l304, s304, rfl⟩ := hv.dv.form
  clear hv
  have hka : Kept [] w19 (w19.alloc (.cells #[.slice a304 n304 q304, .int .i64 d.now.c, .slice b304 m304 r304, .slice d304 l304 s304] 32)) := (Kept.refl _ _).alloc _
  have B305 := Lib.hid (Bk.new w19 32 #[.slice a304 n304 q304, .int .i64 d.now.c, .slice b304 m304 r304, .slice d304 l304 s304])
  have Z306 := Lib.hid (show w19.heap.size + 1 ≤ (w19.alloc (.cells #[.slice a304 n304 q304, .int .i64 d.now.c, .slice b304 m304 r304, .slice d304 l304 s304] 32)).heap.size from by simp)
  have K307 := Lib.hid (K293.out.trans hka (by simp))
  clear K293
  have K308 := Lib.hid (K294.out.trans hka (by simp))
  clear K294
  have K309 := Lib.hid (K295.out.trans hka (by simp))
  clear K295
  have K310 := Lib.hid (K296.out.trans hka (by simp))
  clear K296
  have K311 := Lib.hid (K297.out.trans hka (by simp))
  clear K297
  have K312 := Lib.hid (K298.out.trans hka (by simp))
  clear K298
  have K313 := Lib.hid (K299.out.trans hka (by simp))
  clear K299
  have K314 := Lib.hid (K300.out.trans hka (by simp))
  clear K300
  have K315 := Lib.hid (K301.out.trans hka (by simp))
  clear K301
  have K316 := Lib.hid (K303.out.trans hka (by simp))
  clear K303
  have Z317 := Lib.hid (Kept.size (rows := []) hka)
  clear hka
  have K319 := Lib.hid (Kept.refl [] (w19.alloc (.cells #[.slice a304 n304 q304, .int .i64 d.now.c, .slice b304 m304 r304, .slice d304 l304 s304] 32)))
  obtain ⟨c320, c321, c322, c323⟩ := (B305.out.stay K319.out).four
  obtain ⟨c324, c325, c326, c327⟩ := (B44.out.stay K312.out).four
  go_wp2_with fail
  generalize (w19.alloc (.cells #[.slice a304 n304 q304, .int .i64 d.now.c, .slice b304 m304 r304, .slice d304 l304 s304] 32)) = W318 at *
  refine (eqDesk_dv d _ _ _ ⟨_, (V292.out.stay K316.out).dv⟩ ⟨_, (V36.out.stay K311.out).dv⟩).mono ?_
  rintro e w20 ⟨rfl, hk⟩
  clear c320 c321 c322 c323 c324 c325 c326 c327
  have K328 := Lib.hid (K307.out.trans hk (by simp))
  clear K307
  have K329 := Lib.hid (K308.out.trans hk (by simp))
  clear K308
  have K330 := Lib.hid (K309.out.trans hk (by simp))
  clear K309
  have K331 := Lib.hid (K310.out.trans hk (by simp))
  clear K310
  have K332 := Lib.hid (K311.out.trans hk (by simp))
  clear K311
  have K333 := Lib.hid (K312.out.trans hk (by simp))
  clear K312
  have K334 := Lib.hid (K313.out.trans hk (by simp))
  clear K313
  have K335 := Lib.hid (K314.out.trans hk (by simp))
  clear K314
  have K336 := Lib.hid (K315.out.trans hk (by simp))
  clear K315
  have K337 := Lib.hid (K316.out.trans hk (by simp))
  clear K316
  have K338 := Lib.hid (K319.out.trans hk (by simp))
  clear K319
  have Z339 := Lib.hid (Kept.size (rows := []) hk)
  clear hk
  obtain ⟨c340, c341, c342, c343⟩ := (F244.out.stay K334.out).four
  go_wp2_with fail
  refine (heldDesk_any 1 (by omega) d (by have := HLG.out; omega) _ _ _ _ (M242.out.stay K334.out)).mono ?_
  rintro e w21 ⟨rfl, hk⟩
  clear c340 c341 c342 c343
  have K344 := Lib.hid (K328.out.trans hk (by simp))
  clear K328
  have K345 := Lib.hid (K329.out.trans hk (by simp))
  clear K329
  have K346 := Lib.hid (K330.out.trans hk (by simp))
  clear K330
  have K347 := Lib.hid (K331.out.trans hk (by simp))
  clear K331
  have K348 := Lib.hid (K332.out.trans hk (by simp))
  clear K332
  have K349 := Lib.hid (K333.out.trans hk (by simp))
  clear K333
  have K350 := Lib.hid (K334.out.trans hk (by simp))
  clear K334
  have K351 := Lib.hid (K335.out.trans hk (by simp))
  clear K335
  have K352 := Lib.hid (K336.out.trans hk (by simp))
  clear K336
  have K353 := Lib.hid (K337.out.trans hk (by simp))
  clear K337
  have K354 := Lib.hid (K338.out.trans hk (by simp))
  clear K338
  have Z355 := Lib.hid (Kept.size (rows := []) hk)
  clear hk
  go_wp2
  go_ret
  exact ⟨rfl, K344.out⟩
end Go.Proofs.Ytofgfhfdmkcmcaa
