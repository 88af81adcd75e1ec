/-
  The walk of an exact law: DeskNew of the program answers as its model does.
-/
import Derived.Test.YtofgfhfdmkcmcaaE7
import Derived.Test.YtofgfhfdmkcmcaaIP9
namespace Go.Proofs.Ytofgfhfdmkcmcaa
open Go.RowKit

set_option maxHeartbeats 8000000 in
set_option maxRecDepth 100000 in
theorem ExactDeskNew_calls (p : Nt.Pi) (w : World) (x : Value) (h : ArgPl w x p) :
    Calls Try.prog 10 #[x] w fun e w' => e = .returned (.bool true) ∧ Kept [] w w' := by
  have HA := Lib.hid h
  obtain ⟨a1, n1, q1, b1, m1, r1, rfl⟩ := h.form
  clear h
  obtain ⟨d, hd⟩ : ∃ d, d = Nt.dnew p := ⟨_, rfl⟩
  obtain ⟨ok, hok⟩ : ∃ ok, ok = Nt.plB p := ⟨_, rfl⟩
  have HD := Lib.hid hd
  have HOK := Lib.hid hok
  have hxx : (ok != ok) = false := by cases ok <;> rfl
  clear hd hok
  have K2 := Lib.hid (Kept.refl [] w)
  have hka : Kept [] w (w.alloc (.cells #[.slice a1 n1 q1, .int .i64 p.c, .slice b1 m1 r1] 51)) := (Kept.refl _ _).alloc _
  have B3 := Lib.hid (Bk.new w 51 #[.slice a1 n1 q1, .int .i64 p.c, .slice b1 m1 r1])
  have Z4 := Lib.hid (show w.heap.size + 1 ≤ (w.alloc (.cells #[.slice a1 n1 q1, .int .i64 p.c, .slice b1 m1 r1] 51)).heap.size from by simp)
  have K5 := Lib.hid (K2.out.trans hka (by simp))
  clear K2
  have Z6 := Lib.hid (Kept.size (rows := []) hka)
  clear hka
  have K8 := Lib.hid (Kept.refl [] (w.alloc (.cells #[.slice a1 n1 q1, .int .i64 p.c, .slice b1 m1 r1] 51)))
  go_enter Try.func10, Try.ntmps10
  obtain ⟨c9, c10, c11⟩ := (B3.out.stay K8.out).three
  go_wp2_with fail
  generalize (w.alloc (.cells #[.slice a1 n1 q1, .int .i64 p.c, .slice b1 m1 r1] 51)) = W7 at *
  refine (szPlace_pn p _ _ (HA.out.stay K5.out)).mono ?_
  rintro e w1 ⟨r, rfl, hr, hk⟩
  clear c9 c10 c11
  have K12 := Lib.hid (K5.out.trans hk (by simp))
  clear K5
  have K13 := Lib.hid (K8.out.trans hk (by simp))
  clear K8
  have Z14 := Lib.hid (Kept.size (rows := []) hk)
  clear hk
  by_cases hn : r < 0
  · have hd : decide (r < 0) = true := dec_of hn
    clear hn
    go_wp2
    go_ret
    exact ⟨rfl, K12.out⟩
  have hd : decide (r < 0) = false := dec_not hn
  have HLE : Hid (plLen p ≤ 1048576) := Lib.hid (hr.out hn)
  clear hn hr
  obtain ⟨c15, c16, c17⟩ := (B3.out.stay K13.out).three
  go_wp2_with fail
  refine (toPlace_pn p HLE.out _ _ (HA.out.stay K12.out)).mono ?_
  rintro e w2 ⟨y18, rfl, hp, hk⟩
  clear c15 c16 c17
  have P19 := Lib.hid (hp)
  have K20 := Lib.hid (K12.out.trans hk (by simp))
  clear K12
  have K21 := Lib.hid (K13.out.trans hk (by simp))
  clear K13
  have Z22 := Lib.hid (Kept.size (rows := []) hk)
  clear hk hp
  have K23 := Lib.hid (Kept.refl [] w2)
  go_wp2_with fail
  refine (sDeskNew_any p _ _ _ (P19.out.stay K23.out).pv).mono ?_
  rintro e w3 ⟨y, rfl, hv, hk⟩
  rw [← HOK.out]
  rw [← HD.out] at hv
  have V24 := Lib.hid (hv)
  have K25 := Lib.hid (K20.out.trans hk (by simp))
  clear K20
  have K26 := Lib.hid (K21.out.trans hk (by simp))
  clear K21
  have K27 := Lib.hid (K23.out.trans hk (by simp))
  clear K23
  have Z28 := Lib.hid (Kept.size (rows := []) hk)
  clear hk
  have K29 := Lib.hid (Kept.refl [] w3)
  obtain ⟨a30, n30, q30, b30, m30, r30, d30, l30, s30, rfl⟩ := hv.form
  clear hv
  have hka : Kept [] w3 (w3.alloc (.cells #[.slice a30 n30 q30, .int .i64 d.now.c, .slice b30 m30 r30, .slice d30 l30 s30] 32)) := (Kept.refl _ _).alloc _
  have B31 := Lib.hid (Bk.new w3 32 #[.slice a30 n30 q30, .int .i64 d.now.c, .slice b30 m30 r30, .slice d30 l30 s30])
  have Z32 := Lib.hid (show w3.heap.size + 1 ≤ (w3.alloc (.cells #[.slice a30 n30 q30, .int .i64 d.now.c, .slice b30 m30 r30, .slice d30 l30 s30] 32)).heap.size from by simp)
  have K33 := Lib.hid (K25.out.trans hka (by simp))
  clear K25
  have K34 := Lib.hid (K26.out.trans hka (by simp))
  clear K26
  have K35 := Lib.hid (K27.out.trans hka (by simp))
  clear K27
  have K36 := Lib.hid (K29.out.trans hka (by simp))
  clear K29
  have Z37 := Lib.hid (Kept.size (rows := []) hka)
  clear hka
  have K39 := Lib.hid (Kept.refl [] (w3.alloc (.cells #[.slice a30 n30 q30, .int .i64 d.now.c, .slice b30 m30 r30, .slice d30 l30 s30] 32)))
  obtain ⟨c40, c41, c42⟩ := (B3.out.stay K34.out).three
  go_wp2_with fail
  generalize (w3.alloc (.cells #[.slice a30 n30 q30, .int .i64 d.now.c, .slice b30 m30 r30, .slice d30 l30 s30] 32)) = W38 at *
  refine (toPlace_pn p HLE.out _ _ (HA.out.stay K33.out)).mono ?_
  rintro e w4 ⟨y43, rfl, hp, hk⟩
  clear c40 c41 c42
  have P44 := Lib.hid (hp)
  have K45 := Lib.hid (K33.out.trans hk (by simp))
  clear K33
  have K46 := Lib.hid (K34.out.trans hk (by simp))
  clear K34
  have K47 := Lib.hid (K35.out.trans hk (by simp))
  clear K35
  have K48 := Lib.hid (K36.out.trans hk (by simp))
  clear K36
  have K49 := Lib.hid (K39.out.trans hk (by simp))
  clear K39
  have Z50 := Lib.hid (Kept.size (rows := []) hk)
  clear hk hp
  have K51 := Lib.hid (Kept.refl [] w4)
  obtain ⟨a52, n52, q52, b52, m52, r52, rfl⟩ := P44.out.pv.form
  have hka : Kept [] w4 (w4.alloc (.cells #[.slice a52 n52 q52, .int .i64 p.c, .slice b52 m52 r52] 25)) := (Kept.refl _ _).alloc _
  have B53 := Lib.hid (Bk.new w4 25 #[.slice a52 n52 q52, .int .i64 p.c, .slice b52 m52 r52])
  have Z54 := Lib.hid (show w4.heap.size + 1 ≤ (w4.alloc (.cells #[.slice a52 n52 q52, .int .i64 p.c, .slice b52 m52 r52] 25)).heap.size from by simp)
  have K55 := Lib.hid (K45.out.trans hka (by simp))
  clear K45
  have K56 := Lib.hid (K46.out.trans hka (by simp))
  clear K46
  have K57 := Lib.hid (K47.out.trans hka (by simp))
  clear K47
  have K58 := Lib.hid (K48.out.trans hka (by simp))
  clear K48
  have K59 := Lib.hid (K49.out.trans hka (by simp))
  clear K49
  have K60 := Lib.hid (K51.out.trans hka (by simp))
  clear K51
  have Z61 := Lib.hid (Kept.size (rows := []) hka)
  clear hka
  have K63 := Lib.hid (Kept.refl [] (w4.alloc (.cells #[.slice a52 n52 q52, .int .i64 p.c, .slice b52 m52 r52] 25)))
  obtain ⟨c64, c65, c66⟩ := (B53.out.stay K63.out).three
  go_wp2_with fail
  generalize (w4.alloc (.cells #[.slice a52 n52 q52, .int .i64 p.c, .slice b52 m52 r52] 25)) = W62 at *
  refine (iDeskNew_any p _ _ _ (P44.out.stay K60.out).pv).mono ?_
  rintro e w5 ⟨y, rfl, hv, hk⟩
  clear c64 c65 c66
  rw [← HOK.out]
  rw [← HD.out] at hv
  have hdm := hv.dm
  have V67 := Lib.hid (hdm.1)
  have HLG := Lib.hid hdm.2
  clear hdm
  have K68 := Lib.hid (K55.out.trans hk (by simp))
  clear K55
  have K69 := Lib.hid (K56.out.trans hk (by simp))
  clear K56
  have K70 := Lib.hid (K57.out.trans hk (by simp))
  clear K57
  have K71 := Lib.hid (K58.out.trans hk (by simp))
  clear K58
  have K72 := Lib.hid (K59.out.trans hk (by simp))
  clear K59
  have K73 := Lib.hid (K60.out.trans hk (by simp))
  clear K60
  have K74 := Lib.hid (K63.out.trans hk (by simp))
  clear K63
  have Z75 := Lib.hid (Kept.size (rows := []) hk)
  clear hk
  have K76 := Lib.hid (Kept.refl [] w5)
  obtain ⟨a77, n77, q77, b77, m77, r77, d77, l77, s77, rfl⟩ := hv.dv.form
  clear hv
  have hka : Kept [] w5 (w5.alloc (.cells #[.slice a77 n77 q77, .int .i64 d.now.c, .slice b77 m77 r77, .slice d77 l77 s77] 32)) := (Kept.refl _ _).alloc _
  have B78 := Lib.hid (Bk.new w5 32 #[.slice a77 n77 q77, .int .i64 d.now.c, .slice b77 m77 r77, .slice d77 l77 s77])
  have Z79 := Lib.hid (show w5.heap.size + 1 ≤ (w5.alloc (.cells #[.slice a77 n77 q77, .int .i64 d.now.c, .slice b77 m77 r77, .slice d77 l77 s77] 32)).heap.size from by simp)
  have K80 := Lib.hid (K68.out.trans hka (by simp))
  clear K68
  have K81 := Lib.hid (K69.out.trans hka (by simp))
  clear K69
  have K82 := Lib.hid (K70.out.trans hka (by simp))
  clear K70
  have K83 := Lib.hid (K71.out.trans hka (by simp))
  clear K71
  have K84 := Lib.hid (K72.out.trans hka (by simp))
  clear K72
  have K85 := Lib.hid (K73.out.trans hka (by simp))
  clear K73
  have K86 := Lib.hid (K74.out.trans hka (by simp))
  clear K74
  have K87 := Lib.hid (K76.out.trans hka (by simp))
  clear K76
  have Z88 := Lib.hid (Kept.size (rows := []) hka)
  clear hka
  have K90 := Lib.hid (Kept.refl [] (w5.alloc (.cells #[.slice a77 n77 q77, .int .i64 d.now.c, .slice b77 m77 r77, .slice d77 l77 s77] 32)))
  obtain ⟨c91, c92, c93, c94⟩ := (B78.out.stay K90.out).four
  obtain ⟨c95, c96, c97, c98⟩ := (B31.out.stay K84.out).four
  go_wp2_with fail
  generalize (w5.alloc (.cells #[.slice a77 n77 q77, .int .i64 d.now.c, .slice b77 m77 r77, .slice d77 l77 s77] 32)) = W89 at *
  refine (eqDesk_dv d _ _ _ ⟨_, (V67.out.stay K87.out).dv⟩ ⟨_, (V24.out.stay K83.out)⟩).mono ?_
  rintro e w6 ⟨rfl, hk⟩
  clear c91 c92 c93 c94 c95 c96 c97 c98
  have K99 := Lib.hid (K80.out.trans hk (by simp))
  clear K80
  have K100 := Lib.hid (K81.out.trans hk (by simp))
  clear K81
  have K101 := Lib.hid (K82.out.trans hk (by simp))
  clear K82
  have K102 := Lib.hid (K83.out.trans hk (by simp))
  clear K83
  have K103 := Lib.hid (K84.out.trans hk (by simp))
  clear K84
  have K104 := Lib.hid (K85.out.trans hk (by simp))
  clear K85
  have K105 := Lib.hid (K86.out.trans hk (by simp))
  clear K86
  have K106 := Lib.hid (K87.out.trans hk (by simp))
  clear K87
  have K107 := Lib.hid (K90.out.trans hk (by simp))
  clear K90
  have Z108 := Lib.hid (Kept.size (rows := []) hk)
  clear hk
  go_wp2_with fail
  have S109 : Hid (∀ w', Kept [] w6 w' → w'.cell? ⟨w4.heap.size, 0, none⟩ = some (.slice a52 n52 q52) ∧ w'.cell? ⟨w4.heap.size, 1, none⟩ = some (.int .i64 p.c) ∧ w'.cell? ⟨w4.heap.size, 2, none⟩ = some (.slice b52 m52 r52) ∧ w'.cell? ⟨w.heap.size, 0, none⟩ = some (.slice a1 n1 q1) ∧ w'.cell? ⟨w.heap.size, 1, none⟩ = some (.int .i64 p.c) ∧ w'.cell? ⟨w.heap.size, 2, none⟩ = some (.slice b1 m1 r1)) := Lib.hid (fun w' k' => ⟨((B53.out.stay K105.out).stay k').three.1, ((B53.out.stay K105.out).stay k').three.2.1, ((B53.out.stay K105.out).stay k').three.2.2, ((B3.out.stay K100.out).stay k').three.1, ((B3.out.stay K100.out).stay k').three.2.1, ((B3.out.stay K100.out).stay k').three.2.2⟩)
  have T110 : Hid (∀ W, Kept [] w6 W → Calls Try.prog 34 #[.agg #[.slice a1 n1 q1, .int .i64 p.c, .slice b1 m1 r1]] W fun e w' => ∃ y, e = .returned y ∧ Hid (∃ b, Pv w' b y p) ∧ Kept [] w6 w') := Lib.hid (fun W k => (toPlace_pn p HLE.out W _ ((HA.out.stay K99.out).stay k)).mono (by rintro e w' ⟨y, rfl, hp, hk⟩; exact ⟨y, rfl, Lib.hid ⟨_, hp.pv⟩, k.trans hk (by simp)⟩))
  have E111 : Hid (∀ W y, Kept [] w6 W → (∃ b, Pv W b y p) → Calls Try.prog 35 #[.agg #[.slice a52 n52 q52, .int .i64 p.c, .slice b52 m52 r52], y] W fun e w' => e = .returned (.bool true) ∧ Kept [] w6 w') := Lib.hid (fun W y k h => (eqPlace_pv p W _ y ⟨_, ((P44.out.stay K104.out).stay k).pv⟩ h).mono (by rintro e w' ⟨rfl, hk⟩; exact ⟨rfl, k.trans hk (by simp)⟩))
  go_region_held3 (fun w' => w'.cell? ⟨w4.heap.size, 0, none⟩ = some (.slice a52 n52 q52) ∧ w'.cell? ⟨w4.heap.size, 1, none⟩ = some (.int .i64 p.c) ∧ w'.cell? ⟨w4.heap.size, 2, none⟩ = some (.slice b52 m52 r52) ∧ w'.cell? ⟨w.heap.size, 0, none⟩ = some (.slice a1 n1 q1) ∧ w'.cell? ⟨w.heap.size, 1, none⟩ = some (.int .i64 p.c) ∧ w'.cell? ⟨w.heap.size, 2, none⟩ = some (.slice b1 m1 r1))
    ((refine S109.out _ ?_; repeat (first | exact Kept.refl _ _ | assumption | apply Kept.alloc | apply Kept.drew)))
    (first
    | (go_simp; go_at_call 34; refine (T110.out _ (by repeat (first | exact Kept.refl _ _ | assumption | apply Kept.alloc | apply Kept.drew))).mono ?_; rintro e wa112 ⟨ya113, rfl, HY114, ka115⟩)
    | (refine (T110.out _ (by repeat (first | exact Kept.refl _ _ | assumption | apply Kept.alloc | apply Kept.drew))).mono ?_; rintro e wa112 ⟨ya113, rfl, HY114, ka115⟩)
    | (go_simp; go_at_call 35; refine (E111.out _ _ (by repeat (first | exact Kept.refl _ _ | assumption | apply Kept.alloc | apply Kept.drew)) (by obtain ⟨bb, hb⟩ := HY114.out; exact ⟨bb, hb.stay (by repeat (first | exact Kept.refl _ _ | apply Kept.alloc | apply Kept.drew))⟩)).mono ?_; rintro e wb116 ⟨rfl, kb117⟩)
    | (refine (E111.out _ _ (by repeat (first | exact Kept.refl _ _ | assumption | apply Kept.alloc | apply Kept.drew)) (by obtain ⟨bb, hb⟩ := HY114.out; exact ⟨bb, hb.stay (by repeat (first | exact Kept.refl _ _ | apply Kept.alloc | apply Kept.drew))⟩)).mono ?_; rintro e wb116 ⟨rfl, kb117⟩))
  clear S109 T110 E111 HY114 ka115
  have K118 := Lib.hid (K99.out.trans kb117 (by simp))
  clear K99
  have K119 := Lib.hid (K100.out.trans kb117 (by simp))
  clear K100
  have K120 := Lib.hid (K101.out.trans kb117 (by simp))
  clear K101
  have K121 := Lib.hid (K102.out.trans kb117 (by simp))
  clear K102
  have K122 := Lib.hid (K103.out.trans kb117 (by simp))
  clear K103
  have K123 := Lib.hid (K104.out.trans kb117 (by simp))
  clear K104
  have K124 := Lib.hid (K105.out.trans kb117 (by simp))
  clear K105
  have K125 := Lib.hid (K106.out.trans kb117 (by simp))
  clear K106
  have K126 := Lib.hid (K107.out.trans kb117 (by simp))
  clear K107
  have Z127 := Lib.hid (Kept.size (rows := []) kb117)
  clear kb117
  obtain ⟨c128, c129, c130⟩ := (B53.out.stay K124.out).three
  go_wp2_with fail
  refine (markPlace_pn (1) (by omega) p (by have := HLE.out; omega) _ _ _ _ (P44.out.stay K123.out)).mono ?_
  rintro e w7 ⟨rfl, hp, hk⟩
  clear c128 c129 c130
  have M131 := Lib.hid (hp)
  have Q132 := Lib.hid (hk)
  clear hp hk
  clear M131
  have F133 := Lib.hid ((V67.out.stay K125.out).kin Q132.out (by have := Z6.out; have := Z4.out; have := Z14.out; have := Z22.out; have := Z28.out; have := Z37.out; have := Z32.out; have := Z50.out; have := Z61.out; have := Z54.out; have := Z75.out; have := Z88.out; have := Z79.out; have := Z108.out; have := Z127.out; omega))
  have F134 := Lib.hid ((B78.out.stay K126.out).kin Q132.out (.inr (by have := Z6.out; have := Z4.out; have := Z14.out; have := Z22.out; have := Z28.out; have := Z37.out; have := Z32.out; have := Z50.out; have := Z61.out; have := Z54.out; have := Z75.out; have := Z88.out; have := Z79.out; have := Z108.out; have := Z127.out; omega)))
  have K135 := Lib.hid (K118.out.kin Q132.out (by have := Z6.out; have := Z4.out; have := Z14.out; have := Z22.out; have := Z28.out; have := Z37.out; have := Z32.out; have := Z50.out; have := Z61.out; have := Z54.out; have := Z75.out; have := Z88.out; have := Z79.out; have := Z108.out; have := Z127.out; omega))
  clear K118
  have K136 := Lib.hid (K119.out.kin Q132.out (by have := Z6.out; have := Z4.out; have := Z14.out; have := Z22.out; have := Z28.out; have := Z37.out; have := Z32.out; have := Z50.out; have := Z61.out; have := Z54.out; have := Z75.out; have := Z88.out; have := Z79.out; have := Z108.out; have := Z127.out; omega))
  clear K119
  have K137 := Lib.hid (K120.out.kin Q132.out (by have := Z6.out; have := Z4.out; have := Z14.out; have := Z22.out; have := Z28.out; have := Z37.out; have := Z32.out; have := Z50.out; have := Z61.out; have := Z54.out; have := Z75.out; have := Z88.out; have := Z79.out; have := Z108.out; have := Z127.out; omega))
  clear K120
  have K138 := Lib.hid (K121.out.kin Q132.out (by have := Z6.out; have := Z4.out; have := Z14.out; have := Z22.out; have := Z28.out; have := Z37.out; have := Z32.out; have := Z50.out; have := Z61.out; have := Z54.out; have := Z75.out; have := Z88.out; have := Z79.out; have := Z108.out; have := Z127.out; omega))
  clear K121
  have K139 := Lib.hid (K122.out.kin Q132.out (by have := Z6.out; have := Z4.out; have := Z14.out; have := Z22.out; have := Z28.out; have := Z37.out; have := Z32.out; have := Z50.out; have := Z61.out; have := Z54.out; have := Z75.out; have := Z88.out; have := Z79.out; have := Z108.out; have := Z127.out; omega))
  clear K122
  have Z140 := Lib.hid (Kin.size Q132.out)
  have K141 := Lib.hid (Kept.refl [] w7)
  have hk0 : decide ((1 : Int) + (plLen p : Nat) < 0) = false := dec_not (by omega)
  obtain ⟨c142, c143, c144, c145⟩ := (F134.out.stay K141.out).four
  obtain ⟨c146, c147, c148, c149⟩ := (B31.out.stay K139.out).four
  go_wp2_with fail
  refine (eqDesk_dv d _ _ _ ⟨_, (F133.out.stay K141.out).dv⟩ ⟨_, (V24.out.stay K138.out)⟩).mono ?_
  rintro e w8 ⟨rfl, hk⟩
  clear c142 c143 c144 c145 c146 c147 c148 c149
  have K150 := Lib.hid (K135.out.trans hk (by simp))
  clear K135
  have K151 := Lib.hid (K136.out.trans hk (by simp))
  clear K136
  have K152 := Lib.hid (K137.out.trans hk (by simp))
  clear K137
  have K153 := Lib.hid (K138.out.trans hk (by simp))
  clear K138
  have K154 := Lib.hid (K139.out.trans hk (by simp))
  clear K139
  have K155 := Lib.hid (K141.out.trans hk (by simp))
  clear K141
  have Z156 := Lib.hid (Kept.size (rows := []) hk)
  clear hk
  obtain ⟨c157, c158, c159, c160⟩ := (F134.out.stay K155.out).four
  go_wp2_with fail
  refine (markDesk_any (1) (by omega) d (by have := HLG.out; omega) _ _ _ _ (F133.out.stay K155.out)).mono ?_
  rintro e w9 ⟨rfl, hp, hk⟩
  clear c157 c158 c159 c160
  have M161 := Lib.hid (hp)
  have Q162 := Lib.hid (hk)
  clear hp hk
  have F163 := Lib.hid ((F134.out.stay K155.out).kin Q162.out (.inr (by have := Z6.out; have := Z4.out; have := Z14.out; have := Z22.out; have := Z28.out; have := Z37.out; have := Z32.out; have := Z50.out; have := Z61.out; have := Z54.out; have := Z75.out; have := Z88.out; have := Z79.out; have := Z108.out; have := Z127.out; have := Z140.out; have := Z156.out; omega)))
  have K164 := Lib.hid (K150.out.kin Q162.out (by have := Z6.out; have := Z4.out; have := Z14.out; have := Z22.out; have := Z28.out; have := Z37.out; have := Z32.out; have := Z50.out; have := Z61.out; have := Z54.out; have := Z75.out; have := Z88.out; have := Z79.out; have := Z108.out; have := Z127.out; have := Z140.out; have := Z156.out; omega))
  clear K150
  have K165 := Lib.hid (K151.out.kin Q162.out (by have := Z6.out; have := Z4.out; have := Z14.out; have := Z22.out; have := Z28.out; have := Z37.out; have := Z32.out; have := Z50.out; have := Z61.out; have := Z54.out; have := Z75.out; have := Z88.out; have := Z79.out; have := Z108.out; have := Z127.out; have := Z140.out; have := Z156.out; omega))
  clear K151
  have K166 := Lib.hid (K152.out.kin Q162.out (by have := Z6.out; have := Z4.out; have := Z14.out; have := Z22.out; have := Z28.out; have := Z37.out; have := Z32.out; have := Z50.out; have := Z61.out; have := Z54.out; have := Z75.out; have := Z88.out; have := Z79.out; have := Z108.out; have := Z127.out; have := Z140.out; have := Z156.out; omega))
  clear K152
  have K167 := Lib.hid (K153.out.kin Q162.out (by have := Z6.out; have := Z4.out; have := Z14.out; have := Z22.out; have := Z28.out; have := Z37.out; have := Z32.out; have := Z50.out; have := Z61.out; have := Z54.out; have := Z75.out; have := Z88.out; have := Z79.out; have := Z108.out; have := Z127.out; have := Z140.out; have := Z156.out; omega))
  clear K153
  have K168 := Lib.hid (K154.out.kin Q162.out (by have := Z6.out; have := Z4.out; have := Z14.out; have := Z22.out; have := Z28.out; have := Z37.out; have := Z32.out; have := Z50.out; have := Z61.out; have := Z54.out; have := Z75.out; have := Z88.out; have := Z79.out; have := Z108.out; have := Z127.out; have := Z140.out; have := Z156.out; omega))
  clear K154
  have Z169 := Lib.hid (Kin.size Q162.out)
  have K170 := Lib.hid (Kept.refl [] w9)
  have hm0 : decide ((1 : Int) + (dkLen d : Nat) < 0) = false := dec_not (by omega)
  have hmm : ((1 : Int) + (dkLen d : Nat) != (1 : Int) + (dkLen d : Nat)) = false := by simp
  obtain ⟨c171, c172, c173, c174⟩ := (F163.out.stay K170.out).four
  go_wp2_with fail
  refine (heldDesk_any 1 (by omega) d (by have := HLG.out; omega) _ _ _ _ (M161.out.stay K170.out)).mono ?_
  rintro e w10 ⟨rfl, hk⟩
  clear c171 c172 c173 c174
  have K175 := Lib.hid (K164.out.trans hk (by simp))
  clear K164
  have K176 := Lib.hid (K165.out.trans hk (by simp))
  clear K165
  have K177 := Lib.hid (K166.out.trans hk (by simp))
  clear K166
  have K178 := Lib.hid (K167.out.trans hk (by simp))
  clear K167
  have K179 := Lib.hid (K168.out.trans hk (by simp))
  clear K168
  have K180 := Lib.hid (K170.out.trans hk (by simp))
  clear K170
  have Z181 := Lib.hid (Kept.size (rows := []) hk)
  clear hk
  obtain ⟨c182, c183, c184⟩ := (B3.out.stay K176.out).three
  go_wp2_with fail
  refine (toPlace_pn p HLE.out _ _ (HA.out.stay K175.out)).mono ?_
  rintro e w11 ⟨y185, rfl, hp, hk⟩
  clear c182 c183 c184
  have P186 := Lib.hid (hp)
  have K187 := Lib.hid (K175.out.trans hk (by simp))
  clear K175
  have K188 := Lib.hid (K176.out.trans hk (by simp))
  clear K176
  have K189 := Lib.hid (K177.out.trans hk (by simp))
  clear K177
  have K190 := Lib.hid (K178.out.trans hk (by simp))
  clear K178
  have K191 := Lib.hid (K179.out.trans hk (by simp))
  clear K179
  have K192 := Lib.hid (K180.out.trans hk (by simp))
  clear K180
  have Z193 := Lib.hid (Kept.size (rows := []) hk)
  clear hk hp
  have K194 := Lib.hid (Kept.refl [] w11)
  go_wp2_with fail
  refine (iDeskNew_any p _ _ _ (P186.out.stay K194.out).pv).mono ?_
  rintro e w12 ⟨y, rfl, hv, hk⟩
  rw [← HOK.out]
  rw [← HD.out] at hv
  have hdm := hv.dm
  have V195 := Lib.hid (hdm.1)
  clear hdm
  have K196 := Lib.hid (K187.out.trans hk (by simp))
  clear K187
  have K197 := Lib.hid (K188.out.trans hk (by simp))
  clear K188
  have K198 := Lib.hid (K189.out.trans hk (by simp))
  clear K189
  have K199 := Lib.hid (K190.out.trans hk (by simp))
  clear K190
  have K200 := Lib.hid (K191.out.trans hk (by simp))
  clear K191
  have K201 := Lib.hid (K192.out.trans hk (by simp))
  clear K192
  have K202 := Lib.hid (K194.out.trans hk (by simp))
  clear K194
  have Z203 := Lib.hid (Kept.size (rows := []) hk)
  clear hk
  have K204 := Lib.hid (Kept.refl [] w12)
  obtain ⟨a205, n205, q205, b205, m205, r205, d205, l205, s205, rfl⟩ := hv.dv.form
  clear hv
  have hka : Kept [] w12 (w12.alloc (.cells #[.slice a205 n205 q205, .int .i64 d.now.c, .slice b205 m205 r205, .slice d205 l205 s205] 32)) := (Kept.refl _ _).alloc _
  have B206 := Lib.hid (Bk.new w12 32 #[.slice a205 n205 q205, .int .i64 d.now.c, .slice b205 m205 r205, .slice d205 l205 s205])
  have Z207 := Lib.hid (show w12.heap.size + 1 ≤ (w12.alloc (.cells #[.slice a205 n205 q205, .int .i64 d.now.c, .slice b205 m205 r205, .slice d205 l205 s205] 32)).heap.size from by simp)
  have K208 := Lib.hid (K196.out.trans hka (by simp))
  clear K196
  have K209 := Lib.hid (K197.out.trans hka (by simp))
  clear K197
  have K210 := Lib.hid (K198.out.trans hka (by simp))
  clear K198
  have K211 := Lib.hid (K199.out.trans hka (by simp))
  clear K199
  have K212 := Lib.hid (K200.out.trans hka (by simp))
  clear K200
  have K213 := Lib.hid (K201.out.trans hka (by simp))
  clear K201
  have K214 := Lib.hid (K202.out.trans hka (by simp))
  clear K202
  have K215 := Lib.hid (K204.out.trans hka (by simp))
  clear K204
  have Z216 := Lib.hid (Kept.size (rows := []) hka)
  clear hka
  have K218 := Lib.hid (Kept.refl [] (w12.alloc (.cells #[.slice a205 n205 q205, .int .i64 d.now.c, .slice b205 m205 r205, .slice d205 l205 s205] 32)))
  obtain ⟨c219, c220, c221, c222⟩ := (B206.out.stay K218.out).four
  obtain ⟨c223, c224, c225, c226⟩ := (B31.out.stay K212.out).four
  go_wp2_with fail
  generalize (w12.alloc (.cells #[.slice a205 n205 q205, .int .i64 d.now.c, .slice b205 m205 r205, .slice d205 l205 s205] 32)) = W217 at *
  refine (eqDesk_dv d _ _ _ ⟨_, (V195.out.stay K215.out).dv⟩ ⟨_, (V24.out.stay K211.out)⟩).mono ?_
  rintro e w13 ⟨rfl, hk⟩
  clear c219 c220 c221 c222 c223 c224 c225 c226
  have K227 := Lib.hid (K208.out.trans hk (by simp))
  clear K208
  have K228 := Lib.hid (K209.out.trans hk (by simp))
  clear K209
  have K229 := Lib.hid (K210.out.trans hk (by simp))
  clear K210
  have K230 := Lib.hid (K211.out.trans hk (by simp))
  clear K211
  have K231 := Lib.hid (K212.out.trans hk (by simp))
  clear K212
  have K232 := Lib.hid (K213.out.trans hk (by simp))
  clear K213
  have K233 := Lib.hid (K214.out.trans hk (by simp))
  clear K214
  have K234 := Lib.hid (K215.out.trans hk (by simp))
  clear K215
  have K235 := Lib.hid (K218.out.trans hk (by simp))
  clear K218
  have Z236 := Lib.hid (Kept.size (rows := []) hk)
  clear hk
  obtain ⟨c237, c238, c239, c240⟩ := (F163.out.stay K232.out).four
  go_wp2_with fail
  refine (heldDesk_any 1 (by omega) d (by have := HLG.out; omega) _ _ _ _ (M161.out.stay K232.out)).mono ?_
  rintro e w14 ⟨rfl, hk⟩
  clear c237 c238 c239 c240
  have K241 := Lib.hid (K227.out.trans hk (by simp))
  clear K227
  have K242 := Lib.hid (K228.out.trans hk (by simp))
  clear K228
  have K243 := Lib.hid (K229.out.trans hk (by simp))
  clear K229
  have K244 := Lib.hid (K230.out.trans hk (by simp))
  clear K230
  have K245 := Lib.hid (K231.out.trans hk (by simp))
  clear K231
  have K246 := Lib.hid (K232.out.trans hk (by simp))
  clear K232
  have K247 := Lib.hid (K233.out.trans hk (by simp))
  clear K233
  have K248 := Lib.hid (K234.out.trans hk (by simp))
  clear K234
  have K249 := Lib.hid (K235.out.trans hk (by simp))
  clear K235
  have Z250 := Lib.hid (Kept.size (rows := []) hk)
  clear hk
  go_wp2
  go_ret
  exact ⟨rfl, K241.out⟩
end Go.Proofs.Ytofgfhfdmkcmcaa
