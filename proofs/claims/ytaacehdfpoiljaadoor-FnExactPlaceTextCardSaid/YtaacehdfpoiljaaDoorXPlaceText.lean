/-
  The walk of an exact law: PlaceText of the program answers as its model does.
-/
import Derived.Test.YtaacehdfpoiljaaDoorEP
import Derived.Test.YtaacehdfpoiljaaDoorPV2
import Derived.Test.YtaacehdfpoiljaaDoorIQ3
namespace Go.Proofs.YtaacehdfpoiljaaDoor
open Go.RowKit

set_option maxHeartbeats 8000000 in
set_option maxRecDepth 100000 in
theorem ExactPlaceText_calls (p : Nt.Pi) (w : World) (x : Value) (h : ArgPl w x p) :
    Calls Tryd.prog 8 #[x] w fun e w' => e = .returned (.bool true) ∧ Kept [] w w' := by
  have HA := Lib.hid h
  obtain ⟨a1, n1, q1, b1, m1, r1, rfl⟩ := h.form
  clear h
  have K2 := Lib.hid (Kept.refl [] w)
  have hka : Kept [] w (w.alloc (.cells #[.slice a1 n1 q1, .int .i64 p.c, .slice b1 m1 r1] 47)) := (Kept.refl _ _).alloc _
  have B3 := Lib.hid (Bk.new w 47 #[.slice a1 n1 q1, .int .i64 p.c, .slice b1 m1 r1])
  have Z4 := Lib.hid (show w.heap.size + 1 ≤ (w.alloc (.cells #[.slice a1 n1 q1, .int .i64 p.c, .slice b1 m1 r1] 47)).heap.size from by simp)
  have K5 := Lib.hid (K2.out.trans hka (by simp))
  clear K2
  have Z6 := Lib.hid (Kept.size (rows := []) hka)
  clear hka
  have K8 := Lib.hid (Kept.refl [] (w.alloc (.cells #[.slice a1 n1 q1, .int .i64 p.c, .slice b1 m1 r1] 47)))
  go_enter Tryd.func8, Tryd.ntmps8
  obtain ⟨c9, c10, c11⟩ := (B3.out.stay K8.out).three
  go_wp2_with fail
  generalize (w.alloc (.cells #[.slice a1 n1 q1, .int .i64 p.c, .slice b1 m1 r1] 47)) = W7 at *
  refine (szPlace_pn p _ _ (HA.out.stay K5.out)).mono ?_
  rintro e w1 ⟨r, rfl, hr, hk⟩
  clear c9 c10 c11
  have K12 := Lib.hid (K5.out.trans hk (by simp))
  clear K5
  have K13 := Lib.hid (K8.out.trans hk (by simp))
  clear K8
  have Z14 := Lib.hid (Kept.size (rows := []) hk)
  clear hk
  by_cases hn : r < 0
  · have hd : decide (r < 0) = true := dec_of hn
    clear hn
    go_wp2
    go_ret
    exact ⟨rfl, K12.out⟩
  have hd : decide (r < 0) = false := dec_not hn
  have HLE : Hid (plLen p ≤ 1048576) := Lib.hid (hr.out hn)
  clear hn hr
  obtain ⟨c15, c16, c17⟩ := (B3.out.stay K13.out).three
  go_wp2_with fail
  refine (toPlace_pn p HLE.out _ _ (HA.out.stay K12.out)).mono ?_
  rintro e w2 ⟨y18, rfl, hp, hk⟩
  clear c15 c16 c17
  have P19 := Lib.hid (hp)
  have K20 := Lib.hid (K12.out.trans hk (by simp))
  clear K12
  have K21 := Lib.hid (K13.out.trans hk (by simp))
  clear K13
  have Z22 := Lib.hid (Kept.size (rows := []) hk)
  clear hk hp
  have K23 := Lib.hid (Kept.refl [] w2)
  go_wp2_with fail
  refine (sPlaceText_any p _ _ _ (P19.out.stay K23.out).pv).mono ?_
  rintro e w3 ⟨z1, rfl, hz, hk⟩
  have HZ := Lib.hid hz
  clear hz
  have K24 := Lib.hid (K20.out.trans hk (by simp))
  clear K20
  have K25 := Lib.hid (K21.out.trans hk (by simp))
  clear K21
  have K26 := Lib.hid (K23.out.trans hk (by simp))
  clear K23
  have Z27 := Lib.hid (Kept.size (rows := []) hk)
  clear hk
  obtain ⟨c28, c29, c30⟩ := (B3.out.stay K25.out).three
  go_wp2_with fail
  refine (toPlace_pn p HLE.out _ _ (HA.out.stay K24.out)).mono ?_
  rintro e w4 ⟨y31, rfl, hp, hk⟩
  clear c28 c29 c30
  have P32 := Lib.hid (hp)
  have K33 := Lib.hid (K24.out.trans hk (by simp))
  clear K24
  have K34 := Lib.hid (K25.out.trans hk (by simp))
  clear K25
  have K35 := Lib.hid (K26.out.trans hk (by simp))
  clear K26
  have Z36 := Lib.hid (Kept.size (rows := []) hk)
  clear hk hp
  have K37 := Lib.hid (Kept.refl [] w4)
  obtain ⟨a38, n38, q38, b38, m38, r38, rfl⟩ := P32.out.pv.form
  have hka : Kept [] w4 (w4.alloc (.cells #[.slice a38 n38 q38, .int .i64 p.c, .slice b38 m38 r38] 25)) := (Kept.refl _ _).alloc _
  have B39 := Lib.hid (Bk.new w4 25 #[.slice a38 n38 q38, .int .i64 p.c, .slice b38 m38 r38])
  have Z40 := Lib.hid (show w4.heap.size + 1 ≤ (w4.alloc (.cells #[.slice a38 n38 q38, .int .i64 p.c, .slice b38 m38 r38] 25)).heap.size from by simp)
  have K41 := Lib.hid (K33.out.trans hka (by simp))
  clear K33
  have K42 := Lib.hid (K34.out.trans hka (by simp))
  clear K34
  have K43 := Lib.hid (K35.out.trans hka (by simp))
  clear K35
  have K44 := Lib.hid (K37.out.trans hka (by simp))
  clear K37
  have Z45 := Lib.hid (Kept.size (rows := []) hka)
  clear hka
  have K47 := Lib.hid (Kept.refl [] (w4.alloc (.cells #[.slice a38 n38 q38, .int .i64 p.c, .slice b38 m38 r38] 25)))
  obtain ⟨c48, c49, c50⟩ := (B39.out.stay K47.out).three
  go_wp2_with fail
  generalize (w4.alloc (.cells #[.slice a38 n38 q38, .int .i64 p.c, .slice b38 m38 r38] 25)) = W46 at *
  refine (iPlaceText_any p _ _ _ (P32.out.stay K44.out).pv).mono ?_
  rintro e w5 ⟨z2, rfl, hz, hk⟩
  clear c48 c49 c50
  have d1 : (z2.toList == z1.toList) = true := str_yes (by rw [HZ.out, hz])
  clear hz
  have K51 := Lib.hid (K41.out.trans hk (by simp))
  clear K41
  have K52 := Lib.hid (K42.out.trans hk (by simp))
  clear K42
  have K53 := Lib.hid (K43.out.trans hk (by simp))
  clear K43
  have K54 := Lib.hid (K44.out.trans hk (by simp))
  clear K44
  have K55 := Lib.hid (K47.out.trans hk (by simp))
  clear K47
  have Z56 := Lib.hid (Kept.size (rows := []) hk)
  clear hk
  go_wp2_with fail
  have S57 : Hid (∀ w', Kept [] w5 w' → w'.cell? ⟨w4.heap.size, 0, none⟩ = some (.slice a38 n38 q38) ∧ w'.cell? ⟨w4.heap.size, 1, none⟩ = some (.int .i64 p.c) ∧ w'.cell? ⟨w4.heap.size, 2, none⟩ = some (.slice b38 m38 r38) ∧ w'.cell? ⟨w.heap.size, 0, none⟩ = some (.slice a1 n1 q1) ∧ w'.cell? ⟨w.heap.size, 1, none⟩ = some (.int .i64 p.c) ∧ w'.cell? ⟨w.heap.size, 2, none⟩ = some (.slice b1 m1 r1)) := Lib.hid (fun w' k' => ⟨((B39.out.stay K55.out).stay k').three.1, ((B39.out.stay K55.out).stay k').three.2.1, ((B39.out.stay K55.out).stay k').three.2.2, ((B3.out.stay K52.out).stay k').three.1, ((B3.out.stay K52.out).stay k').three.2.1, ((B3.out.stay K52.out).stay k').three.2.2⟩)
  have T58 : Hid (∀ W, Kept [] w5 W → Calls Tryd.prog 35 #[.agg #[.slice a1 n1 q1, .int .i64 p.c, .slice b1 m1 r1]] W fun e w' => ∃ y, e = .returned y ∧ Hid (∃ b, Pv w' b y p) ∧ Kept [] w5 w') := Lib.hid (fun W k => (toPlace_pn p HLE.out W _ ((HA.out.stay K51.out).stay k)).mono (by rintro e w' ⟨y, rfl, hp, hk⟩; exact ⟨y, rfl, Lib.hid ⟨_, hp.pv⟩, k.trans hk (by simp)⟩))
  have E59 : Hid (∀ W y, Kept [] w5 W → (∃ b, Pv W b y p) → Calls Tryd.prog 36 #[.agg #[.slice a38 n38 q38, .int .i64 p.c, .slice b38 m38 r38], y] W fun e w' => e = .returned (.bool true) ∧ Kept [] w5 w') := Lib.hid (fun W y k h => (eqPlace_pv p W _ y ⟨_, ((P32.out.stay K54.out).stay k).pv⟩ h).mono (by rintro e w' ⟨rfl, hk⟩; exact ⟨rfl, k.trans hk (by simp)⟩))
  go_region_held3 (fun w' => w'.cell? ⟨w4.heap.size, 0, none⟩ = some (.slice a38 n38 q38) ∧ w'.cell? ⟨w4.heap.size, 1, none⟩ = some (.int .i64 p.c) ∧ w'.cell? ⟨w4.heap.size, 2, none⟩ = some (.slice b38 m38 r38) ∧ w'.cell? ⟨w.heap.size, 0, none⟩ = some (.slice a1 n1 q1) ∧ w'.cell? ⟨w.heap.size, 1, none⟩ = some (.int .i64 p.c) ∧ w'.cell? ⟨w.heap.size, 2, none⟩ = some (.slice b1 m1 r1))
    ((refine S57.out _ ?_; repeat (first | exact Kept.refl _ _ | assumption | apply Kept.alloc | apply Kept.drew)))
    (first
    | (go_simp; go_at_call 35; refine (T58.out _ (by repeat (first | exact Kept.refl _ _ | assumption | apply Kept.alloc | apply Kept.drew))).mono ?_; rintro e wa60 ⟨ya61, rfl, HY62, ka63⟩)
    | (refine (T58.out _ (by repeat (first | exact Kept.refl _ _ | assumption | apply Kept.alloc | apply Kept.drew))).mono ?_; rintro e wa60 ⟨ya61, rfl, HY62, ka63⟩)
    | (go_simp; go_at_call 36; refine (E59.out _ _ (by repeat (first | exact Kept.refl _ _ | assumption | apply Kept.alloc | apply Kept.drew)) (by obtain ⟨bb, hb⟩ := HY62.out; exact ⟨bb, hb.stay (by repeat (first | exact Kept.refl _ _ | apply Kept.alloc | apply Kept.drew))⟩)).mono ?_; rintro e wb64 ⟨rfl, kb65⟩)
    | (refine (E59.out _ _ (by repeat (first | exact Kept.refl _ _ | assumption | apply Kept.alloc | apply Kept.drew)) (by obtain ⟨bb, hb⟩ := HY62.out; exact ⟨bb, hb.stay (by repeat (first | exact Kept.refl _ _ | apply Kept.alloc | apply Kept.drew))⟩)).mono ?_; rintro e wb64 ⟨rfl, kb65⟩))
  clear S57 T58 E59 HY62 ka63
  have K66 := Lib.hid (K51.out.trans kb65 (by simp))
  clear K51
  have K67 := Lib.hid (K52.out.trans kb65 (by simp))
  clear K52
  have K68 := Lib.hid (K53.out.trans kb65 (by simp))
  clear K53
  have K69 := Lib.hid (K54.out.trans kb65 (by simp))
  clear K54
  have K70 := Lib.hid (K55.out.trans kb65 (by simp))
  clear K55
  have Z71 := Lib.hid (Kept.size (rows := []) kb65)
  clear kb65
  go_wp2
  go_ret
  exact ⟨rfl, K66.out⟩
end Go.Proofs.YtaacehdfpoiljaaDoor
