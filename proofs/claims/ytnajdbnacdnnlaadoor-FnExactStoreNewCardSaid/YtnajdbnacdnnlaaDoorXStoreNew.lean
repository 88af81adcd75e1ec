/-
  The walk of an exact law: StoreNew of the program answers as its model does.
-/
import Derived.Test.YtnajdbnacdnnlaaDoorEP
import Derived.Test.YtnajdbnacdnnlaaDoorES
import Derived.Test.YtnajdbnacdnnlaaDoorISt1
namespace Go.Proofs.YtnajdbnacdnnlaaDoor
open Go.RowKit

set_option maxHeartbeats 8000000 in
set_option maxRecDepth 100000 in
theorem ExactStoreNew_calls (p : Nt.Pi) (w : World) (x : Value) (h : ArgPl w x p) :
    Calls Tryd.prog 4 #[x] w fun e w' => e = .returned (.bool true) ∧ Kept [] w w' := by
  have HA := Lib.hid h
  obtain ⟨a1, n1, q1, b1, m1, r1, rfl⟩ := h.form
  clear h
  have K2 := Lib.hid (Kept.refl [] w)
  have hka : Kept [] w (w.alloc (.cells #[.slice a1 n1 q1, .int .i64 p.c, .slice b1 m1 r1] 31)) := (Kept.refl _ _).alloc _
  have B3 := Lib.hid (Bk.new w 31 #[.slice a1 n1 q1, .int .i64 p.c, .slice b1 m1 r1])
  have Z4 := Lib.hid (show w.heap.size + 1 ≤ (w.alloc (.cells #[.slice a1 n1 q1, .int .i64 p.c, .slice b1 m1 r1] 31)).heap.size from by simp)
  have K5 := Lib.hid (K2.out.trans hka (by simp))
  clear K2
  have Z6 := Lib.hid (Kept.size (rows := []) hka)
  clear hka
  have K8 := Lib.hid (Kept.refl [] (w.alloc (.cells #[.slice a1 n1 q1, .int .i64 p.c, .slice b1 m1 r1] 31)))
  go_enter Tryd.func4, Tryd.ntmps4
  obtain ⟨c9, c10, c11⟩ := (B3.out.stay K8.out).three
  go_wp2_with fail
  generalize (w.alloc (.cells #[.slice a1 n1 q1, .int .i64 p.c, .slice b1 m1 r1] 31)) = W7 at *
  refine (szPlace_pn p _ _ (HA.out.stay K5.out)).mono ?_
  rintro e w1 ⟨r, rfl, hr, hk⟩
  clear c9 c10 c11
  have K12 := Lib.hid (K5.out.trans hk (by simp))
  clear K5
  have K13 := Lib.hid (K8.out.trans hk (by simp))
  clear K8
  have Z14 := Lib.hid (Kept.size (rows := []) hk)
  clear hk
  by_cases hn : r < 0
  · have hd : decide (r < 0) = true := dec_of hn
    clear hn
    go_wp2
    go_ret
    exact ⟨rfl, K12.out⟩
  have hd : decide (r < 0) = false := dec_not hn
  have HLE : Hid (plLen p ≤ 1048576) := Lib.hid (hr.out hn)
  clear hn hr
  obtain ⟨c15, c16, c17⟩ := (B3.out.stay K13.out).three
  go_wp2_with fail
  refine (toPlace_pn p HLE.out _ _ (HA.out.stay K12.out)).mono ?_
  rintro e w2 ⟨y18, rfl, hp, hk⟩
  clear c15 c16 c17
  have P19 := Lib.hid (hp)
  have K20 := Lib.hid (K12.out.trans hk (by simp))
  clear K12
  have K21 := Lib.hid (K13.out.trans hk (by simp))
  clear K13
  have Z22 := Lib.hid (Kept.size (rows := []) hk)
  clear hk hp
  have K23 := Lib.hid (Kept.refl [] w2)
  go_wp2_with fail
  refine (sStoreNew_any p _ _ _ (P19.out.stay K23.out).pv).mono ?_
  rintro e w3 ⟨sy, rfl, hsv, hk⟩
  have HY := Lib.hid hsv
  obtain ⟨sa, sb, sm, rfl, _⟩ := hsv
  unfold sv
  generalize hOK : Nt.plB p = ok at *
  have HOK := Lib.hid hOK
  clear hOK
  have hxx : (ok != ok) = false := by cases ok <;> rfl
  have K24 := Lib.hid (K20.out.trans hk (by simp))
  clear K20
  have K25 := Lib.hid (K21.out.trans hk (by simp))
  clear K21
  have K26 := Lib.hid (K23.out.trans hk (by simp))
  clear K23
  have Z27 := Lib.hid (Kept.size (rows := []) hk)
  clear hk
  have hka : Kept [] w3 (w3.alloc (.cells #[.string sa, .string sb, .int .i64 sm] 26)) := (Kept.refl _ _).alloc _
  have B28 := Lib.hid (Bk.new w3 26 #[.string sa, .string sb, .int .i64 sm])
  have Z29 := Lib.hid (show w3.heap.size + 1 ≤ (w3.alloc (.cells #[.string sa, .string sb, .int .i64 sm] 26)).heap.size from by simp)
  have K30 := Lib.hid (K24.out.trans hka (by simp))
  clear K24
  have K31 := Lib.hid (K25.out.trans hka (by simp))
  clear K25
  have K32 := Lib.hid (K26.out.trans hka (by simp))
  clear K26
  have Z33 := Lib.hid (Kept.size (rows := []) hka)
  clear hka
  have K35 := Lib.hid (Kept.refl [] (w3.alloc (.cells #[.string sa, .string sb, .int .i64 sm] 26)))
  obtain ⟨c36, c37, c38⟩ := (B3.out.stay K31.out).three
  go_wp2_with fail
  generalize (w3.alloc (.cells #[.string sa, .string sb, .int .i64 sm] 26)) = W34 at *
  refine (toPlace_pn p HLE.out _ _ (HA.out.stay K30.out)).mono ?_
  rintro e w4 ⟨y39, rfl, hp, hk⟩
  clear c36 c37 c38
  have P40 := Lib.hid (hp)
  have K41 := Lib.hid (K30.out.trans hk (by simp))
  clear K30
  have K42 := Lib.hid (K31.out.trans hk (by simp))
  clear K31
  have K43 := Lib.hid (K32.out.trans hk (by simp))
  clear K32
  have K44 := Lib.hid (K35.out.trans hk (by simp))
  clear K35
  have Z45 := Lib.hid (Kept.size (rows := []) hk)
  clear hk hp
  have K46 := Lib.hid (Kept.refl [] w4)
  obtain ⟨a47, n47, q47, b47, m47, r47, rfl⟩ := P40.out.pv.form
  have hka : Kept [] w4 (w4.alloc (.cells #[.slice a47 n47 q47, .int .i64 p.c, .slice b47 m47 r47] 35)) := (Kept.refl _ _).alloc _
  have B48 := Lib.hid (Bk.new w4 35 #[.slice a47 n47 q47, .int .i64 p.c, .slice b47 m47 r47])
  have Z49 := Lib.hid (show w4.heap.size + 1 ≤ (w4.alloc (.cells #[.slice a47 n47 q47, .int .i64 p.c, .slice b47 m47 r47] 35)).heap.size from by simp)
  have K50 := Lib.hid (K41.out.trans hka (by simp))
  clear K41
  have K51 := Lib.hid (K42.out.trans hka (by simp))
  clear K42
  have K52 := Lib.hid (K43.out.trans hka (by simp))
  clear K43
  have K53 := Lib.hid (K44.out.trans hka (by simp))
  clear K44
  have K54 := Lib.hid (K46.out.trans hka (by simp))
  clear K46
  have Z55 := Lib.hid (Kept.size (rows := []) hka)
  clear hka
  have K57 := Lib.hid (Kept.refl [] (w4.alloc (.cells #[.slice a47 n47 q47, .int .i64 p.c, .slice b47 m47 r47] 35)))
  obtain ⟨c58, c59, c60⟩ := (B48.out.stay K57.out).three
  go_wp2_with fail
  generalize (w4.alloc (.cells #[.slice a47 n47 q47, .int .i64 p.c, .slice b47 m47 r47] 35)) = W56 at *
  refine (iStoreNew_any p _ _ _ (P40.out.stay K54.out).pv).mono ?_
  rintro e w5 ⟨ty, rfl, hsv, hk⟩
  clear c58 c59 c60
  have HG := Lib.hid hsv
  obtain ⟨ta, tb, tm, rfl, _⟩ := hsv
  unfold sv
  rw [HOK.out]
  have K61 := Lib.hid (K50.out.trans hk (by simp))
  clear K50
  have K62 := Lib.hid (K51.out.trans hk (by simp))
  clear K51
  have K63 := Lib.hid (K52.out.trans hk (by simp))
  clear K52
  have K64 := Lib.hid (K53.out.trans hk (by simp))
  clear K53
  have K65 := Lib.hid (K54.out.trans hk (by simp))
  clear K54
  have K66 := Lib.hid (K57.out.trans hk (by simp))
  clear K57
  have Z67 := Lib.hid (Kept.size (rows := []) hk)
  clear hk
  have hka : Kept [] w5 (w5.alloc (.cells #[.string ta, .string tb, .int .i64 tm] 26)) := (Kept.refl _ _).alloc _
  have B68 := Lib.hid (Bk.new w5 26 #[.string ta, .string tb, .int .i64 tm])
  have Z69 := Lib.hid (show w5.heap.size + 1 ≤ (w5.alloc (.cells #[.string ta, .string tb, .int .i64 tm] 26)).heap.size from by simp)
  have K70 := Lib.hid (K61.out.trans hka (by simp))
  clear K61
  have K71 := Lib.hid (K62.out.trans hka (by simp))
  clear K62
  have K72 := Lib.hid (K63.out.trans hka (by simp))
  clear K63
  have K73 := Lib.hid (K64.out.trans hka (by simp))
  clear K64
  have K74 := Lib.hid (K65.out.trans hka (by simp))
  clear K65
  have K75 := Lib.hid (K66.out.trans hka (by simp))
  clear K66
  have Z76 := Lib.hid (Kept.size (rows := []) hka)
  clear hka
  have K78 := Lib.hid (Kept.refl [] (w5.alloc (.cells #[.string ta, .string tb, .int .i64 tm] 26)))
  obtain ⟨c79, c80, c81⟩ := (B68.out.stay K78.out).three
  obtain ⟨c82, c83, c84⟩ := (B28.out.stay K73.out).three
  go_wp2_with fail
  generalize (w5.alloc (.cells #[.string ta, .string tb, .int .i64 tm] 26)) = W77 at *
  refine (eqStore_is HG.out HY.out _).mono ?_
  rintro e w6 ⟨rfl, hk⟩
  clear c79 c80 c81 c82 c83 c84
  have K85 := Lib.hid (K70.out.trans hk (by simp))
  clear K70
  have K86 := Lib.hid (K71.out.trans hk (by simp))
  clear K71
  have K87 := Lib.hid (K72.out.trans hk (by simp))
  clear K72
  have K88 := Lib.hid (K73.out.trans hk (by simp))
  clear K73
  have K89 := Lib.hid (K74.out.trans hk (by simp))
  clear K74
  have K90 := Lib.hid (K75.out.trans hk (by simp))
  clear K75
  have K91 := Lib.hid (K78.out.trans hk (by simp))
  clear K78
  have Z92 := Lib.hid (Kept.size (rows := []) hk)
  clear hk
  go_wp2_with fail
  have S93 : Hid (∀ w', Kept [] w6 w' → w'.cell? ⟨w4.heap.size, 0, none⟩ = some (.slice a47 n47 q47) ∧ w'.cell? ⟨w4.heap.size, 1, none⟩ = some (.int .i64 p.c) ∧ w'.cell? ⟨w4.heap.size, 2, none⟩ = some (.slice b47 m47 r47) ∧ w'.cell? ⟨w.heap.size, 0, none⟩ = some (.slice a1 n1 q1) ∧ w'.cell? ⟨w.heap.size, 1, none⟩ = some (.int .i64 p.c) ∧ w'.cell? ⟨w.heap.size, 2, none⟩ = some (.slice b1 m1 r1)) := Lib.hid (fun w' k' => ⟨((B48.out.stay K90.out).stay k').three.1, ((B48.out.stay K90.out).stay k').three.2.1, ((B48.out.stay K90.out).stay k').three.2.2, ((B3.out.stay K86.out).stay k').three.1, ((B3.out.stay K86.out).stay k').three.2.1, ((B3.out.stay K86.out).stay k').three.2.2⟩)
  have T94 : Hid (∀ W, Kept [] w6 W → Calls Tryd.prog 13 #[.agg #[.slice a1 n1 q1, .int .i64 p.c, .slice b1 m1 r1]] W fun e w' => ∃ y, e = .returned y ∧ Hid (∃ b, Pv w' b y p) ∧ Kept [] w6 w') := Lib.hid (fun W k => (toPlace_pn p HLE.out W _ ((HA.out.stay K85.out).stay k)).mono (by rintro e w' ⟨y, rfl, hp, hk⟩; exact ⟨y, rfl, Lib.hid ⟨_, hp.pv⟩, k.trans hk (by simp)⟩))
  have E95 : Hid (∀ W y, Kept [] w6 W → (∃ b, Pv W b y p) → Calls Tryd.prog 16 #[.agg #[.slice a47 n47 q47, .int .i64 p.c, .slice b47 m47 r47], y] W fun e w' => e = .returned (.bool true) ∧ Kept [] w6 w') := Lib.hid (fun W y k h => (eqPlace_pv p W _ y ⟨_, ((P40.out.stay K89.out).stay k).pv⟩ h).mono (by rintro e w' ⟨rfl, hk⟩; exact ⟨rfl, k.trans hk (by simp)⟩))
  go_region_held3 (fun w' => w'.cell? ⟨w4.heap.size, 0, none⟩ = some (.slice a47 n47 q47) ∧ w'.cell? ⟨w4.heap.size, 1, none⟩ = some (.int .i64 p.c) ∧ w'.cell? ⟨w4.heap.size, 2, none⟩ = some (.slice b47 m47 r47) ∧ w'.cell? ⟨w.heap.size, 0, none⟩ = some (.slice a1 n1 q1) ∧ w'.cell? ⟨w.heap.size, 1, none⟩ = some (.int .i64 p.c) ∧ w'.cell? ⟨w.heap.size, 2, none⟩ = some (.slice b1 m1 r1))
    ((refine S93.out _ ?_; repeat (first | exact Kept.refl _ _ | assumption | apply Kept.alloc | apply Kept.drew)))
    (first
    | (go_simp; go_at_call 13; refine (T94.out _ (by repeat (first | exact Kept.refl _ _ | assumption | apply Kept.alloc | apply Kept.drew))).mono ?_; rintro e wa96 ⟨ya97, rfl, HY98, ka99⟩)
    | (refine (T94.out _ (by repeat (first | exact Kept.refl _ _ | assumption | apply Kept.alloc | apply Kept.drew))).mono ?_; rintro e wa96 ⟨ya97, rfl, HY98, ka99⟩)
    | (go_simp; go_at_call 16; refine (E95.out _ _ (by repeat (first | exact Kept.refl _ _ | assumption | apply Kept.alloc | apply Kept.drew)) (by obtain ⟨bb, hb⟩ := HY98.out; exact ⟨bb, hb.stay (by repeat (first | exact Kept.refl _ _ | apply Kept.alloc | apply Kept.drew))⟩)).mono ?_; rintro e wb100 ⟨rfl, kb101⟩)
    | (refine (E95.out _ _ (by repeat (first | exact Kept.refl _ _ | assumption | apply Kept.alloc | apply Kept.drew)) (by obtain ⟨bb, hb⟩ := HY98.out; exact ⟨bb, hb.stay (by repeat (first | exact Kept.refl _ _ | apply Kept.alloc | apply Kept.drew))⟩)).mono ?_; rintro e wb100 ⟨rfl, kb101⟩))
  clear S93 T94 E95 HY98 ka99
  have K102 := Lib.hid (K85.out.trans kb101 (by simp))
  clear K85
  have K103 := Lib.hid (K86.out.trans kb101 (by simp))
  clear K86
  have K104 := Lib.hid (K87.out.trans kb101 (by simp))
  clear K87
  have K105 := Lib.hid (K88.out.trans kb101 (by simp))
  clear K88
  have K106 := Lib.hid (K89.out.trans kb101 (by simp))
  clear K89
  have K107 := Lib.hid (K90.out.trans kb101 (by simp))
  clear K90
  have K108 := Lib.hid (K91.out.trans kb101 (by simp))
  clear K91
  have Z109 := Lib.hid (Kept.size (rows := []) kb101)
  clear kb101
  go_wp2
  go_ret
  exact ⟨rfl, K102.out⟩
end Go.Proofs.YtnajdbnacdnnlaaDoor
