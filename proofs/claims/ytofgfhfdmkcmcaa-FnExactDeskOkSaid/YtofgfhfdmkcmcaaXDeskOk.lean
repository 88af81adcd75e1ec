/-
  The walk of an exact law: DeskOk of the program answers as its model does.
-/
import Derived.Test.YtofgfhfdmkcmcaaE7
import Derived.Test.YtofgfhfdmkcmcaaIP2
namespace Go.Proofs.Ytofgfhfdmkcmcaa
open Go.RowKit

set_option maxHeartbeats 8000000 in
set_option maxRecDepth 100000 in
theorem ExactDeskOk_calls (d : Nt.Di) (w : World) (x : Value) (h : ArgDk w x d) :
    Calls Try.prog 9 #[x] w fun e w' => e = .returned (.bool true) ∧ Kept [] w w' := by
  have HA := Lib.hid h
  obtain ⟨a1, n1, q1, b1, m1, r1, d1, l1, s1, rfl⟩ := h.form
  clear h
  obtain ⟨ok, hok⟩ : ∃ ok, ok = Nt.dkB d := ⟨_, rfl⟩
  have HOK := Lib.hid hok
  have hxx : (ok != ok) = false := by cases ok <;> rfl
  clear hok
  have K2 := Lib.hid (Kept.refl [] w)
  have hka : Kept [] w (w.alloc (.cells #[.slice a1 n1 q1, .int .i64 d.now.c, .slice b1 m1 r1, .slice d1 l1 s1] 57)) := (Kept.refl _ _).alloc _
  have B3 := Lib.hid (Bk.new w 57 #[.slice a1 n1 q1, .int .i64 d.now.c, .slice b1 m1 r1, .slice d1 l1 s1])
  have Z4 := Lib.hid (show w.heap.size + 1 ≤ (w.alloc (.cells #[.slice a1 n1 q1, .int .i64 d.now.c, .slice b1 m1 r1, .slice d1 l1 s1] 57)).heap.size from by simp)
  have K5 := Lib.hid (K2.out.trans hka (by simp))
  clear K2
  have Z6 := Lib.hid (Kept.size (rows := []) hka)
  clear hka
  have K8 := Lib.hid (Kept.refl [] (w.alloc (.cells #[.slice a1 n1 q1, .int .i64 d.now.c, .slice b1 m1 r1, .slice d1 l1 s1] 57)))
  go_enter Try.func9, Try.ntmps9
  obtain ⟨c9, c10, c11, c12⟩ := (B3.out.stay K8.out).four
  go_wp2_with fail
  generalize (w.alloc (.cells #[.slice a1 n1 q1, .int .i64 d.now.c, .slice b1 m1 r1, .slice d1 l1 s1] 57)) = W7 at *
  refine (szDesk_dm d _ _ (HA.out.stay K5.out)).mono ?_
  rintro e w1 ⟨r, rfl, hr, hk⟩
  clear c9 c10 c11 c12
  have K13 := Lib.hid (K5.out.trans hk (by simp))
  clear K5
  have K14 := Lib.hid (K8.out.trans hk (by simp))
  clear K8
  have Z15 := Lib.hid (Kept.size (rows := []) hk)
  clear hk
  by_cases hn : r < 0
  · have hd : decide (r < 0) = true := dec_of hn
    clear hn
    go_wp2
    go_ret
    exact ⟨rfl, K13.out⟩
  have hd : decide (r < 0) = false := dec_not hn
  have HLE : Hid (dkLen d ≤ 1048576) := Lib.hid (hr.out hn)
  clear hn hr
  obtain ⟨c16, c17, c18, c19⟩ := (B3.out.stay K14.out).four
  go_wp2_with fail
  refine (toDesk_dm d HLE.out _ _ (HA.out.stay K13.out)).mono ?_
  rintro e w2 ⟨y20, rfl, hp, hk⟩
  clear c16 c17 c18 c19
  have P21 := Lib.hid (hp)
  have K22 := Lib.hid (K13.out.trans hk (by simp))
  clear K13
  have K23 := Lib.hid (K14.out.trans hk (by simp))
  clear K14
  have Z24 := Lib.hid (Kept.size (rows := []) hk)
  clear hk hp
  have K25 := Lib.hid (Kept.refl [] w2)
  go_wp2_with fail
  refine (sDeskOk_any d _ _ _ (P21.out.stay K25.out).dv).mono ?_
  rintro e w3 ⟨rfl, hk⟩
  rw [← HOK.out]
  have K26 := Lib.hid (K22.out.trans hk (by simp))
  clear K22
  have K27 := Lib.hid (K23.out.trans hk (by simp))
  clear K23
  have K28 := Lib.hid (K25.out.trans hk (by simp))
  clear K25
  have Z29 := Lib.hid (Kept.size (rows := []) hk)
  clear hk
  obtain ⟨c30, c31, c32, c33⟩ := (B3.out.stay K27.out).four
  go_wp2_with fail
  refine (toDesk_dm d HLE.out _ _ (HA.out.stay K26.out)).mono ?_
  rintro e w4 ⟨y34, rfl, hp, hk⟩
  clear c30 c31 c32 c33
  have P35 := Lib.hid (hp)
  have K36 := Lib.hid (K26.out.trans hk (by simp))
  clear K26
  have K37 := Lib.hid (K27.out.trans hk (by simp))
  clear K27
  have K38 := Lib.hid (K28.out.trans hk (by simp))
  clear K28
  have Z39 := Lib.hid (Kept.size (rows := []) hk)
  clear hk hp
  have K40 := Lib.hid (Kept.refl [] w4)
  obtain ⟨a41, n41, q41, b41, m41, r41, d41, l41, s41, rfl⟩ := P35.out.dv.form
  have hka : Kept [] w4 (w4.alloc (.cells #[.slice a41 n41 q41, .int .i64 d.now.c, .slice b41 m41 r41, .slice d41 l41 s41] 32)) := (Kept.refl _ _).alloc _
  have B42 := Lib.hid (Bk.new w4 32 #[.slice a41 n41 q41, .int .i64 d.now.c, .slice b41 m41 r41, .slice d41 l41 s41])
  have Z43 := Lib.hid (show w4.heap.size + 1 ≤ (w4.alloc (.cells #[.slice a41 n41 q41, .int .i64 d.now.c, .slice b41 m41 r41, .slice d41 l41 s41] 32)).heap.size from by simp)
  have K44 := Lib.hid (K36.out.trans hka (by simp))
  clear K36
  have K45 := Lib.hid (K37.out.trans hka (by simp))
  clear K37
  have K46 := Lib.hid (K38.out.trans hka (by simp))
  clear K38
  have K47 := Lib.hid (K40.out.trans hka (by simp))
  clear K40
  have Z48 := Lib.hid (Kept.size (rows := []) hka)
  clear hka
  have K50 := Lib.hid (Kept.refl [] (w4.alloc (.cells #[.slice a41 n41 q41, .int .i64 d.now.c, .slice b41 m41 r41, .slice d41 l41 s41] 32)))
  obtain ⟨c51, c52, c53, c54⟩ := (B42.out.stay K50.out).four
  go_wp2_with fail
  generalize (w4.alloc (.cells #[.slice a41 n41 q41, .int .i64 d.now.c, .slice b41 m41 r41, .slice d41 l41 s41] 32)) = W49 at *
  refine (iDeskOk_any d _ _ _ (P35.out.stay K47.out).dv).mono ?_
  rintro e w5 ⟨rfl, hk⟩
  clear c51 c52 c53 c54
  rw [← HOK.out]
  have K55 := Lib.hid (K44.out.trans hk (by simp))
  clear K44
  have K56 := Lib.hid (K45.out.trans hk (by simp))
  clear K45
  have K57 := Lib.hid (K46.out.trans hk (by simp))
  clear K46
  have K58 := Lib.hid (K47.out.trans hk (by simp))
  clear K47
  have K59 := Lib.hid (K50.out.trans hk (by simp))
  clear K50
  have Z60 := Lib.hid (Kept.size (rows := []) hk)
  clear hk
  go_wp2_with fail
  have S61 : Hid (∀ w', Kept [] w5 w' → w'.cell? ⟨w4.heap.size, 0, none⟩ = some (.slice a41 n41 q41) ∧ w'.cell? ⟨w4.heap.size, 1, none⟩ = some (.int .i64 d.now.c) ∧ w'.cell? ⟨w4.heap.size, 2, none⟩ = some (.slice b41 m41 r41) ∧ w'.cell? ⟨w4.heap.size, 3, none⟩ = some (.slice d41 l41 s41) ∧ w'.cell? ⟨w.heap.size, 0, none⟩ = some (.slice a1 n1 q1) ∧ w'.cell? ⟨w.heap.size, 1, none⟩ = some (.int .i64 d.now.c) ∧ w'.cell? ⟨w.heap.size, 2, none⟩ = some (.slice b1 m1 r1) ∧ w'.cell? ⟨w.heap.size, 3, none⟩ = some (.slice d1 l1 s1)) := Lib.hid (fun w' k' => ⟨((B42.out.stay K59.out).stay k').four.1, ((B42.out.stay K59.out).stay k').four.2.1, ((B42.out.stay K59.out).stay k').four.2.2.1, ((B42.out.stay K59.out).stay k').four.2.2.2, ((B3.out.stay K56.out).stay k').four.1, ((B3.out.stay K56.out).stay k').four.2.1, ((B3.out.stay K56.out).stay k').four.2.2.1, ((B3.out.stay K56.out).stay k').four.2.2.2⟩)
  have T62 : Hid (∀ W, Kept [] w5 W → Calls Try.prog 37 #[.agg #[.slice a1 n1 q1, .int .i64 d.now.c, .slice b1 m1 r1, .slice d1 l1 s1]] W fun e w' => ∃ y, e = .returned y ∧ Hid (∃ b, Dv w' b y d) ∧ Kept [] w5 w') := Lib.hid (fun W k => (toDesk_dm d HLE.out W _ ((HA.out.stay K55.out).stay k)).mono (by rintro e w' ⟨y, rfl, hp, hk⟩; exact ⟨y, rfl, Lib.hid ⟨_, hp.dv⟩, k.trans hk (by simp)⟩))
  have E63 : Hid (∀ W y, Kept [] w5 W → (∃ b, Dv W b y d) → Calls Try.prog 38 #[.agg #[.slice a41 n41 q41, .int .i64 d.now.c, .slice b41 m41 r41, .slice d41 l41 s41], y] W fun e w' => e = .returned (.bool true) ∧ Kept [] w5 w') := Lib.hid (fun W y k h => (eqDesk_dv d W _ y ⟨_, ((P35.out.stay K58.out).stay k).dv⟩ h).mono (by rintro e w' ⟨rfl, hk⟩; exact ⟨rfl, k.trans hk (by simp)⟩))
  go_region_held3 (fun w' => w'.cell? ⟨w4.heap.size, 0, none⟩ = some (.slice a41 n41 q41) ∧ w'.cell? ⟨w4.heap.size, 1, none⟩ = some (.int .i64 d.now.c) ∧ w'.cell? ⟨w4.heap.size, 2, none⟩ = some (.slice b41 m41 r41) ∧ w'.cell? ⟨w4.heap.size, 3, none⟩ = some (.slice d41 l41 s41) ∧ w'.cell? ⟨w.heap.size, 0, none⟩ = some (.slice a1 n1 q1) ∧ w'.cell? ⟨w.heap.size, 1, none⟩ = some (.int .i64 d.now.c) ∧ w'.cell? ⟨w.heap.size, 2, none⟩ = some (.slice b1 m1 r1) ∧ w'.cell? ⟨w.heap.size, 3, none⟩ = some (.slice d1 l1 s1))
    ((refine S61.out _ ?_; repeat (first | exact Kept.refl _ _ | assumption | apply Kept.alloc | apply Kept.drew)))
    (first
    | (go_simp; go_at_call 37; refine (T62.out _ (by repeat (first | exact Kept.refl _ _ | assumption | apply Kept.alloc | apply Kept.drew))).mono ?_; rintro e wa64 ⟨ya65, rfl, HY66, ka67⟩)
    | (refine (T62.out _ (by repeat (first | exact Kept.refl _ _ | assumption | apply Kept.alloc | apply Kept.drew))).mono ?_; rintro e wa64 ⟨ya65, rfl, HY66, ka67⟩)
    | (go_simp; go_at_call 38; refine (E63.out _ _ (by repeat (first | exact Kept.refl _ _ | assumption | apply Kept.alloc | apply Kept.drew)) (by obtain ⟨bb, hb⟩ := HY66.out; exact ⟨bb, hb.stay (by repeat (first | exact Kept.refl _ _ | apply Kept.alloc | apply Kept.drew))⟩)).mono ?_; rintro e wb68 ⟨rfl, kb69⟩)
    | (refine (E63.out _ _ (by repeat (first | exact Kept.refl _ _ | assumption | apply Kept.alloc | apply Kept.drew)) (by obtain ⟨bb, hb⟩ := HY66.out; exact ⟨bb, hb.stay (by repeat (first | exact Kept.refl _ _ | apply Kept.alloc | apply Kept.drew))⟩)).mono ?_; rintro e wb68 ⟨rfl, kb69⟩))
  clear S61 T62 E63 HY66 ka67
  have K70 := Lib.hid (K55.out.trans kb69 (by simp))
  clear K55
  have K71 := Lib.hid (K56.out.trans kb69 (by simp))
  clear K56
  have K72 := Lib.hid (K57.out.trans kb69 (by simp))
  clear K57
  have K73 := Lib.hid (K58.out.trans kb69 (by simp))
  clear K58
  have K74 := Lib.hid (K59.out.trans kb69 (by simp))
  clear K59
  have Z75 := Lib.hid (Kept.size (rows := []) kb69)
  clear kb69
  go_wp2
  go_ret
  exact ⟨rfl, K70.out⟩
end Go.Proofs.Ytofgfhfdmkcmcaa
