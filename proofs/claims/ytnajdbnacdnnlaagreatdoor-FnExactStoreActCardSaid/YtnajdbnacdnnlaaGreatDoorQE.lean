/-
  The forms of deeds, whether a deed is one, whether a number is a node, by the program.
  Deeds done at a place, by the program.
  Rows of places put together, by the program: slices.Grow, slices.Concat.
  Two rows of places made one, by the program; a place after a deed.
  Copies of desks, new desks, by the program.
  A place after a deed, a desk before, by the program.
  New desks, desks before, desks after a deed, by the program.
  A desk after a deed, by the program.
-/
import Derived.Test.YtnajdbnacdnnlaaGreatDoorQA
import Derived.Test.YtnajdbnacdnnlaaGreatDoorPJ
import Derived.Test.YtnajdbnacdnnlaaGreatDoorQD
import Derived.Test.YtnajdbnacdnnlaaGreatDoorPM1
import Derived.Lib.AppendZeros
import Derived.Laws.AppendOwnNone
namespace Go.Proofs.YtnajdbnacdnnlaaGreatDoor
open Go.RowKit

/-- The five kinds of deeds, their words and how many numbers they name. -/
def formCells : Array Value := #[.string ⟨#[106, 111, 105, 110]⟩, .int .i64 2, .string ⟨#[108, 105, 103, 104, 116]⟩, .int .i64 1, .string ⟨#[115, 116, 101, 112]⟩, .int .i64 0, .string ⟨#[107, 105, 110, 100, 115]⟩, .int .i64 1, .string ⟨#[98, 97, 99, 107]⟩, .int .i64 0]

set_option maxHeartbeats 1000000 in
set_option maxRecDepth 100000 in
theorem deedForms_any (w : World) :
    Calls Tryz.prog 69 #[] w fun e w' => e = .returned (.slice (some ⟨w.heap.size, 0, none⟩) 5 5) ∧ w' = w.alloc (.cells formCells 98) := by
  go_enter Tryz.func69, Tryz.ntmps69
  go_wp2
  go_ret
  exact ⟨rfl, rfl⟩

set_option maxHeartbeats 2000000 in
set_option maxRecDepth 100000 in
theorem deedOk_any (k a b : Int) (w : World) :
    Calls Tryz.prog 67 #[.agg #[.int .i64 k, .int .i64 a, .int .i64 b]] w fun e w' => e = .returned (.bool (Nt.dokB ⟨k, a, b⟩)) ∧ Kept [] w w' := by
  have hk0 : Kept [] w (w.alloc (.cells #[.int .i64 k, .int .i64 a, .int .i64 b] 41)) := (Kept.refl [] w).alloc _
  have HB := Lib.hid (Bk.new w 41 #[.int .i64 k, .int .i64 a, .int .i64 b])
  have HK0 := Lib.hid hk0
  clear hk0
  go_enter Tryz.func67, Tryz.ntmps67
  go_wp2_with fail
  generalize w.alloc (.cells #[.int .i64 k, .int .i64 a, .int .i64 b] 41) = W0 at *
  refine (deedForms_any _).mono ?_
  rintro e w1 ⟨rfl, rfl⟩
  have hk1 : Kept [] W0 (W0.alloc (.cells formCells 98)) := (Kept.refl [] W0).alloc _
  have HF := Lib.hid (Bk.new W0 98 formCells)
  have HB1 := Lib.hid (HB.out.stay hk1)
  have HK1 := Lib.hid (HK0.out.trans hk1 (by simp))
  clear hk1 HB HK0
  generalize hG : W0.heap.size = G at *
  generalize W0.alloc (.cells formCells 98) = W1 at *
  obtain ⟨c0, c1, c2⟩ := HB1.out.three
  clear hG
  by_cases k0 : k < 0
  · have HZ : Hid (Nt.dokB ⟨k, a, b⟩ = false) := Lib.hid (by unfold Nt.dokB; rw [show decide (0 ≤ k ∧ k < 5) = false from decide_eq_false (by omega)]; rfl)
    have d1 : decide (k < 0) = true := dec_of k0
    go_wp2
    go_ret
    exact ⟨by rw [HZ.out]; rfl, HK1.out⟩
  by_cases k5 : 5 ≤ k
  · have HZ : Hid (Nt.dokB ⟨k, a, b⟩ = false) := Lib.hid (by unfold Nt.dokB; rw [show decide (0 ≤ k ∧ k < 5) = false from decide_eq_false (by omega)]; rfl)
    have d1 : decide (k < 0) = false := dec_not k0
    have d2 : decide (k ≥ 5) = true := dec_of k5
    have d3 : decide (5 ≤ k) = true := dec_of k5
    go_wp2
    go_ret
    exact ⟨by rw [HZ.out]; rfl, HK1.out⟩
  have hk : k = 0 ∨ k = 1 ∨ k = 2 ∨ k = 3 ∨ k = 4 := by omega
  clear k0 k5
  have f0 : W1.cell? ⟨G, 1, none⟩ = some (.int .i64 2) := HF.out.cell 1 rfl
  have f1 : W1.cell? ⟨G, 3, none⟩ = some (.int .i64 1) := HF.out.cell 3 rfl
  have f2 : W1.cell? ⟨G, 5, none⟩ = some (.int .i64 0) := HF.out.cell 5 rfl
  have f3 : W1.cell? ⟨G, 7, none⟩ = some (.int .i64 1) := HF.out.cell 7 rfl
  have f4 : W1.cell? ⟨G, 9, none⟩ = some (.int .i64 0) := HF.out.cell 9 rfl
  rcases hk with rfl | rfl | rfl | rfl | rfl
  all_goals
    by_cases ha : a = 0
    all_goals
      by_cases hb : b = 0
      all_goals
        first
        | (have ea : (a == 0) = true := by simp [ha]
           have eb : (b == 0) = true := by simp [hb]
           go_wp2
           go_ret
           exact ⟨by simp [Nt.dokB, Nt.dnum, ha, hb], HK1.out⟩)
        | (have ea : (a == 0) = true := by simp [ha]
           have eb : (b == 0) = false := by simp [hb]
           go_wp2
           go_ret
           exact ⟨by simp [Nt.dokB, Nt.dnum, ha, hb], HK1.out⟩)
        | (have ea : (a == 0) = false := by simp [ha]
           have eb : (b == 0) = true := by simp [hb]
           go_wp2
           go_ret
           exact ⟨by simp [Nt.dokB, Nt.dnum, ha, hb], HK1.out⟩)
        | (have ea : (a == 0) = false := by simp [ha]
           have eb : (b == 0) = false := by simp [hb]
           go_wp2
           go_ret
           exact ⟨by simp [Nt.dokB, Nt.dnum, ha, hb], HK1.out⟩)

set_option maxHeartbeats 400000 in
set_option maxRecDepth 100000 in
theorem isNodeZ_any (n : Nat) (a : Int) (w : World) :
    Calls Tryz.prog 140 #[.int .i64 (n : Int), .int .i64 a] w fun e w' => e = .returned (.bool (decide (0 ≤ a ∧ a < (n : Int)))) ∧ w = w' := by
  by_cases h1 : 0 ≤ a <;> by_cases h2 : a < (n : Int)
  all_goals
    go_enter Tryz.func140, Tryz.ntmps140
    go_wp2
    go_ret
    exact ⟨by simp [h1, h2], rfl⟩
end Go.Proofs.YtnajdbnacdnnlaaGreatDoor

namespace Go.Proofs.YtnajdbnacdnnlaaGreatDoor
open Go.RowKit

set_option maxHeartbeats 1000000 in
set_option maxRecDepth 100000 in
theorem samePlace_any (p q : Nt.Pi) (w : World) (x y : Value) (base base' : Nat) (h : Pv w base x p) (h' : Pv w base' y q) :
    Calls Tryz.prog 155 #[x, y] w fun e w' => e = .returned (.bool (decide (p = q))) ∧ Kept [] w w' := by
  obtain ⟨v, u, rfl, h1, h2⟩ := h
  obtain ⟨v', u', rfl, h3, h4⟩ := h'
  obtain ⟨hk0, hb0, hr0⟩ := two_new w 30 30 #[v, .int .i64 p.c, u] #[v', .int .i64 q.c, u']
  have H1 := Lib.hid (h1.stay hk0)
  have H2 := Lib.hid (h2.stay hk0)
  have H3 := Lib.hid (h3.stay hk0)
  have H4 := Lib.hid (h4.stay hk0)
  obtain ⟨a, cap, rfl, _, _, _⟩ := h1.any
  obtain ⟨b, cap2, rfl, _, _, _⟩ := h2.any
  obtain ⟨a', cap3, rfl, _, _, _⟩ := h3.any
  obtain ⟨b', cap4, rfl, _, _, _⟩ := h4.any
  have HB := Lib.hid hb0
  have HR := Lib.hid hr0
  have HK0 := Lib.hid hk0
  obtain ⟨c0, c1, c2⟩ := hb0.three
  obtain ⟨d0, d1, d2⟩ := hr0.three
  clear h1 h2 h3 h4 hb0 hr0 hk0
  go_enter Tryz.func155, Tryz.ntmps155
  go_wp2_with fail
  generalize ((w.alloc (.cells #[.slice a p.ns.length cap, .int .i64 p.c, .slice b p.ks.length cap2] 30)).alloc (.cells #[.slice a' q.ns.length cap3, .int .i64 q.c, .slice b' q.ks.length cap4] 30)) = W0 at *
  refine (equalInts_any p.ns q.ns _ _ _ _ _ H1.out H3.out).mono ?_
  rintro e w1 ⟨rfl, hq⟩
  have HK1 := Lib.hid (HK0.out.trans hq.kept (by simp))
  have HB1 := Lib.hid (HB.out.stay hq.kept)
  have HR1 := Lib.hid (HR.out.stay hq.kept)
  have H21 := Lib.hid (H2.out.stay hq.kept)
  have H41 := Lib.hid (H4.out.stay hq.kept)
  clear hq c0 c1 c2 d0 d1 d2
  obtain ⟨c0, c1, c2⟩ := HB1.out.three
  obtain ⟨d0, d1, d2⟩ := HR1.out.three
  obtain ⟨pn, pc, pk⟩ := p
  obtain ⟨qn, qc, qk⟩ := q
  simp only at *
  have HD : Hid (decide ((⟨pn, pc, pk⟩ : Nt.Pi) = ⟨qn, qc, qk⟩) = (decide (pn = qn) && decide (pc = qc) && decide (pk = qk))) := Lib.hid (by
    rw [Bool.and_assoc, ← Bool.decide_and, ← Bool.decide_and]
    exact decide_eq_decide.2 (by rw [Nt.Pi.mk.injEq]))
  by_cases e1 : pn = qn
  · rw [decide_eq_true e1]
    by_cases e2 : pc = qc
    · have ee : (pc == qc) = true := by simp [e2]
      rw [decide_eq_true e1, decide_eq_true e2] at HD
      clear e1 e2
      go_wp2_with fail
      refine (equalInts_any pk qk _ _ _ _ _ H21.out H41.out).mono ?_
      rintro e w2 ⟨rfl, hq⟩
      have HK2 := Lib.hid (HK1.out.trans hq.kept (by simp))
      clear hq
      go_wp2
      go_ret
      exact ⟨by rw [HD.out]; rfl, HK2.out⟩
    · have ee : (pc == qc) = false := by simp [e2]
      rw [decide_eq_true e1, decide_eq_false e2] at HD
      clear e1 e2
      go_wp2
      go_ret
      exact ⟨by rw [HD.out]; rfl, HK1.out⟩
  · rw [decide_eq_false e1] at HD ⊢
    clear e1
    go_wp2
    go_ret
    exact ⟨by rw [HD.out]; rfl, HK1.out⟩

theorem tog_self (ns : List Nat) {a : Nat} (ha : a < ns.length) : Nt.tog ns a a = ns := by
  unfold Nt.tog
  have e : (ns.set a (ns.getD a 0 ^^^ 2 ^ a)).getD a 0 = ns.getD a 0 ^^^ 2 ^ a := by
    rw [List.getD_eq_getElem?_getD, List.getElem?_set_self ha]; rfl
  rw [e, List.set_set, Nat.xor_assoc, Nat.xor_self, Nat.xor_zero]
  apply List.ext_getElem (by simp)
  intro i h1 h2
  rw [List.getElem_set]
  by_cases h : a = i
  · subst h
    rw [if_pos rfl, List.getD_eq_getElem?_getD, List.getElem?_eq_getElem ha]; rfl
  · rw [if_neg h]
/-- A net with two nodes joined, or parted. -/
def switched (ns : List Nat) (a b : Int) : List Nat := if (0 ≤ a ∧ a < ns.length) ∧ (0 ≤ b ∧ b < ns.length) then Nt.tog ns a.toNat b.toNat else ns

set_option maxHeartbeats 2000000 in
set_option maxRecDepth 100000 in
theorem switchedNet_any (ns : List Nat) (ok : Nt.Ok ns) (a b : Int) (w : World) (v : Value) (base : Nat) (hs : Sl w base v (Nt.nats ns)) :
    Calls Tryz.prog 183 #[v, .int .i64 a, .int .i64 b] w fun e w' => ∃ z, e = .returned z ∧ Sl w' w.heap.size z (Nt.nats (switched ns a b)) ∧ Kept [] w w' := by
  obtain ⟨n, hn⟩ : ∃ n, n = ns.length := ⟨_, rfl⟩
  have hn0 : 0 < n := by rw [hn]; exact ok.some
  have hn6 : n ≤ 6 := by rw [hn]; exact ok.few
  have hnl : (Nt.nats ns).length = n := by rw [hn]; exact Nt.nats_length _
  have HC := Lib.hid (cloneInts_any (Nt.nats ns) (by omega) (by omega) w v base hs)
  have HSW : Hid (switched ns a b = if (0 ≤ a ∧ a < (n : Int)) ∧ (0 ≤ b ∧ b < (n : Int)) then Nt.tog ns a.toNat b.toNat else ns) := Lib.hid (by unfold switched; rw [hn])
  have HN := Lib.hid hn
  have HOK := Lib.hid ok
  obtain ⟨g, cap, rfl, _, _⟩ := hs.shape hnl hn0
  clear hs ok hn
  go_enter Tryz.func183, Tryz.ntmps183
  go_wp2_with fail
  refine (HC.out).mono ?_
  rintro e w1 ⟨z, rfl, hs1, hk1⟩
  have HS1 := Lib.hid hs1
  have HK1 := Lib.hid hk1
  obtain ⟨g1, cap1, rfl, hg1, _⟩ := hs1.shape hnl hn0
  clear hs1 hk1 HC
  by_cases hr : 0 ≤ a ∧ a < (n : Int)
  · have HRa := Lib.hid hr
    go_wp2_with fail
    refine (isNodeZ_any n a _).mono ?_
    rintro e w' ⟨rfl, rfl⟩
    rw [show decide (0 ≤ a ∧ a < (n : Int)) = true from dec_of hr]
    go_wp2_with fail
    refine (isNodeZ_any n b _).mono ?_
    rintro e w' ⟨rfl, rfl⟩
    by_cases hs : 0 ≤ b ∧ b < (n : Int)
    · rw [show decide (0 ≤ b ∧ b < (n : Int)) = true from dec_of hs]
      obtain ⟨m, rfl⟩ := Int.eq_ofNat_of_zero_le hr.1
      obtain ⟨l, rfl⟩ := Int.eq_ofNat_of_zero_le hs.1
      have hm : m < n := by omega
      have hl : l < n := by omega
      have HT : Hid (switched ns (m : Int) (l : Int) = Nt.tog ns m l) := Lib.hid (by rw [HSW.out, if_pos ⟨hr, hs⟩, Int.toNat_natCast, Int.toNat_natCast])
      clear hr hs
      have hmq : m < ns.length := by rw [← HN.out]; exact hm
      have HGm : Hid (ns.getD m 0 < 64) := Lib.hid (HOK.out.get_lt m)
      have hp64 : l < 64 := by omega
      have hp64m : m < 64 := by omega
      obtain ⟨y0, y1⟩ := HS1.out.at m (by rw [Nt.nats_length]; exact hmq)
      rw [show (Nt.nats ns).getD m 0 = (ns.getD m 0 : Nat) from Nt.nats_get _ _] at y0
      have HX3 := Lib.hid (xor_shl (ns.getD m 0) l HGm.out (by omega))
      have hkd : Kept [] w1 w1.drew := (Kept.refl [] w1).drew
      have HS2 := Lib.hid (HS1.out.stay hkd)
      have HK2 := Lib.hid HK1.out.drew
      have y1d : w1.drew.frozen? ⟨g1, m, none⟩ = false := y1
      have y0d : w1.drew.cell? ⟨g1, m, none⟩ = some (.int .i64 ((ns.getD m 0 : Nat) : Int)) := y0
      clear hkd
      generalize hxe : ns.getD m 0 = x3 at *
      have HE3 := Lib.hid hxe
      clear hxe
      go_wp2_with fail
      go_still_tail 8, (by kernel_rfl)
      change wpList _ _ _ _ _ w1.drew
      clear y0 y1 HS1 HK1
      generalize w1.drew = W4 at *
      have HV5 := Lib.hid (show Sl _ _ _ _ from HS2.out.set hnl.symm m (((x3 ^^^ 2 ^ l : Nat)) : Int))
      rw [← Nt.nats_set] at HV5
      have HK5 := Lib.hid (HK2.out.setCell (.inr hg1) (.int .i64 ((x3 ^^^ 2 ^ l : Nat) : Int)) (p := ⟨g1, m, none⟩))
      go_wp2_with fail
      rw [HX3.out]
      generalize W4.setCell ⟨g1, m, none⟩ (.int .i64 ((x3 ^^^ 2 ^ l : Nat) : Int)) = W5 at *
      have HLQ : Hid ((ns.set m (x3 ^^^ 2 ^ l)).length = ns.length) := Lib.hid (List.length_set ..)
      obtain ⟨xs, hxs⟩ : ∃ xs, xs = ns.set m (x3 ^^^ 2 ^ l) := ⟨_, rfl⟩
      have hlq : l < xs.length := by rw [hxs, HLQ.out, ← HN.out]; exact hl
      have HLX : Hid (xs.length = n) := Lib.hid (by rw [hxs, HLQ.out]; exact HN.out.symm)
      have HGl : Hid (xs.getD l 0 < 64) := Lib.hid (by
        rw [hxs, List.getD_eq_getElem?_getD]
        by_cases hab : m = l
        · subst hab
          rw [List.getElem?_set_self hmq, Option.getD_some]
          have h2 : (2 : Nat) ^ m < 2 ^ 6 := Nat.pow_lt_pow_right (by omega) (by omega)
          exact Nat.xor_lt_two_pow (n := 6) HGm.out h2
        · rw [List.getElem?_set_ne hab, ← List.getD_eq_getElem?_getD]
          exact HOK.out.get_lt l)
      rw [← hxs] at HV5
      have HXS := Lib.hid hxs
      clear hxs
      obtain ⟨y0, y1⟩ := HV5.out.at l (by rw [Nt.nats_length]; exact hlq)
      rw [show (Nt.nats xs).getD l 0 = (xs.getD l 0 : Nat) from Nt.nats_get _ _] at y0
      have HX5 := Lib.hid (xor_shl (xs.getD l 0) m HGl.out (by omega))
      have hkd : Kept [] W5 W5.drew := (Kept.refl [] W5).drew
      have HV6 := Lib.hid (HV5.out.stay hkd)
      have HK6 := Lib.hid HK5.out.drew
      have y1d : W5.drew.frozen? ⟨g1, l, none⟩ = false := y1
      have y0d : W5.drew.cell? ⟨g1, l, none⟩ = some (.int .i64 ((xs.getD l 0 : Nat) : Int)) := y0
      clear hkd
      generalize hxe : xs.getD l 0 = x5 at *
      have HE5 := Lib.hid hxe
      clear hxe
      go_wp2_with fail
      go_still_tail 8, (by kernel_rfl)
      change wpList _ _ _ _ _ W5.drew
      clear y0 y1 HV5 HK5
      generalize W5.drew = W6 at *
      have HV7 := Lib.hid (show Sl _ _ _ _ from HV6.out.set (by rw [Nt.nats_length]; exact HLX.out.symm) l (((x5 ^^^ 2 ^ m : Nat)) : Int))
      rw [← Nt.nats_set] at HV7
      have HK7 := Lib.hid (HK6.out.setCell (.inr hg1) (.int .i64 ((x5 ^^^ 2 ^ m : Nat) : Int)) (p := ⟨g1, l, none⟩))
      go_wp2
      rw [HX5.out]
      go_ret
      have HT2 : Nt.tog ns m l = xs.set l (x5 ^^^ 2 ^ m) := by
        unfold Nt.tog
        rw [HE3.out, ← HXS.out, HE5.out]
      exact ⟨_, rfl, by rw [HT.out, HT2]; exact HV7.out, HK7.out⟩
    · have HT : Hid (switched ns a b = ns) := Lib.hid (by rw [HSW.out, if_neg (fun h => hs h.2)])
      rw [show decide (0 ≤ b ∧ b < (n : Int)) = false from decide_eq_false hs]
      clear hr hs
      go_wp2
      go_ret
      exact ⟨_, rfl, by rw [HT.out]; exact HS1.out, HK1.out⟩
  · have HT : Hid (switched ns a b = ns) := Lib.hid (by rw [HSW.out, if_neg (fun h => hr h.1)])
    go_wp2_with fail
    refine (isNodeZ_any n a _).mono ?_
    rintro e w' ⟨rfl, rfl⟩
    rw [show decide (0 ≤ a ∧ a < (n : Int)) = false from decide_eq_false hr]
    clear hr
    go_wp2
    go_ret
    exact ⟨_, rfl, by rw [HT.out]; exact HS1.out, HK1.out⟩
end Go.Proofs.YtnajdbnacdnnlaaGreatDoor

namespace Go.Proofs.YtnajdbnacdnnlaaGreatDoor
open Go.RowKit

/-- A row of places of which only the row lies in memory of its own. -/
def Pm (w : World) (base : Nat) (v : Value) (ps : List Nt.Pi) : Prop :=
  ∃ vs : List (Value × Value × Value), Tg 30 w base v vs ∧ vs.length = ps.length ∧
    ∀ k, k < ps.length → ∃ x y, at3 vs k = (x, .int .i64 (piAt ps k).c, y) ∧ Sl w 0 x (piAt ps k).ns ∧ Sl w 0 y (piAt ps k).ks
theorem Pm.po {w : World} {base : Nat} {v : Value} {ps : List Nt.Pi} (h : Pm w base v ps) : Po w 0 v ps := by
  obtain ⟨vs, h1, h2, h3⟩ := h
  exact ⟨vs, h1.mono (Nat.zero_le _), h2, h3⟩
theorem Pm.ps {w : World} {base : Nat} {v : Value} {ps : List Nt.Pi} (h : Pm w base v ps) : Ps w 0 v ps := h.po.ps
theorem Pm.block {w : World} {base : Nat} {v : Value} {ps : List Nt.Pi} (h : Pm w base v ps) {g : Nat} (hg : v.ownBlock = some g) : base ≤ g ∧ g < w.heap.size := by
  obtain ⟨vs, h1, _, _⟩ := h
  exact h1.block hg
theorem Pm.len {w : World} {base : Nat} {v : Value} {ps : List Nt.Pi} (h : Pm w base v ps) : ∃ a cap, v = .slice a ps.length cap := by
  obtain ⟨vs, h1, h2, _⟩ := h
  obtain ⟨a, cap, e⟩ := h1.any
  exact ⟨a, cap, by rw [e, h2]⟩
theorem tri_at {w : World} {g off : Nat} {ys : List (Value × Value × Value)} (h : ∀ k, k < ys.length → w.cell? ⟨g, off + k * 3, none⟩ = some (at3 ys k).1 ∧ w.cell? ⟨g, off + k * 3 + 1, none⟩ = some (at3 ys k).2.1 ∧ w.cell? ⟨g, off + k * 3 + 2, none⟩ = some (at3 ys k).2.2) :
    ∀ j u, (tri ys)[j]? = some u → w.cell? ((⟨g, off, none⟩ : Addr).add j) = some u := by
  intro j u hj
  have hlt : j < ys.length * 3 := by rw [← tri_length]; exact (List.getElem?_eq_some_iff.1 hj).1
  have e : (⟨g, off, none⟩ : Addr).add j = ⟨g, off + j, none⟩ := by unfold Addr.add; split <;> simp_all
  rw [e]
  obtain ⟨c0, c1, c2⟩ := h (j / 3) (by omega)
  obtain ⟨t0, t1, t2⟩ := tri_get ys (j / 3) (by omega)
  have hm : j % 3 = 0 ∨ j % 3 = 1 ∨ j % 3 = 2 := by omega
  rcases hm with hm | hm | hm
  · rw [show j = j / 3 * 3 by omega, t0] at hj
    rw [show off + j = off + j / 3 * 3 by omega, c0, ← Option.some.inj hj]
  · rw [show j = j / 3 * 3 + 1 by omega, t1] at hj
    rw [show off + j = off + j / 3 * 3 + 1 by omega, c1, ← Option.some.inj hj]
  · rw [show j = j / 3 * 3 + 2 by omega, t2] at hj
    rw [show off + j = off + j / 3 * 3 + 2 by omega, c2, ← Option.some.inj hj]

/-- The cells of a slice of places, as triples. -/
theorem Ps.tri {w : World} {base : Nat} {a : Option Addr} {n cap : Nat} {ps : List Nt.Pi} (h : Ps w base (.slice a n cap) ps) :
    ∃ ys : List (Value × Value × Value), ys.length = ps.length ∧ (∀ k, k < ps.length → ∃ x y, at3 ys k = (x, .int .i64 (piAt ps k).c, y) ∧ Sl w base x (piAt ps k).ns ∧ Sl w base y (piAt ps k).ks) ∧
      (∀ g off, a = some ⟨g, off, none⟩ → ∀ k, k < ys.length → w.cell? ⟨g, off + k * 3, none⟩ = some (at3 ys k).1 ∧ w.cell? ⟨g, off + k * 3 + 1, none⟩ = some (at3 ys k).2.1 ∧ w.cell? ⟨g, off + k * 3 + 2, none⟩ = some (at3 ys k).2.2) := by
  obtain ⟨a', cap', e, hz, h1, h2, h3⟩ := h
  simp only [Value.slice.injEq] at e
  obtain ⟨rfl, rfl, rfl⟩ := e
  have hex : ∀ k, ∃ t : Value × Value × Value, k < ps.length → ∃ g off, a = some ⟨g, off, none⟩ ∧ ∃ x y, t = (x, .int .i64 (piAt ps k).c, y) ∧ w.cell? ⟨g, off + k * 3, none⟩ = some x ∧ w.cell? ⟨g, off + k * 3 + 1, none⟩ = some (.int .i64 (piAt ps k).c) ∧ w.cell? ⟨g, off + k * 3 + 2, none⟩ = some y ∧ Sl w base x (piAt ps k).ns ∧ Sl w base y (piAt ps k).ks := by
    intro k
    by_cases hk : k < ps.length
    · obtain ⟨g, off, e, _, _, x, y, c0, c1, c2, hx, hy⟩ := h3 k hk
      exact ⟨(x, .int .i64 (piAt ps k).c, y), fun _ => ⟨g, off, e, x, y, rfl, c0, c1, c2, hx, hy⟩⟩
    · exact ⟨(undef, undef, undef), fun h => absurd h hk⟩
  refine ⟨(List.range ps.length).map fun k => Classical.choose (hex k), by simp, fun k hk => ?_, fun g off e k hk => ?_⟩
  · have hs := Classical.choose_spec (hex k) hk
    obtain ⟨g, off, _, x, y, ht, _, _, _, hx, hy⟩ := hs
    refine ⟨x, y, ?_, hx, hy⟩
    rw [← ht]
    simp [at3, List.getD_eq_getElem?_getD, hk]
  · have hk' : k < ps.length := by simpa using hk
    have hs := Classical.choose_spec (hex k) hk'
    obtain ⟨g', off', e', x, y, ht, c0, c1, c2, _, _⟩ := hs
    have e2 : at3 ((List.range ps.length).map fun k => Classical.choose (hex k)) k = Classical.choose (hex k) := by
      simp [at3, List.getD_eq_getElem?_getD, hk']
    rw [e] at e'
    simp only [Option.some.injEq, Addr.mk.injEq, and_true] at e'
    obtain ⟨rfl, rfl⟩ := e'
    rw [e2, ht]
    exact ⟨c0, c1, c2⟩
theorem tri_one {ys : List (Value × Value × Value)} (h : ∀ k, k < ys.length → (at3 ys k).1.oneCell' = true ∧ (at3 ys k).2.1.oneCell' = true ∧ (at3 ys k).2.2.oneCell' = true) : ∀ u ∈ tri ys, u.oneCell' = true := by
  intro u hu
  obtain ⟨j, hj, rfl⟩ := List.getElem_of_mem hu
  rw [tri_length] at hj
  obtain ⟨t0, t1, t2⟩ := tri_get ys (j / 3) (by omega)
  obtain ⟨h0, h1, h2⟩ := h (j / 3) (by omega)
  have hm : j % 3 = 0 ∨ j % 3 = 1 ∨ j % 3 = 2 := by omega
  have hg : (tri ys)[j]? = some ((tri ys)[j]'(by rw [tri_length]; exact hj)) := List.getElem?_eq_getElem _
  rcases hm with hm | hm | hm
  · rw [show j / 3 * 3 = j by omega, hg] at t0
    rw [Option.some.inj t0]; exact h0
  · rw [show j / 3 * 3 + 1 = j by omega, hg] at t1
    rw [Option.some.inj t1]; exact h1
  · rw [show j / 3 * 3 + 2 = j by omega, hg] at t2
    rw [Option.some.inj t2]; exact h2

/-- 'append(out, more...)' of places, wherever these lie. -/
theorem app_places {ops : Array Oper} {rest : List Oper} {o : Oper} {a : Act} {Q : Exit → Act → World → Prop} {W : World} (hgd : o.guard = none) (s y : Operand)
    (ho : o.op = .call { callee := .builtin .append, args := #[s, y], argTypes := #[31, 31] })
    (base : Nat) (v : Value) (ps qs : List Nt.Pi) (hown : Pm W base v ps) (hs : a.eval s = v) (u : Value) (hu : Ps W 0 u qs) (hx : a.eval y = u)
    (hlen : ps.length + qs.length ≤ 2000000) (hbase : base ≤ W.heap.size)
    (h : ∀ v' w', Pm w' base v' (ps ++ qs) → Kept v.ownBlock.toList W w' → wpList Tryz.prog ops Q rest (a.put o.dst v') w') :
    wpList Tryz.prog ops Q (o :: rest) a W := by
  obtain ⟨vs, ht, hvl, hvp⟩ := hown
  obtain ⟨i0, hi, hz0, hz1, hz2⟩ := info_parts info_place
  obtain ⟨au, capu, rfl, hzu, _, _, hcu⟩ := hu
  by_cases hq : qs.length = 0
  · have hqe : qs = [] := List.eq_nil_of_length_eq_zero hq
    subst hqe
    cases au with
    | none =>
      have hc0 := hzu rfl
      subst hc0
      refine wpList_append_own_none hgd s y 31 ho base 30 i0 3 Tryz.underlying31 hi v vs.length (tri vs) hs ht (by rw [hx]; rfl) ?_
      exact h v W (by rw [List.append_nil]; exact ⟨vs, ht, hvl, hvp⟩) (Kept.refl _ _)
    | some ad =>
      refine wpList_append_own _ hgd s y _ ho base 30 i0 (.agg #[.slice none 0 0, .int .i64 0, .slice none 0 0]) 3 56 Tryz.underlying31 hi hz0 hz1 hz2 rfl (by decide) v vs.length (tri vs) hs ht
        ad 0 capu [] (by rw [hx]; rfl) rfl (by intro j u hj; simp at hj) (by intro u hu; cases hu) (by unfold maxLen; omega) (by omega) hbase ?_
      intro v' w' h1 h2 _
      have h1' : Tg 30 w' base v' vs := by unfold Tg; simpa using h1
      have hk : Kept v.ownBlock.toList W w' := (Kept.refl _ _).grown h2 fun k hk => .inl (by rw [hk]; simp)
      refine h v' w' ?_ hk
      rw [List.append_nil]
      refine ⟨vs, h1', hvl, fun k hkl => ?_⟩
      obtain ⟨x, y, e, hx1, hy1⟩ := hvp k hkl
      exact ⟨x, y, e, hx1.kept hk (sl_tg hx1 ht), hy1.kept hk (sl_tg hy1 ht)⟩
  · obtain ⟨g, off, rfl, _⟩ := hcu 0 (by omega)
    obtain ⟨ys, hyl, hyp, hyc⟩ := Ps.tri (w := W) (base := 0) (a := some ⟨g, off, none⟩) (n := qs.length) (cap := capu) (ps := qs) ⟨_, capu, rfl, hzu, by omega, by assumption, hcu⟩
    have hone : ∀ u ∈ tri ys, u.oneCell' = true := tri_one fun k hk => by
      obtain ⟨x, y, e, hx1, hy1⟩ := hyp k (by omega)
      rw [e]
      exact ⟨one_sl hx1, rfl, one_sl hy1⟩
    refine wpList_append_own _ hgd s y _ ho base 30 i0 (.agg #[.slice none 0 0, .int .i64 0, .slice none 0 0]) 3 56 Tryz.underlying31 hi hz0 hz1 hz2 rfl (by decide) v vs.length (tri vs) hs ht
      ⟨g, off, none⟩ qs.length capu (tri ys) (by rw [hx]) (by rw [tri_length, hyl]) (tri_at (hyc g off rfl)) hone (by unfold maxLen; omega) (by omega) hbase ?_
    intro v' w' h1 h2 _
    have h1' : Tg 30 w' base v' (vs ++ ys) := by unfold Tg; rw [List.length_append, tri_append, hyl]; exact h1
    have hk : Kept v.ownBlock.toList W w' := (Kept.refl _ _).grown h2 fun k hk => .inl (by rw [hk]; simp)
    refine h v' w' ⟨vs ++ ys, h1', by rw [List.length_append, List.length_append, hvl, hyl], fun k hkl => ?_⟩ hk
    by_cases e : k < ps.length
    · obtain ⟨x, y, e1, hx1, hy1⟩ := hvp k e
      rw [at3_append_left (by omega)]
      have e2 : piAt (ps ++ qs) k = piAt ps k := by unfold piAt; rw [List.getD_eq_getElem?_getD, List.getElem?_append_left e, ← List.getD_eq_getElem?_getD]
      rw [e2]
      exact ⟨x, y, e1, hx1.kept hk (sl_tg hx1 ht), hy1.kept hk (sl_tg hy1 ht)⟩
    · have hkl' : k - ps.length < qs.length := by rw [List.length_append] at hkl; omega
      obtain ⟨x, y, e1, hx1, hy1⟩ := hyp (k - ps.length) hkl'
      have e2 : piAt (ps ++ qs) k = piAt qs (k - ps.length) := by unfold piAt; rw [List.getD_eq_getElem?_getD, List.getElem?_append_right (by omega), ← List.getD_eq_getElem?_getD]
      have e3 : at3 (vs ++ ys) k = at3 ys (k - ps.length) := by unfold at3; rw [List.getD_eq_getElem?_getD, List.getElem?_append_right (by omega), ← List.getD_eq_getElem?_getD, hvl]
      rw [e2, e3]
      exact ⟨x, y, e1, hx1.kept hk (sl_tg hx1 ht), hy1.kept hk (sl_tg hy1 ht)⟩

set_option maxHeartbeats 2000000 in
set_option maxRecDepth 100000 in
/-- slices.Grow of no places. -/
theorem growPlaces_any (n : Nat) (h0 : 0 < n) (hn : n ≤ 1000000) (w : World) :
    Calls Tryz.prog 187 #[.slice none 0 0, .int .i64 n] w fun e w' => ∃ v, e = .returned v ∧ Pm w' w.heap.size v [] ∧ Kept [] w w' := by
  obtain ⟨i0, hi, hz0, hz1, hz2⟩ := info_parts info_place
  have h1 : ¬ ((n : Int) < 0) := by omega
  have h4 : decide ((n : Int) > 0) = true := dec_of (by omega)
  have h4' : decide (0 < (n : Int)) = true := dec_of (by omega)
  have h5 : decide ((n : Int) < 0) = false := dec_not (by omega)
  have h3 : wrap64 ((n : Int) - 0) = (n : Int) := by unfold wrap64; omega
  have h3' : wrap64 (n : Int) = (n : Int) := by unfold wrap64; omega
  have hrz : ∀ ty, (Builtin.append_ #[31, 3] ty #[.slice none 0 0, .int .i64 (n : Int)]).run Tryz.prog w = _ := fun ty =>
    Lib.run_append_nil_zeros w 31 3 ty 30 i0 (.agg #[.slice none 0 0, .int .i64 0, .slice none 0 0]) .i64 .i64 Tryz.underlying31 Tryz.underlying3 hi hz0 n h0 (by rw [hz1]; omega) (by omega) (by rw [hz2]; omega)
  have hG : n ≤ grownCap w n 0 30 := grownCap_ge w _ _ _
  have hG2 : grownCap w n 0 30 ≤ maxLen := grownCap_le_maxLen w n 0 _ (by unfold maxLen; omega)
  generalize grownCap w n 0 30 = G at *
  have hG63 : G ≤ 9223372036854775807 := by unfold maxLen at hG2; omega
  have hPM : Hid (Pm (w.drew.alloc (.cells (Builtin.zeroCells (Value.agg #[.slice none 0 0, .int .i64 0, .slice none 0 0]).cells n ++ Builtin.zeroCells (Value.agg #[.slice none 0 0, .int .i64 0, .slice none 0 0]).cells (G - n)) 30)) w.heap.size (.slice (some ⟨w.heap.size, 0, none⟩) 0 G) []) := Lib.hid ⟨[], ⟨rfl, .inr ⟨w.heap.size, G, _, rfl, Nat.le_refl _, heap_alloc_new _ _, Nat.zero_le _, hG2, by
    simp [Builtin.zeroCells, show (Value.agg #[.slice none 0 0, .int .i64 0, .slice none 0 0]).cells.size = 3 from rfl]; omega, rfl⟩⟩, rfl, fun k hk => by simp at hk⟩
  have HK : Hid (Kept [] w (w.drew.alloc (.cells (Builtin.zeroCells (Value.agg #[.slice none 0 0, .int .i64 0, .slice none 0 0]).cells n ++ Builtin.zeroCells (Value.agg #[.slice none 0 0, .int .i64 0, .slice none 0 0]).cells (G - n)) 30))) := Lib.hid ((Kept.refl [] w).drew.alloc _)
  clear hG2 hi hz0 hz1 hz2
  go_enter Tryz.func187, Tryz.ntmps187
  go_wp2_with (at_builtin; refine Lib.wpList_append_run _ rfl _ _ _ _ rfl _ _ rfl rfl _ _ (hrz _) ?_)
  go_ret
  exact ⟨_, rfl, hPM.out, HK.out⟩
end Go.Proofs.YtnajdbnacdnnlaaGreatDoor

namespace Go.Proofs.YtnajdbnacdnnlaaGreatDoor
open Go.RowKit

theorem Ps.any3 {w : World} {base : Nat} {v : Value} {ps : List Nt.Pi} (h : Ps w base v ps) : ∃ a cap, v = .slice a ps.length cap := by
  obtain ⟨a, cap, e, _⟩ := h
  exact ⟨a, cap, e⟩
/-- So many places are put together behind k rows. -/
def putTo (n k : Nat) : Nat := if k = 0 then 0 else if k = 1 then n else n + 1

set_option maxHeartbeats 2000000 in
set_option maxRecDepth 100000 in
theorem concat_any (ps : List Nt.Pi) (p : Nt.Pi) (h8 : ps.length ≤ 1000) (w : World) (g : Nat) (v u : Value) (hb : Bk w g 31 #[v, u]) (hv : Ps w 0 v ps) (hu : Ps w 0 u [p]) :
    Calls Tryz.prog 156 #[.slice (some ⟨g, 0, none⟩) 2 2] w fun e w' => ∃ g' cap, e = .returned (.slice (some ⟨g', 0, none⟩) (ps.length + 1) cap) ∧ Pm w' w.heap.size (.slice (some ⟨g', 0, none⟩) (ps.length + 1) cap) (ps ++ [p]) ∧ Kept [] w w' := by
  have HV := Lib.hid hv
  have HU := Lib.hid hu
  have HB := Lib.hid hb
  obtain ⟨n, hn⟩ : ∃ n, n = ps.length := ⟨_, rfl⟩
  rw [← hn] at h8 ⊢
  have HN := Lib.hid hn
  obtain ⟨a1, c1, rfl⟩ := hv.any3
  obtain ⟨a2, c2, rfl⟩ := hu.any3
  rw [← hn] at HV HB
  have q0 : w.cell? ⟨g, 0, none⟩ = some (.slice a1 n c1) := HB.out.cell 0 rfl
  have q1 : w.cell? ⟨g, 1, none⟩ = some (.slice a2 1 c2) := HB.out.cell 1 rfl
  clear hv hu hb hn
  go_enter Tryz.func156, Tryz.ntmps156
  go_wp2
  go_loop [3, 11] (fun s i => ∃ k : Nat, k ≤ 2 ∧ i = .int .i64 k ∧ s = .int .i64 (putTo n k : Nat)) (fun _ i => 2 - (intOf i).toNat)
  case atStart => exact ⟨0, by omega, rfl, rfl⟩
  case round =>
    obtain ⟨k, hk, rfl, rfl⟩ := hrel
    have hk3 : k = 0 ∨ k = 1 ∨ k = 2 := by omega
    rcases hk3 with rfl | rfl | rfl
    · have e0 : putTo n 0 = 0 := rfl
      rw [e0]
      go_wp2
      go_round
      case rel => exact ⟨1, by omega, by go_num, by go_num⟩
      case measure => simp [intOf]
    · have e0 : putTo n 1 = n := rfl
      have d0 : decide ((n : Int) + 1 < 0) = false := dec_not (by omega)
      rw [e0]
      go_wp2
      go_round
      case rel => exact ⟨2, by omega, by go_num, by show _ = Value.int .i64 ((n + 1 : Nat) : Int); go_num⟩
      case measure => simp [intOf]
    · have e0 : ((putTo n 2 : Nat) : Int) = ((n + 1 : Nat) : Int) := rfl
      rw [e0]
      have HG := Lib.hid (fun W => growPlaces_any (n + 1) (by omega) (by omega) W)
      go_wp2_with fail
      refine (HG.out _).mono ?_
      rintro e w1 ⟨v1, rfl, hpm, hk1⟩
      have HPM := Lib.hid hpm
      have HK1 := Lib.hid hk1
      clear hpm hk1 HG e0
      go_wp2_with fail
      go_loopw [6, 27] (fun z i wr => ∃ k : Nat, k ≤ 2 ∧ i = .int .i64 k ∧ Pm wr w.heap.size z ((ps ++ [p]).take (putTo n k)) ∧ Kept [] w wr) (fun _ i _ => 2 - (intOf i).toNat)
      case atStart => exact ⟨0, by omega, rfl, HPM.out, HK1.out⟩
      case round =>
        clear HPM HK1
        obtain ⟨k, hk, rfl, hpm, hkept⟩ := hrel
        have HPM := Lib.hid hpm
        have HK := Lib.hid hkept
        have c0 := (HB.out.stay hkept).cell 0 rfl
        have c1 := (HB.out.stay hkept).cell 1 rfl
        have HVW := Lib.hid (HV.out.stay hkept)
        have HUW := Lib.hid (HU.out.stay hkept)
        have HBW := Lib.hid hkept.size
        clear hpm hkept
        have hk3 : k = 0 ∨ k = 1 ∨ k = 2 := by omega
        rcases hk3 with rfl | rfl | rfl
        · have HE : Hid ((ps ++ [p]).take (putTo n 0) ++ ps = (ps ++ [p]).take (putTo n 1)) := Lib.hid (by
            show (ps ++ [p]).take 0 ++ ps = (ps ++ [p]).take n
            rw [HN.out, List.take_zero, List.nil_append, List.take_left' rfl])
          obtain ⟨aa, cc, rfl⟩ := HPM.out.len
          go_wp2_with (at_builtin; refine app_places rfl _ _ rfl w.heap.size _ _ ps HPM.out rfl _ HVW.out rfl (by show (List.take 0 _).length + _ ≤ _; rw [← HN.out]; simp; omega) HBW.out ?_; intro v9 w9 hp9 hk9; have HP9 := Lib.hid hp9; have HK9 := Lib.hid (HK.out.own hk9 (fun g hg => (HPM.out.block hg).1)); clear hp9 hk9)
          go_roundw
          case rel => exact ⟨1, by omega, by go_num, by rw [← HE.out]; exact HP9.out, HK9.out⟩
          case measure => simp [intOf]
        · have HE : Hid ((ps ++ [p]).take (putTo n 1) ++ [p] = (ps ++ [p]).take (putTo n 2)) := Lib.hid (by
            show (ps ++ [p]).take n ++ [p] = (ps ++ [p]).take (n + 1)
            rw [HN.out, List.take_left' rfl, List.take_of_length_le (by simp)])
          obtain ⟨aa, cc, rfl⟩ := HPM.out.len
          go_wp2_with (at_builtin; refine app_places rfl _ _ rfl w.heap.size _ _ [p] HPM.out rfl _ HUW.out rfl (by show (List.take n _).length + _ ≤ _; rw [List.length_take]; simp; omega) HBW.out ?_; intro v9 w9 hp9 hk9; have HP9 := Lib.hid hp9; have HK9 := Lib.hid (HK.out.own hk9 (fun g hg => (HPM.out.block hg).1)); clear hp9 hk9)
          go_roundw
          case rel => exact ⟨2, by omega, by go_num, by rw [← HE.out]; exact HP9.out, HK9.out⟩
          case measure => simp [intOf]
        · have HE : Hid ((ps ++ [p]).take (putTo n 2) = ps ++ [p]) := Lib.hid (by
            show (ps ++ [p]).take (n + 1) = _
            rw [List.take_of_length_le (by rw [HN.out]; simp)])
          rw [HE.out] at HPM
          obtain ⟨vs, ht, hvl, hvp⟩ := HPM.out
          have HVP := Lib.hid hvp
          have HVL := Lib.hid hvl
          have HT := Lib.hid ht
          obtain ⟨g9, c9, rfl, _⟩ := ht.shape (n := n + 1) (by rw [hvl, List.length_append, HN.out]; rfl) (by omega)
          clear ht hvl hvp
          go_wp2
          go_ret
          exact ⟨g9, c9, rfl, ⟨vs, HT.out, HVL.out, HVP.out⟩, HK.out⟩

/-- A state with a node lit. -/
def litK (ks : List Nat) (a : Int) : List Nat := if (0 ≤ a ∧ a < ks.length) ∧ ks.getD a.toNat 0 = 0 then ks.set a.toNat 1 else ks

set_option maxHeartbeats 2000000 in
set_option maxRecDepth 100000 in
theorem litState_any (c : Nat) (ks : List Nat) (st : Nt.St c ks) (a : Int) (w : World) (v : Value) (base : Nat) (hs : Sl w base v (Nt.nats ks)) :
    Calls Tryz.prog 184 #[v, .int .i64 a] w fun e w' => ∃ z, e = .returned z ∧ Sl w' w.heap.size z (Nt.nats (litK ks a)) ∧ Kept [] w w' := by
  obtain ⟨n, hn⟩ : ∃ n, n = ks.length := ⟨_, rfl⟩
  have hn0 : 0 < n := by rw [hn]; exact st.some
  have hn6 : n ≤ 6 := by rw [hn]; exact st.few
  have hnl : (Nt.nats ks).length = n := by rw [hn]; exact Nt.nats_length _
  have HC := Lib.hid (cloneInts_any (Nt.nats ks) (by omega) (by omega) w v base hs)
  have HSW : Hid (litK ks a = if (0 ≤ a ∧ a < (n : Int)) ∧ ks.getD a.toNat 0 = 0 then ks.set a.toNat 1 else ks) := Lib.hid (by unfold litK; rw [hn])
  have HN := Lib.hid hn
  have HS := Lib.hid hs
  obtain ⟨g, cap, rfl, _, _⟩ := hs.shape hnl hn0
  clear hs st hn
  go_enter Tryz.func184, Tryz.ntmps184
  go_wp2_with fail
  refine (HC.out).mono ?_
  rintro e w1 ⟨z, rfl, hs1, hk1⟩
  have HS1 := Lib.hid hs1
  have HK1 := Lib.hid hk1
  have HS0 := Lib.hid (HS.out.stay hk1)
  obtain ⟨g1, cap1, rfl, hg1, _⟩ := hs1.shape hnl hn0
  clear hs1 hk1 HC HS
  go_wp2_with fail
  refine (isNodeZ_any n a _).mono ?_
  rintro e w' ⟨rfl, rfl⟩
  by_cases hr : 0 ≤ a ∧ a < (n : Int)
  · rw [show decide (0 ≤ a ∧ a < (n : Int)) = true from dec_of hr]
    obtain ⟨m, rfl⟩ := Int.eq_ofNat_of_zero_le hr.1
    have hm : m < n := by omega
    have hmq : m < ks.length := by rw [← HN.out]; exact hm
    obtain ⟨y0, _⟩ := HS0.out.at m (by rw [Nt.nats_length]; exact hmq)
    obtain ⟨y2, y3⟩ := HS1.out.at m (by rw [Nt.nats_length]; exact hmq)
    rw [show (Nt.nats ks).getD m 0 = (ks.getD m 0 : Nat) from Nt.nats_get _ _] at y0 y2
    by_cases hz : ks.getD m 0 = 0
    · have HT : Hid (litK ks (m : Int) = ks.set m 1) := Lib.hid (by rw [HSW.out, if_pos ⟨hr, by rw [Int.toNat_natCast]; exact hz⟩, Int.toNat_natCast])
      rw [hz] at y0 y2
      clear hr hz
      go_wp2
      go_ret
      refine ⟨_, rfl, ?_, HK1.out.setCell (.inr hg1) _⟩
      rw [HT.out, Nt.nats_set]
      exact HS1.out.set hnl.symm m 1
    · have HT : Hid (litK ks (m : Int) = ks) := Lib.hid (by rw [HSW.out, if_neg (fun h => hz (by have h2 := h.2; rw [Int.toNat_natCast] at h2; exact h2))])
      have hz' : (((ks.getD m 0 : Nat) : Int) == 0) = false := beq_eq_false_iff_ne.2 (fun h => hz (by omega))
      generalize ((ks.getD m 0 : Nat) : Int) = zz at *
      clear hr hz
      go_wp2
      go_ret
      exact ⟨_, rfl, by rw [HT.out]; exact HS1.out, HK1.out⟩
  · rw [show decide (0 ≤ a ∧ a < (n : Int)) = false from decide_eq_false hr]
    have HT : Hid (litK ks a = ks) := Lib.hid (by rw [HSW.out, if_neg (fun h => hr h.1)])
    clear hr
    go_wp2
    go_ret
    exact ⟨_, rfl, by rw [HT.out]; exact HS1.out, HK1.out⟩
end Go.Proofs.YtnajdbnacdnnlaaGreatDoor

namespace Go.Proofs.YtnajdbnacdnnlaaGreatDoor
open Go.RowKit

/-- The first two values, and others behind them. -/
def lay2 (a b : Nat) (G : Nat → Nat) : Nat → Nat := fun i => if i = 0 then a else if i = 1 then b else G i
theorem lay2_o (a b : Nat) (G : Nat → Nat) {i : Nat} (h : 2 ≤ i) : lay2 a b G i = G i := by unfold lay2; rw [if_neg (by omega), if_neg (by omega)]
theorem dx_of {w : World} {base m : Nat} {d : Nt.Di} {g1 q1 g2 q2 : Nat} {G C : Nat → Nat} {r : Value} {vs : List (Value × Value × Value)}
    (hv : Sl w base (.slice (some ⟨g1, 0, none⟩) d.now.ns.length q1) d.now.ns) (hu : Sl w base (.slice (some ⟨g2, 0, none⟩) d.now.ks.length q2) d.now.ks) (h12 : g1 < g2) (h2m : g2 < m)
    (hr : Tg 30 w base r vs) (hl : vs.length = d.past.length) (hp : ∀ k, k < d.past.length → PastAt w m G C vs d.past k) (hbm : base ≤ m) (hi : ∀ i j, 2 ≤ i → i < j → j < 2 * d.past.length + 2 → G i < G j) :
    Dx w base (.agg #[.slice (some ⟨g1, 0, none⟩) d.now.ns.length q1, .int .i64 d.now.c, .slice (some ⟨g2, 0, none⟩) d.now.ks.length q2, r]) d (lay2 g1 g2 G) (lay2 q1 q2 C) r vs := by
  have hlow : ∀ i, 2 ≤ i → i < 2 * d.past.length + 2 → m ≤ G i := fun i h1 h2 => by
    by_cases e : i % 2 = 0
    · obtain ⟨k, rfl⟩ : ∃ k, i = 2 * k + 2 := ⟨i / 2 - 1, by omega⟩
      exact ((hp k (by omega)).2.1.block rfl).1
    · obtain ⟨k, rfl⟩ : ∃ k, i = 2 * k + 3 := ⟨i / 2 - 1, by omega⟩
      exact ((hp k (by omega)).2.2.block rfl).1
  refine ⟨rfl, hv, hu, hr, hl, fun k hk => ?_, fun i j h1 h2 => ?_⟩
  · exact ((hp k hk).mono hbm).other rfl (lay2_o _ _ _ (by omega)) (lay2_o _ _ _ (by omega)) (lay2_o _ _ _ (by omega)) (lay2_o _ _ _ (by omega))
  · by_cases e0 : i = 0
    · subst e0
      by_cases e1 : j = 1
      · subst e1; exact h12
      · rw [lay2_o _ _ _ (show 2 ≤ j by omega)]
        have := hlow j (by omega) h2
        show g1 < G j
        omega
    · by_cases e1 : i = 1
      · subst e1
        rw [lay2_o _ _ _ (show 2 ≤ j by omega)]
        have := hlow j (by omega) h2
        show g2 < G j
        omega
      · rw [lay2_o _ _ _ (show 2 ≤ j by omega), lay2_o _ _ _ (show 2 ≤ i by omega)]
        exact hi i j (by omega) h1 h2

set_option maxHeartbeats 4000000 in
set_option maxRecDepth 100000 in
theorem copiedDesk_any (d : Nt.Di) (hd : Nt.dkB d = true) (w : World) (x : Value) (base : Nat) (h : Dv w base x d) :
    Calls Tryz.prog 66 #[x] w fun e w' => ∃ y G C r vs, e = .returned y ∧ Dx w' w.heap.size y d G C r vs ∧ Kept [] w w' := by
  obtain ⟨hnow, hpast, h8⟩ := dk_parts hd
  have HLN := Lib.hid (pl_len hnow)
  have HLP := Lib.hid hpast
  obtain ⟨v, u, r, rfl, h1, h2, h3⟩ := h
  obtain ⟨hk0, hb0, hr0⟩ := two_new w 33 33 #[v, .int .i64 d.now.c, u, r] #[.slice none 0 0, .int .i64 0, .slice none 0 0, .slice none 0 0]
  have HPV : Hid (Pv ((w.alloc (.cells #[v, .int .i64 d.now.c, u, r] 33)).alloc (.cells #[.slice none 0 0, .int .i64 0, .slice none 0 0, .slice none 0 0] 33)) base (.agg #[v, .int .i64 d.now.c, u]) d.now) := Lib.hid ⟨v, u, rfl, h1.stay hk0, h2.stay hk0⟩
  have H3 := Lib.hid (h3.stay hk0)
  have HB := Lib.hid hb0
  have HR := Lib.hid hr0
  have HK0 := Lib.hid hk0
  obtain ⟨a, cap, rfl, _, _, _⟩ := h1.any
  obtain ⟨b, cap2, rfl, _, _, _⟩ := h2.any
  obtain ⟨a3, cap3, rfl⟩ := h3.any3
  have hzz := hb0.lt
  have hzr := hr0.lt
  obtain ⟨c0, c1, c2, c3⟩ := hb0.four
  clear h1 h2 h3 hk0 hb0 hr0 hnow hpast hd
  go_enter Tryz.func66, Tryz.ntmps66
  go_wp2_with fail
  generalize ((w.alloc (.cells #[.slice a d.now.ns.length cap, .int .i64 d.now.c, .slice b d.now.ks.length cap2, .slice a3 d.past.length cap3] 33)).alloc (.cells #[.slice none 0 0, .int .i64 0, .slice none 0 0, .slice none 0 0] 33)) = W0 at *
  have HSB : Hid (∀ w', Kept [w.heap.size + 1] W0 w' → w'.cell? ⟨w.heap.size, 0, none⟩ = some (.slice a d.now.ns.length cap) ∧ w'.cell? ⟨w.heap.size, 1, none⟩ = some (.int .i64 d.now.c) ∧ w'.cell? ⟨w.heap.size, 2, none⟩ = some (.slice b d.now.ks.length cap2) ∧ w'.cell? ⟨w.heap.size, 3, none⟩ = some (.slice a3 d.past.length cap3)) := Lib.hid (fun w' k => (HB.out.kept k (by simp)).four)
  have HC1 : Hid (∀ W, Kept [] W0 W → Calls Tryz.prog 115 #[.agg #[.slice a d.now.ns.length cap, .int .i64 d.now.c, .slice b d.now.ks.length cap2]] W fun e w' => ∃ g1 q1 g2 q2, e = .returned (.agg #[.slice (some ⟨g1, 0, none⟩) d.now.ns.length q1, .int .i64 d.now.c, .slice (some ⟨g2, 0, none⟩) d.now.ks.length q2]) ∧
      Hid (Sl w' W0.heap.size (.slice (some ⟨g1, 0, none⟩) d.now.ns.length q1) d.now.ns ∧ Sl w' W0.heap.size (.slice (some ⟨g2, 0, none⟩) d.now.ks.length q2) d.now.ks ∧ g1 < g2) ∧ Kept [] W0 w') := Lib.hid (fun W k => (copiedPlace_any d.now HLN.out.1 HLN.out.2 W _ base (HPV.out.stay k)).mono (by
    rintro e w' ⟨g1, q1, g2, q2, rfl, h1, h2, h3, h4⟩
    exact ⟨g1, q1, g2, q2, rfl, ⟨h1.mono k.size, h2.mono k.size, h3⟩, k.trans h4 (by simp)⟩))
  have HC2 : Hid (∀ W, Kept [] W0 W → Calls Tryz.prog 116 #[.slice a3 d.past.length cap3, .func (.func 115) #[] #[]] W fun e w' => ∃ (B : Nat), e = .returned (.slice (some ⟨B, 0, none⟩) d.past.length d.past.length) ∧
      Hid (B = W.heap.size ∧ (∃ (G C : Nat → Nat) (vs : List (Value × Value × Value)), Tg 30 w' B (.slice (some ⟨B, 0, none⟩) d.past.length d.past.length) vs ∧ vs.length = d.past.length ∧
      (∀ k, k < d.past.length → PastAt w' (B + 1) G C vs d.past k) ∧ (∀ i j, 2 ≤ i → i < j → j < 2 * d.past.length + 2 → G i < G j)) ∧ Kept [] W w') ∧ Kept [] W0 w') := Lib.hid (fun W k => (changedPlaces_any d.past HLP.out (by omega) W _ base (H3.out.stay k)).mono (by
    rintro e w' ⟨G, C, vs, rfl, h1, h2, h3, h4, h5⟩
    exact ⟨_, rfl, ⟨rfl, ⟨G, C, vs, h1, h2, h3, h4⟩, h5⟩, k.trans h5 (by simp)⟩))
  clear h8
  go_region_held3 (fun w' => w'.cell? ⟨w.heap.size, 0, none⟩ = some (.slice a d.now.ns.length cap) ∧ w'.cell? ⟨w.heap.size, 1, none⟩ = some (.int .i64 d.now.c) ∧ w'.cell? ⟨w.heap.size, 2, none⟩ = some (.slice b d.now.ks.length cap2) ∧ w'.cell? ⟨w.heap.size, 3, none⟩ = some (.slice a3 d.past.length cap3))
    ((refine HSB.out _ ?_; repeat (first | exact Kept.refl _ _ | (refine Kept.weak _ ?_; assumption) | (refine Kept.setCell ?_ (.inl (by simp)) _) | apply Kept.alloc | apply Kept.drew)))
    (first
    | (go_simp; go_at_call 115; refine (HC1.out _ (by repeat (first | exact Kept.refl _ _ | assumption | apply Kept.alloc | apply Kept.drew))).mono ?_; rintro e w1 ⟨g1, q1, g2, q2, rfl, HS1, k1⟩; have z1 := (HR.out.stay k1).lt; obtain ⟨r0, r1, r2, r3⟩ := (HR.out.stay k1).four; have f0 := (HR.out.stay k1).frozen 0; have f1 := (HR.out.stay k1).frozen 1; have f2 := (HR.out.stay k1).frozen 2; have f3 := (HR.out.stay k1).frozen 3)
    | (go_simp; go_at_call 116; refine (HC2.out _ (by repeat (first | exact Kept.refl _ _ | assumption | apply Kept.alloc | apply Kept.drew))).mono ?_; rintro e w2 ⟨B, rfl, HS2, k2⟩; have z2 := (HR.out.stay k2).lt; obtain ⟨s0, s1, s2, s3⟩ := (HR.out.stay k2).four; have t0 := (HR.out.stay k2).frozen 0; have t1 := (HR.out.stay k2).frozen 1; have t2 := (HR.out.stay k2).frozen 2; have t3 := (HR.out.stay k2).frozen 3))
  all_goals
    go_wp2
    (try simp only [Exit.inBlock, Exit.then])
    refine bodyPost_ret (results_cell_row rfl _ _ (w.heap.size + 1) 33 #[.slice (some ⟨g1, 0, none⟩) d.now.ns.length q1, .int .i64 d.now.c, .slice (some ⟨g2, 0, none⟩) d.now.ks.length q2, .slice (some ⟨B, 0, none⟩) d.past.length d.past.length] (0, 0) _ rfl ((HR.out.stay k2).set4 _ _ _ _) Tryz.underlying33 rfl (by kernel_rfl)) rfl ?_
    have hsz := HK0.out.size
    have hlt := HR.out.lt
    obtain ⟨hB, ⟨G, C, vs, htg, hvl, hpa, hinc⟩, hk12a⟩ := HS2.out
    have hk12 : Kept [] w1 w2 := Kept.trans (rows' := []) (by repeat (first | exact Kept.refl _ _ | apply Kept.alloc | apply Kept.drew)) hk12a (by simp)
    have hzB : w1.heap.size ≤ B := by rw [hB]; exact Kept.size (rows := []) (by repeat (first | exact Kept.refl _ _ | apply Kept.alloc | apply Kept.drew))
    have hW1 : W0.heap.size ≤ w1.heap.size := k1.size
    have hgb := (HS1.out.2.1.block (g := g2) rfl).2
    have hk4 := Kept.rows4 w2 (w.heap.size + 1) (.slice (some ⟨g1, 0, none⟩) d.now.ns.length q1) (.int .i64 d.now.c) (.slice (some ⟨g2, 0, none⟩) d.now.ks.length q2) (.slice (some ⟨B, 0, none⟩) d.past.length d.past.length)
    refine ⟨_, _, _, _, _, rfl, dx_of (m := B + 1) (((HS1.out.1.stay hk12).kept hk4 (fun g hg => by have h1 := (HS1.out.1.block hg).1; simp; omega)).mono hsz) (((HS1.out.2.1.stay hk12).kept hk4 (fun g hg => by have h1 := (HS1.out.2.1.block hg).1; simp; omega)).mono hsz) HS1.out.2.2 (by omega)
      ((htg.kept hk4 (fun g hg => by have h1 := (htg.block hg).1; simp; omega)).mono (by omega)) hvl (fun k hk => (hpa k hk).kept hk4 (fun g hg _ => by simp; omega)) (by omega) hinc, (HK0.out.trans k2 (by simp)).set4 (by omega) _ _ _ _⟩

/-- The row of a slice of places is one of places. -/
def Pt (w : World) (r : Value) : Prop := ∀ a n cap, r = .slice (some a) n cap → 0 < n → ∃ cur, w.heap[a.block]? = some (.cells cur 30 (0, 0))
theorem Pt.stay {w w' : World} {r : Value} (h : Pt w r) (hk : Kept [] w w') : Pt w' r := fun a n cap e hn => by
  obtain ⟨cur, hc⟩ := h a n cap e hn
  exact ⟨cur, (hk.block a.block (Array.getElem?_eq_some_iff.1 hc).1 (by simp)).trans hc⟩
theorem Tg.pt {w : World} {base : Nat} {r : Value} {vs : List (Value × Value × Value)} (h : Tg 30 w base r vs) : Pt w r := fun a n cap e hn => by
  rcases h.2 with ⟨h1, h2⟩ | ⟨g, cap', cur, h1, _, h2, _⟩
  · rw [h1] at e; simp at e
  · rw [h1] at e
    simp only [Value.slice.injEq, Option.some.injEq] at e
    obtain ⟨rfl, _, _⟩ := e
    exact ⟨cur, h2⟩
/-- Blocks that are neither of numbers nor of places. -/
def Alien (w : World) (rows : List Nat) : Prop := ∀ g, g ∈ rows → ∃ cs T, w.heap[g]? = some (.cells cs T (0, 0)) ∧ T ≠ 3 ∧ T ≠ 30
theorem Alien.one {w : World} {g : Nat} {cs : Array Value} (h : Bk w g 33 cs) : Alien w [g] := fun j hj => by
  have e : j = g := by simpa using hj
  subst e
  exact ⟨cs, _, h, by decide, by decide⟩
theorem Sl.alien {w w' : World} {base : Nat} {v : Value} {xs : List Int} {rows : List Nat} (h : Sl w base v xs) (hk : Kept rows w w') (ha : Alien w rows) : Sl w' base v xs := h.kept hk (fun g hg hm => by
  obtain ⟨cs, T, h1, h2, _⟩ := ha g hm
  rcases h.2 with ⟨rfl, _⟩ | ⟨g1, c1, cur1, rfl, _, h3, _⟩
  · simp [Value.ownBlock] at hg
  · simp [Value.ownBlock] at hg
    subst hg
    rw [h1] at h3
    exact h2 (Obj.cells.inj (Option.some.inj h3)).2.1)
theorem Ps.alien {w w' : World} {base : Nat} {v : Value} {ps : List Nt.Pi} {rows : List Nat} (h : Ps w base v ps) (ht : Pt w v) (hk : Kept rows w w') (ha : Alien w rows) : Ps w' base v ps := by
  obtain ⟨a, cap, rfl, hz, h1, h2, h3⟩ := h
  refine ⟨a, cap, rfl, hz, h1, h2, fun k hkl => ?_⟩
  obtain ⟨g, off, rfl, hb, hg, x, y, c0, c1, c2, hx, hy⟩ := h3 k hkl
  have hn : ¬ g ∈ rows := fun hm => by
    obtain ⟨cs, T, e1, _, e2⟩ := ha g hm
    obtain ⟨cur, e3⟩ := ht ⟨g, off, none⟩ _ _ rfl (by omega)
    rw [show (⟨g, off, none⟩ : Addr).block = g from rfl, e1] at e3
    exact e2 (Obj.cells.inj (Option.some.inj e3)).2.1
  exact ⟨g, off, rfl, hb, Nat.lt_of_lt_of_le hg hk.size, x, y, (hk.cell (p := ⟨g, off + k * 3, none⟩) hg hn).trans c0, (hk.cell (p := ⟨g, off + k * 3 + 1, none⟩) hg hn).trans c1, (hk.cell (p := ⟨g, off + k * 3 + 2, none⟩) hg hn).trans c2, hx.alien hk ha, hy.alien hk ha⟩
theorem Pt.alien {w w' : World} {r : Value} {rows : List Nat} (h : Pt w r) (hk : Kept rows w w') (ha : Alien w rows) : Pt w' r := fun a n cap e hn => by
  obtain ⟨cur, hc⟩ := h a n cap e hn
  refine ⟨cur, (hk.block a.block (Array.getElem?_eq_some_iff.1 hc).1 (fun hm => ?_)).trans hc⟩
  obtain ⟨cs, T, e1, _, e2⟩ := ha _ hm
  rw [hc] at e1
  exact e2 (Obj.cells.inj (Option.some.inj e1)).2.1.symm
/-- A desk as a value, wherever its parts lie. -/
def De (w : World) (x : Value) (d : Nt.Di) : Prop := ∃ v u r, x = .agg #[v, .int .i64 d.now.c, u, r] ∧ Sl w 0 v d.now.ns ∧ Sl w 0 u d.now.ks ∧ Ps w 0 r d.past ∧ Pt w r
theorem De.dv {w : World} {x : Value} {d : Nt.Di} (h : De w x d) : Dv w 0 x d := by
  obtain ⟨v, u, r, rfl, h1, h2, h3, _⟩ := h
  exact ⟨v, u, r, rfl, h1, h2, h3⟩
theorem De.stay {w w' : World} {x : Value} {d : Nt.Di} (h : De w x d) (hk : Kept [] w w') : De w' x d := by
  obtain ⟨v, u, r, rfl, h1, h2, h3, h4⟩ := h
  exact ⟨v, u, r, rfl, h1.stay hk, h2.stay hk, h3.stay hk, h4.stay hk⟩
theorem De.alien {w w' : World} {x : Value} {d : Nt.Di} {rows : List Nat} (h : De w x d) (hk : Kept rows w w') (ha : Alien w rows) : De w' x d := by
  obtain ⟨v, u, r, rfl, h1, h2, h3, h4⟩ := h
  exact ⟨v, u, r, rfl, h1.alien hk ha, h2.alien hk ha, h3.alien h4 hk ha, h4.alien hk ha⟩
theorem DvO.de {w : World} {base : Nat} {x : Value} {d : Nt.Di} (h : DvO w base x d) : De w x d := by
  obtain ⟨v, u, r, rfl, h1, h2, h3⟩ := h
  obtain ⟨vs, h4, _⟩ := id h3
  exact ⟨v, u, r, rfl, h1.mono (Nat.zero_le _), h2.mono (Nat.zero_le _), h3.ps.mono (Nat.zero_le _), h4.pt⟩
theorem Dx.de {w : World} {base : Nat} {x : Value} {d : Nt.Di} {G C : Nat → Nat} {r : Value} {vs : List (Value × Value × Value)} (h : Dx w base x d G C r vs) : De w x d := h.dvo.de
theorem Pt.none (w : World) (n cap : Nat) : Pt w (.slice none n cap) := fun a n cap e _ => by cases e
theorem De.zero (w : World) : De w (.agg #[.slice none 0 0, .int .i64 0, .slice none 0 0, .slice none 0 0]) Nt.Di.zero := ⟨_, _, _, rfl, Sl.nil w 0, Sl.nil w 0, Ps.nil w 0, Pt.none w 0 0⟩
theorem DxR.de {w : World} {base : Nat} {x : Value} {d : Nt.Di} (h : DxR w base x d) : De w x d := by
  rcases h with ⟨rfl, rfl⟩ | ⟨_, G, C, r, vs, h⟩
  · exact De.zero w
  · exact h.de
theorem De.form {w : World} {x : Value} {d : Nt.Di} (h : De w x d) : ∃ a n cap b m cap2 a3 n3 cap3, x = .agg #[.slice a n cap, .int .i64 d.now.c, .slice b m cap2, .slice a3 n3 cap3] := by
  obtain ⟨v, u, r, rfl, h1, h2, h3, _⟩ := h
  obtain ⟨a, cap, rfl, _, _, _⟩ := h1.any
  obtain ⟨b, cap2, rfl, _, _, _⟩ := h2.any
  obtain ⟨a3, cap3, rfl⟩ := h3.any3
  exact ⟨_, _, _, _, _, _, _, _, _, rfl⟩
end Go.Proofs.YtnajdbnacdnnlaaGreatDoor

namespace Go.Proofs.YtnajdbnacdnnlaaGreatDoor
open Go.RowKit

theorem afterI_join {q : Nt.Pl} (a b : Int) : Nt.afterI q ⟨0, a, b⟩ = ⟨Nt.nats (switched q.ns a b), q.c, Nt.nats q.ks⟩ := by
  unfold Nt.afterI switched
  rw [if_pos rfl]
  by_cases h : (0 ≤ a ∧ a < q.ns.length) ∧ (0 ≤ b ∧ b < q.ns.length)
  · rw [if_pos h]
    by_cases hab : a = b
    · subst hab
      rw [if_neg (fun h => h.2.2 rfl)]
      obtain ⟨m, rfl⟩ := Int.eq_ofNat_of_zero_le h.1.1
      rw [Int.toNat_natCast, tog_self q.ns (by omega)]; rfl
    · rw [if_pos ⟨h.1, h.2, hab⟩]
  · rw [if_neg h, if_neg (fun h2 => h ⟨h2.1, h2.2.1⟩)]; rfl
theorem afterI_light {q : Nt.Pl} (hl : q.ks.length = q.ns.length) (a b : Int) : Nt.afterI q ⟨1, a, b⟩ = ⟨Nt.nats q.ns, q.c, Nt.nats (litK q.ks a)⟩ := by
  unfold Nt.afterI litK
  rw [if_neg (by simp), if_pos rfl, hl]
  split <;> rfl
theorem afterI_step (q : Nt.Pl) (a b : Int) : Nt.afterI q ⟨2, a, b⟩ = ⟨Nt.nats q.ns, q.c, Nt.nats (Nt.step q.ns q.c q.ks)⟩ := by
  unfold Nt.afterI
  rw [if_neg (by simp), if_neg (by simp), if_pos rfl]
theorem afterI_kinds (q : Nt.Pl) (a b : Int) : Nt.afterI q ⟨3, a, b⟩ = ⟨Nt.nats q.ns, a, Nt.nats q.ks⟩ := by
  unfold Nt.afterI
  rw [if_neg (by simp), if_neg (by simp), if_neg (by simp), if_pos rfl]
/-- What lies in the result in the end. -/
theorem after_fin {w W : World} {r : Nat} {v u : Value} {c : Int} {p : Nt.Pi} (hv : Sl W 0 v p.ns) (hu : Sl W 0 u p.ks) (hc : c = p.c) (hvn : ∀ g, v.ownBlock = some g → g ≠ r) (hun : ∀ g, u.ownBlock = some g → g ≠ r) (hk : Kept [] w W) (hw : w.heap.size ≤ r) :
    Pv (((W.setCell ⟨r, 0, none⟩ v).setCell ⟨r, 1, none⟩ (.int .i64 c)).setCell ⟨r, 2, none⟩ u) 0 (.agg #[v, .int .i64 c, u]) p ∧ Kept [] w (((W.setCell ⟨r, 0, none⟩ v).setCell ⟨r, 1, none⟩ (.int .i64 c)).setCell ⟨r, 2, none⟩ u) := by
  subst hc
  refine ⟨⟨v, u, rfl, hv.kept (Kept.rows3 W r _ _ _) ?_, hu.kept (Kept.rows3 W r _ _ _) ?_⟩, hk.set3 hw _ _ _⟩
  · intro g hg; have := hvn g hg; simp; exact this
  · intro g hg; have := hun g hg; simp; exact this

set_option maxHeartbeats 4000000 in
set_option maxRecDepth 100000 in
theorem placeAfter_any (q : Nt.Pl) (hq : Nt.POk q) (k a b : Int) (hk4 : k = 0 ∨ k = 1 ∨ k = 2 ∨ k = 3) (w : World) (x : Value) (base : Nat) (h : Pv w base x q.i) :
    Calls Tryz.prog 154 #[x, .agg #[.int .i64 k, .int .i64 a, .int .i64 b]] w fun e w' => ∃ y, e = .returned y ∧ Pv w' 0 y (Nt.afterI q ⟨k, a, b⟩) ∧ Kept [] w w' := by
  obtain ⟨v, u, rfl, h1, h2⟩ := h
  obtain ⟨hk0, hb0, hd0, hr0⟩ := three_new w 30 41 30 #[v, .int .i64 q.i.c, u] #[.int .i64 k, .int .i64 a, .int .i64 b] #[.slice none 0 0, .int .i64 0, .slice none 0 0]
  obtain ⟨n, hn⟩ : ∃ n, n = q.ns.length := ⟨_, rfl⟩
  have hns : q.i.ns.length = n := by rw [hn]; exact Nt.nats_length _
  have hks : q.i.ks.length = n := by rw [hn, ← hq.len]; exact Nt.nats_length _
  have hn0 : 0 < n := by rw [hn]; exact hq.ok.some
  have HQ := Lib.hid hq
  have HB := Lib.hid hb0
  have HD := Lib.hid hd0
  have HR := Lib.hid hr0
  have HK0 := Lib.hid hk0
  have HPN := Lib.hid ((h1.stay hk0).mono (Nat.zero_le base))
  have HPU := Lib.hid ((h2.stay hk0).mono (Nat.zero_le base))
  have HVB := Lib.hid (fun g hg => (h1.block (g := g) hg).2)
  have HUB := Lib.hid (fun g hg => (h2.block (g := g) hg).2)
  obtain ⟨a1, cap, rfl, _, _⟩ := h1.shape hns hn0
  obtain ⟨b1, cap2, rfl, _, _⟩ := h2.shape hks hn0
  have H10 := Lib.hid (h1.mono (Nat.zero_le base))
  have H20 := Lib.hid (h2.mono (Nat.zero_le base))
  have HA1 : Hid (a1 < w.heap.size) := Lib.hid (HVB.out a1 rfl)
  have HB1 : Hid (b1 < w.heap.size) := Lib.hid (HUB.out b1 rfl)
  obtain ⟨c0, c1, c2⟩ := hb0.three
  obtain ⟨d0, d1, d2⟩ := hd0.three
  have hzb := hb0.lt
  have hzd := hd0.lt
  have hzr := hr0.lt
  have HNL := Lib.hid (And.intro hns hks)
  have HN := Lib.hid hn
  clear h1 h2 hk0 hb0 hd0 hr0 hq hns hks hn
  rcases hk4 with hk | hk | hk | hk
  · have e00 : (k == 0) = true := by simp [hk]
    have HKK := Lib.hid hk
    clear hk
    go_enter Tryz.func154, Tryz.ntmps154
    go_wp2_with fail
    generalize hW : (((w.alloc (.cells #[.slice (some ⟨a1, 0, none⟩) n cap, .int .i64 q.i.c, .slice (some ⟨b1, 0, none⟩) n cap2] 30)).alloc (.cells #[.int .i64 k, .int .i64 a, .int .i64 b] 41)).alloc (.cells #[.slice none 0 0, .int .i64 0, .slice none 0 0] 30)) = W0 at *
    clear hW
    have HWZ : Hid (w.heap.size + 1 + 1 < W0.heap.size) := Lib.hid hzr
    refine (switchedNet_any q.ns HQ.out.ok a b _ _ 0 HPN.out).mono ?_
    rintro e w4 ⟨z, rfl, hz, hk4⟩
    have HZ4 := Lib.hid (hz.mono (Nat.zero_le _))
    have HZB := Lib.hid (fun g hg => (hz.block (g := g) hg).1)
    have HB4 := Lib.hid (HB.out.stay hk4)
    have HR4 := Lib.hid (HR.out.stay hk4)
    have HU4 := Lib.hid (HPU.out.stay hk4)
    have HK4 := Lib.hid (HK0.out.trans hk4 (by simp))
    clear c0 c1 c2 d0 d1 d2 hzb hzd hzr hz hk4
    have hks : Kept [w.heap.size] w4 (w4.setCell ⟨w.heap.size, 0, none⟩ z) := (Kept.refl _ _).setCell (.inl (by simp)) _
    have HB5 := Lib.hid (HB4.out.set 0 z)
    have HR5 := Lib.hid (HR4.out.other ⟨w.heap.size, 0, none⟩ z (by show w.heap.size + 1 + 1 ≠ w.heap.size; omega))
    have HZ5 := Lib.hid (HZ4.out.kept hks (fun g hg => by have := HZB.out g hg; have := HWZ.out; simp; omega))
    have HU5 := Lib.hid (HU4.out.kept hks (fun g hg => by simp [Value.ownBlock] at hg; subst hg; have := HB1.out; simp; omega))
    have HK5 := Lib.hid (HK4.out.setCell (.inr (Nat.le_refl _)) z (p := ⟨w.heap.size, 0, none⟩))
    have hp0 := HB4.out.frozen 0
    have hl0 := HB4.out.lt
    obtain ⟨e0, e1, e2⟩ := HB4.out.three
    obtain ⟨gz, cz, rfl, _, _⟩ := HZ4.out.shape (n := n) (by rw [Nt.nats_length]; unfold switched; split <;> first | rw [Nt.tog_length, ← HN.out] | rw [← HN.out]) hn0
    have f0 := HR4.out.frozen 0
    have f1 := HR4.out.frozen 1
    have f2 := HR4.out.frozen 2
    obtain ⟨r0, r1, r2⟩ := HR4.out.three
    have hlr := HR4.out.lt
    have hne : w.heap.size + 1 + 1 ≠ w.heap.size := by omega
    have hne2 : w.heap.size ≠ w.heap.size + 1 + 1 := by omega
    clear hks
    go_wp2
    (try simp only [Exit.inBlock, Exit.then])
    refine bodyPost_ret (results_cell_row rfl _ _ (w.heap.size + 1 + 1) 30 #[.slice (some ⟨gz, 0, none⟩) n cz, .int .i64 q.i.c, .slice (some ⟨b1, 0, none⟩) n cap2] (0, 0) _ rfl (HR5.out.set3 _ _ _) Tryz.underlying30 rfl (by kernel_rfl)) rfl ?_
    obtain ⟨F1, F2⟩ := after_fin (w := w) (p := ⟨Nt.nats (switched q.ns a b), q.c, Nt.nats q.ks⟩) HZ5.out HU5.out (rfl : q.i.c = _) (fun g hg => by have := HZB.out g hg; have := HWZ.out; omega) (fun g hg => by simp [Value.ownBlock] at hg; subst hg; have := HB1.out; omega) HK5.out (show w.heap.size ≤ w.heap.size + 1 + 1 by omega)
    exact ⟨_, rfl, by rw [show Nt.afterI q ⟨k, a, b⟩ = ⟨Nt.nats (switched q.ns a b), q.c, Nt.nats q.ks⟩ from by rw [HKK.out, afterI_join]]; exact F1, F2⟩
  · have e10 : (k == 0) = false := by simp [hk]
    have e11 : (k == 1) = true := by simp [hk]
    have HKK := Lib.hid hk
    clear hk
    go_enter Tryz.func154, Tryz.ntmps154
    go_wp2_with fail
    generalize hW : (((w.alloc (.cells #[.slice (some ⟨a1, 0, none⟩) n cap, .int .i64 q.i.c, .slice (some ⟨b1, 0, none⟩) n cap2] 30)).alloc (.cells #[.int .i64 k, .int .i64 a, .int .i64 b] 41)).alloc (.cells #[.slice none 0 0, .int .i64 0, .slice none 0 0] 30)) = W0 at *
    clear hW
    have HWZ : Hid (w.heap.size + 1 + 1 < W0.heap.size) := Lib.hid hzr
    refine (litState_any q.c q.ks HQ.out.st a _ _ 0 HPU.out).mono ?_
    rintro e w4 ⟨z, rfl, hz, hk4⟩
    have HZ4 := Lib.hid (hz.mono (Nat.zero_le _))
    have HZB := Lib.hid (fun g hg => (hz.block (g := g) hg).1)
    have HB4 := Lib.hid (HB.out.stay hk4)
    have HR4 := Lib.hid (HR.out.stay hk4)
    have HU4 := Lib.hid (HPN.out.stay hk4)
    have HK4 := Lib.hid (HK0.out.trans hk4 (by simp))
    clear c0 c1 c2 d0 d1 d2 hzb hzd hzr hz hk4
    have hks : Kept [w.heap.size] w4 (w4.setCell ⟨w.heap.size, 2, none⟩ z) := (Kept.refl _ _).setCell (.inl (by simp)) _
    have HB5 := Lib.hid (HB4.out.set 2 z)
    have HR5 := Lib.hid (HR4.out.other ⟨w.heap.size, 2, none⟩ z (by show w.heap.size + 1 + 1 ≠ w.heap.size; omega))
    have HZ5 := Lib.hid (HZ4.out.kept hks (fun g hg => by have := HZB.out g hg; have := HWZ.out; simp; omega))
    have HU5 := Lib.hid (HU4.out.kept hks (fun g hg => by simp [Value.ownBlock] at hg; subst hg; have := HA1.out; simp; omega))
    have HK5 := Lib.hid (HK4.out.setCell (.inr (Nat.le_refl _)) z (p := ⟨w.heap.size, 2, none⟩))
    have hp0 := HB4.out.frozen 2
    have hl0 := HB4.out.lt
    obtain ⟨e0, e1, e2⟩ := HB4.out.three
    obtain ⟨gz, cz, rfl, _, _⟩ := HZ4.out.shape (n := n) (by rw [Nt.nats_length]; unfold litK; rw [HN.out, ← HQ.out.len]; split <;> simp) hn0
    have f0 := HR4.out.frozen 0
    have f1 := HR4.out.frozen 1
    have f2 := HR4.out.frozen 2
    obtain ⟨r0, r1, r2⟩ := HR4.out.three
    have hlr := HR4.out.lt
    have hne : w.heap.size + 1 + 1 ≠ w.heap.size := by omega
    have hne2 : w.heap.size ≠ w.heap.size + 1 + 1 := by omega
    clear hks
    go_wp2
    (try simp only [Exit.inBlock, Exit.then])
    refine bodyPost_ret (results_cell_row rfl _ _ (w.heap.size + 1 + 1) 30 #[.slice (some ⟨a1, 0, none⟩) n cap, .int .i64 q.i.c, .slice (some ⟨gz, 0, none⟩) n cz] (0, 0) _ rfl (HR5.out.set3 _ _ _) Tryz.underlying30 rfl (by kernel_rfl)) rfl ?_
    obtain ⟨F1, F2⟩ := after_fin (w := w) (p := ⟨Nt.nats q.ns, q.c, Nt.nats (litK q.ks a)⟩) HU5.out HZ5.out (rfl : q.i.c = _) (fun g hg => by simp [Value.ownBlock] at hg; subst hg; have := HA1.out; omega) (fun g hg => by have := HZB.out g hg; have := HWZ.out; omega) HK5.out (show w.heap.size ≤ w.heap.size + 1 + 1 by omega)
    exact ⟨_, rfl, by rw [show Nt.afterI q ⟨k, a, b⟩ = ⟨Nt.nats q.ns, q.c, Nt.nats (litK q.ks a)⟩ from by rw [HKK.out, afterI_light HQ.out.len]]; exact F1, F2⟩
  · have e20 : (k == 0) = false := by simp [hk]
    have e21 : (k == 1) = false := by simp [hk]
    have e22 : (k == 2) = true := by simp [hk]
    have HKK := Lib.hid hk
    clear hk
    go_enter Tryz.func154, Tryz.ntmps154
    go_wp2_with fail
    generalize hW : (((w.alloc (.cells #[.slice (some ⟨a1, 0, none⟩) n cap, .int .i64 q.i.c, .slice (some ⟨b1, 0, none⟩) n cap2] 30)).alloc (.cells #[.int .i64 k, .int .i64 a, .int .i64 b] 41)).alloc (.cells #[.slice none 0 0, .int .i64 0, .slice none 0 0] 30)) = W0 at *
    clear hW
    have HWZ : Hid (w.heap.size + 1 + 1 < W0.heap.size) := Lib.hid hzr
    refine (firedState_any q.ns q.c q.ks HQ.out.ok HQ.out.st HQ.out.len _ _ 0 _ 0 HPN.out HPU.out).mono ?_
    rintro e w4 ⟨z, rfl, hz, hk4⟩
    have HZ4 := Lib.hid (hz.mono (Nat.zero_le _))
    have HZB := Lib.hid (fun g hg => (hz.block (g := g) hg).1)
    have HB4 := Lib.hid (HB.out.stay hk4)
    have HR4 := Lib.hid (HR.out.stay hk4)
    have HU4 := Lib.hid (HPN.out.stay hk4)
    have HK4 := Lib.hid (HK0.out.trans hk4 (by simp))
    clear c0 c1 c2 d0 d1 d2 hzb hzd hzr hz hk4
    have hks : Kept [w.heap.size] w4 (w4.setCell ⟨w.heap.size, 2, none⟩ z) := (Kept.refl _ _).setCell (.inl (by simp)) _
    have HB5 := Lib.hid (HB4.out.set 2 z)
    have HR5 := Lib.hid (HR4.out.other ⟨w.heap.size, 2, none⟩ z (by show w.heap.size + 1 + 1 ≠ w.heap.size; omega))
    have HZ5 := Lib.hid (HZ4.out.kept hks (fun g hg => by have := HZB.out g hg; have := HWZ.out; simp; omega))
    have HU5 := Lib.hid (HU4.out.kept hks (fun g hg => by simp [Value.ownBlock] at hg; subst hg; have := HA1.out; simp; omega))
    have HK5 := Lib.hid (HK4.out.setCell (.inr (Nat.le_refl _)) z (p := ⟨w.heap.size, 2, none⟩))
    have hp0 := HB4.out.frozen 2
    have hl0 := HB4.out.lt
    obtain ⟨e0, e1, e2⟩ := HB4.out.three
    obtain ⟨gz, cz, rfl, _, _⟩ := HZ4.out.shape (n := n) (by rw [Nt.nats_length, Nt.step_length, HN.out]; exact HQ.out.len) hn0
    have f0 := HR4.out.frozen 0
    have f1 := HR4.out.frozen 1
    have f2 := HR4.out.frozen 2
    obtain ⟨r0, r1, r2⟩ := HR4.out.three
    have hlr := HR4.out.lt
    have hne : w.heap.size + 1 + 1 ≠ w.heap.size := by omega
    have hne2 : w.heap.size ≠ w.heap.size + 1 + 1 := by omega
    clear hks
    go_wp2
    (try simp only [Exit.inBlock, Exit.then])
    refine bodyPost_ret (results_cell_row rfl _ _ (w.heap.size + 1 + 1) 30 #[.slice (some ⟨a1, 0, none⟩) n cap, .int .i64 q.i.c, .slice (some ⟨gz, 0, none⟩) n cz] (0, 0) _ rfl (HR5.out.set3 _ _ _) Tryz.underlying30 rfl (by kernel_rfl)) rfl ?_
    obtain ⟨F1, F2⟩ := after_fin (w := w) (p := ⟨Nt.nats q.ns, q.c, Nt.nats (Nt.step q.ns q.c q.ks)⟩) HU5.out HZ5.out (rfl : q.i.c = _) (fun g hg => by simp [Value.ownBlock] at hg; subst hg; have := HA1.out; omega) (fun g hg => by have := HZB.out g hg; have := HWZ.out; omega) HK5.out (show w.heap.size ≤ w.heap.size + 1 + 1 by omega)
    exact ⟨_, rfl, by rw [show Nt.afterI q ⟨k, a, b⟩ = ⟨Nt.nats q.ns, q.c, Nt.nats (Nt.step q.ns q.c q.ks)⟩ from by rw [HKK.out, afterI_step]]; exact F1, F2⟩
  · have e30 : (k == 0) = false := by simp [hk]
    have e31 : (k == 1) = false := by simp [hk]
    have e32 : (k == 2) = false := by simp [hk]
    have e33 : (k == 3) = true := by simp [hk]
    have HKK := Lib.hid hk
    clear hk
    obtain ⟨hk9, _, _, hr9⟩ := three_new w 30 41 30 #[.slice (some ⟨a1, 0, none⟩) n cap, .int .i64 a, .slice (some ⟨b1, 0, none⟩) n cap2] #[.int .i64 k, .int .i64 a, .int .i64 b] #[.slice (some ⟨a1, 0, none⟩) n cap, .int .i64 a, .slice (some ⟨b1, 0, none⟩) n cap2]
    have HK9 := Lib.hid hk9
    have HR9 := Lib.hid hr9
    have HZ9 := Lib.hid (H10.out.stay hk9)
    have HU9 := Lib.hid (H20.out.stay hk9)
    clear hk9 hr9 c0 c1 c2 d0 d1 d2 hzb hzd hzr HB HD HR HK0 HPN HPU
    go_enter Tryz.func154, Tryz.ntmps154
    go_wp2
    (try simp only [Exit.inBlock, Exit.then])
    refine bodyPost_ret (results_cell_row rfl _ _ (w.heap.size + 1 + 1) 30 #[.slice (some ⟨a1, 0, none⟩) n cap, .int .i64 a, .slice (some ⟨b1, 0, none⟩) n cap2] (0, 0) _ rfl HR9.out Tryz.underlying30 rfl (by kernel_rfl)) rfl ?_
    exact ⟨_, rfl, by rw [show Nt.afterI q ⟨k, a, b⟩ = ⟨Nt.nats q.ns, a, Nt.nats q.ks⟩ from by rw [HKK.out, afterI_kinds]]; exact ⟨_, _, rfl, HZ9.out, HU9.out⟩, HK9.out⟩
end Go.Proofs.YtnajdbnacdnnlaaGreatDoor

namespace Go.Proofs.YtnajdbnacdnnlaaGreatDoor
open Go.RowKit

/-- The value of a desk in memory of its own, written out. -/
theorem Dx.form {w : World} {base : Nat} {x : Value} {d : Nt.Di} {G C : Nat → Nat} {r : Value} {vs : List (Value × Value × Value)} (h : Dx w base x d G C r vs) :
    ∃ g1 q1 g2 q2 a3 n3 c3, x = .agg #[.slice (some ⟨g1, 0, none⟩) d.now.ns.length q1, .int .i64 d.now.c, .slice (some ⟨g2, 0, none⟩) d.now.ks.length q2, .slice a3 n3 c3] := by
  obtain ⟨a3, c3, e⟩ := h.row.any
  exact ⟨G 0, C 0, G 1, C 1, a3, _, c3, by rw [h.val, e]⟩

/-- A desk's place before, and those before that. -/
def backI (d : Nt.Di) : Nt.Di := ⟨piAt d.past (d.past.length - 1), d.past.take (d.past.length - 1)⟩
theorem Ps.cut {w : World} {base : Nat} {a : Option Addr} {n cap : Nat} {ps : List Nt.Pi} (h : Ps w base (.slice a n cap) ps) (m : Nat) (hm : m ≤ ps.length) : Ps w base (.slice a m cap) (ps.take m) := by
  obtain ⟨a', cap', e, hz, h1, h2, h3⟩ := h
  simp only [Value.slice.injEq] at e
  obtain ⟨rfl, rfl, rfl⟩ := e
  have hl : (ps.take m).length = m := by rw [List.length_take]; omega
  refine ⟨a, cap, by rw [hl], hz, by omega, h2, fun k hk => ?_⟩
  obtain ⟨g, off, e, hb, hg, hp⟩ := h3 k (by omega)
  have e2 : piAt (ps.take m) k = piAt ps k := by unfold piAt; rw [List.getD_eq_getElem?_getD, List.getElem?_take, if_pos (by omega), ← List.getD_eq_getElem?_getD]
  exact ⟨g, off, e, hb, hg, by rw [e2]; exact hp⟩
theorem Ps.from {w : World} {base : Nat} {g off n cap : Nat} {ps : List Nt.Pi} (h : Ps w base (.slice (some ⟨g, off, none⟩) n cap) ps) (m : Nat) (hm : m ≤ ps.length) : Ps w base (.slice (some ⟨g, off + m * 3, none⟩) (n - m) (cap - m)) (ps.drop m) := by
  obtain ⟨a', cap', e, hz, h1, h2, h3⟩ := h
  simp only [Value.slice.injEq] at e
  obtain ⟨rfl, rfl, rfl⟩ := e
  have hl : (ps.drop m).length = ps.length - m := List.length_drop ..
  refine ⟨some ⟨g, off + m * 3, none⟩, cap - m, by rw [hl], (fun e => by cases e), by omega, by omega, fun k hk => ?_⟩
  obtain ⟨g', off', e, hb, hg, x, y, c0, c1, c2, hx, hy⟩ := h3 (m + k) (by omega)
  simp only [Option.some.injEq, Addr.mk.injEq, and_true] at e
  obtain ⟨rfl, rfl⟩ := e
  have e2 : piAt (ps.drop m) k = piAt ps (m + k) := by unfold piAt; rw [List.getD_eq_getElem?_getD, List.getElem?_drop, ← List.getD_eq_getElem?_getD]
  have e3 : off + m * 3 + k * 3 = off + (m + k) * 3 := by omega
  exact ⟨g, off + m * 3, rfl, hb, hg, x, y, by rw [e3]; exact c0, by rw [e3, e2]; exact c1, by rw [e3]; exact c2, by rw [e2]; exact hx, by rw [e2]; exact hy⟩

def beforeI (d : Nt.Di) : Nt.Di := if 0 < d.past.length then backI d else d
def beforeB (d : Nt.Di) : Bool := decide (0 < d.past.length)

set_option maxHeartbeats 4000000 in
set_option maxRecDepth 100000 in
theorem deskBefore_any (d : Nt.Di) (w : World) (x : Value) (h : De w x d) :
    Calls Tryz.prog 153 #[x] w fun e w' => ∃ y, e = .returned (.tuple #[y, .bool (beforeB d)]) ∧ De w' y (beforeI d) ∧ Kept [] w w' := by
  obtain ⟨n, hn⟩ : ∃ n, n = d.past.length := ⟨_, rfl⟩
  have HD := Lib.hid h
  obtain ⟨v, u, r, rfl, h1, h2, h3, h4⟩ := h
  obtain ⟨a3, cap3, e3, hz3, hlc3, hc3, hp3⟩ := h3
  rw [← hn] at e3 hlc3 hp3
  subst e3
  obtain ⟨hk0, hb0, hr0⟩ := two_new w 33 33 #[v, .int .i64 d.now.c, u, .slice a3 n cap3] #[.slice none 0 0, .int .i64 0, .slice none 0 0, .slice none 0 0]
  obtain ⟨a, cap, rfl, _, _, _⟩ := h1.any
  obtain ⟨b, cap2, rfl, _, _, _⟩ := h2.any
  have HR := Lib.hid hr0
  have HK0 := Lib.hid hk0
  have HN := Lib.hid hn
  obtain ⟨c0, c1, c2, c3⟩ := hb0.four
  have hbl := hb0.lt
  have hrl := hr0.lt
  have hm3 : n ≤ 9223372036854775807 := by omega
  by_cases hpos : 0 < n
  · obtain ⟨m, hm⟩ : ∃ m, n = m + 1 := ⟨n - 1, by omega⟩
    have HPT : Hid (Pt w (.slice a3 m cap3)) := Lib.hid (fun a' n' cap' e _ => by
      simp only [Value.slice.injEq] at e
      obtain ⟨rfl, rfl, rfl⟩ := e
      exact h4 a' n cap3 rfl (by omega))
    have HBI : Hid (beforeI d = backI d ∧ beforeB d = true) := Lib.hid (by unfold beforeI beforeB; rw [← hn]; exact ⟨if_pos hpos, decide_eq_true hpos⟩)
    obtain ⟨g, off, rfl, _, hg, hpc⟩ := hp3 m (by omega)
    obtain ⟨xx, yy, q0, q1, q2, hx, hy⟩ := hpc
    have s0 := (hk0.cell (p := ⟨g, off + m * 3, none⟩) hg (by simp)).trans q0
    have s1 := (hk0.cell (p := ⟨g, off + m * 3 + 1, none⟩) hg (by simp)).trans q1
    have s2 := (hk0.cell (p := ⟨g, off + m * 3 + 2, none⟩) hg (by simp)).trans q2
    have e1 : wrap64 ((n : Int) - 1) = (m : Int) := by unfold wrap64; omega
    have e1' : IntKind.i64.wrap ((n : Int) - 1) = (m : Int) := by rw [IntKind.wrap_i64]; omega
    have hmn : m < n := by omega
    have hmc : m ≤ cap3 := by omega
    have d0 : decide ((m : Int) < 0) = false := dec_not (by omega)
    have HX := Lib.hid hx
    have HY := Lib.hid hy
    have HPK : Hid (piAt d.past m = (backI d).now ∧ d.past.take m = (backI d).past ∧ m ≤ d.past.length) := Lib.hid (by
      unfold backI
      rw [← hn, show n - 1 = m by omega]; exact ⟨rfl, rfl, by omega⟩)
    have HPS : Hid (Ps w 0 (.slice (some ⟨g, off, none⟩) n cap3) d.past) := Lib.hid ⟨_, cap3, by rw [hn], hz3, by omega, hc3, by rw [← hn]; exact hp3⟩
    obtain ⟨ax, cx, rfl, _, _, _⟩ := hx.any
    obtain ⟨ay, cy, rfl, _, _, _⟩ := hy.any
    clear h1 h2 h4 hk0 hb0 hr0 hp3 hx hy hn hm hpos hz3 q0 q1 q2
    generalize hpe : piAt d.past m = p at *
    clear hpe
    go_enter Tryz.func153, Tryz.ntmps153
    go_wp2_with fail
    generalize ((w.alloc (.cells #[.slice a d.now.ns.length cap, .int .i64 d.now.c, .slice b d.now.ks.length cap2, .slice (some ⟨g, off, none⟩) n cap3] 33)).alloc (.cells #[.slice none 0 0, .int .i64 0, .slice none 0 0, .slice none 0 0] 33)) = W0 at *
    have c3d : W0.drew.cell? ⟨w.heap.size, 3, none⟩ = some (.slice (some ⟨g, off, none⟩) n cap3) := c3
    have q0d : W0.drew.cell? ⟨g, off + m * 3, none⟩ = some (.slice ax p.ns.length cx) := s0
    have q1d : W0.drew.cell? ⟨g, off + m * 3 + 1, none⟩ = some (.int .i64 p.c) := s1
    have q2d : W0.drew.cell? ⟨g, off + m * 3 + 2, none⟩ = some (.slice ay p.ks.length cy) := s2
    go_still_tail 10, (by kernel_rfl)
    change wpList _ _ _ _ _ W0.drew
    have hkd : Kept [] W0 W0.drew := (Kept.refl [] W0).drew
    have HR5 := Lib.hid (HR.out.stay hkd)
    have HK5 := Lib.hid HK0.out.drew
    clear hkd c0 c1 c2 c3 c3d s0 s1 s2 q0d q1d q2d hbl hrl HR HK0
    generalize W0.drew = W5 at *
    obtain ⟨r0, r1, r2, r3⟩ := HR5.out.four
    have f0 := HR5.out.frozen 0
    have f1 := HR5.out.frozen 1
    have f2 := HR5.out.frozen 2
    have f3 := HR5.out.frozen 3
    have hrl := HR5.out.lt
    go_wp2
    (try simp only [Exit.inBlock, Exit.then])
    refine bodyPost_ret (v := .tuple #[.agg #[.slice ax p.ns.length cx, .int .i64 p.c, .slice ay p.ks.length cy, .slice (some ⟨g, off, none⟩) m cap3], .bool true]) ?_ rfl ?_
    · rw [results_cell_tmp rfl]
      simp [asAddr, ret_desk (HR5.out.set4 _ _ _ _)]
    · have hk9 := HK5.out.set4 (g := w.heap.size + 1) (by omega) (.slice ax p.ns.length cx) (.int .i64 p.c) (.slice ay p.ks.length cy) (.slice (some ⟨g, off, none⟩) m cap3)
      rw [HBI.out.1, HBI.out.2]
      refine ⟨_, rfl, ?_, hk9⟩
      have hps := (HPS.out.cut m HPK.out.2.2).stay hk9
      rw [HPK.out.2.1] at hps
      have hX := HX.out.stay hk9
      have hY := HY.out.stay hk9
      have e := HPK.out.1
      exact ⟨_, _, _, by rw [← e], by rw [← e]; exact hX, by rw [← e]; exact hY, hps, HPT.out.stay hk9⟩
  · have hn0 : n = 0 := by omega
    have HBI : Hid (beforeI d = d ∧ beforeB d = false) := Lib.hid (by unfold beforeI beforeB; rw [← hn]; exact ⟨if_neg hpos, decide_eq_false hpos⟩)
    obtain ⟨z, hz⟩ : ∃ z : Int, z = -1 := ⟨_, rfl⟩
    have e1 : wrap64 ((n : Int) - 1) = z := by unfold wrap64; omega
    have e1' : IntKind.i64.wrap ((n : Int) - 1) = z := by rw [IntKind.wrap_i64]; omega
    have d0 : decide (z < 0) = true := dec_of (by omega)
    clear hz
    have f0 := HR.out.frozen 0
    have f1 := HR.out.frozen 1
    have f2 := HR.out.frozen 2
    have f3 := HR.out.frozen 3
    obtain ⟨r0, r1, r2, r3⟩ := HR.out.four
    obtain ⟨hk9, _, hr9⟩ := two_new w 33 33 #[.slice a d.now.ns.length cap, .int .i64 d.now.c, .slice b d.now.ks.length cap2, .slice a3 n cap3] #[.slice a d.now.ns.length cap, .int .i64 d.now.c, .slice b d.now.ks.length cap2, .slice a3 n cap3]
    have HK9 := Lib.hid hk9
    have HR9 := Lib.hid hr9
    clear h1 h2 h4 hk0 hb0 hr0 hp3 hn hn0 hz3 hpos c0 c1 c2 r0 r1 r2 r3 f0 f1 f2 f3 hbl hrl hk9 hr9 c3 HR HK0
    go_enter Tryz.func153, Tryz.ntmps153
    go_wp2
    (try simp only [Exit.inBlock, Exit.then])
    refine bodyPost_ret (v := .tuple #[.agg #[.slice a d.now.ns.length cap, .int .i64 d.now.c, .slice b d.now.ks.length cap2, .slice a3 n cap3], .bool false]) ?_ rfl ?_
    · rw [results_cell_tmp rfl]
      simp [asAddr, ret_desk HR9.out]
    · rw [HBI.out.1, HBI.out.2]
      exact ⟨_, rfl, HD.out.stay HK9.out, HK9.out⟩
end Go.Proofs.YtnajdbnacdnnlaaGreatDoor

namespace Go.Proofs.YtnajdbnacdnnlaaGreatDoor
open Go.RowKit

theorem before_is (e : Nt.Dk) : Nt.doD e ⟨4, 0, 0⟩ = (if 0 < e.past.length then some (backI e.i).n else none) ∧ (0 < e.past.length → (backI e.i).n.i = backI e.i) := by
  rw [Nt.doD_four]
  by_cases h : 0 < e.past.length
  · have hl : e.past.getLast? = some (e.past.getD (e.past.length - 1) ⟨[], 0, []⟩) := by
      rw [List.getLast?_eq_getElem?, List.getD_eq_getElem?_getD, List.getElem?_eq_getElem (by omega)]; rfl
    have hb : backI e.i = (⟨e.past.getD (e.past.length - 1) ⟨[], 0, []⟩, e.past.dropLast⟩ : Nt.Dk).i := by
      unfold backI Nt.Dk.i piAt
      simp only [List.length_map]
      congr 1
      · rw [List.getD_eq_getElem?_getD, List.getElem?_map, List.getD_eq_getElem?_getD, List.getElem?_eq_getElem (by omega)]; rfl
      · rw [← List.map_take, List.dropLast_eq_take]
    rw [hl, if_pos h, hb, Nt.Dk.i_n]
    exact ⟨rfl, fun _ => rfl⟩
  · have h0 : e.past = [] := List.eq_nil_of_length_eq_zero (by omega)
    rw [if_neg h, h0]
    exact ⟨rfl, fun h2 => absurd h2 (by simp)⟩
/-- What DkBack leads to. -/
theorem go_before (e : Nt.Dk) : (Nt.goD e ⟨4, 0, 0⟩).i = beforeI e.i ∧ (Nt.doD e ⟨4, 0, 0⟩).isSome = beforeB e.i := by
  obtain ⟨h1, h2⟩ := before_is e
  have hl : e.i.past.length = e.past.length := List.length_map ..
  unfold Nt.goD beforeI beforeB
  rw [h1, hl]
  by_cases h : 0 < e.past.length
  · rw [if_pos h, if_pos h, decide_eq_true h]
    exact ⟨h2 h, rfl⟩
  · rw [if_neg h, if_neg h, decide_eq_false h]
    exact ⟨rfl, rfl⟩

set_option maxHeartbeats 4000000 in
set_option maxRecDepth 100000 in
theorem deskAfter_any (e : Nt.Dk) (he : Nt.DkOk e) (k a b : Int) (w : World) (x : Value) (h : De w x e.i) :
    Calls Tryz.prog 102 #[x, .agg #[.int .i64 k, .int .i64 a, .int .i64 b]] w fun e' w' => ∃ y, e' = .returned (.tuple #[y, .bool (Nt.doD e ⟨k, a, b⟩).isSome]) ∧ De w' y (Nt.goD e ⟨k, a, b⟩).i ∧ Kept [] w w' := by
  obtain ⟨d, hd⟩ : ∃ d, d = e.i := ⟨_, rfl⟩
  rw [← hd] at h
  have HE := Lib.hid he
  have HD0 := Lib.hid hd
  have HX := Lib.hid h
  have hp8 : d.past.length ≤ 8 := by rw [hd]; show (e.past.map Nt.Pl.i).length ≤ 8; rw [List.length_map]; exact he.few
  obtain ⟨v, u, r, rfl, h1, h2, h3, _⟩ := h
  obtain ⟨hk0, hb0, hd0, hr0⟩ := three_new w 33 41 33 #[v, .int .i64 d.now.c, u, r] #[.int .i64 k, .int .i64 a, .int .i64 b] #[.slice none 0 0, .int .i64 0, .slice none 0 0, .slice none 0 0]
  have HV := Lib.hid h1
  have HU := Lib.hid h2
  have HP := Lib.hid h3
  obtain ⟨n, hn⟩ : ∃ n, n = d.past.length := ⟨_, rfl⟩
  obtain ⟨a1, cap, rfl, _, _, _⟩ := h1.any
  obtain ⟨b1, cap2, rfl, _, _, _⟩ := h2.any
  obtain ⟨a3, cap3, rfl⟩ := h3.any3
  rw [← hn] at hp8 HX HP hk0 hb0 hd0 hr0
  have HB := Lib.hid hb0
  have HD := Lib.hid hd0
  have HR := Lib.hid hr0
  have HK0 := Lib.hid hk0
  have HN := Lib.hid hn
  obtain ⟨c0, c1, c2, c3⟩ := hb0.four
  obtain ⟨d0, d1, d2⟩ := hd0.three
  have hzb := hb0.lt
  have hzd := hd0.lt
  have hzr := hr0.lt
  rw [← hn]
  clear h1 h2 h3 hk0 hb0 hd0 hr0 hn he hd
  go_enter Tryz.func102, Tryz.ntmps102
  go_wp2_with fail
  generalize (((w.alloc (.cells #[.slice a1 d.now.ns.length cap, .int .i64 d.now.c, .slice b1 d.now.ks.length cap2, .slice a3 n cap3] 33)).alloc (.cells #[.int .i64 k, .int .i64 a, .int .i64 b] 41)).alloc (.cells #[.slice none 0 0, .int .i64 0, .slice none 0 0, .slice none 0 0] 33)) = W0 at *
  refine (deedOk_any k a b _).mono ?_
  rintro e' w1 ⟨rfl, hk1⟩
  have HB1 := Lib.hid (HB.out.stay hk1)
  have HD1 := Lib.hid (HD.out.stay hk1)
  have HR1 := Lib.hid (HR.out.stay hk1)
  have HK1 := Lib.hid (HK0.out.trans hk1 (by simp))
  clear hk1 c0 c1 c2 c3 d0 d1 d2 hzb hzd hzr HB HD HR HK0
  obtain ⟨c0, c1, c2, c3⟩ := HB1.out.four
  obtain ⟨d0, d1, d2⟩ := HD1.out.three
  obtain ⟨r0, r1, r2, r3⟩ := HR1.out.four
  have f0 := HR1.out.frozen 0
  have f1 := HR1.out.frozen 1
  have f2 := HR1.out.frozen 2
  have f3 := HR1.out.frozen 3
  have hzb := HB1.out.lt
  have hzd := HD1.out.lt
  have hzr := HR1.out.lt
  have HDW := Lib.hid (HX.out.stay HK1.out)
  cases hok : Nt.dokB ⟨k, a, b⟩
  · have HNO : Hid (Nt.doD e ⟨k, a, b⟩ = none) := Lib.hid (Nt.doD_bad hok)
    clear hok
    go_wp2
    (try simp only [Exit.inBlock, Exit.then])
    refine bodyPost_ret (v := .tuple #[.agg #[.slice a1 d.now.ns.length cap, .int .i64 d.now.c, .slice b1 d.now.ks.length cap2, .slice a3 n cap3], .bool false]) ?_ rfl ?_
    · rw [results_cell_tmp rfl]
      simp [asAddr, ret_desk (HR1.out.set4 _ _ _ _)]
    · have hk9 := HK1.out.set4 (g := w.heap.size + 1 + 1) (by omega) (.slice a1 d.now.ns.length cap) (.int .i64 d.now.c) (.slice b1 d.now.ks.length cap2) (.slice a3 n cap3)
      have e2 : (Nt.goD e ⟨k, a, b⟩).i = d := by unfold Nt.goD; rw [HNO.out, HD0.out]; rfl
      rw [HNO.out, e2]
      exact ⟨_, rfl, HX.out.stay hk9, hk9⟩
  · by_cases k4 : k = 4
    · have hab : a = 0 ∧ b = 0 := by
        have h := Nt.dokB_cases hok
        simp only at h
        omega
      obtain ⟨rfl, rfl⟩ := hab
      have kk : (k == 4) = true := by simp [k4]
      have HGB : Hid ((Nt.goD e ⟨k, 0, 0⟩).i = beforeI d ∧ (Nt.doD e ⟨k, 0, 0⟩).isSome = beforeB d) := Lib.hid (by rw [k4, HD0.out]; exact go_before e)
      clear hok k4
      go_wp2_with fail
      refine (deskBefore_any d _ _ HDW.out).mono ?_
      rintro e' w2 ⟨y2, rfl, hdv, hk2⟩
      have HDV := Lib.hid hdv
      have HR2 := Lib.hid (HR1.out.stay hk2)
      have HK2 := Lib.hid (HK1.out.trans hk2 (by simp))
      obtain ⟨ya, yn, ycap, yb, ym, ycap2, y3, yn3, ycap3, rfl⟩ := hdv.form
      clear hdv hk2 c0 c1 c2 c3 d0 d1 d2 r0 r1 r2 r3 f0 f1 f2 f3 hzb hzd hzr
      obtain ⟨r0, r1, r2, r3⟩ := HR2.out.four
      have f0 := HR2.out.frozen 0
      have f1 := HR2.out.frozen 1
      have f2 := HR2.out.frozen 2
      have f3 := HR2.out.frozen 3
      have hzr := HR2.out.lt
      go_wp2
      (try simp only [Exit.inBlock, Exit.then])
      refine bodyPost_ret (v := .tuple #[.agg #[.slice ya yn ycap, .int .i64 (beforeI d).now.c, .slice yb ym ycap2, .slice y3 yn3 ycap3], .bool (beforeB d)]) ?_ rfl ?_
      · rw [results_cell_tmp rfl]
        simp [asAddr, ret_desk (HR2.out.set4 _ _ _ _)]
      · have hk9 := HK2.out.set4 (g := w.heap.size + 1 + 1) (by omega) (.slice ya yn ycap) (.int .i64 (beforeI d).now.c) (.slice yb ym ycap2) (.slice y3 yn3 ycap3)
        rw [HGB.out.1, HGB.out.2]
        exact ⟨_, rfl, HDV.out.alien (Kept.rows4 w2 (w.heap.size + 1 + 1) _ _ _ _) (Alien.one HR2.out), hk9⟩
    · have kk : (k == 4) = false := by simp [k4]
      have hks : k = 0 ∨ k = 1 ∨ k = 2 ∨ k = 3 := by
        have h := Nt.dokB_cases hok
        simp only at h
        omega
      have HMADE := Lib.hid (Nt.made_after (q := e.now) HE.out.now hok k4)
      have HN4 := Lib.hid k4
      have HPV : Hid (Pv w1 0 (.agg #[.slice a1 d.now.ns.length cap, .int .i64 d.now.c, .slice b1 d.now.ks.length cap2]) e.now.i) := Lib.hid (by
        rw [show e.now.i = d.now from (congrArg Nt.Di.now HD0.out).symm]
        exact ⟨_, _, rfl, HV.out.stay HK1.out, HU.out.stay HK1.out⟩)
      have HNOW : Hid (e.now.i = d.now) := Lib.hid (congrArg Nt.Di.now HD0.out).symm
      have HPS1 := Lib.hid (HP.out.stay HK1.out)
      clear hok k4 r0 r1 r2 r3 f0 f1 f2 f3
      go_wp2_with fail
      refine (placeAfter_any e.now HE.out.now k a b hks _ _ 0 HPV.out).mono ?_
      rintro e' w2 ⟨y2, rfl, hpv, hk2⟩
      generalize Nt.afterI e.now ⟨k, a, b⟩ = P at *
      have HB2 := Lib.hid (HB1.out.stay hk2)
      have HR2 := Lib.hid (HR1.out.stay hk2)
      have HK2 := Lib.hid (HK1.out.trans hk2 (by simp))
      obtain ⟨pv, pu, rfl, hp1, hp2⟩ := hpv
      obtain ⟨pa, pcap, rfl, _, _, _⟩ := hp1.any
      obtain ⟨pb, pcap2, rfl, _, _, _⟩ := hp2.any
      have hka : Kept [] w2 (w2.alloc (.cells #[.slice pa P.ns.length pcap, .int .i64 P.c, .slice pb P.ks.length pcap2] 30)) := (Kept.refl [] w2).alloc _
      have HPN := Lib.hid (show Pv _ 0 (.agg #[.slice pa P.ns.length pcap, .int .i64 P.c, .slice pb P.ks.length pcap2]) P from ⟨_, _, rfl, hp1.stay hka, hp2.stay hka⟩)
      have HT3 := Lib.hid (Bk.new w2 30 #[.slice pa P.ns.length pcap, .int .i64 P.c, .slice pb P.ks.length pcap2])
      have HB3 := Lib.hid (HB2.out.stay hka)
      have HR3 := Lib.hid (HR2.out.stay hka)
      have HK3 := Lib.hid (HK2.out.trans hka (by simp))
      have HPV3 := Lib.hid ((HPV.out.stay hk2).stay hka)
      have HPS3 := Lib.hid ((HPS1.out.stay hk2).stay hka)
      clear hk2 hka c0 c1 c2 c3 d0 d1 d2 hp1 hp2 hzb hzd hzr HPV HPS1 HB1 HR1 HD1 HK1 HDW
      obtain ⟨c0, c1, c2, c3⟩ := HB3.out.four
      obtain ⟨t0, t1, t2⟩ := HT3.out.three
      have hzb := HB3.out.lt
      have hzt := HT3.out.lt
      go_wp2_with fail
      generalize w2.alloc (.cells #[.slice pa P.ns.length pcap, .int .i64 P.c, .slice pb P.ks.length pcap2] 30) = W3 at *
      refine (samePlace_any P e.now.i _ _ _ 0 0 HPN.out HPV3.out).mono ?_
      rintro e' w4 ⟨rfl, hk4⟩
      have HB4 := Lib.hid (HB3.out.stay hk4)
      have HR4 := Lib.hid (HR3.out.stay hk4)
      have HT4 := Lib.hid (HT3.out.stay hk4)
      have HK4 := Lib.hid (HK3.out.trans hk4 (by simp))
      have HPN4 := Lib.hid (HPN.out.stay hk4)
      have HPV4 := Lib.hid (HPV3.out.stay hk4)
      have HPS4 := Lib.hid (HPS3.out.stay hk4)
      clear hk4 c0 c1 c2 c3 t0 t1 t2 hzb hzt HB3 HR3 HT3 HK3 HPN HPV3 HPS3 HB2 HR2 HK2
      by_cases hsame : P = e.now.i
      · have HNO : Hid (Nt.doD e ⟨k, a, b⟩ = none) := Lib.hid (Nt.doD_none HN4.out (by rw [HMADE.out, if_neg (fun h => h.1 hsame)]))
        rw [decide_eq_true hsame]
        clear hsame
        obtain ⟨c0, c1, c2, c3⟩ := HB4.out.four
        obtain ⟨r0, r1, r2, r3⟩ := HR4.out.four
        have f0 := HR4.out.frozen 0
        have f1 := HR4.out.frozen 1
        have f2 := HR4.out.frozen 2
        have f3 := HR4.out.frozen 3
        have hzb := HB4.out.lt
        have hzr := HR4.out.lt
        go_wp2
        (try simp only [Exit.inBlock, Exit.then])
        refine bodyPost_ret (v := .tuple #[.agg #[.slice a1 d.now.ns.length cap, .int .i64 d.now.c, .slice b1 d.now.ks.length cap2, .slice a3 n cap3], .bool false]) ?_ rfl ?_
        · rw [results_cell_tmp rfl]
          simp [asAddr, ret_desk (HR4.out.set4 _ _ _ _)]
        · have hk9 := HK4.out.set4 (g := w.heap.size + 1 + 1) (by omega) (.slice a1 d.now.ns.length cap) (.int .i64 d.now.c) (.slice b1 d.now.ks.length cap2) (.slice a3 n cap3)
          have e2 : (Nt.goD e ⟨k, a, b⟩).i = d := by unfold Nt.goD; rw [HNO.out, HD0.out]; rfl
          rw [HNO.out, e2]
          exact ⟨_, rfl, HX.out.stay hk9, hk9⟩
      · rw [decide_eq_false hsame]
        have HNE := Lib.hid hsame
        clear hsame
        obtain ⟨t0, t1, t2⟩ := HT4.out.three
        go_wp2_with fail
        refine (iPlaceOk_any P _ _ _ HPN4.out).mono ?_
        rintro e' w5 ⟨rfl, hk5⟩
        have HB5 := Lib.hid (HB4.out.stay hk5)
        have HR5 := Lib.hid (HR4.out.stay hk5)
        have HT5 := Lib.hid (HT4.out.stay hk5)
        have HK5 := Lib.hid (HK4.out.trans hk5 (by simp))
        have HPN5 := Lib.hid (HPN4.out.stay hk5)
        have HPV5 := Lib.hid (HPV4.out.stay hk5)
        have HPS5 := Lib.hid (HPS4.out.stay hk5)
        clear hk5 t0 t1 t2 HB4 HR4 HT4 HK4 HPN4 HPV4 HPS4
        obtain ⟨c0, c1, c2, c3⟩ := HB5.out.four
        obtain ⟨r0, r1, r2, r3⟩ := HR5.out.four
        have f0 := HR5.out.frozen 0
        have f1 := HR5.out.frozen 1
        have f2 := HR5.out.frozen 2
        have f3 := HR5.out.frozen 3
        have hzb := HB5.out.lt
        have hzr := HR5.out.lt
        cases hpl : Nt.plB P
        · have HNO : Hid (Nt.doD e ⟨k, a, b⟩ = none) := Lib.hid (Nt.doD_none HN4.out (by rw [HMADE.out, if_neg (fun h => by rw [hpl] at h; simp at h)]))
          clear hpl
          go_wp2
          (try simp only [Exit.inBlock, Exit.then])
          refine bodyPost_ret (v := .tuple #[.agg #[.slice a1 d.now.ns.length cap, .int .i64 d.now.c, .slice b1 d.now.ks.length cap2, .slice a3 n cap3], .bool false]) ?_ rfl ?_
          · rw [results_cell_tmp rfl]
            simp [asAddr, ret_desk (HR5.out.set4 _ _ _ _)]
          · have hk9 := HK5.out.set4 (g := w.heap.size + 1 + 1) (by omega) (.slice a1 d.now.ns.length cap) (.int .i64 d.now.c) (.slice b1 d.now.ks.length cap2) (.slice a3 n cap3)
            have e2 : (Nt.goD e ⟨k, a, b⟩).i = d := by unfold Nt.goD; rw [HNO.out, HD0.out]; rfl
            rw [HNO.out, e2]
            exact ⟨_, rfl, HX.out.stay hk9, hk9⟩
        · have HYES : Hid (Nt.doD e ⟨k, a, b⟩ = some ⟨P.n, (e.past ++ [e.now]).drop ((e.past ++ [e.now]).length - 8)⟩) := Lib.hid (Nt.doD_some HE.out.few HN4.out (by rw [HMADE.out, if_pos ⟨HNE.out, hpl⟩]))
          have HPI : Hid (P.n.i = P) := Lib.hid (by obtain ⟨q, hq, _⟩ := Nt.plB_ok hpl; rw [hq, Nt.Pl.i_n])
          clear hpl
          obtain ⟨hk6, hb6, hr6⟩ := two_new w5 30 31 #[.slice a1 d.now.ns.length cap, .int .i64 d.now.c, .slice b1 d.now.ks.length cap2] #[.slice a3 n cap3, .slice (some ⟨w5.heap.size, 0, none⟩) 1 1]
          have HONE := Lib.hid (show Ps _ 0 (.slice (some ⟨w5.heap.size, 0, none⟩) 1 1) [d.now] from ⟨_, 1, rfl, (fun h => by cases h), by simp, by omega, fun j hj => by
            have e0 : j = 0 := by simpa using hj
            subst e0
            obtain ⟨b0, b1, b2⟩ := hb6.three
            exact ⟨w5.heap.size, 0, rfl, Nat.zero_le _, hb6.lt, _, _, b0, b1, b2, (HV.out.stay HK5.out).stay hk6, (HU.out.stay HK5.out).stay hk6⟩⟩)
          have HPS6 := Lib.hid (HPS5.out.stay hk6)
          have HPN6 := Lib.hid (HPN5.out.stay hk6)
          have HB6 := Lib.hid hr6
          have HT6 := Lib.hid (HT5.out.stay hk6)
          have HR6 := Lib.hid (HR5.out.stay hk6)
          have HK6 := Lib.hid (HK5.out.trans hk6 (by simp))
          clear hk6 hb6 hr6
          go_wp2_with fail
          obtain ⟨N9, hN9⟩ : ∃ N9, N9 = n + 1 := ⟨_, rfl⟩
          have HC := concat_any d.past d.now (by rw [← HN.out]; omega) _ (w5.heap.size + 1) _ _ HB6.out HPS6.out HONE.out
          rw [← HN.out, ← hN9] at HC
          have HN9 := Lib.hid hN9
          refine HC.mono ?_
          rintro e' w7 ⟨g7, cap7, rfl, hpm, hk7⟩
          have HPM := Lib.hid hpm
          have HT7 := Lib.hid (HT6.out.stay hk7)
          have HPN7 := Lib.hid (HPN6.out.stay hk7)
          have HR7 := Lib.hid (HR6.out.stay hk7)
          have HK7 := Lib.hid (HK6.out.trans hk7 (by simp))
          clear hpm hk7 HC c0 c1 c2 c3 r0 r1 r2 r3 f0 f1 f2 f3 hzb hzr HB5 HR5 HT5 HK5 HPN5 HPV5 HPS5 HONE HPS6 HB6 HT6 HR6 HK6 HPN6
          obtain ⟨t0, t1, t2⟩ := HT7.out.three
          have t0d : w7.drew.cell? ⟨w2.heap.size, 0, none⟩ = some (.slice pa P.ns.length pcap) := t0
          have t1d : w7.drew.cell? ⟨w2.heap.size, 1, none⟩ = some (.int .i64 P.c) := t1
          have t2d : w7.drew.cell? ⟨w2.heap.size, 2, none⟩ = some (.slice pb P.ks.length pcap2) := t2
          have hzt := HT7.out.lt
          have hl9 : N9 ≤ cap7 ∧ cap7 ≤ 9223372036854775807 := by
            obtain ⟨vs, htg, hvl, _⟩ := HPM.out
            obtain ⟨gg, cc, e, _, _, h3, h4, _⟩ := htg.shape (n := N9) (by rw [hvl, List.length_append, ← HN.out, HN9.out]; rfl) (by omega)
            simp only [Value.slice.injEq] at e
            obtain ⟨_, _, rfl⟩ := e
            exact ⟨h3, h4⟩
          obtain ⟨hl9, hm9⟩ := hl9
          by_cases h8 : N9 ≤ 8
          · obtain ⟨z, hz⟩ : ∃ z : Int, z = (N9 : Int) - 8 := ⟨_, rfl⟩
            have e1 : wrap64 ((N9 : Int) - 8) = z := by unfold wrap64; omega
            have e1' : IntKind.i64.wrap ((N9 : Int) - 8) = z := by rw [IntKind.wrap_i64]; omega
            have hz0 : z ≤ 0 := by omega
            have hm : (if 0 < z then z else 0) = 0 := if_neg (by omega)
            have hn1 : (0 : Int) ≤ (N9 : Int) := by omega
            have hc0 : ¬ cap7 = 0 := by omega
            have hc1 : 0 < cap7 := by omega
            clear hz hN9
            go_wp2_with fail
            go_still_tail 8, (by kernel_rfl)
            change wpList _ _ _ _ _ w7.drew
            have hkd : Kept [] w7 w7.drew := (Kept.refl [] w7).drew
            have HR8 := Lib.hid (HR7.out.stay hkd)
            have HK8 := Lib.hid HK7.out.drew
            have HPM8 := Lib.hid (show Ps w7.drew 0 _ _ from HPM.out.ps.stay hkd)
            have HPT8 := Lib.hid (show Pt w7.drew _ from by obtain ⟨vs, htg, _, _⟩ := HPM.out; exact htg.pt.stay hkd)
            have HPN8 := Lib.hid (HPN7.out.stay hkd)
            clear hkd t0 t1 t2 t0d t1d t2d hzt HR7 HK7 HPM HPN7 HT7
            generalize w7.drew = W8 at *
            obtain ⟨r0, r1, r2, r3⟩ := HR8.out.four
            have f0 := HR8.out.frozen 0
            have f1 := HR8.out.frozen 1
            have f2 := HR8.out.frozen 2
            have f3 := HR8.out.frozen 3
            have hrl := HR8.out.lt
            go_wp2
            (try simp only [Exit.inBlock, Exit.then])
            refine bodyPost_ret (v := .tuple #[.agg #[.slice pa P.ns.length pcap, .int .i64 P.c, .slice pb P.ks.length pcap2, .slice (some ⟨g7, 0, none⟩) N9 cap7], .bool true]) ?_ rfl ?_
            · rw [results_cell_tmp rfl]
              simp [asAddr, ret_desk (HR8.out.set4 _ _ _ _)]
            · have hk9 := HK8.out.set4 (g := w.heap.size + 1 + 1) (by omega) (.slice pa P.ns.length pcap) (.int .i64 P.c) (.slice pb P.ks.length pcap2) (.slice (some ⟨g7, 0, none⟩) N9 cap7)
              have hk4 := Kept.rows4 W8 (w.heap.size + 1 + 1) (.slice pa P.ns.length pcap) (.int .i64 P.c) (.slice pb P.ks.length pcap2) (.slice (some ⟨g7, 0, none⟩) N9 cap7)
              have hal := Alien.one HR8.out
              obtain ⟨x1, x2, ex, hx1, hx2⟩ := HPN8.out
              simp only [Value.agg.injEq] at ex
              have ex1 := congrArg (fun z => z[0]?) ex
              have ex2 := congrArg (fun z => z[2]?) ex
              simp at ex1 ex2
              subst ex1; subst ex2
              rw [HYES.out]
              have e2 : (Nt.goD e ⟨k, a, b⟩).i = ⟨P, (d.past ++ [d.now]).drop (N9 - 8)⟩ := by
                unfold Nt.goD
                rw [HYES.out, HD0.out]
                show (⟨P.n.i, ((e.past ++ [e.now]).drop ((e.past ++ [e.now]).length - 8)).map Nt.Pl.i⟩ : Nt.Di) = ⟨P, (e.past.map Nt.Pl.i ++ [e.now.i]).drop (N9 - 8)⟩
                have hl : (e.past ++ [e.now]).length = N9 := by
                  rw [List.length_append, HN9.out, HN.out, HD0.out]
                  show e.past.length + 1 = (e.past.map Nt.Pl.i).length + 1
                  rw [List.length_map]
                rw [HPI.out, hl, List.map_drop, List.map_append]; rfl
              rw [e2]
              refine ⟨_, rfl, ⟨_, _, _, rfl, hx1.alien hk4 hal, hx2.alien hk4 hal, ?_, ?_⟩, hk9⟩
              · have h := HPM8.out.alien HPT8.out hk4 hal
                rw [show N9 - 8 = 0 by omega, List.drop_zero]
                exact h
              · exact HPT8.out.alien hk4 hal
          · have h9 : N9 = 9 := by omega
            have e1 : wrap64 ((N9 : Int) - 8) = 1 := by unfold wrap64; omega
            have e1' : IntKind.i64.wrap ((N9 : Int) - 8) = 1 := by rw [IntKind.wrap_i64]; omega
            have hc0 : ¬ cap7 = 1 := by omega
            have hc1 : 1 < cap7 := by omega
            have hc2 : 1 ≤ cap7 := by omega
            have hn1 : (1 : Int) ≤ (N9 : Int) := by omega
            have HN99 := Lib.hid h9
            clear hN9 h9
            go_wp2_with fail
            go_still_tail 8, (by kernel_rfl)
            change wpList _ _ _ _ _ w7.drew
            have hkd : Kept [] w7 w7.drew := (Kept.refl [] w7).drew
            have HR8 := Lib.hid (HR7.out.stay hkd)
            have HK8 := Lib.hid HK7.out.drew
            have HPM8 := Lib.hid (show Ps w7.drew 0 _ _ from HPM.out.ps.stay hkd)
            have HPT8 := Lib.hid (show Pt w7.drew _ from by obtain ⟨vs, htg, _, _⟩ := HPM.out; exact htg.pt.stay hkd)
            have HPN8 := Lib.hid (HPN7.out.stay hkd)
            clear hkd t0 t1 t2 t0d t1d t2d hzt HR7 HK7 HPM HPN7 HT7
            generalize w7.drew = W8 at *
            obtain ⟨r0, r1, r2, r3⟩ := HR8.out.four
            have f0 := HR8.out.frozen 0
            have f1 := HR8.out.frozen 1
            have f2 := HR8.out.frozen 2
            have f3 := HR8.out.frozen 3
            have hrl := HR8.out.lt
            go_wp2
            (try simp only [Exit.inBlock, Exit.then])
            refine bodyPost_ret (v := .tuple #[.agg #[.slice pa P.ns.length pcap, .int .i64 P.c, .slice pb P.ks.length pcap2, .slice (some ⟨g7, 3, none⟩) (N9 - 1) (cap7 - 1)], .bool true]) ?_ rfl ?_
            · rw [results_cell_tmp rfl]
              simp [asAddr, ret_desk (HR8.out.set4 _ _ _ _)]
            · have hk9 := HK8.out.set4 (g := w.heap.size + 1 + 1) (by omega) (.slice pa P.ns.length pcap) (.int .i64 P.c) (.slice pb P.ks.length pcap2) (.slice (some ⟨g7, 3, none⟩) (N9 - 1) (cap7 - 1))
              have hk4 := Kept.rows4 W8 (w.heap.size + 1 + 1) (.slice pa P.ns.length pcap) (.int .i64 P.c) (.slice pb P.ks.length pcap2) (.slice (some ⟨g7, 3, none⟩) (N9 - 1) (cap7 - 1))
              have hal := Alien.one HR8.out
              obtain ⟨x1, x2, ex, hx1, hx2⟩ := HPN8.out
              simp only [Value.agg.injEq] at ex
              have ex1 := congrArg (fun z => z[0]?) ex
              have ex2 := congrArg (fun z => z[2]?) ex
              simp at ex1 ex2
              subst ex1; subst ex2
              rw [HYES.out]
              have e2 : (Nt.goD e ⟨k, a, b⟩).i = ⟨P, (d.past ++ [d.now]).drop (N9 - 8)⟩ := by
                unfold Nt.goD
                rw [HYES.out, HD0.out]
                show (⟨P.n.i, ((e.past ++ [e.now]).drop ((e.past ++ [e.now]).length - 8)).map Nt.Pl.i⟩ : Nt.Di) = ⟨P, (e.past.map Nt.Pl.i ++ [e.now.i]).drop (N9 - 8)⟩
                have hl : (e.past ++ [e.now]).length = N9 := by
                  rw [List.length_append, HN9.out, HN.out, HD0.out]
                  show e.past.length + 1 = (e.past.map Nt.Pl.i).length + 1
                  rw [List.length_map]
                rw [HPI.out, hl, List.map_drop, List.map_append]; rfl
              rw [e2]
              refine ⟨_, rfl, ⟨_, _, _, rfl, hx1.alien hk4 hal, hx2.alien hk4 hal, ?_, ?_⟩, hk9⟩
              · have h := (HPM8.out.alien HPT8.out hk4 hal).from 1 (by rw [List.length_append]; simp)
                rw [show N9 - 8 = 1 by have := HN99.out; omega]
                exact h
              · refine Pt.alien (fun a' n' cap' e3 _ => ?_) hk4 hal
                simp only [Value.slice.injEq, Option.some.injEq] at e3
                obtain ⟨rfl, _, _⟩ := e3
                exact HPT8.out ⟨g7, 0, none⟩ N9 cap7 rfl (by omega)
end Go.Proofs.YtnajdbnacdnnlaaGreatDoor
