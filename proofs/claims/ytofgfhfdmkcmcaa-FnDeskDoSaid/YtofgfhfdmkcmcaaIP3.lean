/-
  Deeds done at a place, by the program.
-/
import Derived.Test.YtofgfhfdmkcmcaaIP2
import Derived.Test.YtofgfhfdmkcmcaaPM1
import Derived.Test.YtofgfhfdmkcmcaaPureAF
namespace Go.Proofs.Ytofgfhfdmkcmcaa
open Go.RowKit

/-- The five kinds of deeds, their words and how many numbers they name. -/
def formCells : Array Value := #[.string ⟨#[106, 111, 105, 110]⟩, .int .i64 2, .string ⟨#[108, 105, 103, 104, 116]⟩, .int .i64 1, .string ⟨#[115, 116, 101, 112]⟩, .int .i64 0, .string ⟨#[107, 105, 110, 100, 115]⟩, .int .i64 1, .string ⟨#[98, 97, 99, 107]⟩, .int .i64 0]

set_option maxHeartbeats 1000000 in
set_option maxRecDepth 100000 in
theorem deedForms_any (w : World) :
    Calls Try.prog 111 #[] w fun e w' => e = .returned (.slice (some ⟨w.heap.size, 0, none⟩) 5 5) ∧ w' = w.alloc (.cells formCells 117) := by
  go_enter Try.func111, Try.ntmps111
  go_wp2
  go_ret
  exact ⟨rfl, rfl⟩

set_option maxHeartbeats 2000000 in
set_option maxRecDepth 100000 in
theorem deedOk_any (k a b : Int) (w : World) :
    Calls Try.prog 92 #[.agg #[.int .i64 k, .int .i64 a, .int .i64 b]] w fun e w' => e = .returned (.bool (Nt.dokB ⟨k, a, b⟩)) ∧ Kept [] w w' := by
  have hk0 : Kept [] w (w.alloc (.cells #[.int .i64 k, .int .i64 a, .int .i64 b] 40)) := (Kept.refl [] w).alloc _
  have HB := Lib.hid (Bk.new w 40 #[.int .i64 k, .int .i64 a, .int .i64 b])
  have HK0 := Lib.hid hk0
  clear hk0
  go_enter Try.func92, Try.ntmps92
  go_wp2_with fail
  generalize w.alloc (.cells #[.int .i64 k, .int .i64 a, .int .i64 b] 40) = W0 at *
  refine (deedForms_any _).mono ?_
  rintro e w1 ⟨rfl, rfl⟩
  have hk1 : Kept [] W0 (W0.alloc (.cells formCells 117)) := (Kept.refl [] W0).alloc _
  have HF := Lib.hid (Bk.new W0 117 formCells)
  have HB1 := Lib.hid (HB.out.stay hk1)
  have HK1 := Lib.hid (HK0.out.trans hk1 (by simp))
  clear hk1 HB HK0
  generalize hG : W0.heap.size = G at *
  generalize W0.alloc (.cells formCells 117) = W1 at *
  obtain ⟨c0, c1, c2⟩ := HB1.out.three
  clear hG
  by_cases k0 : k < 0
  · have HZ : Hid (Nt.dokB ⟨k, a, b⟩ = false) := Lib.hid (by unfold Nt.dokB; rw [show decide (0 ≤ k ∧ k < 5) = false from decide_eq_false (by omega)]; rfl)
    have d1 : decide (k < 0) = true := dec_of k0
    go_wp2
    go_ret
    exact ⟨by rw [HZ.out]; rfl, HK1.out⟩
  by_cases k5 : 5 ≤ k
  · have HZ : Hid (Nt.dokB ⟨k, a, b⟩ = false) := Lib.hid (by unfold Nt.dokB; rw [show decide (0 ≤ k ∧ k < 5) = false from decide_eq_false (by omega)]; rfl)
    have d1 : decide (k < 0) = false := dec_not k0
    have d2 : decide (k ≥ 5) = true := dec_of k5
    have d3 : decide (5 ≤ k) = true := dec_of k5
    go_wp2
    go_ret
    exact ⟨by rw [HZ.out]; rfl, HK1.out⟩
  have hk : k = 0 ∨ k = 1 ∨ k = 2 ∨ k = 3 ∨ k = 4 := by omega
  clear k0 k5
  have f0 : W1.cell? ⟨G, 1, none⟩ = some (.int .i64 2) := HF.out.cell 1 rfl
  have f1 : W1.cell? ⟨G, 3, none⟩ = some (.int .i64 1) := HF.out.cell 3 rfl
  have f2 : W1.cell? ⟨G, 5, none⟩ = some (.int .i64 0) := HF.out.cell 5 rfl
  have f3 : W1.cell? ⟨G, 7, none⟩ = some (.int .i64 1) := HF.out.cell 7 rfl
  have f4 : W1.cell? ⟨G, 9, none⟩ = some (.int .i64 0) := HF.out.cell 9 rfl
  rcases hk with rfl | rfl | rfl | rfl | rfl
  all_goals
    by_cases ha : a = 0
    all_goals
      by_cases hb : b = 0
      all_goals
        first
        | (have ea : (a == 0) = true := by simp [ha]
           have eb : (b == 0) = true := by simp [hb]
           go_wp2
           go_ret
           exact ⟨by simp [Nt.dokB, Nt.dnum, ha, hb], HK1.out⟩)
        | (have ea : (a == 0) = true := by simp [ha]
           have eb : (b == 0) = false := by simp [hb]
           go_wp2
           go_ret
           exact ⟨by simp [Nt.dokB, Nt.dnum, ha, hb], HK1.out⟩)
        | (have ea : (a == 0) = false := by simp [ha]
           have eb : (b == 0) = true := by simp [hb]
           go_wp2
           go_ret
           exact ⟨by simp [Nt.dokB, Nt.dnum, ha, hb], HK1.out⟩)
        | (have ea : (a == 0) = false := by simp [ha]
           have eb : (b == 0) = false := by simp [hb]
           go_wp2
           go_ret
           exact ⟨by simp [Nt.dokB, Nt.dnum, ha, hb], HK1.out⟩)

set_option maxHeartbeats 1000000 in
set_option maxRecDepth 100000 in
theorem samePlace_any (p q : Nt.Pi) (w : World) (x y : Value) (base base' : Nat) (h : Pv w base x p) (h' : Pv w base' y q) :
    Calls Try.prog 95 #[x, y] w fun e w' => e = .returned (.bool (decide (p = q))) ∧ Kept [] w w' := by
  obtain ⟨v, u, rfl, h1, h2⟩ := h
  obtain ⟨v', u', rfl, h3, h4⟩ := h'
  obtain ⟨hk0, hb0, hr0⟩ := two_new w 25 25 #[v, .int .i64 p.c, u] #[v', .int .i64 q.c, u']
  have H1 := Lib.hid (h1.stay hk0)
  have H2 := Lib.hid (h2.stay hk0)
  have H3 := Lib.hid (h3.stay hk0)
  have H4 := Lib.hid (h4.stay hk0)
  obtain ⟨a, cap, rfl, _, _, _⟩ := h1.any
  obtain ⟨b, cap2, rfl, _, _, _⟩ := h2.any
  obtain ⟨a', cap3, rfl, _, _, _⟩ := h3.any
  obtain ⟨b', cap4, rfl, _, _, _⟩ := h4.any
  have HB := Lib.hid hb0
  have HR := Lib.hid hr0
  have HK0 := Lib.hid hk0
  obtain ⟨c0, c1, c2⟩ := hb0.three
  obtain ⟨d0, d1, d2⟩ := hr0.three
  clear h1 h2 h3 h4 hb0 hr0 hk0
  go_enter Try.func95, Try.ntmps95
  go_wp2_with fail
  generalize ((w.alloc (.cells #[.slice a p.ns.length cap, .int .i64 p.c, .slice b p.ks.length cap2] 25)).alloc (.cells #[.slice a' q.ns.length cap3, .int .i64 q.c, .slice b' q.ks.length cap4] 25)) = W0 at *
  refine (equalInts_any p.ns q.ns _ _ _ _ _ H1.out H3.out).mono ?_
  rintro e w1 ⟨rfl, hq⟩
  have HK1 := Lib.hid (HK0.out.trans hq.kept (by simp))
  have HB1 := Lib.hid (HB.out.stay hq.kept)
  have HR1 := Lib.hid (HR.out.stay hq.kept)
  have H21 := Lib.hid (H2.out.stay hq.kept)
  have H41 := Lib.hid (H4.out.stay hq.kept)
  clear hq c0 c1 c2 d0 d1 d2
  obtain ⟨c0, c1, c2⟩ := HB1.out.three
  obtain ⟨d0, d1, d2⟩ := HR1.out.three
  obtain ⟨pn, pc, pk⟩ := p
  obtain ⟨qn, qc, qk⟩ := q
  simp only at *
  have HD : Hid (decide ((⟨pn, pc, pk⟩ : Nt.Pi) = ⟨qn, qc, qk⟩) = (decide (pn = qn) && decide (pc = qc) && decide (pk = qk))) := Lib.hid (by
    rw [Bool.and_assoc, ← Bool.decide_and, ← Bool.decide_and]
    exact decide_eq_decide.2 (by rw [Nt.Pi.mk.injEq]))
  by_cases e1 : pn = qn
  · rw [decide_eq_true e1]
    by_cases e2 : pc = qc
    · have ee : (pc == qc) = true := by simp [e2]
      rw [decide_eq_true e1, decide_eq_true e2] at HD
      clear e1 e2
      go_wp2_with fail
      refine (equalInts_any pk qk _ _ _ _ _ H21.out H41.out).mono ?_
      rintro e w2 ⟨rfl, hq⟩
      have HK2 := Lib.hid (HK1.out.trans hq.kept (by simp))
      clear hq
      go_wp2
      go_ret
      exact ⟨by rw [HD.out]; rfl, HK2.out⟩
    · have ee : (pc == qc) = false := by simp [e2]
      rw [decide_eq_true e1, decide_eq_false e2] at HD
      clear e1 e2
      go_wp2
      go_ret
      exact ⟨by rw [HD.out]; rfl, HK1.out⟩
  · rw [decide_eq_false e1] at HD ⊢
    clear e1
    go_wp2
    go_ret
    exact ⟨by rw [HD.out]; rfl, HK1.out⟩

set_option maxHeartbeats 400000 in
set_option maxRecDepth 100000 in
theorem isNodeZ_any (n : Nat) (a : Int) (w : World) :
    Calls Try.prog 115 #[.int .i64 (n : Int), .int .i64 a] w fun e w' => e = .returned (.bool (decide (0 ≤ a ∧ a < (n : Int)))) ∧ w = w' := by
  by_cases h1 : 0 ≤ a <;> by_cases h2 : a < (n : Int)
  all_goals
    go_enter Try.func115, Try.ntmps115
    go_wp2
    go_ret
    exact ⟨by simp [h1, h2], rfl⟩
theorem tog_self (ns : List Nat) {a : Nat} (ha : a < ns.length) : Nt.tog ns a a = ns := by
  unfold Nt.tog
  have e : (ns.set a (ns.getD a 0 ^^^ 2 ^ a)).getD a 0 = ns.getD a 0 ^^^ 2 ^ a := by
    rw [List.getD_eq_getElem?_getD, List.getElem?_set_self ha]; rfl
  rw [e, List.set_set, Nat.xor_assoc, Nat.xor_self, Nat.xor_zero]
  apply List.ext_getElem (by simp)
  intro i h1 h2
  rw [List.getElem_set]
  by_cases h : a = i
  · subst h
    rw [if_pos rfl, List.getD_eq_getElem?_getD, List.getElem?_eq_getElem ha]; rfl
  · rw [if_neg h]
/-- A net with two nodes joined, or parted. -/
def switched (ns : List Nat) (a b : Int) : List Nat := if (0 ≤ a ∧ a < ns.length) ∧ (0 ≤ b ∧ b < ns.length) then Nt.tog ns a.toNat b.toNat else ns

set_option maxHeartbeats 2000000 in
set_option maxRecDepth 100000 in
theorem switchedNet_any (ns : List Nat) (ok : Nt.Ok ns) (a b : Int) (w : World) (v : Value) (base : Nat) (hs : Sl w base v (Nt.nats ns)) :
    Calls Try.prog 112 #[v, .int .i64 a, .int .i64 b] w fun e w' => ∃ z, e = .returned z ∧ Sl w' w.heap.size z (Nt.nats (switched ns a b)) ∧ Kept [] w w' := by
  obtain ⟨n, hn⟩ : ∃ n, n = ns.length := ⟨_, rfl⟩
  have hn0 : 0 < n := by rw [hn]; exact ok.some
  have hn6 : n ≤ 6 := by rw [hn]; exact ok.few
  have hnl : (Nt.nats ns).length = n := by rw [hn]; exact Nt.nats_length _
  have HC := Lib.hid (cloneInts_any (Nt.nats ns) (by omega) (by omega) w v base hs)
  have HSW : Hid (switched ns a b = if (0 ≤ a ∧ a < (n : Int)) ∧ (0 ≤ b ∧ b < (n : Int)) then Nt.tog ns a.toNat b.toNat else ns) := Lib.hid (by unfold switched; rw [hn])
  have HN := Lib.hid hn
  have HOK := Lib.hid ok
  obtain ⟨g, cap, rfl, _, _⟩ := hs.shape hnl hn0
  clear hs ok hn
  go_enter Try.func112, Try.ntmps112
  go_wp2_with fail
  refine (HC.out).mono ?_
  rintro e w1 ⟨z, rfl, hs1, hk1⟩
  have HS1 := Lib.hid hs1
  have HK1 := Lib.hid hk1
  obtain ⟨g1, cap1, rfl, hg1, _⟩ := hs1.shape hnl hn0
  clear hs1 hk1 HC
  by_cases hr : 0 ≤ a ∧ a < (n : Int)
  · have HRa := Lib.hid hr
    go_wp2_with fail
    refine (isNodeZ_any n a _).mono ?_
    rintro e w' ⟨rfl, rfl⟩
    rw [show decide (0 ≤ a ∧ a < (n : Int)) = true from dec_of hr]
    go_wp2_with fail
    refine (isNodeZ_any n b _).mono ?_
    rintro e w' ⟨rfl, rfl⟩
    by_cases hs : 0 ≤ b ∧ b < (n : Int)
    · rw [show decide (0 ≤ b ∧ b < (n : Int)) = true from dec_of hs]
      obtain ⟨m, rfl⟩ := Int.eq_ofNat_of_zero_le hr.1
      obtain ⟨l, rfl⟩ := Int.eq_ofNat_of_zero_le hs.1
      have hm : m < n := by omega
      have hl : l < n := by omega
      have HT : Hid (switched ns (m : Int) (l : Int) = Nt.tog ns m l) := Lib.hid (by rw [HSW.out, if_pos ⟨hr, hs⟩, Int.toNat_natCast, Int.toNat_natCast])
      clear hr hs
      have hmq : m < ns.length := by rw [← HN.out]; exact hm
      have HGm : Hid (ns.getD m 0 < 64) := Lib.hid (HOK.out.get_lt m)
      have hp64 : l < 64 := by omega
      have hp64m : m < 64 := by omega
      obtain ⟨y0, y1⟩ := HS1.out.at m (by rw [Nt.nats_length]; exact hmq)
      rw [show (Nt.nats ns).getD m 0 = (ns.getD m 0 : Nat) from Nt.nats_get _ _] at y0
      have HX3 := Lib.hid (xor_shl (ns.getD m 0) l HGm.out (by omega))
      have hkd : Kept [] w1 w1.drew := (Kept.refl [] w1).drew
      have HS2 := Lib.hid (HS1.out.stay hkd)
      have HK2 := Lib.hid HK1.out.drew
      have y1d : w1.drew.frozen? ⟨g1, m, none⟩ = false := y1
      have y0d : w1.drew.cell? ⟨g1, m, none⟩ = some (.int .i64 ((ns.getD m 0 : Nat) : Int)) := y0
      clear hkd
      generalize hxe : ns.getD m 0 = x3 at *
      have HE3 := Lib.hid hxe
      clear hxe
      go_wp2_with fail
      go_still_tail 8, (by kernel_rfl)
      change wpList _ _ _ _ _ w1.drew
      clear y0 y1 HS1 HK1
      generalize w1.drew = W4 at *
      have HV5 := Lib.hid (show Sl _ _ _ _ from HS2.out.set hnl.symm m (((x3 ^^^ 2 ^ l : Nat)) : Int))
      rw [← Nt.nats_set] at HV5
      have HK5 := Lib.hid (HK2.out.setCell (.inr hg1) (.int .i64 ((x3 ^^^ 2 ^ l : Nat) : Int)) (p := ⟨g1, m, none⟩))
      go_wp2_with fail
      rw [HX3.out]
      generalize W4.setCell ⟨g1, m, none⟩ (.int .i64 ((x3 ^^^ 2 ^ l : Nat) : Int)) = W5 at *
      have HLQ : Hid ((ns.set m (x3 ^^^ 2 ^ l)).length = ns.length) := Lib.hid (List.length_set ..)
      obtain ⟨xs, hxs⟩ : ∃ xs, xs = ns.set m (x3 ^^^ 2 ^ l) := ⟨_, rfl⟩
      have hlq : l < xs.length := by rw [hxs, HLQ.out, ← HN.out]; exact hl
      have HLX : Hid (xs.length = n) := Lib.hid (by rw [hxs, HLQ.out]; exact HN.out.symm)
      have HGl : Hid (xs.getD l 0 < 64) := Lib.hid (by
        rw [hxs, List.getD_eq_getElem?_getD]
        by_cases hab : m = l
        · subst hab
          rw [List.getElem?_set_self hmq, Option.getD_some]
          have h2 : (2 : Nat) ^ m < 2 ^ 6 := Nat.pow_lt_pow_right (by omega) (by omega)
          exact Nat.xor_lt_two_pow (n := 6) HGm.out h2
        · rw [List.getElem?_set_ne hab, ← List.getD_eq_getElem?_getD]
          exact HOK.out.get_lt l)
      rw [← hxs] at HV5
      have HXS := Lib.hid hxs
      clear hxs
      obtain ⟨y0, y1⟩ := HV5.out.at l (by rw [Nt.nats_length]; exact hlq)
      rw [show (Nt.nats xs).getD l 0 = (xs.getD l 0 : Nat) from Nt.nats_get _ _] at y0
      have HX5 := Lib.hid (xor_shl (xs.getD l 0) m HGl.out (by omega))
      have hkd : Kept [] W5 W5.drew := (Kept.refl [] W5).drew
      have HV6 := Lib.hid (HV5.out.stay hkd)
      have HK6 := Lib.hid HK5.out.drew
      have y1d : W5.drew.frozen? ⟨g1, l, none⟩ = false := y1
      have y0d : W5.drew.cell? ⟨g1, l, none⟩ = some (.int .i64 ((xs.getD l 0 : Nat) : Int)) := y0
      clear hkd
      generalize hxe : xs.getD l 0 = x5 at *
      have HE5 := Lib.hid hxe
      clear hxe
      go_wp2_with fail
      go_still_tail 8, (by kernel_rfl)
      change wpList _ _ _ _ _ W5.drew
      clear y0 y1 HV5 HK5
      generalize W5.drew = W6 at *
      have HV7 := Lib.hid (show Sl _ _ _ _ from HV6.out.set (by rw [Nt.nats_length]; exact HLX.out.symm) l (((x5 ^^^ 2 ^ m : Nat)) : Int))
      rw [← Nt.nats_set] at HV7
      have HK7 := Lib.hid (HK6.out.setCell (.inr hg1) (.int .i64 ((x5 ^^^ 2 ^ m : Nat) : Int)) (p := ⟨g1, l, none⟩))
      go_wp2
      rw [HX5.out]
      go_ret
      have HT2 : Nt.tog ns m l = xs.set l (x5 ^^^ 2 ^ m) := by
        unfold Nt.tog
        rw [HE3.out, ← HXS.out, HE5.out]
      exact ⟨_, rfl, by rw [HT.out, HT2]; exact HV7.out, HK7.out⟩
    · have HT : Hid (switched ns a b = ns) := Lib.hid (by rw [HSW.out, if_neg (fun h => hs h.2)])
      rw [show decide (0 ≤ b ∧ b < (n : Int)) = false from decide_eq_false hs]
      clear hr hs
      go_wp2
      go_ret
      exact ⟨_, rfl, by rw [HT.out]; exact HS1.out, HK1.out⟩
  · have HT : Hid (switched ns a b = ns) := Lib.hid (by rw [HSW.out, if_neg (fun h => hr h.1)])
    go_wp2_with fail
    refine (isNodeZ_any n a _).mono ?_
    rintro e w' ⟨rfl, rfl⟩
    rw [show decide (0 ≤ a ∧ a < (n : Int)) = false from decide_eq_false hr]
    clear hr
    go_wp2
    go_ret
    exact ⟨_, rfl, by rw [HT.out]; exact HS1.out, HK1.out⟩
end Go.Proofs.Ytofgfhfdmkcmcaa
