/-
  New desks, desks before, desks after a deed, by the program.
-/
import Derived.Test.YtofgfhfdmkcmcaaIP8
import Derived.Test.YtofgfhfdmkcmcaaIP6
namespace Go.Proofs.Ytofgfhfdmkcmcaa
open Go.RowKit

/-- The value of a desk in memory of its own, written out. -/
theorem Dx.form {w : World} {base : Nat} {x : Value} {d : Nt.Di} {G C : Nat → Nat} {r : Value} {vs : List (Value × Value × Value)} (h : Dx w base x d G C r vs) :
    ∃ g1 q1 g2 q2 a3 n3 c3, x = .agg #[.slice (some ⟨g1, 0, none⟩) d.now.ns.length q1, .int .i64 d.now.c, .slice (some ⟨g2, 0, none⟩) d.now.ks.length q2, .slice a3 n3 c3] := by
  obtain ⟨a3, c3, e⟩ := h.row.any
  exact ⟨G 0, C 0, G 1, C 1, a3, _, c3, by rw [h.val, e]⟩

set_option maxHeartbeats 2000000 in
set_option maxRecDepth 100000 in
theorem iDeskNew_any (p : Nt.Pi) (w : World) (x : Value) (base : Nat) (h : Pv w base x p) :
    Calls Try.prog 21 #[x] w fun e w' => ∃ y, e = .returned (.tuple #[y, .bool (Nt.plB p)]) ∧ DxR w' w.heap.size y (Nt.dnew p) ∧ Kept [] w w' := by
  have HPV0 := Lib.hid h
  obtain ⟨v, u, rfl, h1, h2⟩ := h
  obtain ⟨hk0, hb0, hr0⟩ := two_new w 25 32 #[v, .int .i64 p.c, u] #[.slice none 0 0, .int .i64 0, .slice none 0 0, .slice none 0 0]
  have HPV := Lib.hid (HPV0.out.stay hk0)
  have HB := Lib.hid hb0
  have HR := Lib.hid hr0
  have HK0 := Lib.hid hk0
  obtain ⟨a, cap, rfl, _, _, _⟩ := h1.any
  obtain ⟨b, cap2, rfl, _, _, _⟩ := h2.any
  obtain ⟨c0, c1, c2⟩ := hb0.three
  clear h1 h2 hk0 hb0 hr0 HPV0
  go_enter Try.func21, Try.ntmps21
  go_wp2_with fail
  generalize ((w.alloc (.cells #[.slice a p.ns.length cap, .int .i64 p.c, .slice b p.ks.length cap2] 25)).alloc (.cells #[.slice none 0 0, .int .i64 0, .slice none 0 0, .slice none 0 0] 32)) = W0 at *
  refine (iPlaceOk_any p _ _ _ HPV.out).mono ?_
  rintro e w1 ⟨rfl, hk1⟩
  have HB1 := Lib.hid (HB.out.stay hk1)
  have HR1 := Lib.hid (HR.out.stay hk1)
  have HPV1 := Lib.hid (HPV.out.stay hk1)
  have HK1 := Lib.hid (HK0.out.trans hk1 (by simp))
  clear hk1 c0 c1 c2 HB HR HPV HK0
  cases ho : Nt.plB p
  · obtain ⟨r0, r1, r2, r3⟩ := HR1.out.four
    have f0 := HR1.out.frozen 0
    have f1 := HR1.out.frozen 1
    have f2 := HR1.out.frozen 2
    have f3 := HR1.out.frozen 3
    have HO := Lib.hid ho
    have HF : Hid (Nt.dnew p = Nt.Di.zero) := Lib.hid (by unfold Nt.dnew; rw [if_neg (by simp [ho])])
    go_wp2
    (try simp only [Exit.inBlock, Exit.then])
    refine bodyPost_ret (v := .tuple #[.agg #[.slice none 0 0, .int .i64 0, .slice none 0 0, .slice none 0 0], .bool false]) ?_ rfl ?_
    · rw [results_cell_tmp rfl]
      simp [asAddr, ret_desk (HR1.out.set4 _ _ _ _)]
    · rw [HO.out, HF.out]
      exact ⟨_, rfl, .inl ⟨rfl, rfl⟩, HK1.out.set4 (by omega) _ _ _ _⟩
  · have HF : Hid (Nt.dnew p = ⟨p, []⟩) := Lib.hid (by unfold Nt.dnew; rw [if_pos ho])
    have HDB : Hid (Nt.dkB ⟨p, []⟩ = true) := Lib.hid (by unfold Nt.dkB; simp [ho])
    have HDV : Hid (Dv w1 base (.agg #[.slice a p.ns.length cap, .int .i64 p.c, .slice b p.ks.length cap2, .slice none 0 0]) ⟨p, []⟩) := Lib.hid (by
      obtain ⟨v', u', e, h1, h2⟩ := HPV1.out
      simp only [Value.agg.injEq] at e
      have e2 := congrArg (fun z => z[0]?) e
      have e3 := congrArg (fun z => z[2]?) e
      simp at e2 e3
      subst e2; subst e3
      exact ⟨_, _, _, rfl, h1, h2, Ps.nil _ _⟩)
    have HO := Lib.hid ho
    obtain ⟨c0, c1, c2⟩ := HB1.out.three
    go_wp2_with fail
    refine (copiedDesk_any ⟨p, []⟩ HDB.out _ _ _ HDV.out).mono ?_
    rintro e w2 ⟨y2, G, C, r, vs, rfl, hdx, hk2⟩
    have HDX := Lib.hid hdx
    have HR2 := Lib.hid (HR1.out.stay hk2)
    have HK2 := Lib.hid (HK1.out.trans hk2 (by simp))
    have HZ1 := Lib.hid HR1.out.lt
    obtain ⟨g1, q1, g2, q2, a3, n3, c3, rfl⟩ := hdx.form
    obtain ⟨r0, r1, r2, r3⟩ := HR2.out.four
    have f0 := HR2.out.frozen 0
    have f1 := HR2.out.frozen 1
    have f2 := HR2.out.frozen 2
    have f3 := HR2.out.frozen 3
    clear hk2 hdx c0 c1 c2
    go_wp2
    (try simp only [Exit.inBlock, Exit.then])
    refine bodyPost_ret (v := .tuple #[.agg #[.slice (some ⟨g1, 0, none⟩) p.ns.length q1, .int .i64 p.c, .slice (some ⟨g2, 0, none⟩) p.ks.length q2, .slice a3 n3 c3], .bool true]) ?_ rfl ?_
    · rw [results_cell_tmp rfl]
      simp [asAddr, ret_desk (HR2.out.set4 _ _ _ _)]
    · have hsz := HK1.out.size
      rw [HO.out, HF.out]
      exact ⟨_, rfl, .inr ⟨HDB.out, G, C, r, vs, (HDX.out.kept (Kept.rows4 w2 (w.heap.size + 1) _ _ _ _) (fun g hg _ => by have := HZ1.out; simp; omega)).mono hsz⟩, HK2.out.set4 (by omega) _ _ _ _⟩

/-- A desk's place before, and those before that. -/
def backI (d : Nt.Di) : Nt.Di := ⟨piAt d.past (d.past.length - 1), d.past.take (d.past.length - 1)⟩
theorem Ps.cut {w : World} {base : Nat} {a : Option Addr} {n cap : Nat} {ps : List Nt.Pi} (h : Ps w base (.slice a n cap) ps) (m : Nat) (hm : m ≤ ps.length) : Ps w base (.slice a m cap) (ps.take m) := by
  obtain ⟨a', cap', e, hz, h1, h2, h3⟩ := h
  simp only [Value.slice.injEq] at e
  obtain ⟨rfl, rfl, rfl⟩ := e
  have hl : (ps.take m).length = m := by rw [List.length_take]; omega
  refine ⟨a, cap, by rw [hl], hz, by omega, h2, fun k hk => ?_⟩
  obtain ⟨g, off, e, hb, hg, hp⟩ := h3 k (by omega)
  have e2 : piAt (ps.take m) k = piAt ps k := by unfold piAt; rw [List.getD_eq_getElem?_getD, List.getElem?_take, if_pos (by omega), ← List.getD_eq_getElem?_getD]
  exact ⟨g, off, e, hb, hg, by rw [e2]; exact hp⟩
theorem Ps.from {w : World} {base : Nat} {g off n cap : Nat} {ps : List Nt.Pi} (h : Ps w base (.slice (some ⟨g, off, none⟩) n cap) ps) (m : Nat) (hm : m ≤ ps.length) : Ps w base (.slice (some ⟨g, off + m * 3, none⟩) (n - m) (cap - m)) (ps.drop m) := by
  obtain ⟨a', cap', e, hz, h1, h2, h3⟩ := h
  simp only [Value.slice.injEq] at e
  obtain ⟨rfl, rfl, rfl⟩ := e
  have hl : (ps.drop m).length = ps.length - m := List.length_drop ..
  refine ⟨some ⟨g, off + m * 3, none⟩, cap - m, by rw [hl], (fun e => by cases e), by omega, by omega, fun k hk => ?_⟩
  obtain ⟨g', off', e, hb, hg, x, y, c0, c1, c2, hx, hy⟩ := h3 (m + k) (by omega)
  simp only [Option.some.injEq, Addr.mk.injEq, and_true] at e
  obtain ⟨rfl, rfl⟩ := e
  have e2 : piAt (ps.drop m) k = piAt ps (m + k) := by unfold piAt; rw [List.getD_eq_getElem?_getD, List.getElem?_drop, ← List.getD_eq_getElem?_getD]
  have e3 : off + m * 3 + k * 3 = off + (m + k) * 3 := by omega
  exact ⟨g, off + m * 3, rfl, hb, hg, x, y, by rw [e3]; exact c0, by rw [e3, e2]; exact c1, by rw [e3]; exact c2, by rw [e2]; exact hx, by rw [e2]; exact hy⟩

def beforeI (d : Nt.Di) : Nt.Di := if 0 < d.past.length then backI d else d
def beforeB (d : Nt.Di) : Bool := decide (0 < d.past.length)

set_option maxHeartbeats 4000000 in
set_option maxRecDepth 100000 in
theorem deskBefore_any (d : Nt.Di) (w : World) (x : Value) (h : De w x d) :
    Calls Try.prog 93 #[x] w fun e w' => ∃ y, e = .returned (.tuple #[y, .bool (beforeB d)]) ∧ De w' y (beforeI d) ∧ Kept [] w w' := by
  obtain ⟨n, hn⟩ : ∃ n, n = d.past.length := ⟨_, rfl⟩
  have HD := Lib.hid h
  obtain ⟨v, u, r, rfl, h1, h2, h3, h4⟩ := h
  obtain ⟨a3, cap3, e3, hz3, hlc3, hc3, hp3⟩ := h3
  rw [← hn] at e3 hlc3 hp3
  subst e3
  obtain ⟨hk0, hb0, hr0⟩ := two_new w 32 32 #[v, .int .i64 d.now.c, u, .slice a3 n cap3] #[.slice none 0 0, .int .i64 0, .slice none 0 0, .slice none 0 0]
  obtain ⟨a, cap, rfl, _, _, _⟩ := h1.any
  obtain ⟨b, cap2, rfl, _, _, _⟩ := h2.any
  have HR := Lib.hid hr0
  have HK0 := Lib.hid hk0
  have HN := Lib.hid hn
  obtain ⟨c0, c1, c2, c3⟩ := hb0.four
  have hbl := hb0.lt
  have hrl := hr0.lt
  have hm3 : n ≤ 9223372036854775807 := by omega
  by_cases hpos : 0 < n
  · obtain ⟨m, hm⟩ : ∃ m, n = m + 1 := ⟨n - 1, by omega⟩
    have HPT : Hid (Pt w (.slice a3 m cap3)) := Lib.hid (fun a' n' cap' e _ => by
      simp only [Value.slice.injEq] at e
      obtain ⟨rfl, rfl, rfl⟩ := e
      exact h4 a' n cap3 rfl (by omega))
    have HBI : Hid (beforeI d = backI d ∧ beforeB d = true) := Lib.hid (by unfold beforeI beforeB; rw [← hn]; exact ⟨if_pos hpos, decide_eq_true hpos⟩)
    obtain ⟨g, off, rfl, _, hg, hpc⟩ := hp3 m (by omega)
    obtain ⟨xx, yy, q0, q1, q2, hx, hy⟩ := hpc
    have s0 := (hk0.cell (p := ⟨g, off + m * 3, none⟩) hg (by simp)).trans q0
    have s1 := (hk0.cell (p := ⟨g, off + m * 3 + 1, none⟩) hg (by simp)).trans q1
    have s2 := (hk0.cell (p := ⟨g, off + m * 3 + 2, none⟩) hg (by simp)).trans q2
    have e1 : wrap64 ((n : Int) - 1) = (m : Int) := by unfold wrap64; omega
    have e1' : IntKind.i64.wrap ((n : Int) - 1) = (m : Int) := by rw [IntKind.wrap_i64]; omega
    have hmn : m < n := by omega
    have hmc : m ≤ cap3 := by omega
    have d0 : decide ((m : Int) < 0) = false := dec_not (by omega)
    have HX := Lib.hid hx
    have HY := Lib.hid hy
    have HPK : Hid (piAt d.past m = (backI d).now ∧ d.past.take m = (backI d).past ∧ m ≤ d.past.length) := Lib.hid (by
      unfold backI
      rw [← hn, show n - 1 = m by omega]; exact ⟨rfl, rfl, by omega⟩)
    have HPS : Hid (Ps w 0 (.slice (some ⟨g, off, none⟩) n cap3) d.past) := Lib.hid ⟨_, cap3, by rw [hn], hz3, by omega, hc3, by rw [← hn]; exact hp3⟩
    obtain ⟨ax, cx, rfl, _, _, _⟩ := hx.any
    obtain ⟨ay, cy, rfl, _, _, _⟩ := hy.any
    clear h1 h2 h4 hk0 hb0 hr0 hp3 hx hy hn hm hpos hz3 q0 q1 q2
    generalize hpe : piAt d.past m = p at *
    clear hpe
    go_enter Try.func93, Try.ntmps93
    go_wp2_with fail
    generalize ((w.alloc (.cells #[.slice a d.now.ns.length cap, .int .i64 d.now.c, .slice b d.now.ks.length cap2, .slice (some ⟨g, off, none⟩) n cap3] 32)).alloc (.cells #[.slice none 0 0, .int .i64 0, .slice none 0 0, .slice none 0 0] 32)) = W0 at *
    have c3d : W0.drew.cell? ⟨w.heap.size, 3, none⟩ = some (.slice (some ⟨g, off, none⟩) n cap3) := c3
    have q0d : W0.drew.cell? ⟨g, off + m * 3, none⟩ = some (.slice ax p.ns.length cx) := s0
    have q1d : W0.drew.cell? ⟨g, off + m * 3 + 1, none⟩ = some (.int .i64 p.c) := s1
    have q2d : W0.drew.cell? ⟨g, off + m * 3 + 2, none⟩ = some (.slice ay p.ks.length cy) := s2
    go_still_tail 10, (by kernel_rfl)
    change wpList _ _ _ _ _ W0.drew
    have hkd : Kept [] W0 W0.drew := (Kept.refl [] W0).drew
    have HR5 := Lib.hid (HR.out.stay hkd)
    have HK5 := Lib.hid HK0.out.drew
    clear hkd c0 c1 c2 c3 c3d s0 s1 s2 q0d q1d q2d hbl hrl HR HK0
    generalize W0.drew = W5 at *
    obtain ⟨r0, r1, r2, r3⟩ := HR5.out.four
    have f0 := HR5.out.frozen 0
    have f1 := HR5.out.frozen 1
    have f2 := HR5.out.frozen 2
    have f3 := HR5.out.frozen 3
    have hrl := HR5.out.lt
    go_wp2
    (try simp only [Exit.inBlock, Exit.then])
    refine bodyPost_ret (v := .tuple #[.agg #[.slice ax p.ns.length cx, .int .i64 p.c, .slice ay p.ks.length cy, .slice (some ⟨g, off, none⟩) m cap3], .bool true]) ?_ rfl ?_
    · rw [results_cell_tmp rfl]
      simp [asAddr, ret_desk (HR5.out.set4 _ _ _ _)]
    · have hk9 := HK5.out.set4 (g := w.heap.size + 1) (by omega) (.slice ax p.ns.length cx) (.int .i64 p.c) (.slice ay p.ks.length cy) (.slice (some ⟨g, off, none⟩) m cap3)
      rw [HBI.out.1, HBI.out.2]
      refine ⟨_, rfl, ?_, hk9⟩
      have hps := (HPS.out.cut m HPK.out.2.2).stay hk9
      rw [HPK.out.2.1] at hps
      have hX := HX.out.stay hk9
      have hY := HY.out.stay hk9
      have e := HPK.out.1
      exact ⟨_, _, _, by rw [← e], by rw [← e]; exact hX, by rw [← e]; exact hY, hps, HPT.out.stay hk9⟩
  · have hn0 : n = 0 := by omega
    have HBI : Hid (beforeI d = d ∧ beforeB d = false) := Lib.hid (by unfold beforeI beforeB; rw [← hn]; exact ⟨if_neg hpos, decide_eq_false hpos⟩)
    obtain ⟨z, hz⟩ : ∃ z : Int, z = -1 := ⟨_, rfl⟩
    have e1 : wrap64 ((n : Int) - 1) = z := by unfold wrap64; omega
    have e1' : IntKind.i64.wrap ((n : Int) - 1) = z := by rw [IntKind.wrap_i64]; omega
    have d0 : decide (z < 0) = true := dec_of (by omega)
    clear hz
    have f0 := HR.out.frozen 0
    have f1 := HR.out.frozen 1
    have f2 := HR.out.frozen 2
    have f3 := HR.out.frozen 3
    obtain ⟨r0, r1, r2, r3⟩ := HR.out.four
    obtain ⟨hk9, _, hr9⟩ := two_new w 32 32 #[.slice a d.now.ns.length cap, .int .i64 d.now.c, .slice b d.now.ks.length cap2, .slice a3 n cap3] #[.slice a d.now.ns.length cap, .int .i64 d.now.c, .slice b d.now.ks.length cap2, .slice a3 n cap3]
    have HK9 := Lib.hid hk9
    have HR9 := Lib.hid hr9
    clear h1 h2 h4 hk0 hb0 hr0 hp3 hn hn0 hz3 hpos c0 c1 c2 r0 r1 r2 r3 f0 f1 f2 f3 hbl hrl hk9 hr9 c3 HR HK0
    go_enter Try.func93, Try.ntmps93
    go_wp2
    (try simp only [Exit.inBlock, Exit.then])
    refine bodyPost_ret (v := .tuple #[.agg #[.slice a d.now.ns.length cap, .int .i64 d.now.c, .slice b d.now.ks.length cap2, .slice a3 n cap3], .bool false]) ?_ rfl ?_
    · rw [results_cell_tmp rfl]
      simp [asAddr, ret_desk HR9.out]
    · rw [HBI.out.1, HBI.out.2]
      exact ⟨_, rfl, HD.out.stay HK9.out, HK9.out⟩
end Go.Proofs.Ytofgfhfdmkcmcaa
