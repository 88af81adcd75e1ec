/-
  Walks: desks drawn.
-/
import Derived.Test.YtofgfhfdmkcmcaaD34
import Derived.Test.YtofgfhfdmkcmcaaPO2
import Derived.Test.YtofgfhfdmkcmcaaPK3
namespace Go.Proofs.Ytofgfhfdmkcmcaa
open Go.RowKit

theorem opAt_lst5 {l : List Oper} {i : Nat} {o : Oper} (h : l[i]? = some o) : l.toArray[i]? = some o := by simpa using h
/-- Numbers that lie in a block do not lie in the reader's. -/
theorem Sl.notR {w : World} {base B R P : Nat} {v : Value} {xs : List Int} (h : Sl w base v xs) (hx : 0 < xs.length) (hr : Rd w B R P) : ∀ g, v.ownBlock = some g → ¬ g ∈ [R] := by
  intro g hg hm
  have e : g = R := by simpa using hm
  subst e
  obtain ⟨_, a, n, c, p, ty, hh, _⟩ := hr
  rcases h.2 with ⟨rfl, h0⟩ | ⟨g1, cap, cur, rfl, _, h3, _, _, _, ht⟩
  · simp [Value.ownBlock] at hg
  · simp [Value.ownBlock] at hg
    subst hg
    rw [hh] at h3
    have e1 := (Obj.cells.inj (Option.some.inj h3)).1
    rw [← e1] at ht
    have h0 : (ints xs)[0]? = some (.int .i64 (xs.getD 0 0)) := ints_get xs 0 hx
    rw [← ht] at h0
    rw [List.getElem?_take] at h0
    rw [if_pos (by omega)] at h0
    simp at h0
theorem Rd.off3 {w : World} {B R P g off : Nat} (hr : Rd w B R P) {x y : Value} (_ : w.cell? ⟨g, off, none⟩ = some x) (h2 : w.cell? ⟨g, off + 2, none⟩ = some y) : g ≠ R := by
  intro e
  subst e
  obtain ⟨_, a, n, c, p, ty, hh, _⟩ := hr
  simp [World.cell?, hh] at h2
/-- A drawn desk: none; or one that is one, with a row of before of its own. -/
def Dh (w : World) (base : Nat) (y : Value) (d : Nt.Di) : Prop := (d = Nt.Di.zero ∧ y = .agg #[.slice none 0 0, .int .i64 0, .slice none 0 0, .slice none 0 0]) ∨ (Nt.dkB d = true ∧ De w y d ∧ Pw w base y d.past)
theorem Dh.de {w : World} {base : Nat} {y : Value} {d : Nt.Di} (h : Dh w base y d) : De w y d := by
  rcases h with ⟨rfl, rfl⟩ | ⟨_, h, _⟩
  · exact De.zero w
  · exact h
theorem Dh.pw {w : World} {base : Nat} {y : Value} {d : Nt.Di} (h : Dh w base y d) : Pw w base y d.past := by
  rcases h with ⟨rfl, rfl⟩ | ⟨_, _, h⟩
  · exact ⟨_, _, _, _, rfl, [], Tg.nil _ _ _, rfl, fun k hk => absurd hk (Nat.not_lt_zero _)⟩
  · exact h
theorem Dh.small {w : World} {base : Nat} {y : Value} {d : Nt.Di} (h : Dh w base y d) : d.now.ns.length ≤ 100 := by
  rcases h with ⟨rfl, rfl⟩ | ⟨h, _⟩
  · exact Nat.zero_le _
  · exact (pl_len (dk_parts h).1).1.2
theorem Pw.alien {w w' : World} {base : Nat} {y : Value} {ps : List Nt.Pi} {rows : List Nat} (h : Pw w base y ps) (hk : Kept rows w w') (ha : Alien w rows) : Pw w' base y ps := by
  obtain ⟨v, c, u, r, e, h⟩ := h
  exact ⟨v, c, u, r, e, h.alien hk ha⟩
theorem Dh.alien {w w' : World} {base : Nat} {y : Value} {d : Nt.Di} {rows : List Nat} (h : Dh w base y d) (hk : Kept rows w w') (ha : Alien w rows) : Dh w' base y d := by
  rcases h with ⟨rfl, rfl⟩ | ⟨h1, h2, h3⟩
  · exact .inl ⟨rfl, rfl⟩
  · exact .inr ⟨h1, h2.alien hk ha, h3.alien hk ha⟩
theorem Alien.nil (w : World) : Alien w [] := fun g hg => by cases hg
theorem Dh.stay {w w' : World} {base : Nat} {y : Value} {d : Nt.Di} (h : Dh w base y d) (hk : Kept [] w w') : Dh w' base y d := h.alien hk (Alien.nil w)
theorem Pw.stay {w w' : World} {base : Nat} {y : Value} {ps : List Nt.Pi} (h : Pw w base y ps) (hk : Kept [] w w') : Pw w' base y ps := h.alien hk (Alien.nil w)
theorem Pw.mono {w : World} {base base' : Nat} {y : Value} {ps : List Nt.Pi} (h : Pw w base y ps) (hb : base' ≤ base) : Pw w base' y ps := by
  obtain ⟨v, c, u, r, e, h⟩ := h
  exact ⟨v, c, u, r, e, h.mono hb⟩
/-- The reader moves on: a desk stays. -/
theorem Dh.rd {w w' : World} {base B R P : Nat} {y : Value} {d : Nt.Di} (h : Dh w base y d) (hr : Rd w B R P) (hb : R < base) (hk : Kept [R] w w') : Dh w' base y d := by
  rcases h with ⟨rfl, rfl⟩ | ⟨h1, h2, h3⟩
  · exact .inl ⟨rfl, rfl⟩
  · obtain ⟨hp1, hp2, _⟩ := dk_parts h1
    have hl := pl_len hp1
    refine .inr ⟨h1, ?_, ?_⟩
    · obtain ⟨v, u, r, rfl, hv, hu, hps, hpt⟩ := h2
      refine ⟨v, u, r, rfl, hv.kept hk (hv.notR hl.1.1 hr), hu.kept hk (hu.notR hl.2.1 hr), ?_, ?_⟩
      · obtain ⟨a, cap, rfl, hz, h4, h5, h6⟩ := hps
        refine ⟨a, cap, rfl, hz, h4, h5, fun k hkl => ?_⟩
        obtain ⟨g, off, rfl, hbg, hg, x, yy, c0, c1, c2, hx, hy⟩ := h6 k hkl
        have hgr : ¬ g ∈ [R] := fun hm => Rd.off3 hr c0 c2 (by simpa using hm)
        have hlk := pl_len (hp2 k hkl)
        exact ⟨g, off, rfl, hbg, Nat.lt_of_lt_of_le hg hk.size, x, yy, (hk.cell (p := ⟨g, off + k * 3, none⟩) hg hgr).trans c0, (hk.cell (p := ⟨g, off + k * 3 + 1, none⟩) hg hgr).trans c1, (hk.cell (p := ⟨g, off + k * 3 + 2, none⟩) hg hgr).trans c2, hx.kept hk (hx.notR hlk.1.1 hr), hy.kept hk (hy.notR hlk.2.1 hr)⟩
      · intro a n cap e hn
        obtain ⟨cur, hc⟩ := hpt a n cap e hn
        refine ⟨cur, (hk.block a.block (Array.getElem?_eq_some_iff.1 hc).1 (fun hm => ?_)).trans hc⟩
        obtain ⟨a2, cap2, e2, _, _, _, h6⟩ := hps
        rw [e2] at e
        simp only [Value.slice.injEq] at e
        obtain ⟨g, off, e3, _, _, x, yy, c0, c1, c2, _⟩ := h6 0 (by omega)
        rw [e.1] at e3
        simp only [Option.some.injEq] at e3
        subst e3
        exact Rd.off3 hr c0 c2 (by simpa using hm)
    · obtain ⟨v, c, u, r, e, vs, ht, hvl, hvp⟩ := h3
      refine ⟨v, c, u, r, e, vs, ht.kept hk (fun g hg hm => by have := (ht.block hg).1; simp at hm; omega), hvl, fun k hkl => ?_⟩
      obtain ⟨x, yy, e2, hx, hy⟩ := hvp k hkl
      have hlk := pl_len (hp2 k hkl)
      exact ⟨x, yy, e2, hx.kept hk (hx.notR hlk.1.1 hr), hy.kept hk (hy.notR hlk.2.1 hr)⟩
theorem ddo_more {d : Nt.Di} {x : Nt.Dd} (h : Nt.ddoB d x = true) : Nt.dkB (Nt.ddo d x) = true ∧ (Nt.ddo d x).past.length ≤ d.past.length + 1 := by
  have hd : Nt.dkB d = true := by
    unfold Nt.ddoB at h
    rw [Bool.and_eq_true] at h
    exact h.1
  obtain ⟨e, rfl, he⟩ := Nt.dkB_ok hd
  obtain ⟨g1, g2⟩ := Nt.ddo_ok he x
  rw [g1]
  refine ⟨Nt.dkB_yes (Nt.goD_ok he x), ?_⟩
  rw [g2] at h
  show ((Nt.goD e x).past.map Nt.Pl.i).length ≤ (e.past.map Nt.Pl.i).length + 1
  rw [List.length_map, List.length_map]
  unfold Nt.goD
  cases hy : Nt.doD e x with
  | none => rw [hy] at h; simp at h
  | some y =>
    show y.past.length ≤ e.past.length + 1
    unfold Nt.doD at hy
    by_cases k4 : x.kind = 4 ∧ x.a = 0 ∧ x.b = 0
    · rw [if_pos k4] at hy
      cases hl : e.past.getLast? with
      | none => rw [hl] at hy; simp at hy
      | some p =>
        rw [hl] at hy
        simp at hy
        rw [← hy]
        simp
        omega
    · rw [if_neg k4] at hy
      cases hm : Nt.made e.now x with
      | none => rw [hm] at hy; simp at hy
      | some p =>
        rw [hm] at hy
        simp at hy
        rw [← hy]
        show (if e.past.length < 8 then e.past ++ [e.now] else (e.past ++ [e.now]).tail).length ≤ e.past.length + 1
        split <;> simp
theorem Pw.row {w : World} {base : Nat} {v c u r : Value} {ps : List Nt.Pi} (h : Pw w base (.agg #[v, c, u, r]) ps) : Pm w base r ps := by
  obtain ⟨v', c', u', r', e, h⟩ := h
  simp only [Value.agg.injEq, Array.mk.injEq, List.cons.injEq] at e
  rw [e.2.2.2.1]
  exact h
theorem Pm.notDesk {w : World} {base g : Nat} {r : Value} {ps : List Nt.Pi} {cs : Array Value} (h : Pm w base r ps) (hb : Bk w g 32 cs) : ¬ g ∈ r.ownBlock.toList := by
  intro hm
  have hg : r.ownBlock = some g := by simpa using hm
  obtain ⟨vs, ht, _⟩ := h
  rcases ht.2 with ⟨rfl, _⟩ | ⟨g1, c1, cur1, rfl, _, h3, _⟩
  · simp [Value.ownBlock] at hg
  · simp [Value.ownBlock] at hg
    subst hg
    unfold Bk at hb
    rw [hb] at h3
    exact absurd (Obj.cells.inj (Option.some.inj h3)).2.1 (by decide)
theorem Sl.notRow {w : World} {b1 base : Nat} {u r : Value} {xs : List Int} {ps : List Nt.Pi} (h : Sl w b1 u xs) (hp : Pm w base r ps) : ∀ g, u.ownBlock = some g → ¬ g ∈ r.ownBlock.toList := by
  obtain ⟨vs, ht, _⟩ := hp
  exact sl_tg h ht
/-- A row of places of its own, whose places hold numbers or nil. -/
def Pm0 (w : World) (base : Nat) (v : Value) (ps : List Nt.Pi) : Prop :=
  ∃ vs : List (Value × Value × Value), Tg 25 w base v vs ∧ vs.length = ps.length ∧
    ∀ k, k < ps.length → ∃ x y, at3 vs k = (x, .int .i64 (piAt ps k).c, y) ∧ Sl w 0 x (piAt ps k).ns ∧ Sl w 0 y (piAt ps k).ks ∧ (x = .slice none 0 0 ∨ 0 < (piAt ps k).ns.length) ∧ (y = .slice none 0 0 ∨ 0 < (piAt ps k).ks.length)
theorem Pm0.pm {w : World} {base : Nat} {v : Value} {ps : List Nt.Pi} (h : Pm0 w base v ps) : Pm w base v ps := by
  obtain ⟨vs, h1, h2, h3⟩ := h
  refine ⟨vs, h1, h2, fun k hk => ?_⟩
  obtain ⟨x, y, e, hx, hy, _⟩ := h3 k hk
  exact ⟨x, y, e, hx, hy⟩
theorem Sl.rdn {w w' : World} {base B R P : Nat} {v : Value} {xs : List Int} (h : Sl w base v xs) (hn : v = .slice none 0 0 ∨ 0 < xs.length) (hr : Rd w B R P) (hk : Kept [R] w w') : Sl w' base v xs := by
  rcases hn with rfl | hn
  · exact h.kept hk (fun g hg => by simp [Value.ownBlock] at hg)
  · exact h.kept hk (h.notR hn hr)
theorem Pm0.rd {w w' : World} {base B R P : Nat} {v : Value} {ps : List Nt.Pi} (h : Pm0 w base v ps) (hr : Rd w B R P) (hb : R < base) (hk : Kept [R] w w') : Pm0 w' base v ps := by
  obtain ⟨vs, h1, h2, h3⟩ := h
  refine ⟨vs, h1.kept hk (fun g hg hm => by have := (h1.block hg).1; simp at hm; omega), h2, fun k hkl => ?_⟩
  obtain ⟨x, y, e, hx, hy, nx, ny⟩ := h3 k hkl
  exact ⟨x, y, e, hx.rdn nx hr hk, hy.rdn ny hr hk, nx, ny⟩
theorem Pm0.alien {w w' : World} {base : Nat} {v : Value} {ps : List Nt.Pi} {rows : List Nat} (h : Pm0 w base v ps) (hk : Kept rows w w') (ha : Alien w rows) : Pm0 w' base v ps := by
  obtain ⟨vs, ht, _, _⟩ := h.pm.alien hk ha
  obtain ⟨vs', h1, h2, h3⟩ := h
  have h1' : Tg 25 w' base v vs' := by
    refine h1.kept hk (fun g hg hm => ?_)
    obtain ⟨cs, T, e1, _, e2⟩ := ha g hm
    rcases h1.2 with ⟨rfl, _⟩ | ⟨g1, c1, cur1, rfl, _, h4, _⟩
    · simp [Value.ownBlock] at hg
    · simp [Value.ownBlock] at hg
      subst hg
      rw [e1] at h4
      exact e2 (Obj.cells.inj (Option.some.inj h4)).2.1
  refine ⟨vs', h1', h2, fun k hkl => ?_⟩
  obtain ⟨x, y, e, hx, hy, nx, ny⟩ := h3 k hkl
  exact ⟨x, y, e, hx.alien hk ha, hy.alien hk ha, nx, ny⟩
/-- A desk as it is drawn, spoilt or not: it stays when the reader moves on. -/
def Dq (w : World) (base : Nat) (y : Value) (d : Nt.Di) : Prop :=
  ∃ v u r, y = .agg #[v, .int .i64 d.now.c, u, r] ∧ Sl w 0 v d.now.ns ∧ Sl w 0 u d.now.ks ∧ (v = .slice none 0 0 ∨ 0 < d.now.ns.length) ∧ (u = .slice none 0 0 ∨ 0 < d.now.ks.length) ∧ Pm0 w base r d.past
theorem Dq.de {w : World} {base : Nat} {y : Value} {d : Nt.Di} (h : Dq w base y d) : De w y d := by
  obtain ⟨v, u, r, rfl, hv, hu, _, _, hp⟩ := h
  obtain ⟨vs, ht, _⟩ := id hp
  exact ⟨v, u, r, rfl, hv, hu, hp.pm.ps, ht.pt⟩
theorem Dq.rd {w w' : World} {base B R P : Nat} {y : Value} {d : Nt.Di} (h : Dq w base y d) (hr : Rd w B R P) (hb : R < base) (hk : Kept [R] w w') : Dq w' base y d := by
  obtain ⟨v, u, r, rfl, hv, hu, nv, nu, hp⟩ := h
  exact ⟨v, u, r, rfl, hv.rdn nv hr hk, hu.rdn nu hr hk, nv, nu, hp.rd hr hb hk⟩
theorem Dq.alien {w w' : World} {base : Nat} {y : Value} {d : Nt.Di} {rows : List Nat} (h : Dq w base y d) (hk : Kept rows w w') (ha : Alien w rows) : Dq w' base y d := by
  obtain ⟨v, u, r, rfl, hv, hu, nv, nu, hp⟩ := h
  exact ⟨v, u, r, rfl, hv.alien hk ha, hu.alien hk ha, nv, nu, hp.alien hk ha⟩
theorem Dq.stay {w w' : World} {base : Nat} {y : Value} {d : Nt.Di} (h : Dq w base y d) (hk : Kept [] w w') : Dq w' base y d := h.alien hk (Alien.nil w)
theorem Dq.zero (w : World) (base : Nat) : Dq w base (.agg #[.slice none 0 0, .int .i64 0, .slice none 0 0, .slice none 0 0]) Nt.Di.zero := ⟨_, _, _, rfl, Sl.nil _ _, Sl.nil _ _, .inl rfl, .inl rfl, [], Tg.nil _ _ _, rfl, fun _ hk => absurd hk (Nat.not_lt_zero _)⟩
theorem Dh.dq {w : World} {base : Nat} {y : Value} {d : Nt.Di} (h : Dh w base y d) : Dq w base y d := by
  rcases h with ⟨rfl, rfl⟩ | ⟨h1, h2, h3⟩
  · exact Dq.zero w base
  · obtain ⟨hp1, hp2, _⟩ := dk_parts h1
    have hl := pl_len hp1
    obtain ⟨v, u, r, rfl, hv, hu, _, _⟩ := h2
    obtain ⟨vs, ht, hvl, hvp⟩ := h3.row
    refine ⟨v, u, r, rfl, hv, hu, .inr hl.1.1, .inr hl.2.1, vs, ht, hvl, fun k hk => ?_⟩
    obtain ⟨x, y, e, hx, hy⟩ := hvp k hk
    have hlk := pl_len (hp2 k hk)
    exact ⟨x, y, e, hx, hy, .inr hlk.1.1, .inr hlk.2.1⟩
/-- A desk is drawn. -/
def DrawsDe (w : World) (B R P : Nat) (e : Ending) (w' : World) : Prop :=
  ∃ y, ∃ d : Nt.Di, e = .returned y ∧ Dq w' (w.heap.size + 1) y d ∧ d.now.ns.length ≤ 100 ∧ Rd w' B R (P + 200) ∧ Kept [R] w w'

set_option maxHeartbeats 8000000 in
set_option maxRecDepth 100000 in
theorem desk_any (B R P : Nat) (hP : P ≤ 70000) (m : Int) (hm : m ≤ 1000) (hm0 : 0 ≤ m) (w : World) (hr : Rd w B R P) :
    Calls Try.prog 52 #[.pointer (some ⟨R, 0, none⟩), .int .i64 m] w (DrawsDe w B R P) := by
  have hlt := hr.lt
  have hBR := hr.1
  have hka : Kept [] w (w.alloc (.cells #[.slice none 0 0, .int .i64 0, .slice none 0 0, .slice none 0 0] 32)) := (Kept.refl _ _).alloc _
  have HO0 := Lib.hid (Bk.new w 32 #[.slice none 0 0, .int .i64 0, .slice none 0 0, .slice none 0 0])
  have HR0 := Lib.hid (hr.kept hka (by simp))
  have HK0 := Lib.hid (Kept.weak [R] hka)
  have HZ0 : Hid (w.heap.size + 1 ≤ (w.alloc (.cells #[.slice none 0 0, .int .i64 0, .slice none 0 0, .slice none 0 0] 32)).heap.size) := Lib.hid (by simp)
  clear hr hka
  go_enter Try.func52, Try.ntmps52
  go_wp2_with fail
  generalize w.alloc (.cells #[.slice none 0 0, .int .i64 0, .slice none 0 0, .slice none 0 0] 32) = W0 at *
  refine (place_any B R P (by omega) 0 (by omega) (by omega) _ HR0.out).mono ?_
  rintro e w1 ⟨y0, p, rfl, hpv, hp6, hr1, hk1⟩
  have HPV := Lib.hid hpv
  have HP6 := Lib.hid hp6
  have HR1 := Lib.hid hr1
  have HO1 := Lib.hid (HO0.out.kept hk1 (by simp; omega))
  have HZ1 : Hid (W0.heap.size ≤ w1.heap.size) := Lib.hid hk1.size
  have HK1 := Lib.hid (HK0.out.trans hk1 (by simp))
  clear hpv hp6 hr1 hk1 HR0 HO0 HK0
  go_wp2_with fail
  refine (sDeskNewZ_any p _ _ _ HPV.out).mono ?_
  rintro e w2 ⟨ya, yn, yq, yb, ym, yr, rfl, hpast, hzz, hs1, hs2, hk2⟩
  have hdh : Dh w2 (w.heap.size + 1) (.agg #[.slice ya yn yq, .int .i64 (Nt.dnew p).now.c, .slice yb ym yr, .slice none 0 0]) (Nt.dnew p) := by
    cases hok : Nt.plB p
    · obtain ⟨rfl, rfl, rfl, rfl, rfl, rfl⟩ := hzz hok
      have e0 : Nt.dnew p = Nt.Di.zero := by unfold Nt.dnew; rw [if_neg (by simp [hok])]
      rw [e0]
      exact .inl ⟨rfl, rfl⟩
    · refine .inr ⟨?_, ⟨_, _, _, rfl, hs1.mono (Nat.zero_le _), hs2.mono (Nat.zero_le _), by rw [hpast]; exact Ps.nil _ _, fun a n cap e _ => by simp at e⟩, ⟨_, _, _, _, rfl, by rw [hpast]; exact ⟨[], Tg.nil _ _ _, rfl, fun k hk => absurd hk (Nat.not_lt_zero _)⟩⟩⟩
      obtain ⟨q, rfl, hq⟩ := Nt.plB_ok hok
      have e0 : Nt.dnew q.i = ⟨q.i, []⟩ := by unfold Nt.dnew; rw [if_pos hok]
      rw [e0]
      exact Nt.dkB_yes (e := ⟨q, []⟩) ⟨hq, by simp, by simp⟩
  obtain ⟨y3, yl, ys, h3⟩ : ∃ a n c, (.slice none 0 0 : Value) = .slice a n c := ⟨_, _, _, rfl⟩
  rw [h3] at hdh ⊢
  clear h3
  obtain ⟨d, hd⟩ : ∃ d, d = Nt.dnew p := ⟨_, rfl⟩
  rw [← hd] at hdh hpast ⊢
  have hpl0 : d.past.length = 0 := by rw [hpast]; rfl
  have HDH := Lib.hid hdh
  have HPL0 := Lib.hid hpl0
  have HR2 := Lib.hid (HR1.out.kept hk2 (by simp))
  have HO2 := Lib.hid (HO1.out.stay hk2)
  have HK2 := Lib.hid (HK1.out.trans hk2 (by simp))
  have HZ2 : Hid (w1.heap.size ≤ w2.heap.size) := Lib.hid hk2.size
  clear hk2 hs1 hs2 hpast hdh hpl0 hzz hd HR1 HO1 HK1 HPV HP6
  have hka : Kept [] w2 (w2.alloc (.cells #[.slice ya yn yq, .int .i64 d.now.c, .slice yb ym yr, .slice y3 yl ys] 32)) := (Kept.refl _ _).alloc _
  have HB3 := Lib.hid (Bk.new w2 32 #[.slice ya yn yq, .int .i64 d.now.c, .slice yb ym yr, .slice y3 yl ys])
  have HD3 := Lib.hid (HDH.out.stay hka)
  have HR3 := Lib.hid (HR2.out.kept hka (by simp))
  have HO3 := Lib.hid (HO2.out.stay hka)
  have HK3 := Lib.hid (HK2.out.trans hka (by simp))
  clear hka HDH HR2 HO2 HK2
  go_wp2_with fail
  generalize w2.alloc (.cells #[.slice ya yn yq, .int .i64 d.now.c, .slice yb ym yr, .slice y3 yl ys] 32) = W3 at *
  obtain ⟨b5, hb5⟩ : ∃ g, g = w2.heap.size := ⟨_, rfl⟩
  rw [← hb5] at HB3 ⊢
  have HB5 : Hid (w.heap.size + 1 ≤ b5) := Lib.hid (by have := HZ0.out; have := HZ1.out; have := HZ2.out; omega)
  clear hb5
  refine (pick_any B R _ (by omega) 5 (by omega) _ HR3.out).mono ?_
  rintro e w4 ⟨x, rfl, hx0, hx, hr4, hk4⟩
  obtain ⟨j0, rfl⟩ := Int.eq_ofNat_of_zero_le hx0
  have hj4 : j0 ≤ 4 := by omega
  have hb5R : b5 ≠ R := by have := HB5.out; omega
  have HB4 := Lib.hid (HB3.out.kept hk4 (by simp; exact hb5R))
  have HO4 := Lib.hid (HO3.out.kept hk4 (by simp; omega))
  have HD4 := Lib.hid (HD3.out.rd HR3.out (by omega) hk4)
  have HR4 := Lib.hid hr4
  have HK4 := Lib.hid (HK3.out.trans hk4 (by simp))
  clear hr4 hk4 hx hx0 HB3 HO3 HD3 HR3 HK3
  go_wp2_with fail
  go_loopw [7] (fun q wr => ∃ (j : Nat) (d : Nt.Di) (ya yb y3 : Option Addr) (yn yq ym yr yl ys : Nat), j ≤ 4 ∧ q = .int .i64 j ∧ Dh wr (w.heap.size + 1) (.agg #[.slice ya yn yq, .int .i64 d.now.c, .slice yb ym yr, .slice y3 yl ys]) d ∧ d.past.length + j ≤ 4 ∧ Bk wr b5 32 #[.slice ya yn yq, .int .i64 d.now.c, .slice yb ym yr, .slice y3 yl ys] ∧ Bk wr w.heap.size 32 #[.slice none 0 0, .int .i64 0, .slice none 0 0, .slice none 0 0] ∧ Rd wr B R (P + 61 + 10 * (4 - j)) ∧ Kept [R] w wr) (fun q _ => (intOf q).toNat)
  case atStart => exact ⟨j0, d, ya, yb, y3, yn, yq, ym, yr, yl, ys, hj4, rfl, HD4.out, by have := HPL0.out; omega, HB4.out, HO4.out, HR4.out.mono (by omega), HK4.out⟩
  case round =>
    clear HD4 HB4 HO4 HR4 HK4 HPL0
    obtain ⟨j, d, ya, yb, y3, yn, yq, ym, yr, yl, ys, hj, rfl, hdh, hpl, hbk, hbo, hrd, hkept⟩ := hrel
    have HD := Lib.hid hdh
    have HPL : Hid (d.past.length ≤ 4) := Lib.hid (by omega)
    have HPJ := Lib.hid hpl
    have HBK := Lib.hid hbk
    have HBO := Lib.hid hbo
    have HR := Lib.hid hrd
    have HK := Lib.hid hkept
    have HSM0 := Lib.hid hdh.small
    have HYN : Hid (yn = d.now.ns.length) := Lib.hid (by
      obtain ⟨v, u, r, e, hv, _⟩ := hdh.de
      obtain ⟨a, c, e2, _⟩ := hv.any
      simp only [Value.agg.injEq, Array.mk.injEq, List.cons.injEq] at e
      rw [e2] at e
      simp only [Value.slice.injEq] at e
      exact e.1.2.1)
    have HSM : Hid (yn ≤ 100) := Lib.hid (by rw [HYN.out]; exact HSM0.out)
    clear hdh hpl hbk hbo hrd hkept HYN
    by_cases hj0 : 0 < j
    · have HBASE : Hid (R < w.heap.size + 1) := Lib.hid (by omega)
      have HB0 : Hid (w.heap.size + 1 ≤ wr.heap.size) := Lib.hid HBO.out.lt
      have HBW : Hid (B ≤ wr.heap.size) := Lib.hid (by have := HB0.out; omega)
      have HSB : Hid (∀ w', Kept [R] wr w' → w'.cell? ⟨b5, 0, none⟩ = some (.slice ya yn yq) ∧ w'.cell? ⟨b5, 1, none⟩ = some (.int .i64 d.now.c) ∧ w'.cell? ⟨b5, 2, none⟩ = some (.slice yb ym yr) ∧ w'.cell? ⟨b5, 3, none⟩ = some (.slice y3 yl ys)) := Lib.hid (fun w' k' => (HBK.out.kept k' (by simp; exact hb5R)).four)
      have d0 : decide ((j : Int) > 0) = true := dec_of (by omega)
      have d0' : decide ((0 : Int) < (j : Int)) = true := dec_of (by omega)
      go_wp2_with fail
      go_cut [8, 9] from 18 to 32 (fun u8 u9 wc => ∃ (bp : Nat) (za zb z3 : Option Addr) (zn zq zm zr zl zs : Nat) (e : Nt.Di) (ok : Bool), u8 = .pointer (some ⟨bp, 0, none⟩) ∧ u9 = .bool ok ∧ Bk wc bp 32 #[.slice za zn zq, .int .i64 e.now.c, .slice zb zm zr, .slice z3 zl zs] ∧ De wc (.agg #[.slice za zn zq, .int .i64 e.now.c, .slice zb zm zr, .slice z3 zl zs]) e ∧ Pw wc (w.heap.size + 1) (.agg #[.slice za zn zq, .int .i64 e.now.c, .slice zb zm zr, .slice z3 zl zs]) e.past ∧ (ok = true → Nt.dkB e = true ∧ e.past.length ≤ d.past.length + 1) ∧ Dh wc (w.heap.size + 1) (.agg #[.slice ya yn yq, .int .i64 d.now.c, .slice yb ym yr, .slice y3 yl ys]) d ∧ wr.heap.size ≤ bp ∧ Rd wc B R (P + 61 + 10 * (4 - j) + 10) ∧ Kept [R] wr wc)
      case first =>
        have K1x : Hid (Kept [R] wr wr.drew) := Lib.hid ((Kept.refl [R] wr).drew)
        have HR1x := Lib.hid (HR.out.kept ((Kept.refl [] wr).drew) (by simp))
        have HD1x := Lib.hid (HD.out.stay ((Kept.refl [] wr).drew))
        refine wp_region_held_drew (S := (fun w' => w'.cell? ⟨b5, 0, none⟩ = some (.slice ya yn yq) ∧ w'.cell? ⟨b5, 1, none⟩ = some (.int .i64 d.now.c) ∧ w'.cell? ⟨b5, 2, none⟩ = some (.slice yb ym yr) ∧ w'.cell? ⟨b5, 3, none⟩ = some (.slice y3 yl ys))) (by kernel_rfl) (HSB.out _ K1x.out) (fun hHeld => ?_)
        generalize wr.drew = X1 at *
        refine wpAnyH_take (i := 0) (v := ?_) (opAt_lst5 rfl) (by kernel_rfl) (by kernel_rfl) (by kernel_rfl) (fun _ _ _ h => h) (Or.inl ⟨by rfl, ?_⟩) (by assumption) ?_
        rotate_left
        · intro w9 hSw
          (try dsimp only at hSw)
          go_simp
          try with_reducible rfl
        try simp only [Act.put, List.setIfInBounds_toArray, List.set_cons_zero, List.set_cons_succ]
        refine wpAnyH_take (i := 1) (v := ?_) (opAt_lst5 rfl) (by kernel_rfl) (by kernel_rfl) (by kernel_rfl) (fun _ _ _ h => h) (Or.inl ⟨by rfl, ?_⟩) (by assumption) ?_
        rotate_left
        · intro w9 hSw
          (try dsimp only at hSw)
          go_simp
          try with_reducible rfl
        try simp only [Act.put, List.setIfInBounds_toArray, List.set_cons_zero, List.set_cons_succ]
        refine wpAnyH_take (i := 2) (v := ?_) (opAt_lst5 rfl) (by kernel_rfl) (by kernel_rfl) (by kernel_rfl) (fun _ _ _ h => h) (Or.inl ⟨by rfl, ?_⟩) (by assumption) ?_
        rotate_left
        · intro w9 hSw
          (try dsimp only at hSw)
          go_simp
          try with_reducible rfl
        try simp only [Act.put, List.setIfInBounds_toArray, List.set_cons_zero, List.set_cons_succ]
        refine wpAnyH_take (i := 3) (v := ?_) (opAt_lst5 rfl) (by kernel_rfl) (by kernel_rfl) (by kernel_rfl) (fun _ _ _ h => h) (Or.inl ⟨by rfl, ?_⟩) (by assumption) ?_
        rotate_left
        · intro w9 hSw
          (try dsimp only at hSw)
          go_simp
          try with_reducible rfl
        try simp only [Act.put, List.setIfInBounds_toArray, List.set_cons_zero, List.set_cons_succ]
        refine wpAnyH_ready (rs := [4, 9]) (by kernel_rfl) (by simp) ?_
        refine (AllReadyH.cons (opAt_lst5 rfl) (fun K hK => ?_) (AllReadyH.cons (opAt_lst5 rfl) (fun K hK => ?_) AllReadyH.nil))
        · go_simp
          go_at_call 58
          refine (deed_any B R _ (by omega) _ HR1x.out ya yb yn yq ym yr d.now.c HSM.out).mono ?_
          rintro e' X2 ⟨k, a, b, rfl, hr, hk⟩
          refine hK.out _ _ (HSB.out _ (K1x.out.trans hk (by simp))) (fun hHeld => ?_)
          clear hK K
          try simp only [Act.put, List.setIfInBounds_toArray, List.set_cons_zero, List.set_cons_succ]
          have HR2x := Lib.hid hr
          have K2x := Lib.hid (K1x.out.trans hk (by simp))
          have HD2x := Lib.hid (HD1x.out.rd HR1x.out HBASE.out hk)
          clear hr hk
          refine wpAnyH_ready (rs := [5, 9]) (by kernel_rfl) (by simp) ?_
          refine (AllReadyH.cons (opAt_lst5 rfl) (fun K hK => ?_) (AllReadyH.cons (opAt_lst5 rfl) (fun K hK => ?_) AllReadyH.nil))
          · go_simp
            go_at_call 28
            refine (sDeskDoB_any d k a b _ _ HD2x.out.de).mono ?_
            rintro e' X3 ⟨y', rfl, hde, hk, _, hpw⟩
            obtain ⟨za, zn, zq, zb, zm, zr, z3, zl, zs, rfl⟩ := hde.form
            refine hK.out _ _ (HSB.out _ (K2x.out.trans hk (by simp))) (fun hHeld => ?_)
            clear hK K
            try simp only [Act.put, List.setIfInBounds_toArray, List.set_cons_zero, List.set_cons_succ]
            have hbX : w.heap.size + 1 ≤ X2.heap.size := Nat.le_trans HB0.out K2x.out.size
            have HZ := Lib.hid (And.intro hde ((hpw (by have := HPL.out; omega)).mono hbX))
            have HOKF := Lib.hid (fun h => ddo_more (d := d) (x := ⟨k, a, b⟩) h)
            have HR3x := Lib.hid (HR2x.out.kept hk (by simp))
            have K3x := Lib.hid (K2x.out.trans hk (by simp))
            have HD3x := Lib.hid (HD2x.out.stay hk)
            clear hk hde hpw hbX
            generalize Nt.ddo d ⟨k, a, b⟩ = e at *
            generalize Nt.ddoB d ⟨k, a, b⟩ = ok at *
            refine wpAnyH_take (i := 6) (v := ?_) (opAt_lst5 rfl) (by kernel_rfl) (by kernel_rfl) (by kernel_rfl) (fun _ _ _ h => h) (Or.inl ⟨by rfl, ?_⟩) (by assumption) ?_
            rotate_left
            · intro w9 hSw
              (try dsimp only at hSw)
              go_simp
              try with_reducible rfl
            try simp only [Act.put, List.setIfInBounds_toArray, List.set_cons_zero, List.set_cons_succ]
            refine wpAnyH_take (i := 7) (v := ?_) (opAt_lst5 rfl) (by kernel_rfl) (by kernel_rfl) (by kernel_rfl) (fun _ _ _ h => h) (Or.inl ⟨by rfl, ?_⟩) (by assumption) ?_
            rotate_left
            · intro w9 hSw
              (try dsimp only at hSw)
              go_simp
              try with_reducible rfl
            try simp only [Act.put, List.setIfInBounds_toArray, List.set_cons_zero, List.set_cons_succ]
            refine wpAnyH_take (i := 8) (v := ?_) (opAt_lst5 rfl) (by kernel_rfl) (by kernel_rfl) (by kernel_rfl) (fun _ _ _ h => h) (Or.inl ⟨by rfl, ?_⟩) (by assumption) ?_
            rotate_left
            · intro w9 hSw
              (try dsimp only at hSw)
              go_simp
              try with_reducible rfl
            try simp only [Act.put, List.setIfInBounds_toArray, List.set_cons_zero, List.set_cons_succ]
            refine wpAnyH_ready (rs := [9]) (by kernel_rfl) (by simp) ?_
            refine (AllReadyH.cons (opAt_lst5 rfl) (fun K hK => ?_) AllReadyH.nil)
            go_simp
            have hka : Kept [] X3 (X3.alloc (.cells #[.slice none 0 0, .int .i64 0, .slice none 0 0, .slice none 0 0] 32)) := (Kept.refl _ _).alloc _
            have HL := Lib.hid (Bk.new X3 32 #[.slice none 0 0, .int .i64 0, .slice none 0 0, .slice none 0 0])
            refine hK.out _ _ (HSB.out _ (K3x.out.trans hka (by simp))) (fun hHeld => ?_)
            clear hK K
            try simp only [Act.put, List.setIfInBounds_toArray, List.set_cons_zero, List.set_cons_succ]
            obtain ⟨gL, hgL⟩ : ∃ g, g = X3.heap.size := ⟨_, rfl⟩
            have hLR : gL ≠ R := by have := HR3x.out.lt; omega
            have hLW : wr.heap.size ≤ gL := by rw [hgL]; exact K3x.out.size
            have HR4x := Lib.hid (HR3x.out.kept hka (by simp))
            have K4x := Lib.hid (K3x.out.trans hka (by simp))
            have HD4x := Lib.hid (HD3x.out.stay hka)
            have HZ := Lib.hid (And.intro (HZ.out.1.stay hka) (HZ.out.2.stay hka))
            generalize X3.alloc (.cells #[.slice none 0 0, .int .i64 0, .slice none 0 0, .slice none 0 0] 32) = X4 at *
            rw [← hgL] at HL ⊢
            clear hgL hka
            refine wpAnyH_ready (rs := [10]) (by kernel_rfl) (by simp) ?_
            refine (AllReadyH.cons (opAt_lst5 rfl) (fun K hK => ?_) AllReadyH.nil)
            obtain ⟨l0, l1, l2, l3⟩ := HL.out.four
            have f0 := HL.out.frozen 0
            have f1 := HL.out.frozen 1
            have f2 := HL.out.frozen 2
            have f3 := HL.out.frozen 3
            have hll := HL.out.lt
            have hk4 := Kept.rows4 X4 gL (.slice za zn zq) (.int .i64 e.now.c) (.slice zb zm zr) (.slice z3 zl zs)
            go_simp
            refine hK.out _ _ (HSB.out _ (K4x.out.trans hk4 (fun q hq => .inr (by rw [List.mem_singleton] at hq; omega)))) (fun hHeld => ?_)
            clear hK K
            try simp only [Act.put, List.setIfInBounds_toArray, List.set_cons_zero, List.set_cons_succ]
            refine wpAnyH_take (i := 11) (v := ?_) (opAt_lst5 rfl) (by kernel_rfl) (by kernel_rfl) (by kernel_rfl) (fun _ _ _ h => h) (Or.inl ⟨by rfl, ?_⟩) (by assumption) ?_
            rotate_left
            · intro w9 hSw
              (try dsimp only at hSw)
              go_simp
              try with_reducible rfl
            try simp only [Act.put, List.setIfInBounds_toArray, List.set_cons_zero, List.set_cons_succ]
            refine wpAnyH_done (by kernel_rfl) ?_ _
            go_wp2_with fail
            go_meet
            have hal := Alien.one HL.out
            exact ⟨gL, za, zb, z3, zn, zq, zm, zr, zl, zs, e, ok, rfl, rfl, HL.out.set4 _ _ _ _, HZ.out.1.alien hk4 hal, HZ.out.2.alien hk4 hal, HOKF.out, HD4x.out.alien hk4 hal, hLW, HR4x.out.kept hk4 (fun x hx => by rw [List.mem_singleton] at hx; subst hx; exact ⟨Nat.le_trans HBW.out hLW, hLR⟩), (K4x.out.trans hk4 (fun q hq => .inr (by rw [List.mem_singleton] at hq; omega)))⟩
          · go_simp
            have hka : Kept [] X2 (X2.alloc (.cells #[.slice none 0 0, .int .i64 0, .slice none 0 0, .slice none 0 0] 32)) := (Kept.refl _ _).alloc _
            have HL := Lib.hid (Bk.new X2 32 #[.slice none 0 0, .int .i64 0, .slice none 0 0, .slice none 0 0])
            refine hK.out _ _ (HSB.out _ (K2x.out.trans hka (by simp))) (fun hHeld => ?_)
            clear hK K
            try simp only [Act.put, List.setIfInBounds_toArray, List.set_cons_zero, List.set_cons_succ]
            obtain ⟨gL, hgL⟩ : ∃ g, g = X2.heap.size := ⟨_, rfl⟩
            have hLR : gL ≠ R := by have := HR2x.out.lt; omega
            have hLW : wr.heap.size ≤ gL := by rw [hgL]; exact K2x.out.size
            have HR3x := Lib.hid (HR2x.out.kept hka (by simp))
            have K3x := Lib.hid (K2x.out.trans hka (by simp))
            have HD3x := Lib.hid (HD2x.out.stay hka)
            generalize X2.alloc (.cells #[.slice none 0 0, .int .i64 0, .slice none 0 0, .slice none 0 0] 32) = X3 at *
            rw [← hgL] at HL ⊢
            clear hgL hka
            refine wpAnyH_ready (rs := [5]) (by kernel_rfl) (by simp) ?_
            refine (AllReadyH.cons (opAt_lst5 rfl) (fun K hK => ?_) AllReadyH.nil)
            go_simp
            go_at_call 28
            refine (sDeskDoB_any d k a b _ _ HD3x.out.de).mono ?_
            rintro e' X4 ⟨y', rfl, hde, hk, _, hpw⟩
            obtain ⟨za, zn, zq, zb, zm, zr, z3, zl, zs, rfl⟩ := hde.form
            refine hK.out _ _ (HSB.out _ (K3x.out.trans hk (by simp))) (fun hHeld => ?_)
            clear hK K
            try simp only [Act.put, List.setIfInBounds_toArray, List.set_cons_zero, List.set_cons_succ]
            have hbX : w.heap.size + 1 ≤ X3.heap.size := Nat.le_trans HB0.out K3x.out.size
            have HZ := Lib.hid (And.intro hde ((hpw (by have := HPL.out; omega)).mono hbX))
            have HOKF := Lib.hid (fun h => ddo_more (d := d) (x := ⟨k, a, b⟩) h)
            have HR4x := Lib.hid (HR3x.out.kept hk (by simp))
            have K4x := Lib.hid (K3x.out.trans hk (by simp))
            have HD4x := Lib.hid (HD3x.out.stay hk)
            have HL := Lib.hid (HL.out.stay hk)
            clear hk hde hpw hbX
            generalize Nt.ddo d ⟨k, a, b⟩ = e at *
            generalize Nt.ddoB d ⟨k, a, b⟩ = ok at *
            refine wpAnyH_take (i := 6) (v := ?_) (opAt_lst5 rfl) (by kernel_rfl) (by kernel_rfl) (by kernel_rfl) (fun _ _ _ h => h) (Or.inl ⟨by rfl, ?_⟩) (by assumption) ?_
            rotate_left
            · intro w9 hSw
              (try dsimp only at hSw)
              go_simp
              try with_reducible rfl
            try simp only [Act.put, List.setIfInBounds_toArray, List.set_cons_zero, List.set_cons_succ]
            refine wpAnyH_take (i := 7) (v := ?_) (opAt_lst5 rfl) (by kernel_rfl) (by kernel_rfl) (by kernel_rfl) (fun _ _ _ h => h) (Or.inl ⟨by rfl, ?_⟩) (by assumption) ?_
            rotate_left
            · intro w9 hSw
              (try dsimp only at hSw)
              go_simp
              try with_reducible rfl
            try simp only [Act.put, List.setIfInBounds_toArray, List.set_cons_zero, List.set_cons_succ]
            refine wpAnyH_take (i := 8) (v := ?_) (opAt_lst5 rfl) (by kernel_rfl) (by kernel_rfl) (by kernel_rfl) (fun _ _ _ h => h) (Or.inl ⟨by rfl, ?_⟩) (by assumption) ?_
            rotate_left
            · intro w9 hSw
              (try dsimp only at hSw)
              go_simp
              try with_reducible rfl
            try simp only [Act.put, List.setIfInBounds_toArray, List.set_cons_zero, List.set_cons_succ]
            refine wpAnyH_ready (rs := [10]) (by kernel_rfl) (by simp) ?_
            refine (AllReadyH.cons (opAt_lst5 rfl) (fun K hK => ?_) AllReadyH.nil)
            obtain ⟨l0, l1, l2, l3⟩ := HL.out.four
            have f0 := HL.out.frozen 0
            have f1 := HL.out.frozen 1
            have f2 := HL.out.frozen 2
            have f3 := HL.out.frozen 3
            have hll := HL.out.lt
            have hk4 := Kept.rows4 X4 gL (.slice za zn zq) (.int .i64 e.now.c) (.slice zb zm zr) (.slice z3 zl zs)
            go_simp
            refine hK.out _ _ (HSB.out _ (K4x.out.trans hk4 (fun q hq => .inr (by rw [List.mem_singleton] at hq; omega)))) (fun hHeld => ?_)
            clear hK K
            try simp only [Act.put, List.setIfInBounds_toArray, List.set_cons_zero, List.set_cons_succ]
            refine wpAnyH_take (i := 11) (v := ?_) (opAt_lst5 rfl) (by kernel_rfl) (by kernel_rfl) (by kernel_rfl) (fun _ _ _ h => h) (Or.inl ⟨by rfl, ?_⟩) (by assumption) ?_
            rotate_left
            · intro w9 hSw
              (try dsimp only at hSw)
              go_simp
              try with_reducible rfl
            try simp only [Act.put, List.setIfInBounds_toArray, List.set_cons_zero, List.set_cons_succ]
            refine wpAnyH_done (by kernel_rfl) ?_ _
            go_wp2_with fail
            go_meet
            have hal := Alien.one HL.out
            exact ⟨gL, za, zb, z3, zn, zq, zm, zr, zl, zs, e, ok, rfl, rfl, HL.out.set4 _ _ _ _, HZ.out.1.alien hk4 hal, HZ.out.2.alien hk4 hal, HOKF.out, HD4x.out.alien hk4 hal, hLW, HR4x.out.kept hk4 (fun x hx => by rw [List.mem_singleton] at hx; subst hx; exact ⟨Nat.le_trans HBW.out hLW, hLR⟩), (K4x.out.trans hk4 (fun q hq => .inr (by rw [List.mem_singleton] at hq; omega)))⟩
        · go_simp
          have hka : Kept [] X1 (X1.alloc (.cells #[.slice none 0 0, .int .i64 0, .slice none 0 0, .slice none 0 0] 32)) := (Kept.refl _ _).alloc _
          have HL := Lib.hid (Bk.new X1 32 #[.slice none 0 0, .int .i64 0, .slice none 0 0, .slice none 0 0])
          refine hK.out _ _ (HSB.out _ (K1x.out.trans hka (by simp))) (fun hHeld => ?_)
          clear hK K
          try simp only [Act.put, List.setIfInBounds_toArray, List.set_cons_zero, List.set_cons_succ]
          obtain ⟨gL, hgL⟩ : ∃ g, g = X1.heap.size := ⟨_, rfl⟩
          have hLR : gL ≠ R := by have := HR1x.out.lt; omega
          have hLW : wr.heap.size ≤ gL := by rw [hgL]; exact K1x.out.size
          have HR2x := Lib.hid (HR1x.out.kept hka (by simp))
          have K2x := Lib.hid (K1x.out.trans hka (by simp))
          have HD2x := Lib.hid (HD1x.out.stay hka)
          generalize X1.alloc (.cells #[.slice none 0 0, .int .i64 0, .slice none 0 0, .slice none 0 0] 32) = X2 at *
          rw [← hgL] at HL ⊢
          clear hgL hka
          refine wpAnyH_ready (rs := [4]) (by kernel_rfl) (by simp) ?_
          refine (AllReadyH.cons (opAt_lst5 rfl) (fun K hK => ?_) AllReadyH.nil)
          go_simp
          go_at_call 58
          refine (deed_any B R _ (by omega) _ HR2x.out ya yb yn yq ym yr d.now.c HSM.out).mono ?_
          rintro e' X3 ⟨k, a, b, rfl, hr, hk⟩
          refine hK.out _ _ (HSB.out _ (K2x.out.trans hk (by simp))) (fun hHeld => ?_)
          clear hK K
          try simp only [Act.put, List.setIfInBounds_toArray, List.set_cons_zero, List.set_cons_succ]
          have HR3x := Lib.hid hr
          have K3x := Lib.hid (K2x.out.trans hk (by simp))
          have HD3x := Lib.hid (HD2x.out.rd HR2x.out HBASE.out hk)
          have HL := Lib.hid (HL.out.kept hk (by simp; exact hLR))
          clear hr hk
          refine wpAnyH_ready (rs := [5]) (by kernel_rfl) (by simp) ?_
          refine (AllReadyH.cons (opAt_lst5 rfl) (fun K hK => ?_) AllReadyH.nil)
          go_simp
          go_at_call 28
          refine (sDeskDoB_any d k a b _ _ HD3x.out.de).mono ?_
          rintro e' X4 ⟨y', rfl, hde, hk, _, hpw⟩
          obtain ⟨za, zn, zq, zb, zm, zr, z3, zl, zs, rfl⟩ := hde.form
          refine hK.out _ _ (HSB.out _ (K3x.out.trans hk (by simp))) (fun hHeld => ?_)
          clear hK K
          try simp only [Act.put, List.setIfInBounds_toArray, List.set_cons_zero, List.set_cons_succ]
          have hbX : w.heap.size + 1 ≤ X3.heap.size := Nat.le_trans HB0.out K3x.out.size
          have HZ := Lib.hid (And.intro hde ((hpw (by have := HPL.out; omega)).mono hbX))
          have HOKF := Lib.hid (fun h => ddo_more (d := d) (x := ⟨k, a, b⟩) h)
          have HR4x := Lib.hid (HR3x.out.kept hk (by simp))
          have K4x := Lib.hid (K3x.out.trans hk (by simp))
          have HD4x := Lib.hid (HD3x.out.stay hk)
          have HL := Lib.hid (HL.out.stay hk)
          clear hk hde hpw hbX
          generalize Nt.ddo d ⟨k, a, b⟩ = e at *
          generalize Nt.ddoB d ⟨k, a, b⟩ = ok at *
          refine wpAnyH_take (i := 6) (v := ?_) (opAt_lst5 rfl) (by kernel_rfl) (by kernel_rfl) (by kernel_rfl) (fun _ _ _ h => h) (Or.inl ⟨by rfl, ?_⟩) (by assumption) ?_
          rotate_left
          · intro w9 hSw
            (try dsimp only at hSw)
            go_simp
            try with_reducible rfl
          try simp only [Act.put, List.setIfInBounds_toArray, List.set_cons_zero, List.set_cons_succ]
          refine wpAnyH_take (i := 7) (v := ?_) (opAt_lst5 rfl) (by kernel_rfl) (by kernel_rfl) (by kernel_rfl) (fun _ _ _ h => h) (Or.inl ⟨by rfl, ?_⟩) (by assumption) ?_
          rotate_left
          · intro w9 hSw
            (try dsimp only at hSw)
            go_simp
            try with_reducible rfl
          try simp only [Act.put, List.setIfInBounds_toArray, List.set_cons_zero, List.set_cons_succ]
          refine wpAnyH_take (i := 8) (v := ?_) (opAt_lst5 rfl) (by kernel_rfl) (by kernel_rfl) (by kernel_rfl) (fun _ _ _ h => h) (Or.inl ⟨by rfl, ?_⟩) (by assumption) ?_
          rotate_left
          · intro w9 hSw
            (try dsimp only at hSw)
            go_simp
            try with_reducible rfl
          try simp only [Act.put, List.setIfInBounds_toArray, List.set_cons_zero, List.set_cons_succ]
          refine wpAnyH_ready (rs := [10]) (by kernel_rfl) (by simp) ?_
          refine (AllReadyH.cons (opAt_lst5 rfl) (fun K hK => ?_) AllReadyH.nil)
          obtain ⟨l0, l1, l2, l3⟩ := HL.out.four
          have f0 := HL.out.frozen 0
          have f1 := HL.out.frozen 1
          have f2 := HL.out.frozen 2
          have f3 := HL.out.frozen 3
          have hll := HL.out.lt
          have hk4 := Kept.rows4 X4 gL (.slice za zn zq) (.int .i64 e.now.c) (.slice zb zm zr) (.slice z3 zl zs)
          go_simp
          refine hK.out _ _ (HSB.out _ (K4x.out.trans hk4 (fun q hq => .inr (by rw [List.mem_singleton] at hq; omega)))) (fun hHeld => ?_)
          clear hK K
          try simp only [Act.put, List.setIfInBounds_toArray, List.set_cons_zero, List.set_cons_succ]
          refine wpAnyH_take (i := 11) (v := ?_) (opAt_lst5 rfl) (by kernel_rfl) (by kernel_rfl) (by kernel_rfl) (fun _ _ _ h => h) (Or.inl ⟨by rfl, ?_⟩) (by assumption) ?_
          rotate_left
          · intro w9 hSw
            (try dsimp only at hSw)
            go_simp
            try with_reducible rfl
          try simp only [Act.put, List.setIfInBounds_toArray, List.set_cons_zero, List.set_cons_succ]
          refine wpAnyH_done (by kernel_rfl) ?_ _
          go_wp2_with fail
          go_meet
          have hal := Alien.one HL.out
          exact ⟨gL, za, zb, z3, zn, zq, zm, zr, zl, zs, e, ok, rfl, rfl, HL.out.set4 _ _ _ _, HZ.out.1.alien hk4 hal, HZ.out.2.alien hk4 hal, HOKF.out, HD4x.out.alien hk4 hal, hLW, HR4x.out.kept hk4 (fun x hx => by rw [List.mem_singleton] at hx; subst hx; exact ⟨Nat.le_trans HBW.out hLW, hLR⟩), (K4x.out.trans hk4 (fun q hq => .inr (by rw [List.mem_singleton] at hq; omega)))⟩
      case rest =>
        obtain ⟨bp, za, zb, z3, zn, zq, zm, zr, zl, zs, e, ok, rfl, rfl, hbp, hde, hpw, hokf, hdh, hbz, hrc, hkc⟩ := hcut
        have HBP := Lib.hid hbp
        have HDE := Lib.hid (And.intro hde hpw)
        have HOKF := Lib.hid hokf
        have HDC := Lib.hid hdh
        have HRC := Lib.hid hrc
        have HKC := Lib.hid (HK.out.trans hkc (by simp))
        have hbk := HBK.out.kept hkc (by simp; exact hb5R)
        have hbo := HBO.out.kept hkc (by simp; omega)
        have HBKC := Lib.hid hbk
        have HBOC := Lib.hid hbo
        obtain ⟨c0, c1, c2, c3⟩ := hbk.four
        obtain ⟨p0, p1, p2, p3⟩ := hbp.four
        have f0 := hbk.frozen 0
        have f1 := hbk.frozen 1
        have f2 := hbk.frozen 2
        have f3 := hbk.frozen 3
        have s1 : IntKind.i64.wrap ((j : Int) - 1) = ((j - 1 : Nat) : Int) := (IntWalk.i64_in _ (by omega)).trans (by omega)
        have hb5w : b5 ≠ w.heap.size := by have := HB5.out; omega
        have hB5 : B ≤ b5 := by have := HB5.out; omega
        clear hbp hde hpw hokf hdh hrc hkc hbk hbo HD HR HK HBK HBO
        cases ok
        · go_wp2
          go_roundw
          case rel => exact ⟨j - 1, d, ya, yb, y3, yn, yq, ym, yr, yl, ys, by omega, by go_num, HDC.out, by have := HPJ.out; omega, HBKC.out, HBOC.out, HRC.out.mono (by omega), HKC.out⟩
          case measure => simp [intOf]; omega
        · have hk4 := Kept.rows4 wc b5 (.slice za zn zq) (.int .i64 e.now.c) (.slice zb zm zr) (.slice z3 zl zs)
          have HK4 := Lib.hid hk4
          have HB4 := Lib.hid (HBKC.out.set4 (.slice za zn zq) (.int .i64 e.now.c) (.slice zb zm zr) (.slice z3 zl zs))
          have HAL := Lib.hid (Alien.one HBKC.out)
          have hyes := HOKF.out rfl
          have HYES := Lib.hid hyes
          clear hk4 hyes
          go_wp2
          go_roundw
          case rel => exact ⟨j - 1, e, za, zb, z3, zn, zq, zm, zr, zl, zs, by omega, by go_num, .inr ⟨HYES.out.1, HDE.out.1.alien HK4.out HAL.out, HDE.out.2.alien HK4.out HAL.out⟩, by have := HPJ.out; have := HYES.out.2; omega, HB4.out, HBOC.out.kept HK4.out (by rw [List.mem_singleton]; exact fun h => hb5w h.symm), (HRC.out.kept HK4.out (fun x hx => by rw [List.mem_singleton] at hx; subst hx; exact ⟨hB5, hb5R⟩)).mono (by omega), HKC.out.trans HK4.out (fun x hx => .inr (by rw [List.mem_singleton] at hx; have := HB5.out; omega))⟩
          case measure => simp [intOf]; omega
    · have hj00 : j = 0 := by omega
      subst hj00
      have d0 : decide ((0 : Int) > 0) = false := rfl
      clear hj0
      go_wp2_with fail
      refine (odd_any B R _ (by omega) m (by omega) hm0 _ HR.out).mono ?_
      rintro e w5 ⟨o, rfl, hr5, hk5⟩
      have HB5' := Lib.hid (HBK.out.kept hk5 (by simp; exact hb5R))
      have HO5 := Lib.hid (HBO.out.kept hk5 (by simp; omega))
      have HD5 := Lib.hid (HD.out.rd HR.out (by omega) hk5)
      have HR5 := Lib.hid hr5
      have HK5 := Lib.hid (HK.out.trans hk5 (by simp))
      have hb5w : b5 ≠ w.heap.size := by have := HB5.out; omega
      have hB5 : B ≤ b5 := by have := HB5.out; omega
      clear hr5 hk5 HBK HBO HD HR HK HSM HPL
      cases o
      · obtain ⟨c0, c1, c2, c3⟩ := HB5'.out.four
        obtain ⟨r0, r1, r2, r3⟩ := HO5.out.four
        have f0 := HO5.out.frozen 0
        have f1 := HO5.out.frozen 1
        have f2 := HO5.out.frozen 2
        have f3 := HO5.out.frozen 3
        have hzr := HO5.out.lt
        go_wp2
        (try simp only [Exit.inBlock, Exit.then])
        refine bodyPost_ret (results_cell_row rfl _ _ w.heap.size 32 #[.slice ya yn yq, .int .i64 d.now.c, .slice yb ym yr, .slice y3 yl ys] (0, 0) _ rfl (HO5.out.set4 _ _ _ _) Try.underlying32 rfl (by kernel_rfl)) rfl ?_
        have hk4 := Kept.rows4 w5 w.heap.size (.slice ya yn yq) (.int .i64 d.now.c) (.slice yb ym yr) (.slice y3 yl ys)
        exact ⟨_, d, rfl, HD5.out.dq.alien hk4 (Alien.one HO5.out), HD5.out.small, (HR5.out.kept hk4 (fun x hx => by rw [List.mem_singleton] at hx; subst hx; omega)).mono (by omega), HK5.out.trans hk4 (fun x hx => .inr (by rw [List.mem_singleton] at hx; omega))⟩
      · go_wp2_with fail
        refine (pick_any B R _ (by omega) 3 (by omega) _ HR5.out).mono ?_
        rintro e w6 ⟨x, rfl, hx0, hx, hr6, hk6⟩
        have HB6 := Lib.hid (HB5'.out.kept hk6 (by simp; exact hb5R))
        have HO6 := Lib.hid (HO5.out.kept hk6 (by simp; omega))
        have HD6 := Lib.hid (HD5.out.rd HR5.out (by omega) hk6)
        have HR6 := Lib.hid hr6
        have HK6 := Lib.hid (HK5.out.trans hk6 (by simp))
        clear hr6 hk6 HB5' HO5 HD5 HR5 HK5
        rcases (show x = 0 ∨ x = 1 ∨ x = 2 by omega) with rfl | rfl | rfl
        · have hks : Kept [b5] w6 (w6.setCell ⟨b5, 1, none⟩ (.int .i64 2)) := (Kept.refl _ _).setCell (.inl (by simp)) _
          have HKS := Lib.hid hks
          have hb7 : Bk (w6.setCell ⟨b5, 1, none⟩ (.int .i64 2)) b5 32 #[.slice ya yn yq, .int .i64 2, .slice yb ym yr, .slice y3 yl ys] := HB6.out.set 1 _
          have HB7 := Lib.hid hb7
          have ho7 := HO6.out.kept hks (by rw [List.mem_singleton]; exact fun h => hb5w h.symm)
          have HO7 := Lib.hid ho7
          obtain ⟨c0, c1, c2, c3⟩ := HB6.out.four
          have g1 := HB6.out.frozen 1
          have hl6 := HB6.out.lt
          obtain ⟨d0, d1, d2, d3⟩ := hb7.four
          obtain ⟨r0, r1, r2, r3⟩ := ho7.four
          have f0 := ho7.frozen 0
          have f1 := ho7.frozen 1
          have f2 := ho7.frozen 2
          have f3 := ho7.frozen 3
          have hzr := ho7.lt
          clear hks hb7 ho7
          go_wp2
          (try simp only [Exit.inBlock, Exit.then])
          refine bodyPost_ret (results_cell_row rfl _ _ w.heap.size 32 #[.slice ya yn yq, .int .i64 2, .slice yb ym yr, .slice y3 yl ys] (0, 0) _ rfl (HO7.out.set4 _ _ _ _) Try.underlying32 rfl (by kernel_rfl)) rfl ?_
          have hk4 := Kept.rows4 (w6.setCell ⟨b5, 1, none⟩ (.int .i64 2)) w.heap.size (.slice ya yn yq) (.int .i64 2) (.slice yb ym yr) (.slice y3 yl ys)
          obtain ⟨v, u, r, e, hv, hu, nv, nu, hps⟩ := HD6.out.dq
          simp only [Value.agg.injEq, Array.mk.injEq, List.cons.injEq] at e
          obtain ⟨rfl, _, rfl, rfl, _⟩ := e
          have hde : Dq w6 (w.heap.size + 1) (.agg #[.slice ya yn yq, .int .i64 2, .slice yb ym yr, .slice y3 yl ys]) ⟨⟨d.now.ns, 2, d.now.ks⟩, d.past⟩ := ⟨_, _, _, rfl, hv, hu, nv, nu, hps⟩
          exact ⟨_, _, rfl, (hde.alien HKS.out (Alien.one HB6.out)).alien hk4 (Alien.one HO7.out), HD6.out.small, ((HR6.out.kept HKS.out (fun x hx => by rw [List.mem_singleton] at hx; subst hx; exact ⟨hB5, hb5R⟩)).kept hk4 (fun x hx => by rw [List.mem_singleton] at hx; subst hx; omega)).mono (by omega), (HK6.out.trans HKS.out (fun x hx => .inr (by rw [List.mem_singleton] at hx; have := HB5.out; omega))).trans hk4 (fun x hx => .inr (by rw [List.mem_singleton] at hx; omega))⟩
        · have hka : Kept [] w6 (w6.alloc (.cells #[.slice none 0 0, .int .i64 0, .slice none 0 0] 25)) := (Kept.refl _ _).alloc _
          obtain ⟨v0, u0, r0', e0, hv0, hu0, nv0, nu0, vs, ht0, hvl0, hvp0⟩ := HD6.out.dq
          simp only [Value.agg.injEq, Array.mk.injEq, List.cons.injEq] at e0
          obtain ⟨rfl, _, rfl, rfl, _⟩ := e0
          have HTG := Lib.hid ht0
          have HVL := Lib.hid hvl0
          have HVP := Lib.hid hvp0
          have HVU := Lib.hid (And.intro (hv0.stay hka) (And.intro (hu0.stay hka) (And.intro nv0 nu0)))
          have HPM := Lib.hid (HD6.out.pw.stay hka).row
          clear hv0 hu0 nv0 nu0 ht0 hvl0 hvp0
          have HB7 := Lib.hid (HB6.out.stay hka)
          have HO7 := Lib.hid (HO6.out.stay hka)
          have HD7 := Lib.hid (HD6.out.stay hka)
          have HR7 := Lib.hid (HR6.out.kept hka (by simp))
          have HK7 := Lib.hid (HK6.out.trans hka (by simp))
          have HNB := Lib.hid (Bk.new w6 25 #[.slice none 0 0, .int .i64 0, .slice none 0 0])
          have HW7 : Hid (w.heap.size + 1 ≤ (w6.alloc (.cells #[.slice none 0 0, .int .i64 0, .slice none 0 0] 25)).heap.size) := Lib.hid HO7.out.lt
          have HPLL : Hid (vs.length + [z3].length ≤ 2000000) := Lib.hid (by have := HPJ.out; have := HVL.out; simp; omega)
          have HAPP : Hid (∀ v9 w9, Tg 25 w9 (w.heap.size + 1) v9 (vs ++ [z3]) → Kept (Value.slice y3 yl ys).ownBlock.toList w6 w9 →
              ∃ a9 n9 c9, v9 = .slice a9 n9 c9 ∧ Bk w9 b5 32 #[.slice ya yn yq, .int .i64 d.now.c, .slice yb ym yr, .slice y3 yl ys] ∧ Bk w9 w.heap.size 32 #[.slice none 0 0, .int .i64 0, .slice none 0 0, .slice none 0 0] ∧ Hid (Dq w9 (w.heap.size + 1) (.agg #[.slice ya yn yq, .int .i64 d.now.c, .slice yb ym yr, .slice a9 n9 c9]) ⟨d.now, d.past ++ [Nt.Pi.zero]⟩) ∧ Hid (Rd w9 B R (P + 61 + 10 * (4 - 0) + 1 + 1)) ∧ Hid (Kept [R] w w9)) := Lib.hid (fun v9 w9 hp hk => by
            obtain ⟨a9, c9, rfl⟩ := hp.any
            have HPM6 := HD6.out.pw.row
            have hrow : ∀ g, (Value.slice y3 yl ys).ownBlock = some g → w.heap.size + 1 ≤ g := fun g hg => (HPM6.block hg).1
            obtain ⟨v, u, r, e, hv, hu, nv, nu, _⟩ := HD6.out.dq
            simp only [Value.agg.injEq, Array.mk.injEq, List.cons.injEq] at e
            obtain ⟨rfl, _, rfl, rfl, _⟩ := e
            refine ⟨_, _, _, rfl, HB6.out.kept hk (HPM6.notDesk HB6.out), HO6.out.kept hk (HPM6.notDesk HO6.out), ⟨_, _, _, rfl, hv.kept hk (hv.notRow HPM6), hu.kept hk (hu.notRow HPM6), nv, nu, vs ++ [z3], hp, by simp [HVL.out], fun k hkl => ?_⟩, HR6.out.own hk hrow (by omega) (by omega), HK6.out.trans hk (fun x hx => .inr (by have := hrow x (by simpa using hx); omega))⟩
            by_cases e : k < d.past.length
            · rw [piAt_left e, show at3 (vs ++ [z3]) k = at3 vs k from by unfold at3; rw [List.getD_eq_getElem?_getD, List.getElem?_append_left (by rw [HVL.out]; exact e), ← List.getD_eq_getElem?_getD]]
              obtain ⟨x, y, e2, hx, hy, nx, ny⟩ := HVP.out k e
              exact ⟨x, y, e2, hx.kept hk (hx.notRow HPM6), hy.kept hk (hy.notRow HPM6), nx, ny⟩
            · have ek : k = d.past.length := by simp at hkl; omega
              subst ek
              rw [piAt_snoc, show at3 (vs ++ [z3]) d.past.length = z3 from by rw [← HVL.out]; unfold at3; simp]
              exact ⟨_, _, rfl, Sl.nil _ _, Sl.nil _ _, .inl rfl, .inl rfl⟩)
          have HW6 : Hid (w.heap.size + 1 ≤ w6.heap.size) := Lib.hid HO6.out.lt
          obtain ⟨c0, c1, c2, c3⟩ := HB6.out.four
          have hl6 := HB6.out.lt
          clear hka HNB HB7 HO7 HD7 HR7 HK7
          go_wp2_with (at_builtin; refine app_tri 25 30 (.agg #[.slice none 0 0, .int .i64 0, .slice none 0 0]) 56 Try.underlying30 info_place rfl (by omega) vs [z3] (by intro u hu; simp [tri, z3] at hu; rcases hu with rfl | rfl | rfl <;> rfl) rfl _ _ rfl (w.heap.size + 1) _ HTG.out rfl 1 rfl rfl HPLL.out HW6.out ?_; intro v9 w9 hp9 hk9; obtain ⟨a9, n9, c9, rfl, hb9, ho9, HDE9, HR9, HK9⟩ := HAPP.out v9 w9 hp9 hk9; clear hp9 hk9; obtain ⟨s0, s1, s2, s3⟩ := hb9.four; have g0 := hb9.frozen 0; have g1 := hb9.frozen 1; have g2 := hb9.frozen 2; have g3 := hb9.frozen 3; have hl9 := hb9.lt; have hlo := ho9.lt; have HB9 := Lib.hid hb9; have HO9 := Lib.hid ho9; have hks : Kept [b5] w9 (w9.setCell ⟨b5, 3, none⟩ (.slice a9 n9 c9)) := (Kept.refl _ _).setCell (.inl (by simp)) _; have HKS := Lib.hid hks; have hb10 : Bk (w9.setCell ⟨b5, 3, none⟩ (.slice a9 n9 c9)) b5 32 #[.slice ya yn yq, .int .i64 d.now.c, .slice yb ym yr, .slice a9 n9 c9] := hb9.set 3 _; have ho10 := ho9.kept hks (by rw [List.mem_singleton]; exact fun h => hb5w h.symm); have HO10 := Lib.hid ho10; obtain ⟨t0, t1, t2, t3⟩ := hb10.four; obtain ⟨r0, r1, r2, r3⟩ := ho10.four; have f0 := ho10.frozen 0; have f1 := ho10.frozen 1; have f2 := ho10.frozen 2; have f3 := ho10.frozen 3; have hzr := ho10.lt; clear hb9 ho9 hks hb10 ho10)
          (try simp only [Exit.inBlock, Exit.then])
          refine bodyPost_ret (results_cell_row rfl _ _ w.heap.size 32 #[.slice ya yn yq, .int .i64 d.now.c, .slice yb ym yr, .slice a9 n9 c9] (0, 0) _ rfl (HO10.out.set4 _ _ _ _) Try.underlying32 rfl (by kernel_rfl)) rfl ?_
          have hk4 := Kept.rows4 (w9.setCell ⟨b5, 3, none⟩ (.slice a9 n9 c9)) w.heap.size (.slice ya yn yq) (.int .i64 d.now.c) (.slice yb ym yr) (.slice a9 n9 c9)
          exact ⟨_, _, rfl, (HDE9.out.alien HKS.out (Alien.one HB9.out)).alien hk4 (Alien.one HO10.out), HSM0.out, ((HR9.out.kept HKS.out (fun x hx => by rw [List.mem_singleton] at hx; subst hx; exact ⟨hB5, hb5R⟩)).kept hk4 (fun x hx => by rw [List.mem_singleton] at hx; subst hx; omega)).mono (by omega), (HK9.out.trans HKS.out (fun x hx => .inr (by rw [List.mem_singleton] at hx; have := HB5.out; omega))).trans hk4 (fun x hx => .inr (by rw [List.mem_singleton] at hx; omega))⟩
        · obtain ⟨r0, r1, r2, r3⟩ := HO6.out.four
          have f0 := HO6.out.frozen 0
          have f1 := HO6.out.frozen 1
          have f2 := HO6.out.frozen 2
          have f3 := HO6.out.frozen 3
          have hzr := HO6.out.lt
          go_wp2
          (try simp only [Exit.inBlock, Exit.then])
          refine bodyPost_ret (results_cell_row rfl _ _ w.heap.size 32 #[.slice none 0 0, .int .i64 0, .slice none 0 0, .slice none 0 0] (0, 0) _ rfl (HO6.out.set4 _ _ _ _) Try.underlying32 rfl (by kernel_rfl)) rfl ?_
          have hk4 := Kept.rows4 w6 w.heap.size (.slice none 0 0) (.int .i64 0) (.slice none 0 0) (.slice none 0 0)
          exact ⟨_, Nt.Di.zero, rfl, Dq.zero _ _, Nat.zero_le _, (HR6.out.kept hk4 (fun x hx => by rw [List.mem_singleton] at hx; subst hx; omega)).mono (by omega), HK6.out.trans hk4 (fun x hx => .inr (by rw [List.mem_singleton] at hx; omega))⟩
end Go.Proofs.Ytofgfhfdmkcmcaa
