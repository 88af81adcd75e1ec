/-
  Copies of desks, by the model.
-/
import Derived.Test.YtnajdbnacdnnlaaGreatDoorPK1
namespace Go.Proofs.YtnajdbnacdnnlaaGreatDoor
open Go.RowKit

/-- A slice of places that a call makes itself. -/
def Po (w : World) (base : Nat) (v : Value) (ps : List Nt.Pi) : Prop :=
  ∃ vs : List (Value × Value × Value), Tg 30 w base v vs ∧ vs.length = ps.length ∧
    ∀ k, k < ps.length → ∃ x y, at3 vs k = (x, .int .i64 (piAt ps k).c, y) ∧ Sl w base x (piAt ps k).ns ∧ Sl w base y (piAt ps k).ks
theorem Po.nil (w : World) (base : Nat) : Po w base (.slice none 0 0) [] := ⟨[], Tg.nil _ w base, rfl, fun k h => by simp at h⟩
theorem Po.ps {w : World} {base : Nat} {v : Value} {ps : List Nt.Pi} (h : Po w base v ps) : Ps w base v ps := by
  obtain ⟨vs, h1, h2, h3⟩ := h
  rcases h1.form with ⟨rfl, rfl⟩ | ⟨g, cap, rfl, hb, hg, hc, hm, hcell, _⟩
  · have : ps = [] := List.eq_nil_of_length_eq_zero h2.symm
    subst this
    exact Ps.nil w base
  · refine ⟨_, cap, by rw [h2], (fun e => by cases e), by omega, hm, fun k hk => ⟨g, 0, rfl, hb, hg, ?_⟩⟩
    obtain ⟨x, y, e, hx, hy⟩ := h3 k hk
    obtain ⟨c0, c1, c2⟩ := hcell k (by omega)
    rw [e] at c0 c1 c2
    rw [Nat.zero_add]
    exact ⟨x, y, c0, c1, c2, hx, hy⟩
theorem Po.stay {w w' : World} {base : Nat} {v : Value} {ps : List Nt.Pi} (h : Po w base v ps) (hk : Kept [] w w') : Po w' base v ps := by
  obtain ⟨vs, h1, h2, h3⟩ := h
  refine ⟨vs, h1.stay hk, h2, fun k hkl => ?_⟩
  obtain ⟨x, y, e, hx, hy⟩ := h3 k hkl
  exact ⟨x, y, e, hx.stay hk, hy.stay hk⟩
theorem Po.kept {w w' : World} {base : Nat} {v : Value} {ps : List Nt.Pi} {rows : List Nat} (h : Po w base v ps) (hk : Kept rows w w') (hn : ∀ g, base ≤ g → ¬ g ∈ rows) : Po w' base v ps := by
  obtain ⟨vs, h1, h2, h3⟩ := h
  refine ⟨vs, h1.kept hk (fun g hg => hn g (h1.block hg).1), h2, fun k hkl => ?_⟩
  obtain ⟨x, y, e, hx, hy⟩ := h3 k hkl
  exact ⟨x, y, e, hx.kept hk (fun g hg => hn g (hx.block hg).1), hy.kept hk (fun g hg => hn g (hy.block hg).1)⟩
theorem Po.mono {w : World} {base base' : Nat} {v : Value} {ps : List Nt.Pi} (h : Po w base v ps) (hb : base' ≤ base) : Po w base' v ps := by
  obtain ⟨vs, h1, h2, h3⟩ := h
  refine ⟨vs, h1.mono hb, h2, fun k hkl => ?_⟩
  obtain ⟨x, y, e, hx, hy⟩ := h3 k hkl
  exact ⟨x, y, e, hx.mono hb, hy.mono hb⟩
/-- No slice of numbers lies in a block of places. -/
theorem sl_tg {w : World} {b1 b2 : Nat} {u v : Value} {xs : List Int} {vs : List (Value × Value × Value)} (h : Sl w b1 u xs) (k : Tg 30 w b2 v vs) : ∀ g, u.ownBlock = some g → ¬ g ∈ v.ownBlock.toList := by
  intro g hg hm
  rcases h.2 with ⟨rfl, _⟩ | ⟨g1, c1, cur1, rfl, _, h1, _⟩
  · simp [Value.ownBlock] at hg
  · rcases k.2 with ⟨rfl, _⟩ | ⟨g2, c2, cur2, rfl, _, h2, _⟩
    · simp [Value.ownBlock] at hm
    · simp [Value.ownBlock] at hg hm
      subst hg
      subst hm
      rw [h1] at h2
      have h3 := (Obj.cells.inj (Option.some.inj h2)).2.1
      exact absurd h3 (by decide)
theorem piAt_left {ps : List Nt.Pi} {p : Nt.Pi} {k : Nat} (h : k < ps.length) : piAt (ps ++ [p]) k = piAt ps k := by
  unfold piAt; rw [List.getD_eq_getElem?_getD, List.getElem?_append_left h, ← List.getD_eq_getElem?_getD]
theorem piAt_snoc (ps : List Nt.Pi) (p : Nt.Pi) : piAt (ps ++ [p]) ps.length = p := by simp [piAt]
/-- What an append of one place leaves. -/
theorem Po.snoc {w w' : World} {base : Nat} {v v' : Value} {ps : List Nt.Pi} {vs : List (Value × Value × Value)} {p : Nt.Pi} {x y : Value} (h1 : Tg 30 w base v vs) (h2 : vs.length = ps.length)
    (h3 : ∀ k, k < ps.length → ∃ x y, at3 vs k = (x, .int .i64 (piAt ps k).c, y) ∧ Sl w base x (piAt ps k).ns ∧ Sl w base y (piAt ps k).ks)
    (hx : Sl w base x p.ns) (hy : Sl w base y p.ks) (hk : Kept v.ownBlock.toList w w') (hn : Tg 30 w' base v' (vs ++ [(x, .int .i64 p.c, y)])) : Po w' base v' (ps ++ [p]) := by
  refine ⟨_, hn, by simp [h2], fun k hkl => ?_⟩
  by_cases e : k < ps.length
  · obtain ⟨a, b, e1, ha, hb⟩ := h3 k e
    rw [at3_append_left (by omega), piAt_left e]
    exact ⟨a, b, e1, ha.kept hk (sl_tg ha h1), hb.kept hk (sl_tg hb h1)⟩
  · have : k = ps.length := by simp at hkl; omega
    subst this
    rw [piAt_snoc, ← h2, at3_snoc]
    exact ⟨x, y, rfl, hx.kept hk (sl_tg hx h1), hy.kept hk (sl_tg hy h1)⟩
/-- A desk whose places of before lie in a row of their own. -/
def DvO (w : World) (base : Nat) (x : Value) (d : Nt.Di) : Prop := ∃ v u r, x = .agg #[v, .int .i64 d.now.c, u, r] ∧ Sl w base v d.now.ns ∧ Sl w base u d.now.ks ∧ Po w base r d.past
theorem DvO.dv {w : World} {base : Nat} {x : Value} {d : Nt.Di} (h : DvO w base x d) : Dv w base x d := by
  obtain ⟨v, u, r, rfl, h1, h2, h3⟩ := h
  exact ⟨v, u, r, rfl, h1, h2, h3.ps⟩
theorem pl_len {p : Nt.Pi} (h : Nt.plB p = true) : (0 < p.ns.length ∧ p.ns.length ≤ 100) ∧ (0 < p.ks.length ∧ p.ks.length ≤ 100) := by
  obtain ⟨q, rfl, hq⟩ := Nt.plB_ok h
  have h1 := hq.ok.some
  have h2 := hq.ok.few
  have h3 := hq.st.some
  have h4 := hq.st.few
  show (0 < (Nt.nats q.ns).length ∧ (Nt.nats q.ns).length ≤ 100) ∧ (0 < (Nt.nats q.ks).length ∧ (Nt.nats q.ks).length ≤ 100)
  rw [Nt.nats_length, Nt.nats_length]
  omega
theorem dk_parts {d : Nt.Di} (h : Nt.dkB d = true) : Nt.plB d.now = true ∧ (∀ k, k < d.past.length → Nt.plB (piAt d.past k) = true) ∧ d.past.length ≤ 8 := by
  unfold Nt.dkB at h
  rw [Bool.and_eq_true, Bool.and_eq_true, List.all_eq_true, decide_eq_true_eq] at h
  refine ⟨h.1.1, fun k hk => ?_, h.2⟩
  unfold piAt
  rw [List.getD_eq_getElem?_getD, List.getElem?_eq_getElem hk]
  exact h.1.2 _ (List.getElem_mem hk)
theorem take_pi {ps : List Nt.Pi} {k : Nat} (h : k < ps.length) : ps.take (k + 1) = ps.take k ++ [piAt ps k] := by
  rw [List.take_succ_eq_append_getElem h]
  unfold piAt
  rw [List.getD_eq_getElem?_getD, List.getElem?_eq_getElem h]; rfl
theorem info_place : (Tryz.prog.info? 30).map (fun i => (i.zero, i.size, i.bytes)) = some (some (.agg #[.slice none 0 0, .int .i64 0, .slice none 0 0]), 3, 56) := by kernel_rfl
theorem one_sl {w : World} {b : Nat} {v : Value} {xs : List Int} (h : Sl w b v xs) : v.oneCell' = true := by
  rcases h.2 with ⟨rfl, _⟩ | ⟨g, cap, cur, rfl, _⟩ <;> rfl

set_option maxHeartbeats 4000000 in
set_option maxRecDepth 100000 in
theorem sCopy_any (d : Nt.Di) (hd : Nt.dkB d = true) (w : World) (x : Value) (base : Nat) (h : Dv w base x d) :
    Calls Tryz.prog 75 #[x] w fun e w' => ∃ y, e = .returned y ∧ DvO w' w.heap.size y d ∧ Kept [] w w' := by
  obtain ⟨hnow, hpast, h8⟩ := dk_parts hd
  have HLN := Lib.hid (pl_len hnow)
  have HLP := Lib.hid (fun k hk => pl_len (hpast k hk))
  obtain ⟨v, u, r, rfl, h1, h2, h3⟩ := h
  obtain ⟨hk0, hb0, hr0⟩ := two_new w 33 33 #[v, .int .i64 d.now.c, u, r] #[.slice none 0 0, .int .i64 0, .slice none 0 0, .slice none 0 0]
  have HPV : Hid (Pv ((w.alloc (.cells #[v, .int .i64 d.now.c, u, r] 33)).alloc (.cells #[.slice none 0 0, .int .i64 0, .slice none 0 0, .slice none 0 0] 33)) base (.agg #[v, .int .i64 d.now.c, u]) d.now) := Lib.hid ⟨v, u, rfl, h1.stay hk0, h2.stay hk0⟩
  have H3 := Lib.hid (h3.stay hk0)
  have HB := Lib.hid hb0
  have HR := Lib.hid hr0
  have HK0 := Lib.hid hk0
  obtain ⟨a, cap, rfl, _, _, _⟩ := h1.any
  obtain ⟨b, cap2, rfl, _, _, _⟩ := h2.any
  obtain ⟨a3, cap3, rfl, _, _, _, _⟩ := h3
  obtain ⟨_, _, e3, _, _, _, hp3⟩ := H3.out
  simp only [Value.slice.injEq, true_and] at e3
  obtain ⟨rfl, rfl⟩ := e3
  have HP3 := Lib.hid hp3
  obtain ⟨c0, c1, c2, c3⟩ := hb0.four
  clear h1 h2 hk0 hb0 hr0 hp3 hnow hpast hd H3
  go_enter Tryz.func75, Tryz.ntmps75
  go_wp2_with fail
  generalize ((w.alloc (.cells #[.slice a d.now.ns.length cap, .int .i64 d.now.c, .slice b d.now.ks.length cap2, .slice a3 d.past.length cap3] 33)).alloc (.cells #[.slice none 0 0, .int .i64 0, .slice none 0 0, .slice none 0 0] 33)) = W0 at *
  refine (sPlace_any d.now HLN.out.1 HLN.out.2 _ _ _ HPV.out).mono ?_
  rintro e w2 ⟨y2, rfl, hpv2, hk2⟩
  obtain ⟨v2, u2, rfl, hv2, hu2⟩ := hpv2
  obtain ⟨a2, cp2, rfl, _, _, _⟩ := hv2.any
  obtain ⟨b2, cp3, rfl, _, _, _⟩ := hu2.any
  have HV2 := Lib.hid hv2
  have HU2 := Lib.hid hu2
  have HK2 := Lib.hid hk2
  have hsz2 := hk2.size
  clear hk2 hv2 hu2 c0 c1 c2 c3 HPV
  go_wp2_with fail
  have hk3 : Kept [] w2 (w2.alloc (.cells #[.slice a2 d.now.ns.length cp2, .int .i64 d.now.c, .slice b2 d.now.ks.length cp3, .slice none 0 0] 33)) := (Kept.refl [] w2).alloc _
  have HB3 := Lib.hid (Bk.new w2 33 #[.slice a2 d.now.ns.length cp2, .int .i64 d.now.c, .slice b2 d.now.ks.length cp3, .slice none 0 0])
  have HV3 := Lib.hid (HV2.out.stay hk3)
  have HU3 := Lib.hid (HU2.out.stay hk3)
  have HK3 := Lib.hid (HK2.out.trans hk3 (by simp))
  have HK3b := Lib.hid hk3
  have HVB : Hid ((∀ g, (Value.slice a2 d.now.ns.length cp2).ownBlock = some g → g < w2.heap.size) ∧ (∀ g, (Value.slice b2 d.now.ks.length cp3).ownBlock = some g → g < w2.heap.size)) := Lib.hid ⟨fun g hg => (HV2.out.block hg).2, fun g hg => (HU2.out.block hg).2⟩
  clear hk3 HV2 HU2
  generalize w2.alloc (.cells #[.slice a2 d.now.ns.length cp2, .int .i64 d.now.c, .slice b2 d.now.ks.length cp3, .slice none 0 0] 33) = W3 at *
  have hbo := HB3.out.lt
  have HBO := Lib.hid hbo
  have HVL := Lib.hid (fun g hg => (HV3.out.block (g := g) hg).2)
  go_loopw [4] (fun i wr => ∃ (k : Nat) (rr : Value), k ≤ d.past.length ∧ i = .int .i64 k ∧ Po wr W3.heap.size rr (d.past.take k) ∧ Bk wr w2.heap.size 33 #[.slice a2 d.now.ns.length cp2, .int .i64 d.now.c, .slice b2 d.now.ks.length cp3, rr] ∧ Kept [w2.heap.size] W3 wr) (fun i _ => d.past.length - (intOf i).toNat)
  case atStart => exact ⟨0, _, Nat.zero_le _, rfl, Po.nil _ _, HB3.out, Kept.refl _ _⟩
  case round =>
    obtain ⟨k, rr, hk, rfl, hpo, hbk, hkept⟩ := hrel
    have HPO := Lib.hid hpo
    have HBK := Lib.hid hbk
    have HK := Lib.hid hkept
    have HKW : Hid (Kept [] W0 wr) := Lib.hid (HK3.out.trans hkept (fun x hx => by simp at hx; subst hx; exact .inr HK2.out.size))
    obtain ⟨c0, c1, c2, c3⟩ := (HB.out.stay HKW.out).four
    obtain ⟨p0, p1, p2, p3⟩ := hbk.four
    clear hpo hbk hkept
    by_cases hlt : k < d.past.length
    · obtain ⟨g, off, rfl, hbg, hg, hpc⟩ := HP3.out k hlt
      obtain ⟨x, y, q0, q1, q2, hx, hy⟩ := hpc.stay hg HKW.out
      have HPK : Hid (Pv wr base (.agg #[x, .int .i64 (piAt d.past k).c, y]) (piAt d.past k)) := Lib.hid ⟨x, y, rfl, hx, hy⟩
      have HLK := Lib.hid (HLP.out k hlt)
      have HTK := Lib.hid (take_pi hlt)
      have HTL : Hid ((d.past.take k).length = k) := Lib.hid (by rw [List.length_take]; omega)
      have hbl := HBK.out.lt
      have hgl : g < wr.heap.size := Nat.lt_of_lt_of_le hg HKW.out.size
      have hbw := (HB.out.stay HKW.out).lt
      obtain ⟨vs, hvs1, hvs2, hvs3⟩ := HPO.out
      obtain ⟨ar, cr, hrr⟩ := hvs1.any
      subst hrr
      have HVS1 := Lib.hid hvs1
      have HVS2 := Lib.hid hvs2
      have HVS3 := Lib.hid hvs3
      have hp3 := HBK.out.frozen 3
      have hW := HK.out.size
      clear hpc hx hy hvs1 hvs2 hvs3
      generalize piAt d.past k = p at *
      go_wp2_with fail
      have HCALL : Hid (∀ W, Kept [] wr W → Calls Tryz.prog 124 #[.agg #[x, .int .i64 p.c, y]] W fun e w6 => ∃ a6 c6 b6 d6, e = .returned (.agg #[.slice a6 p.ns.length c6, .int .i64 p.c, .slice b6 p.ks.length d6]) ∧ Hid (Sl w6 W3.heap.size (.slice a6 p.ns.length c6) p.ns ∧ Sl w6 W3.heap.size (.slice b6 p.ks.length d6) p.ks ∧ Kept [] wr w6) ∧ (w6.cell? ⟨w2.heap.size, 0, none⟩ = some (.slice a2 d.now.ns.length cp2) ∧ w6.cell? ⟨w2.heap.size, 1, none⟩ = some (.int .i64 d.now.c) ∧ w6.cell? ⟨w2.heap.size, 2, none⟩ = some (.slice b2 d.now.ks.length cp3) ∧ w6.cell? ⟨w2.heap.size, 3, none⟩ = some (.slice ar vs.length cr)) ∧ w2.heap.size < w6.heap.size) := Lib.hid (fun W hk => by
        refine (sPlace_any p HLK.out.1 HLK.out.2 W _ base (HPK.out.stay hk)).mono ?_
        rintro e w6 ⟨y6, rfl, ⟨v6, u6, rfl, hv6, hu6⟩, hk6⟩
        have k6 := hk.trans hk6 (by simp)
        have hb6 := HBK.out.stay k6
        have hz := hk.size
        obtain ⟨a6, c6, rfl, _, _, _⟩ := hv6.any
        obtain ⟨b6, d6, rfl, _, _, _⟩ := hu6.any
        exact ⟨a6, c6, b6, d6, rfl, ⟨hv6.mono (by omega), hu6.mono (by omega), k6⟩, hb6.four, hb6.lt⟩)
      have HARM : Hid (∀ w6 a6 c6 b6 d6, Sl w6 W3.heap.size (.slice a6 p.ns.length c6) p.ns ∧ Sl w6 W3.heap.size (.slice b6 p.ks.length d6) p.ks ∧ Kept [] wr w6 → ∀ u9 w9, Tg 30 w9 W3.heap.size u9 (vs ++ [(.slice a6 p.ns.length c6, .int .i64 p.c, .slice b6 p.ks.length d6)]) → Kept (Value.slice ar vs.length cr).ownBlock.toList (w6.alloc (.cells (tri [(.slice a6 p.ns.length c6, .int .i64 p.c, .slice b6 p.ks.length d6)]).toArray 30)) w9 →
          ∃ g9 c9, u9 = .slice (some ⟨g9, 0, none⟩) (k + 1) c9 ∧ Hid (Po w9 W3.heap.size u9 (d.past.take (k + 1)) ∧ Bk w9 w2.heap.size 33 #[.slice a2 d.now.ns.length cp2, .int .i64 d.now.c, .slice b2 d.now.ks.length cp3, .slice ar vs.length cr] ∧ Kept [w2.heap.size] W3 w9) ∧ (w9.cell? ⟨w2.heap.size, 3, none⟩ = some (.slice ar vs.length cr) ∧ w9.frozen? ⟨w2.heap.size, 3, none⟩ = false) ∧ w2.heap.size < w9.heap.size) := Lib.hid (fun w6 a6 c6 b6 d6 h6 u9 w9 hs9 hk9 => by
        obtain ⟨hv6, hu6, k6⟩ := h6
        have kW : Kept [] w6 (w6.alloc (.cells (tri [(.slice a6 p.ns.length c6, .int .i64 p.c, .slice b6 p.ks.length d6)]).toArray 30)) := (Kept.refl [] w6).alloc _
        have kw := k6.trans kW (by simp)
        have hb9 := (HBK.out.stay kw).kept hk9 (fun hx => by have h := (HVS1.out.block (g := w2.heap.size) (by simpa using hx)).1; have := HBO.out; omega)
        have hpo9 : Po w9 W3.heap.size u9 (d.past.take (k + 1)) := by
          rw [HTK.out]
          exact Po.snoc (HVS1.out.stay kw) HVS2.out (fun j hj => by obtain ⟨x, y, e, h1, h2⟩ := HVS3.out j hj; exact ⟨x, y, e, h1.stay kw, h2.stay kw⟩) (hv6.stay kW) (hu6.stay kW) hk9 hs9
        obtain ⟨g9, c9, rfl, _⟩ := hs9.shape (n := k + 1) (by simp; rw [HVS2.out, HTL.out]) (by omega)
        exact ⟨g9, c9, rfl, ⟨hpo9, hb9, (HK.out.trans kw (by simp)).trans hk9 (fun x hx => .inr (HVS1.out.block (g := x) (by simpa using hx)).1)⟩, ⟨hb9.four.2.2.2, hb9.frozen 3⟩, hb9.lt⟩)
      have HVL2 : Hid (vs.length + 1 ≤ 2000000) := Lib.hid (by rw [HVS2.out, HTL.out]; omega)
      have HW := Lib.hid hW
      clear hW
      go_region_law (first
        | (go_simp; go_at_call 124; refine (HCALL.out _ (by repeat (first | exact Kept.refl _ _ | assumption | apply Kept.alloc | apply Kept.drew))).mono ?_; rintro e w6 ⟨a6, c6, b6, d6, rfl, h6, ⟨s0, s1, s2, s3⟩, l6⟩)
        | (refine step_app_tri 30 31 (.agg #[.slice none 0 0, .int .i64 0, .slice none 0 0]) 56 Tryz.underlying31 info_place rfl (by omega) vs [(.slice a6 p.ns.length c6, .int .i64 p.c, .slice b6 p.ks.length d6)] (by intro u hu; simp [tri] at hu; rcases hu with rfl | rfl | rfl <;> rfl) rfl _ _ rfl W3.heap.size _ (HVS1.out.stay (h6.out.2.2.alloc _)) (by go_simp) 1 rfl w6.heap.size (by go_simp) (Bk.new w6 _ _) HVL2.out (by have h := h6.out.2.2.size; have := HW.out; simp; omega) ?_; intro u9 w9 hs9 hk9; obtain ⟨g9, c9, rfl, H9, ⟨s3, t3⟩, l9⟩ := HARM.out w6 a6 c6 b6 d6 h6.out u9 w9 hs9 hk9; clear hs9 hk9))
      all_goals
        clear c0 c1 c2 c3 p0 p1 p2 p3 q0 q1 q2
        go_wp2
        go_roundw
        case rel =>
          refine ⟨k + 1, _, by omega, by go_num, ?_, H9.out.2.1.set 3 _, H9.out.2.2.setCell (.inl (by simp)) _⟩
          exact H9.out.1.kept ((Kept.refl [w2.heap.size] _).setCell (.inl (by simp)) _) (fun g hg hm => by have := HBO.out; simp at hm; omega)
        case measure => simp [intOf]; omega
    · have hk' : k = d.past.length := by omega
      have HTE : Hid (d.past.take k = d.past) := Lib.hid (by rw [hk', List.take_length])
      have HR9 := Lib.hid (HR.out.stay HKW.out)
      obtain ⟨r0, r1, r2, r3⟩ := HR9.out.four
      have f0 := HR9.out.frozen 0
      have f1 := HR9.out.frozen 1
      have f2 := HR9.out.frozen 2
      have f3 := HR9.out.frozen 3
      have HPE : Hid (Po wr W3.heap.size rr d.past) := Lib.hid (by have h := HPO.out; rw [HTE.out] at h; exact h)
      obtain ⟨vs, hvs1, hvs2, hvs3⟩ := HPE.out
      obtain ⟨ar, cr, hrr⟩ := hvs1.any
      subst hrr
      have hzz : w.heap.size + 1 < W3.heap.size := by have := HR.out.lt; have := HK3.out.size; omega
      have HZZ := Lib.hid hzz
      have HZ2 : Hid (w.heap.size + 1 < w2.heap.size ∧ w2.heap.size < W3.heap.size) := Lib.hid ⟨by have := HR.out.lt; have := HK2.out.size; omega, HBO.out⟩
      clear hvs1 hvs2 hvs3 hzz
      go_wp2
      (try simp only [Exit.inBlock, Exit.then])
      refine bodyPost_ret (results_cell_row rfl _ _ (w.heap.size + 1) 33 #[.slice a2 d.now.ns.length cp2, .int .i64 d.now.c, .slice b2 d.now.ks.length cp3, .slice ar vs.length cr] (0, 0) _ rfl (HR9.out.set4 _ _ _ _) Tryz.underlying33 rfl (by kernel_rfl)) rfl ?_
      have hsz0 : w.heap.size ≤ W0.heap.size := HK0.out.size
      have hW : W0.heap.size ≤ W3.heap.size := HK3.out.size
      have hne1 : ∀ g : Nat, W0.heap.size ≤ g → ¬ g ∈ [w.heap.size + 1] := fun g h hm => by have := HR.out.lt; simp at hm; omega
      have hk4 := Kept.rows4 wr (w.heap.size + 1) (.slice a2 d.now.ns.length cp2) (.int .i64 d.now.c) (.slice b2 d.now.ks.length cp3) (.slice ar vs.length cr)
      have hV : Sl wr W0.heap.size (.slice a2 d.now.ns.length cp2) d.now.ns := HV3.out.kept HK.out (fun g hg hm => by have := HVB.out.1 g hg; simp at hm; omega)
      have hU : Sl wr W0.heap.size (.slice b2 d.now.ks.length cp3) d.now.ks := HU3.out.kept HK.out (fun g hg hm => by have := HVB.out.2 g hg; simp at hm; omega)
      exact ⟨_, rfl, ⟨_, _, _, rfl, (hV.kept hk4 (fun g hg => hne1 g (hV.block hg).1)).mono hsz0, (hU.kept hk4 (fun g hg => hne1 g (hU.block hg).1)).mono hsz0, (HPE.out.kept hk4 (fun g hg => hne1 g (by omega))).mono (by omega)⟩, (HK0.out.trans HKW.out (by simp)).set4 (by omega) _ _ _ _⟩
end Go.Proofs.YtnajdbnacdnnlaaGreatDoor
