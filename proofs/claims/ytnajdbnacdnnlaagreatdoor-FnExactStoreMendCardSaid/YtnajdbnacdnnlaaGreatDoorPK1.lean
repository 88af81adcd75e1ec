/-
  Desks in memory; whether a desk is one, new desks, by the model.
-/
import Derived.Test.YtnajdbnacdnnlaaGreatDoorPV3
import Derived.Test.YtnajdbnacdnnlaaGreatDoorTgB
namespace Go.Proofs.YtnajdbnacdnnlaaGreatDoor
open Go.RowKit

def piAt (ps : List Nt.Pi) (k : Nat) : Nt.Pi := ps.getD k Nt.Pi.zero
/-- A place in three cells. -/
def Pc (w : World) (base g o : Nat) (p : Nt.Pi) : Prop :=
  ∃ x y, w.cell? ⟨g, o, none⟩ = some x ∧ w.cell? ⟨g, o + 1, none⟩ = some (.int .i64 p.c) ∧ w.cell? ⟨g, o + 2, none⟩ = some y ∧ Sl w base x p.ns ∧ Sl w base y p.ks
/-- A slice of places, wherever it begins. -/
def Ps (w : World) (base : Nat) (v : Value) (ps : List Nt.Pi) : Prop :=
  ∃ (a : Option Addr) (cap : Nat), v = .slice a ps.length cap ∧ (a = none → cap = 0) ∧ ps.length ≤ cap ∧ cap ≤ 9223372036854775807 ∧
    ∀ k, k < ps.length → ∃ g off, a = some ⟨g, off, none⟩ ∧ base ≤ g ∧ g < w.heap.size ∧ Pc w base g (off + k * 3) (piAt ps k)
theorem Pc.stay {w w' : World} {base g o : Nat} {p : Nt.Pi} (h : Pc w base g o p) (hg : g < w.heap.size) (hk : Kept [] w w') : Pc w' base g o p := by
  obtain ⟨x, y, h1, h2, h3, h4, h5⟩ := h
  exact ⟨x, y, (hk.cell (p := ⟨g, o, none⟩) hg (by simp)).trans h1, (hk.cell (p := ⟨g, o + 1, none⟩) hg (by simp)).trans h2, (hk.cell (p := ⟨g, o + 2, none⟩) hg (by simp)).trans h3, h4.stay hk, h5.stay hk⟩
theorem Pc.mono {w : World} {base base' g o : Nat} {p : Nt.Pi} (h : Pc w base g o p) (hb : base' ≤ base) : Pc w base' g o p := by
  obtain ⟨x, y, h1, h2, h3, h4, h5⟩ := h
  exact ⟨x, y, h1, h2, h3, h4.mono hb, h5.mono hb⟩
theorem Ps.stay {w w' : World} {base : Nat} {v : Value} {ps : List Nt.Pi} (h : Ps w base v ps) (hk : Kept [] w w') : Ps w' base v ps := by
  obtain ⟨a, cap, rfl, hz, h1, h2, h3⟩ := h
  refine ⟨a, cap, rfl, hz, h1, h2, fun k hkl => ?_⟩
  obtain ⟨g, off, e, hb, hg, hp⟩ := h3 k hkl
  exact ⟨g, off, e, hb, Nat.lt_of_lt_of_le hg hk.size, hp.stay hg hk⟩
theorem Ps.mono {w : World} {base base' : Nat} {v : Value} {ps : List Nt.Pi} (h : Ps w base v ps) (hb : base' ≤ base) : Ps w base' v ps := by
  obtain ⟨a, cap, rfl, hz, h1, h2, h3⟩ := h
  refine ⟨a, cap, rfl, hz, h1, h2, fun k hkl => ?_⟩
  obtain ⟨g, off, e, hb2, hg, hp⟩ := h3 k hkl
  exact ⟨g, off, e, by omega, hg, hp.mono hb⟩
theorem Ps.nil (w : World) (base : Nat) : Ps w base (.slice none 0 0) [] := ⟨none, 0, rfl, fun _ => rfl, by simp, by simp, fun k h => by simp at h⟩
/-- A desk as a value. -/
def Dv (w : World) (base : Nat) (x : Value) (d : Nt.Di) : Prop := ∃ v u r, x = .agg #[v, .int .i64 d.now.c, u, r] ∧ Sl w base v d.now.ns ∧ Sl w base u d.now.ks ∧ Ps w base r d.past
theorem Dv.stay {w w' : World} {base : Nat} {x : Value} {d : Nt.Di} (h : Dv w base x d) (hk : Kept [] w w') : Dv w' base x d := by
  obtain ⟨v, u, r, rfl, h1, h2, h3⟩ := h
  exact ⟨v, u, r, rfl, h1.stay hk, h2.stay hk, h3.stay hk⟩
theorem Dv.mono {w : World} {base base' : Nat} {x : Value} {d : Nt.Di} (h : Dv w base x d) (hb : base' ≤ base) : Dv w base' x d := by
  obtain ⟨v, u, r, rfl, h1, h2, h3⟩ := h
  exact ⟨v, u, r, rfl, h1.mono hb, h2.mono hb, h3.mono hb⟩
theorem Dv.zero (w : World) (base : Nat) : Dv w base (.agg #[.slice none 0 0, .int .i64 0, .slice none 0 0, .slice none 0 0]) Nt.Di.zero := ⟨_, _, _, rfl, Sl.nil w base, Sl.nil w base, Ps.nil w base⟩
theorem Bk.four {w : World} {g : Nat} {T : TypeId} {a b c d : Value} (h : Bk w g T #[a, b, c, d]) : w.cell? ⟨g, 0, none⟩ = some a ∧ w.cell? ⟨g, 1, none⟩ = some b ∧ w.cell? ⟨g, 2, none⟩ = some c ∧ w.cell? ⟨g, 3, none⟩ = some d := ⟨h.cell 0 rfl, h.cell 1 rfl, h.cell 2 rfl, h.cell 3 rfl⟩
theorem Bk.set4 {w : World} {g : Nat} {T : TypeId} {a b c d : Value} (h : Bk w g T #[a, b, c, d]) (e f p q : Value) : Bk ((((w.setCell ⟨g, 0, none⟩ e).setCell ⟨g, 1, none⟩ f).setCell ⟨g, 2, none⟩ p).setCell ⟨g, 3, none⟩ q) g T #[e, f, p, q] := (((h.set 0 e).set 1 f).set 2 p).set 3 q
theorem Kept.set4 {w w' : World} {g : Nat} (h : Kept [] w w') (hg : w.heap.size ≤ g) (d e f q : Value) : Kept [] w ((((w'.setCell ⟨g, 0, none⟩ d).setCell ⟨g, 1, none⟩ e).setCell ⟨g, 2, none⟩ f).setCell ⟨g, 3, none⟩ q) :=
  (((h.setCell (.inr hg) d).setCell (.inr hg) e).setCell (.inr hg) f).setCell (.inr hg) q
theorem Kept.rows4 (w : World) (g : Nat) (d e f q : Value) : Kept [g] w ((((w.setCell ⟨g, 0, none⟩ d).setCell ⟨g, 1, none⟩ e).setCell ⟨g, 2, none⟩ f).setCell ⟨g, 3, none⟩ q) :=
  ((((Kept.refl [g] w).setCell (.inl (by simp)) d).setCell (.inl (by simp)) e).setCell (.inl (by simp)) f).setCell (.inl (by simp)) q

/-- All the first places are ones. -/
def okTo (ps : List Nt.Pi) (k : Nat) : Prop := ∀ j, j < k → Nt.plB (piAt ps j) = true
theorem okTo_all {ps : List Nt.Pi} (h : okTo ps ps.length) : ps.all Nt.plB = true := by
  rw [List.all_eq_true]
  intro x hx
  obtain ⟨j, hj, rfl⟩ := List.getElem_of_mem hx
  have := h j hj
  unfold piAt at this
  rw [List.getD_eq_getElem?_getD, List.getElem?_eq_getElem hj] at this
  exact this
theorem notAll {ps : List Nt.Pi} {k : Nat} (hk : k < ps.length) (h : Nt.plB (piAt ps k) = false) : ps.all Nt.plB = false := by
  rw [List.all_eq_false]
  refine ⟨ps[k], List.getElem_mem hk, ?_⟩
  unfold piAt at h
  rw [List.getD_eq_getElem?_getD, List.getElem?_eq_getElem hk] at h
  simpa using h

set_option maxHeartbeats 2000000 in
set_option maxRecDepth 100000 in
theorem sDeskOk_any (d : Nt.Di) (w : World) (x : Value) (base : Nat) (h : Dv w base x d) :
    Calls Tryz.prog 16 #[x] w fun e w' => e = .returned (.bool (Nt.dkB d)) ∧ Kept [] w w' := by
  obtain ⟨v, u, r, rfl, h1, h2, h3⟩ := h
  have hk0 : Kept [] w (w.alloc (.cells #[v, .int .i64 d.now.c, u, r] 33)) := (Kept.refl [] w).alloc _
  have HB := Lib.hid (Bk.new w 33 #[v, .int .i64 d.now.c, u, r])
  have HK0 := Lib.hid hk0
  have HPV : Hid (Pv (w.alloc (.cells #[v, .int .i64 d.now.c, u, r] 33)) base (.agg #[v, .int .i64 d.now.c, u]) d.now) := Lib.hid ⟨v, u, rfl, h1.stay hk0, h2.stay hk0⟩
  have H3 := Lib.hid (h3.stay hk0)
  obtain ⟨a, cap, rfl, _, _, _⟩ := h1.any
  obtain ⟨b, cap2, rfl, _, _, _⟩ := h2.any
  obtain ⟨a3, cap3, rfl, _, _, hc3, _⟩ := h3
  obtain ⟨_, _, e3, _, hl3, _, hp3⟩ := H3.out
  simp only [Value.slice.injEq, true_and] at e3
  obtain ⟨rfl, rfl⟩ := e3
  have HP3 := Lib.hid hp3
  have hm3 : d.past.length ≤ 9223372036854775807 := by omega
  clear h1 h2 hk0 hp3
  go_enter Tryz.func16, Tryz.ntmps16
  go_wp2_with fail
  generalize w.alloc (.cells #[.slice a d.now.ns.length cap, .int .i64 d.now.c, .slice b d.now.ks.length cap2, .slice a3 d.past.length cap3] 33) = W0 at *
  go_loopw [3] (fun i wr => ∃ k : Nat, k ≤ d.past.length ∧ i = .int .i64 k ∧ okTo d.past k ∧ Kept [] W0 wr) (fun i _ => d.past.length - (intOf i).toNat)
  case atStart => exact ⟨0, Nat.zero_le _, rfl, fun j hj => absurd hj (by omega), Kept.refl _ _⟩
  case round =>
    obtain ⟨k, hk, rfl, hok, hkept⟩ := hrel
    have HOK := Lib.hid hok
    have HK := Lib.hid hkept
    obtain ⟨c0, c1, c2, c3⟩ := (HB.out.stay hkept).four
    clear hok
    by_cases hlt : k < d.past.length
    · obtain ⟨g, off, rfl, hbg, hg, hpc⟩ := HP3.out k hlt
      obtain ⟨x, y, p0, p1, p2, hx, hy⟩ := hpc.stay hg hkept
      have HPK : Hid (Pv wr base (.agg #[x, .int .i64 (piAt d.past k).c, y]) (piAt d.past k)) := Lib.hid ⟨x, y, rfl, hx, hy⟩
      have HNA := Lib.hid (notAll hlt)
      have HLT := Lib.hid hlt
      clear hpc hx hy hkept
      generalize hpe : piAt d.past k = p at *
      have HPE := Lib.hid hpe
      clear hpe
      go_wp2_with fail
      refine (sPlaceOk_any p _ _ _ HPK.out).mono ?_
      rintro e w2 ⟨rfl, hk2⟩
      have HK2 := Lib.hid (HK.out.trans hk2 (by simp))
      clear hk2
      cases hb : Nt.plB p
      · have HF : Hid (Nt.dkB d = false) := Lib.hid (by unfold Nt.dkB; rw [HNA.out hb]; simp)
        clear hb
        go_wp2
        go_ret
        exact ⟨by rw [HF.out]; rfl, HK0.out.trans HK2.out (by simp)⟩
      · have HPB := Lib.hid hb
        clear hb
        go_wp2
        go_roundw
        case rel =>
          refine ⟨k + 1, by omega, by go_num, fun j hj => ?_, HK2.out⟩
          by_cases e : j = k
          · subst e; rw [HPE.out]; exact HPB.out
          · exact HOK.out j (by omega)
        case measure => simp [intOf]; omega
    · have hk' : k = d.past.length := by omega
      have HALL : Hid (d.past.all Nt.plB = true) := Lib.hid (okTo_all (by rw [← hk']; exact HOK.out))
      have HF : Hid (Nt.dkB d = (Nt.plB d.now && decide (d.past.length ≤ 8))) := Lib.hid (by unfold Nt.dkB; rw [HALL.out, Bool.and_true])
      have HPN := Lib.hid (HPV.out.stay hkept)
      clear hkept
      generalize hN : d.past.length = N at *
      subst hk'
      go_wp2_with fail
      refine (sPlaceOk_any d.now _ _ _ HPN.out).mono ?_
      rintro e w2 ⟨rfl, hk2⟩
      have HK2 := Lib.hid (HK.out.trans hk2 (by simp))
      obtain ⟨d0, d1, d2, d3⟩ := (HB.out.stay HK2.out).four
      clear hk2 c0 c1 c2 c3
      cases hb : Nt.plB d.now
      · rw [hb] at HF
        go_wp2
        go_ret
        exact ⟨by rw [HF.out]; rfl, HK0.out.trans HK2.out (by simp)⟩
      · rw [hb] at HF
        by_cases h8 : k ≤ 8
        · have e8 : decide ((k : Int) ≤ 8) = true := dec_of (by omega)
          rw [show decide (k ≤ 8) = true from dec_of h8] at HF
          clear h8
          go_wp2
          go_ret
          exact ⟨by rw [HF.out]; rfl, HK0.out.trans HK2.out (by simp)⟩
        · have e8 : decide ((k : Int) ≤ 8) = false := dec_not (by omega)
          rw [show decide (k ≤ 8) = false from dec_not h8] at HF
          clear h8
          go_wp2
          go_ret
          exact ⟨by rw [HF.out]; rfl, HK0.out.trans HK2.out (by simp)⟩

/-- A desk that is returned. -/
theorem ret_desk {W : World} {g : Nat} {a b c d : Value} (h : Bk W g 33 #[a, b, c, d]) :
    (loadVar 33 ⟨g, 0, none⟩).run Tryz.prog W = .ok (.agg #[a, b, c, d]) W :=
  run_loadVar_row W g 33 33 #[a, b, c, d] (0, 0) _ h Tryz.underlying33 rfl (by kernel_rfl)

set_option maxHeartbeats 2000000 in
set_option maxRecDepth 100000 in
theorem sDeskNew_any (p : Nt.Pi) (w : World) (x : Value) (base : Nat) (h : Pv w base x p) :
    Calls Tryz.prog 111 #[x] w fun e w' => ∃ y, e = .returned (.tuple #[y, .bool (Nt.plB p)]) ∧ Dv w' w.heap.size y (Nt.dnew p) ∧ Kept [] w w' := by
  have HPV0 := Lib.hid h
  obtain ⟨v, u, rfl, h1, h2⟩ := h
  obtain ⟨hk0, hb0, hr0⟩ := two_new w 30 33 #[v, .int .i64 p.c, u] #[.slice none 0 0, .int .i64 0, .slice none 0 0, .slice none 0 0]
  have HPV := Lib.hid (HPV0.out.stay hk0)
  have HB := Lib.hid hb0
  have HR := Lib.hid hr0
  have HK0 := Lib.hid hk0
  obtain ⟨a, cap, rfl, _, _, _⟩ := h1.any
  obtain ⟨b, cap2, rfl, _, _, _⟩ := h2.any
  obtain ⟨c0, c1, c2⟩ := hb0.three
  clear h1 h2 hk0 hb0 hr0 HPV0
  go_enter Tryz.func111, Tryz.ntmps111
  go_wp2_with fail
  generalize ((w.alloc (.cells #[.slice a p.ns.length cap, .int .i64 p.c, .slice b p.ks.length cap2] 30)).alloc (.cells #[.slice none 0 0, .int .i64 0, .slice none 0 0, .slice none 0 0] 33)) = W0 at *
  refine (sPlaceOk_any p _ _ _ HPV.out).mono ?_
  rintro e w1 ⟨rfl, hk1⟩
  have HB1 := Lib.hid (HB.out.stay hk1)
  have HR1 := Lib.hid (HR.out.stay hk1)
  have HPV1 := Lib.hid (HPV.out.stay hk1)
  have HK1 := Lib.hid (HK0.out.trans hk1 (by simp))
  clear hk1 c0 c1 c2 HB HR HPV HK0
  cases ho : Nt.plB p
  · obtain ⟨r0, r1, r2, r3⟩ := HR1.out.four
    have f0 := HR1.out.frozen 0
    have f1 := HR1.out.frozen 1
    have f2 := HR1.out.frozen 2
    have f3 := HR1.out.frozen 3
    have HO := Lib.hid ho
    have HF : Hid (Nt.dnew p = Nt.Di.zero) := Lib.hid (by unfold Nt.dnew; rw [if_neg (by simp [ho])])
    go_wp2
    (try simp only [Exit.inBlock, Exit.then])
    refine bodyPost_ret (v := .tuple #[.agg #[.slice none 0 0, .int .i64 0, .slice none 0 0, .slice none 0 0], .bool false]) ?_ rfl ?_
    · rw [results_cell_tmp rfl]
      simp [asAddr, ret_desk (HR1.out.set4 _ _ _ _)]
    · rw [HO.out, HF.out]
      exact ⟨_, rfl, Dv.zero _ _, HK1.out.set4 (by omega) _ _ _ _⟩
  · obtain ⟨q, rfl, hq⟩ := Nt.plB_ok ho
    have HF : Hid (Nt.dnew q.i = ⟨q.i, []⟩) := Lib.hid (by unfold Nt.dnew; rw [if_pos ho])
    have hns : 0 < q.i.ns.length ∧ q.i.ns.length ≤ 100 := by
      have := hq.ok.some
      have := hq.ok.few
      show 0 < (Nt.nats q.ns).length ∧ (Nt.nats q.ns).length ≤ 100
      rw [Nt.nats_length]; omega
    have hks : 0 < q.i.ks.length ∧ q.i.ks.length ≤ 100 := by
      have := hq.st.some
      have := hq.st.few
      show 0 < (Nt.nats q.ks).length ∧ (Nt.nats q.ks).length ≤ 100
      rw [Nt.nats_length]; omega
    have HC := Lib.hid (fun W x b h => sPlace_any q.i hns hks W x b h)
    have HO := Lib.hid ho
    clear hns hks hq ho
    obtain ⟨c0, c1, c2⟩ := HB1.out.three
    go_wp2_with fail
    refine (HC.out _ _ _ HPV1.out).mono ?_
    rintro e w2 ⟨y2, rfl, hpv2, hk2⟩
    have HR2 := Lib.hid (HR1.out.stay hk2)
    have HK2 := Lib.hid (HK1.out.trans hk2 (by simp))
    obtain ⟨v2, u2, rfl, hv2, hu2⟩ := hpv2
    have HV2 := Lib.hid hv2
    have HU2 := Lib.hid hu2
    have HZ1 := Lib.hid HR1.out.lt
    obtain ⟨a2, cp2, rfl, _, _, _⟩ := hv2.any
    obtain ⟨b2, cp3, rfl, _, _, _⟩ := hu2.any
    obtain ⟨r0, r1, r2, r3⟩ := HR2.out.four
    have f0 := HR2.out.frozen 0
    have f1 := HR2.out.frozen 1
    have f2 := HR2.out.frozen 2
    have f3 := HR2.out.frozen 3
    clear hk2 hv2 hu2 c0 c1 c2
    go_wp2
    (try simp only [Exit.inBlock, Exit.then])
    refine bodyPost_ret (v := .tuple #[.agg #[.slice a2 q.i.ns.length cp2, .int .i64 q.i.c, .slice b2 q.i.ks.length cp3, .slice none 0 0], .bool true]) ?_ rfl ?_
    · rw [results_cell_tmp rfl]
      simp [asAddr, ret_desk (HR2.out.set4 _ _ _ _)]
    · have hne : ∀ g : Nat, w1.heap.size ≤ g → ¬ g ∈ [w.heap.size + 1] := fun g h hm => by have := HZ1.out; simp at hm; omega
      have hsz := HK1.out.size
      rw [HO.out, HF.out]
      refine ⟨_, rfl, ?_, HK2.out.set4 (by omega) _ _ _ _⟩
      exact ⟨_, _, _, rfl, (HV2.out.kept (Kept.rows4 w2 (w.heap.size + 1) _ _ _ _) (fun g hg => hne g (HV2.out.block hg).1)).mono hsz, (HU2.out.kept (Kept.rows4 w2 (w.heap.size + 1) _ _ _ _) (fun g hg => hne g (HU2.out.block hg).1)).mono hsz, Ps.nil _ _⟩
end Go.Proofs.YtnajdbnacdnnlaaGreatDoor
