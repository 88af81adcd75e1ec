/-
  Copies of desks by the program: all parts lie apart.
-/
import Derived.Test.YtofgfhfdmkcmcaaIP2
namespace Go.Proofs.Ytofgfhfdmkcmcaa
open Go.RowKit

theorem at3_rep (n k : Nat) (h : k < n) (x : Value × Value × Value) : at3 (List.replicate n x) k = x := by
  unfold at3
  rw [List.getD_eq_getElem?_getD, List.getElem?_replicate, if_pos h]; rfl
/-- Two values more. -/
def put2 (G : Nat → Nat) (k a b : Nat) : Nat → Nat := fun i => if i = 2 * k + 2 then a else if i = 2 * k + 3 then b else G i
theorem put2_a (G : Nat → Nat) (k a b : Nat) : put2 G k a b (2 * k + 2) = a := if_pos rfl
theorem put2_b (G : Nat → Nat) (k a b : Nat) : put2 G k a b (2 * k + 3) = b := by unfold put2; rw [if_neg (by omega), if_pos rfl]
theorem put2_o (G : Nat → Nat) (k a b : Nat) {i : Nat} (h : i < 2 * k + 2) : put2 G k a b i = G i := by unfold put2; rw [if_neg (by omega), if_neg (by omega)]
theorem PastAt.other {w : World} {base : Nat} {G C G' C' : Nat → Nat} {vs vs' : List (Value × Value × Value)} {ps : List Nt.Pi} {k : Nat} (h : PastAt w base G C vs ps k) (hv : at3 vs' k = at3 vs k) (g1 : G' (2 * k + 2) = G (2 * k + 2)) (g2 : G' (2 * k + 3) = G (2 * k + 3)) (c1 : C' (2 * k + 2) = C (2 * k + 2)) (c2 : C' (2 * k + 3) = C (2 * k + 3)) : PastAt w base G' C' vs' ps k := by
  unfold PastAt at *
  rw [hv, g1, g2, c1, c2]
  exact h
theorem PastAt.kept {w w' : World} {base : Nat} {G C : Nat → Nat} {vs : List (Value × Value × Value)} {ps : List Nt.Pi} {k : Nat} {rows : List Nat} (h : PastAt w base G C vs ps k) (hk : Kept rows w w') (hn : ∀ g, base ≤ g → g < w.heap.size → ¬ g ∈ rows) : PastAt w' base G C vs ps k :=
  ⟨h.1, h.2.1.kept hk (fun g hg => hn g (h.2.1.block hg).1 (h.2.1.block hg).2), h.2.2.kept hk (fun g hg => hn g (h.2.2.block hg).1 (h.2.2.block hg).2)⟩
theorem PastAt.mono {w : World} {base base' : Nat} {G C : Nat → Nat} {vs : List (Value × Value × Value)} {ps : List Nt.Pi} {k : Nat} (h : PastAt w base G C vs ps k) (hb : base' ≤ base) : PastAt w base' G C vs ps k := ⟨h.1, h.2.1.mono hb, h.2.2.mono hb⟩

set_option maxHeartbeats 4000000 in
set_option maxRecDepth 100000 in
theorem changedPlaces_any (ps : List Nt.Pi) (hps : ∀ k, k < ps.length → Nt.plB (piAt ps k) = true) (h1000 : ps.length ≤ 1000) (w : World) (v : Value) (base : Nat) (h : Ps w base v ps) :
    Calls Try.prog 91 #[v, .func (.func 90) #[] #[]] w fun e w' => ∃ (G C : Nat → Nat) (vs : List (Value × Value × Value)),
      e = .returned (.slice (some ⟨w.heap.size, 0, none⟩) ps.length ps.length) ∧ Tg 25 w' w.heap.size (.slice (some ⟨w.heap.size, 0, none⟩) ps.length ps.length) vs ∧ vs.length = ps.length ∧
      (∀ k, k < ps.length → PastAt w' (w.heap.size + 1) G C vs ps k) ∧ (∀ i j, 2 ≤ i → i < j → j < 2 * ps.length + 2 → G i < G j) ∧ Kept [] w w' := by
  have HP := Lib.hid h
  have HLP := Lib.hid (fun k hk => pl_len (hps k hk))
  obtain ⟨a3, cap3, rfl, _, _, _, hp3⟩ := h
  have HP3 := Lib.hid hp3
  obtain ⟨n, hn⟩ : ∃ n, n = ps.length := ⟨_, rfl⟩
  rw [← hn] at HP3 HLP h1000 ⊢
  clear hps hp3 HP hn
  go_enter Try.func91, Try.ntmps91
  go_wp2_with (at_make; refine make_tri 25 30 (.slice none 0 0) (.int .i64 0) (.slice none 0 0) 56 Try.underlying30 info_place (by omega) rfl w n rfl _ _ rfl rfl rfl (by omega) ?_; intro w1 hs1 hk1 hsz1; have HS1 := Lib.hid hs1; have HK1 := Lib.hid hk1; have HZ1 := Lib.hid hsz1; clear hs1 hk1 hsz1)
  go_wp2_with fail
  go_loopw [13] (fun i wr => ∃ (k : Nat) (G C : Nat → Nat) (vs : List (Value × Value × Value)), k ≤ n ∧ i = .int .i64 k ∧ Tg 25 wr w.heap.size (.slice (some ⟨w.heap.size, 0, none⟩) n n) vs ∧ vs.length = n ∧
    (∀ j, j < k → PastAt wr (w.heap.size + 1) G C vs ps j) ∧ (∀ i j, 2 ≤ i → i < j → j < 2 * k + 2 → G i < G j) ∧ (∀ i, 2 ≤ i → i < 2 * k + 2 → G i < wr.heap.size) ∧ Kept [] w wr ∧ w.heap.size < wr.heap.size) (fun i _ => n - (intOf i).toNat)
  case atStart => exact ⟨0, fun _ => 0, fun _ => 0, _, Nat.zero_le _, rfl, HS1.out, by simp, fun j hj => absurd hj (by omega), fun i j h1 h2 h3 => absurd h3 (by omega), fun i h1 h2 => absurd h2 (by omega), HK1.out, HZ1.out⟩
  case round =>
    clear HS1 HK1 HZ1
    obtain ⟨k, G, C, vs, hk, rfl, hs, hvl, hpast, hinc, htop, hkept, hsz⟩ := hrel
    have HS := Lib.hid hs
    have HVL := Lib.hid hvl
    have HPA := Lib.hid hpast
    have HINC := Lib.hid hinc
    have HTOP := Lib.hid htop
    have HK := Lib.hid hkept
    have HSZ := Lib.hid hsz
    clear hs hvl hpast hinc htop hsz
    by_cases hlt : k < n
    · obtain ⟨g, off, rfl, hbg, hg, hpc⟩ := HP3.out k hlt
      obtain ⟨x, y, q0, q1, q2, hx, hy⟩ := hpc.stay hg hkept
      have HLK := Lib.hid (HLP.out k hlt)
      have hka : Kept [] wr (wr.alloc (.cells #[x, .int .i64 (piAt ps k).c, y] 25)) := (Kept.refl [] wr).alloc _
      have HPK : Hid (Pv (wr.alloc (.cells #[x, .int .i64 (piAt ps k).c, y] 25)) base (.agg #[x, .int .i64 (piAt ps k).c, y]) (piAt ps k)) := Lib.hid ⟨x, y, rfl, hx.stay hka, hy.stay hka⟩
      have HKA := Lib.hid hka
      have HPE : Hid (∀ j, j = k → piAt ps j = piAt ps k) := Lib.hid (fun j e => by rw [e])
      obtain ⟨ax, cx, rfl, _, _, _⟩ := hx.any
      obtain ⟨ay, cy, rfl, _, _, _⟩ := hy.any
      clear hpc hx hy hkept hka
      generalize hpe : piAt ps k = p at *
      have HPQ := Lib.hid hpe
      clear hpe
      go_wp2_with fail
      generalize wr.alloc (.cells #[.slice ax p.ns.length cx, .int .i64 p.c, .slice ay p.ks.length cy] 25) = W5 at *
      refine (copiedPlace_any p HLK.out.1 HLK.out.2 _ _ _ HPK.out).mono ?_
      rintro e w2 ⟨g1, r1, g2, r2, rfl, hv, hu, hg12, hk2⟩
      have HV := Lib.hid hv
      have HU := Lib.hid hu
      have HG := Lib.hid (And.intro hg12 (And.intro (hv.block (g := g1) rfl) (hu.block (g := g2) rfl)))
      have HK2 := Lib.hid (HKA.out.trans hk2 (by simp))
      have HS2 := Lib.hid (HS.out.stay HK2.out)
      have HW5 : Hid (wr.heap.size ≤ W5.heap.size) := Lib.hid HKA.out.size
      have hz2 : w.heap.size < w2.heap.size := Nat.lt_of_lt_of_le HSZ.out HK2.out.size
      rcases HS2.out.form with ⟨hno, _⟩ | ⟨gg, cc, heq, _, _, _, _, hcell, hfr⟩
      · cases hno
      · simp only [Value.slice.injEq, Option.some.injEq, Addr.mk.injEq, and_true] at heq
        obtain ⟨rfl, hx1, hx2⟩ := heq
        clear hx1 hx2
        obtain ⟨s0, s1, s2⟩ := hcell k (by rw [HVL.out]; exact hlt)
        have t0 := hfr (k * 3)
        have t1 := hfr (k * 3 + 1)
        have t2 := hfr (k * 3 + 2)
        clear hcell hfr hv hu hg12 hk2 q0 q1 q2
        go_wp2
        go_roundw
        case rel =>
          have hks : Kept [w.heap.size] w2 (((w2.setCell ⟨w.heap.size, k * 3, none⟩ (.slice (some ⟨g1, 0, none⟩) p.ns.length r1)).setCell ⟨w.heap.size, k * 3 + 1, none⟩ (.int .i64 p.c)).setCell ⟨w.heap.size, k * 3 + 2, none⟩ (.slice (some ⟨g2, 0, none⟩) p.ks.length r2)) := (Kept.refl _ _).tri3 (.inl (by simp)) _ _ _ _ _ _
          have hG1 := HG.out.2.1
          have hG2 := HG.out.2.2
          have hG12 := HG.out.1
          have h5 := HW5.out
          have h6 := HSZ.out
          refine ⟨k + 1, put2 G k g1 g2, put2 C k r1 r2, vs.set k (.slice (some ⟨g1, 0, none⟩) p.ns.length r1, .int .i64 p.c, .slice (some ⟨g2, 0, none⟩) p.ks.length r2), by omega, by go_num, HS2.out.set3 HVL.out.symm k hlt _ _ _, by rw [List.length_set]; exact HVL.out, fun j hj => ?_, fun i j h1 h2 h3 => ?_, fun i h1 h2 => ?_, (HK.out.trans HK2.out (by simp)).tri3 (.inr (Nat.le_refl _)) _ _ _ _ _ _, Nat.lt_of_lt_of_le hz2 hks.size⟩
          · by_cases e : j = k
            · subst e
              unfold PastAt
              rw [at3_set _ _ _ _ (by rw [HVL.out]; exact hlt), if_pos rfl, put2_a, put2_b, put2_a, put2_b, HPQ.out]
              exact ⟨rfl, (HV.out.kept hks (fun g hg => by simp [Value.ownBlock] at hg; subst hg; simp; omega)).mono (by omega), (HU.out.kept hks (fun g hg => by simp [Value.ownBlock] at hg; subst hg; simp; omega)).mono (by omega)⟩
            · have hj' : j < k := by omega
              have h7 := (((HPA.out j hj').kept HK2.out (by simp)).kept hks (fun g hg _ => by simp; omega))
              exact h7.other (by rw [at3_set _ _ _ _ (by rw [HVL.out]; exact hlt), if_neg e]) (put2_o _ _ _ _ (by omega)) (put2_o _ _ _ _ (by omega)) (put2_o _ _ _ _ (by omega)) (put2_o _ _ _ _ (by omega))
          · by_cases e1 : j = 2 * k + 3
            · subst e1
              rw [put2_b]
              by_cases e2 : i = 2 * k + 2
              · subst e2; rw [put2_a]; exact hG12
              · rw [put2_o _ _ _ _ (by omega)]
                have := HTOP.out i h1 (by omega); omega
            · by_cases e2 : j = 2 * k + 2
              · subst e2
                rw [put2_a, put2_o _ _ _ _ (by omega)]
                have := HTOP.out i h1 (by omega); omega
              · rw [put2_o _ _ _ _ (by omega), put2_o _ _ _ _ (by omega)]
                exact HINC.out i j h1 h2 (by omega)
          · have hz := hks.size
            by_cases e1 : i = 2 * k + 3
            · subst e1; rw [put2_b]; omega
            · by_cases e2 : i = 2 * k + 2
              · subst e2; rw [put2_a]; omega
              · rw [put2_o _ _ _ _ (by omega)]
                have h8 := HTOP.out i h1 (by omega)
                have h9 := HK2.out.size
                omega
        case measure => simp [intOf]; omega
    · have hk' : k = n := by omega
      subst hk'
      clear hkept
      go_wp2
      go_ret
      exact ⟨G, C, vs, rfl, HS.out, HVL.out, HPA.out, HINC.out, HK.out⟩
end Go.Proofs.Ytofgfhfdmkcmcaa
