/-
  Walks: rows of places of exact laws: copied, compared, marked, looked over.
-/
import Derived.Test.YtofgfhfdmkcmcaaE4
import Derived.Test.YtofgfhfdmkcmcaaIP8
namespace Go.Proofs.Ytofgfhfdmkcmcaa
open Go.RowKit

theorem tri_set1 : ∀ (xs : List (Value × Value × Value)) (k : Nat) (b : Value), k < xs.length → (tri xs).set (k * 3 + 1) b = tri (xs.set k ((at3 xs k).1, b, (at3 xs k).2.2))
  | [], _, _, h => absurd h (by simp)
  | x :: xs, 0, b, _ => rfl
  | x :: xs, k + 1, b, h => by
    have ih := tri_set1 xs k b (by simpa using h)
    have e : ∀ (y : Value × Value × Value) (ys : List (Value × Value × Value)), tri (y :: ys) = y.1 :: y.2.1 :: y.2.2 :: tri ys := fun _ _ => rfl
    have e3 : at3 (x :: xs) (k + 1) = at3 xs k := by simp [at3]
    rw [e, show (k + 1) * 3 + 1 = (k * 3 + 1) + 1 + 1 + 1 by omega, e3]
    simp only [List.set_cons_succ]
    rw [ih, e]
theorem Tg.set1 {T : TypeId} {w : World} {base g cap n : Nat} {xs : List (Value × Value × Value)} (h : Tg T w base (.slice (some ⟨g, 0, none⟩) n cap) xs) (hn : n = xs.length) (k : Nat) (hk : k < n) (b : Value) :
    Tg T (w.setCell ⟨g, k * 3 + 1, none⟩ b) base (.slice (some ⟨g, 0, none⟩) n cap) (xs.set k ((at3 xs k).1, b, (at3 xs k).2.2)) := by
  subst hn
  have h1 := (World.ownsRow.stored h (k * 3 + 1) b).1
  unfold Tg
  rw [tri_set1 xs k b hk] at h1
  rw [List.length_set]
  exact h1

/-- A slice of places that came in from outside. -/
def ArgPs (w : World) (v : Value) (ps : List Nt.Pi) : Prop :=
  ∃ (a : Option Addr) (cap : Nat), v = .slice a ps.length cap ∧ ps.length ≤ 9223372036854775807 ∧
    ∀ k, k < ps.length → ∃ b off, a = some ⟨b, off, none⟩ ∧ b < w.heap.size ∧ ∃ x y, w.cell? ⟨b, off + k * 3, none⟩ = some x ∧ w.cell? ⟨b, off + k * 3 + 1, none⟩ = some (.int .i64 (piAt ps k).c) ∧ w.cell? ⟨b, off + k * 3 + 2, none⟩ = some y ∧ Arg w x (piAt ps k).ns ∧ Arg w y (piAt ps k).ks
theorem ArgPs.stay {w w' : World} {v : Value} {ps : List Nt.Pi} (h : ArgPs w v ps) (hk : Kept [] w w') : ArgPs w' v ps := by
  obtain ⟨a, cap, rfl, hm, h⟩ := h
  refine ⟨a, cap, rfl, hm, fun k hkl => ?_⟩
  obtain ⟨b, off, e, hb, x, y, c0, c1, c2, hx, hy⟩ := h k hkl
  exact ⟨b, off, e, Nat.lt_of_lt_of_le hb hk.size, x, y, (hk.cell (p := ⟨b, off + k * 3, none⟩) hb (by simp)).trans c0, (hk.cell (p := ⟨b, off + k * 3 + 1, none⟩) hb (by simp)).trans c1, (hk.cell (p := ⟨b, off + k * 3 + 2, none⟩) hb (by simp)).trans c2, hx.stay hk, hy.stay hk⟩
/-- A desk that came in from outside. -/
def ArgDk (w : World) (x : Value) (d : Nt.Di) : Prop := ∃ v u r, x = .agg #[v, .int .i64 d.now.c, u, r] ∧ Arg w v d.now.ns ∧ Arg w u d.now.ks ∧ ArgPs w r d.past
theorem ArgDk.stay {w w' : World} {x : Value} {d : Nt.Di} (h : ArgDk w x d) (hk : Kept [] w w') : ArgDk w' x d := by
  obtain ⟨v, u, r, rfl, h1, h2, h3⟩ := h
  exact ⟨v, u, r, rfl, h1.stay hk, h2.stay hk, h3.stay hk⟩

def plLen (p : Nt.Pi) : Nat := p.ns.length + p.ks.length
def psLen (ps : List Nt.Pi) : Nat → Nat
  | 0 => 0
  | k + 1 => psLen ps k + plLen (piAt ps k)
theorem psLen_le (ps : List Nt.Pi) {j k : Nat} (h : j ≤ k) : psLen ps j ≤ psLen ps k := by
  induction k with
  | zero => rw [show j = 0 by omega]; exact Nat.le_refl _
  | succ k ih =>
    by_cases e : j = k + 1
    · rw [e]; exact Nat.le_refl _
    · have := ih (by omega)
      show psLen ps j ≤ psLen ps k + plLen (piAt ps k)
      omega
theorem psLen_one (ps : List Nt.Pi) {j k : Nat} (h : j < k) : psLen ps j + plLen (piAt ps j) ≤ psLen ps k := psLen_le ps (show j + 1 ≤ k from h)

set_option maxHeartbeats 4000000 in
set_option maxRecDepth 100000 in
theorem szPlaceS_any (ps : List Nt.Pi) (left : Int) (h0 : 0 ≤ left) (h1 : left ≤ 1048576) (w : World) (v : Value) (h : ArgPs w v ps) :
    Calls Try.prog 73 #[v, .int .i64 left] w fun e w' => (∃ r : Int, e = .returned (.int .i64 r) ∧ Hid (r = -1 ∨ (0 ≤ r ∧ r = left - (ps.length : Int) - (psLen ps ps.length : Int)))) ∧ Kept [] w w' := by
  obtain ⟨a, cap, rfl, hm, hc⟩ := h
  have HC := Lib.hid hc
  have HM := Lib.hid hm
  have HL := Lib.hid (And.intro h0 h1)
  obtain ⟨n, hn⟩ : ∃ n, n = ps.length := ⟨_, rfl⟩
  rw [← hn] at HC HM hm ⊢
  have s1 : IntKind.i64.wrap (left - (n : Int)) = left - (n : Int) := IntWalk.i64_in _ (by omega)
  by_cases hneg : left - (n : Int) < 0
  · have hd : decide (left - (n : Int) < 0) = true := dec_of hneg
    clear h0 h1 hc hneg hn
    go_enter Try.func73, Try.ntmps73
    go_wp2
    go_ret
    exact ⟨⟨_, rfl, Lib.hid (.inl rfl)⟩, Kept.refl _ _⟩
  · have hd : decide (left - (n : Int) < 0) = false := dec_not hneg
    have HP := Lib.hid hneg
    clear h0 h1 hc hneg hn
    go_enter Try.func73, Try.ntmps73
    go_wp2_with fail
    go_loopw [1, 5] (fun q i wr => ∃ (k : Nat) (r : Int), k ≤ n ∧ i = .int .i64 k ∧ q = .int .i64 r ∧ Hid (0 ≤ r ∧ r = left - (n : Int) - (psLen ps k : Int)) ∧ Kept [] w wr) (fun _ i _ => n - (intOf i).toNat)
    case atStart => exact ⟨0, _, Nat.zero_le _, rfl, rfl, Lib.hid ⟨by have := HP.out; omega, by simp [psLen]⟩, Kept.refl _ _⟩
    case round =>
      obtain ⟨k, r, hk, rfl, rfl, hr, hkept⟩ := hrel
      have HK := Lib.hid hkept
      by_cases hlt : k < n
      · obtain ⟨b, off, rfl, hb, x, y, c0, c1, c2, hx, hy⟩ := HC.out k hlt
        have p0 := (hkept.cell (p := ⟨b, off + k * 3, none⟩) hb (by simp)).trans c0
        have p1 := (hkept.cell (p := ⟨b, off + k * 3 + 1, none⟩) hb (by simp)).trans c1
        have p2 := (hkept.cell (p := ⟨b, off + k * 3 + 2, none⟩) hb (by simp)).trans c2
        have HA : Hid (ArgPl wr (.agg #[x, .int .i64 (piAt ps k).c, y]) (piAt ps k)) := Lib.hid ⟨x, y, rfl, hx.stay hkept, hy.stay hkept⟩
        obtain ⟨ax, cx, rfl, _, _⟩ := hx
        obtain ⟨ay, cy, rfl, _, _⟩ := hy
        clear c0 c1 c2 hkept
        have HS : Hid (psLen ps (k + 1) = psLen ps k + ((piAt ps k).ns.length + (piAt ps k).ks.length)) := Lib.hid rfl
        generalize piAt ps k = p at *
        go_wp2_with fail
        refine (szPlace_any p r hr.out.1 (by have := hr.out; have := HL.out; omega) _ _ HA.out).mono ?_
        rintro e w1 ⟨⟨r2, rfl, hr2⟩, hk2⟩
        have HK2 := Lib.hid (HK.out.trans hk2 (by simp))
        clear hk2 p0 p1 p2
        by_cases hn2 : r2 < 0
        · have hd2 : decide (r2 < 0) = true := dec_of hn2
          clear hn2
          go_wp2
          go_ret
          exact ⟨⟨_, rfl, Lib.hid (.inl rfl)⟩, HK2.out⟩
        · have hd2 : decide (r2 < 0) = false := dec_not hn2
          have HN2 := Lib.hid hn2
          clear hn2
          go_wp2
          go_roundw
          case rel => exact ⟨k + 1, r2, by omega, by go_num, rfl, Lib.hid (by have h1 := hr.out; have h2 := hr2.out; have h3 := HN2.out; have h4 := HS.out; rw [h4]; omega), HK2.out⟩
          case measure => simp [intOf]; omega
      · have hk' : k = n := by omega
        subst hk'
        clear hkept
        go_wp2
        go_ret
        exact ⟨⟨_, rfl, Lib.hid (.inr hr.out)⟩, HK.out⟩

set_option maxHeartbeats 2000000 in
set_option maxRecDepth 100000 in
theorem szDesk_any (d : Nt.Di) (w : World) (x : Value) (h : ArgDk w x d) :
    Calls Try.prog 36 #[x, .int .i64 1048576] w fun e w' => (∃ r : Int, e = .returned (.int .i64 r) ∧ Hid (r = -1 ∨ (0 ≤ r ∧ r = 1048576 - (plLen d.now : Int) - (d.past.length : Int) - (psLen d.past d.past.length : Int)))) ∧ Kept [] w w' := by
  obtain ⟨v, u, r3, rfl, h1, h2, h3⟩ := h
  have hk0 : Kept [] w (w.alloc (.cells #[v, .int .i64 d.now.c, u, r3] 57)) := (Kept.refl [] w).alloc _
  have HB := Lib.hid (Bk.new w 57 #[v, .int .i64 d.now.c, u, r3])
  have HA : Hid (ArgPl (w.alloc (.cells #[v, .int .i64 d.now.c, u, r3] 57)) (.agg #[v, .int .i64 d.now.c, u]) d.now) := Lib.hid ⟨v, u, rfl, h1.stay hk0, h2.stay hk0⟩
  have H3 := Lib.hid (h3.stay hk0)
  have HK0 := Lib.hid hk0
  obtain ⟨a, cap, rfl, _, _⟩ := h1
  obtain ⟨b, cap2, rfl, _, _⟩ := h2
  obtain ⟨a3, cap3, rfl, _, _⟩ := h3
  obtain ⟨c0, c1, c2, c3⟩ := HB.out.four
  clear hk0
  go_enter Try.func36, Try.ntmps36
  go_wp2_with fail
  generalize w.alloc (.cells #[.slice a d.now.ns.length cap, .int .i64 d.now.c, .slice b d.now.ks.length cap2, .slice a3 d.past.length cap3] 57) = W0 at *
  refine (szPlace_any d.now 1048576 (by omega) (by omega) _ _ HA.out).mono ?_
  rintro e w1 ⟨⟨r, rfl, hr⟩, hk1⟩
  have HK1 := Lib.hid hk1
  clear c0 c1 c2 c3
  obtain ⟨c0, c1, c2, c3⟩ := (HB.out.stay hk1).four
  clear hk1
  by_cases hn : r < 0
  · have hd : decide (r < 0) = true := dec_of hn
    clear hn
    go_wp2
    go_ret
    exact ⟨⟨_, rfl, Lib.hid (.inl rfl)⟩, HK0.out.trans HK1.out (by simp)⟩
  · have hd : decide (r < 0) = false := dec_not hn
    have HR : Hid (0 ≤ r ∧ r = 1048576 - (plLen d.now : Int)) := Lib.hid (by have h := hr.out.resolve_left (by omega); unfold plLen; omega)
    clear hn hr
    go_wp2_with fail
    refine (szPlaceS_any d.past r HR.out.1 (by have := HR.out; omega) _ _ (H3.out.stay HK1.out)).mono ?_
    rintro e w2 ⟨⟨r2, rfl, hr2⟩, hk2⟩
    have HK2 := Lib.hid ((HK0.out.trans HK1.out (by simp)).trans hk2 (by simp))
    clear hk2 c0 c1 c2 c3
    by_cases hn : r2 < 0
    · have hd2 : decide (r2 < 0) = true := dec_of hn
      clear hn
      go_wp2
      go_ret
      exact ⟨⟨_, rfl, Lib.hid (.inl rfl)⟩, HK2.out⟩
    · have hd2 : decide (r2 < 0) = false := dec_not hn
      have HN := Lib.hid hn
      clear hn
      go_wp2
      go_ret
      exact ⟨⟨_, rfl, Lib.hid (.inr (by have h1 := hr2.out; have h2 := HR.out; have h3 := HN.out; omega))⟩, HK2.out⟩

set_option maxHeartbeats 4000000 in
set_option maxRecDepth 100000 in
theorem toPlaceS_any (ps : List Nt.Pi) (hps : ∀ k, k < ps.length → (piAt ps k).ns.length ≤ 1048576 ∧ (piAt ps k).ks.length ≤ 1048576) (h1000 : ps.length ≤ 1048576) (w : World) (v : Value) (h : ArgPs w v ps) :
    Calls Try.prog 74 #[v] w fun e w' => ∃ (G C : Nat → Nat) (vs : List (Value × Value × Value)),
      e = .returned (.slice (some ⟨w.heap.size, 0, none⟩) ps.length ps.length) ∧ Tg 25 w' w.heap.size (.slice (some ⟨w.heap.size, 0, none⟩) ps.length ps.length) vs ∧ vs.length = ps.length ∧
      (∀ k, k < ps.length → PastAt w' (w.heap.size + 1) G C vs ps k) ∧ (∀ i j, 2 ≤ i → i < j → j < 2 * ps.length + 2 → G i < G j) ∧ Kept [] w w' := by
  have HLP := Lib.hid hps
  obtain ⟨a3, cap3, rfl, _, hp3⟩ := h
  have HP3 := Lib.hid hp3
  obtain ⟨n, hn⟩ : ∃ n, n = ps.length := ⟨_, rfl⟩
  rw [← hn] at HP3 HLP h1000 ⊢
  clear hps hp3 hn
  go_enter Try.func74, Try.ntmps74
  go_wp2_with (at_make; refine make_tri 25 30 (.slice none 0 0) (.int .i64 0) (.slice none 0 0) 56 Try.underlying30 info_place (by omega) rfl w n rfl _ _ rfl rfl rfl (by omega) ?_; intro w1 hs1 hk1 hsz1; have HS1 := Lib.hid hs1; have HK1 := Lib.hid hk1; have HZ1 := Lib.hid hsz1; clear hs1 hk1 hsz1)
  go_wp2_with fail
  go_loopw [4] (fun i wr => ∃ (k : Nat) (G C : Nat → Nat) (vs : List (Value × Value × Value)), k ≤ n ∧ i = .int .i64 k ∧ Tg 25 wr w.heap.size (.slice (some ⟨w.heap.size, 0, none⟩) n n) vs ∧ vs.length = n ∧
    (∀ j, j < k → PastAt wr (w.heap.size + 1) G C vs ps j) ∧ (∀ i j, 2 ≤ i → i < j → j < 2 * k + 2 → G i < G j) ∧ (∀ i, 2 ≤ i → i < 2 * k + 2 → G i < wr.heap.size) ∧ Kept [] w wr ∧ w.heap.size < wr.heap.size) (fun i _ => n - (intOf i).toNat)
  case atStart => exact ⟨0, fun _ => 0, fun _ => 0, _, Nat.zero_le _, rfl, HS1.out, by simp, fun j hj => absurd hj (by omega), fun i j h1 h2 h3 => absurd h3 (by omega), fun i h1 h2 => absurd h2 (by omega), HK1.out, HZ1.out⟩
  case round =>
    clear HS1 HK1 HZ1
    obtain ⟨k, G, C, vs, hk, rfl, hs, hvl, hpast, hinc, htop, hkept, hsz⟩ := hrel
    have HS := Lib.hid hs
    have HVL := Lib.hid hvl
    have HPA := Lib.hid hpast
    have HINC := Lib.hid hinc
    have HTOP := Lib.hid htop
    have HK := Lib.hid hkept
    have HSZ := Lib.hid hsz
    clear hs hvl hpast hinc htop hsz
    by_cases hlt : k < n
    · obtain ⟨b, off, rfl, hb, x, y, c0, c1, c2, hx, hy⟩ := HP3.out k hlt
      have q0 := (hkept.cell (p := ⟨b, off + k * 3, none⟩) hb (by simp)).trans c0
      have q1 := (hkept.cell (p := ⟨b, off + k * 3 + 1, none⟩) hb (by simp)).trans c1
      have q2 := (hkept.cell (p := ⟨b, off + k * 3 + 2, none⟩) hb (by simp)).trans c2
      have HPK : Hid (ArgPl wr (.agg #[x, .int .i64 (piAt ps k).c, y]) (piAt ps k)) := Lib.hid ⟨x, y, rfl, hx.stay hkept, hy.stay hkept⟩
      have HLK := Lib.hid (HLP.out k hlt)
      have HPE : Hid (∀ j, j = k → piAt ps j = piAt ps k) := Lib.hid (fun j e => by rw [e])
      obtain ⟨ax, cx, rfl, _, _⟩ := hx
      obtain ⟨ay, cy, rfl, _, _⟩ := hy
      clear c0 c1 c2 hkept
      generalize hpe : piAt ps k = p at *
      have HPQ := Lib.hid hpe
      clear hpe
      go_wp2_with fail
      refine (toPlace_any p HLK.out.1 HLK.out.2 _ _ HPK.out).mono ?_
      rintro e w2 ⟨yv, g1, r1, g2, r2, rfl, ⟨rfl, hv, hu, hg12⟩, hk2⟩
      have HV := Lib.hid hv
      have HU := Lib.hid hu
      have HG := Lib.hid (And.intro hg12 (And.intro (hv.block (g := g1) rfl) (hu.block (g := g2) rfl)))
      have HK2 := Lib.hid hk2
      have HS2 := Lib.hid (HS.out.stay HK2.out)
      have hz2 : w.heap.size < w2.heap.size := Nat.lt_of_lt_of_le HSZ.out HK2.out.size
      rcases HS2.out.form with ⟨hno, _⟩ | ⟨gg, cc, heq, _, _, _, _, hcell, hfr⟩
      · cases hno
      · simp only [Value.slice.injEq, Option.some.injEq, Addr.mk.injEq, and_true] at heq
        obtain ⟨rfl, hx1, hx2⟩ := heq
        clear hx1 hx2
        obtain ⟨s0, s1, s2⟩ := hcell k (by rw [HVL.out]; exact hlt)
        have t0 := hfr (k * 3)
        have t1 := hfr (k * 3 + 1)
        have t2 := hfr (k * 3 + 2)
        clear hcell hfr hv hu hg12 hk2 q0 q1 q2
        go_wp2
        go_roundw
        case rel =>
          have hks : Kept [w.heap.size] w2 (((w2.setCell ⟨w.heap.size, k * 3, none⟩ (.slice (some ⟨g1, 0, none⟩) p.ns.length r1)).setCell ⟨w.heap.size, k * 3 + 1, none⟩ (.int .i64 p.c)).setCell ⟨w.heap.size, k * 3 + 2, none⟩ (.slice (some ⟨g2, 0, none⟩) p.ks.length r2)) := (Kept.refl _ _).tri3 (.inl (by simp)) _ _ _ _ _ _
          have hG1 := HG.out.2.1
          have hG2 := HG.out.2.2
          have hG12 := HG.out.1
          have h6 := HSZ.out
          refine ⟨k + 1, put2 G k g1 g2, put2 C k r1 r2, vs.set k (.slice (some ⟨g1, 0, none⟩) p.ns.length r1, .int .i64 p.c, .slice (some ⟨g2, 0, none⟩) p.ks.length r2), by omega, by go_num, HS2.out.set3 HVL.out.symm k hlt _ _ _, by rw [List.length_set]; exact HVL.out, fun j hj => ?_, fun i j h1 h2 h3 => ?_, fun i h1 h2 => ?_, (HK.out.trans HK2.out (by simp)).tri3 (.inr (Nat.le_refl _)) _ _ _ _ _ _, Nat.lt_of_lt_of_le hz2 hks.size⟩
          · by_cases e : j = k
            · subst e
              unfold PastAt
              rw [at3_set _ _ _ _ (by rw [HVL.out]; exact hlt), if_pos rfl, put2_a, put2_b, put2_a, put2_b, HPQ.out]
              exact ⟨rfl, (HV.out.kept hks (fun g hg => by simp [Value.ownBlock] at hg; subst hg; simp; omega)).mono (by omega), (HU.out.kept hks (fun g hg => by simp [Value.ownBlock] at hg; subst hg; simp; omega)).mono (by omega)⟩
            · have hj' : j < k := by omega
              have h7 := (((HPA.out j hj').kept HK2.out (by simp)).kept hks (fun g hg _ => by simp; omega))
              exact h7.other (by rw [at3_set _ _ _ _ (by rw [HVL.out]; exact hlt), if_neg e]) (put2_o _ _ _ _ (by omega)) (put2_o _ _ _ _ (by omega)) (put2_o _ _ _ _ (by omega)) (put2_o _ _ _ _ (by omega))
          · by_cases e1 : j = 2 * k + 3
            · subst e1
              rw [put2_b]
              by_cases e2 : i = 2 * k + 2
              · subst e2; rw [put2_a]; exact hG12
              · rw [put2_o _ _ _ _ (by omega)]
                have := HTOP.out i h1 (by omega); omega
            · by_cases e2 : j = 2 * k + 2
              · subst e2
                rw [put2_a, put2_o _ _ _ _ (by omega)]
                have := HTOP.out i h1 (by omega); omega
              · rw [put2_o _ _ _ _ (by omega), put2_o _ _ _ _ (by omega)]
                exact HINC.out i j h1 h2 (by omega)
          · have hz := hks.size
            by_cases e1 : i = 2 * k + 3
            · subst e1; rw [put2_b]; omega
            · by_cases e2 : i = 2 * k + 2
              · subst e2; rw [put2_a]; omega
              · rw [put2_o _ _ _ _ (by omega)]
                have h8 := HTOP.out i h1 (by omega)
                have h9 := HK2.out.size
                omega
        case measure => simp [intOf]; omega
    · have hk' : k = n := by omega
      subst hk'
      clear hkept
      go_wp2
      go_ret
      exact ⟨G, C, vs, rfl, HS.out, HVL.out, HPA.out, HINC.out, HK.out⟩

/-- A row of places whose parts lie apart. -/
structure Rw (w : World) (base : Nat) (r : Value) (vs : List (Value × Value × Value)) (ps : List Nt.Pi) (G C : Nat → Nat) : Prop where
  row : Tg 25 w base r vs
  len : vs.length = ps.length
  past : ∀ k, k < ps.length → PastAt w base G C vs ps k
  inc : ∀ i j, 2 ≤ i → i < j → j < 2 * ps.length + 2 → G i < G j
theorem Rw.stay {w w' : World} {base : Nat} {r : Value} {vs : List (Value × Value × Value)} {ps : List Nt.Pi} {G C : Nat → Nat} (h : Rw w base r vs ps G C) (hk : Kept [] w w') : Rw w' base r vs ps G C :=
  ⟨h.row.stay hk, h.len, fun k hk2 => (h.past k hk2).kept hk (by simp), h.inc⟩
theorem Rw.kept {w w' : World} {base : Nat} {r : Value} {vs : List (Value × Value × Value)} {ps : List Nt.Pi} {G C : Nat → Nat} {rows : List Nat} (h : Rw w base r vs ps G C) (hk : Kept rows w w') (hr : ∀ g, r.ownBlock = some g → ¬ g ∈ rows) (hn : ∀ i, 2 ≤ i → i < 2 * ps.length + 2 → ¬ G i ∈ rows) : Rw w' base r vs ps G C :=
  ⟨h.row.kept hk hr, h.len, fun k hk2 => ⟨(h.past k hk2).1, (h.past k hk2).2.1.kept hk (fun g hg => by simp [Value.ownBlock] at hg; subst hg; exact hn _ (by omega) (by omega)), (h.past k hk2).2.2.kept hk (fun g hg => by simp [Value.ownBlock] at hg; subst hg; exact hn _ (by omega) (by omega))⟩, h.inc⟩
theorem Rw.off {w : World} {base g n cap : Nat} {vs : List (Value × Value × Value)} {ps : List Nt.Pi} {G C : Nat → Nat} (h : Rw w base (.slice (some ⟨g, 0, none⟩) n cap) vs ps G C) {i : Nat} (h2 : 2 ≤ i) (hi : i < 2 * ps.length + 2) : G i ≠ g := by
  by_cases e : i % 2 = 0
  · obtain ⟨k, rfl⟩ : ∃ k, i = 2 * k + 2 := ⟨i / 2 - 1, by omega⟩
    have := sl_tg (h.past k (by omega)).2.1 h.row (G (2 * k + 2)) rfl
    simpa [Value.ownBlock] using this
  · obtain ⟨k, rfl⟩ : ∃ k, i = 2 * k + 3 := ⟨i / 2 - 1, by omega⟩
    have := sl_tg (h.past k (by omega)).2.2 h.row (G (2 * k + 3)) rfl
    simpa [Value.ownBlock] using this
theorem Rw.ne {w : World} {base : Nat} {r : Value} {vs : List (Value × Value × Value)} {ps : List Nt.Pi} {G C : Nat → Nat} (h : Rw w base r vs ps G C) {i j : Nat} (hi2 : 2 ≤ i) (hj2 : 2 ≤ j) (hi : i < 2 * ps.length + 2) (hj : j < 2 * ps.length + 2) (e : i ≠ j) : G i ≠ G j := by
  rcases Nat.lt_or_gt_of_ne e with h1 | h1
  · have := h.inc i j hi2 h1 hj; omega
  · have := h.inc j i hj2 h1 hi; omega
theorem piAt_set (ps : List Nt.Pi) (k j : Nat) (p : Nt.Pi) (h : k < ps.length) : piAt (ps.set k p) j = if j = k then p else piAt ps j := by
  unfold piAt
  rw [List.getD_eq_getElem?_getD, List.getElem?_set]
  by_cases e : k = j
  · subst e; rw [if_pos rfl, if_pos rfl, if_pos h]; rfl
  · rw [if_neg e, if_neg (fun h => e h.symm), List.getD_eq_getElem?_getD]
theorem Rw.nlen {w : World} {base n cap : Nat} {a : Option Addr} {vs : List (Value × Value × Value)} {ps : List Nt.Pi} {G C : Nat → Nat} (h : Rw w base (.slice a n cap) vs ps G C) : n = vs.length := by
  obtain ⟨a', cap', e⟩ := h.row.any
  simp only [Value.slice.injEq] at e
  exact e.2.1
/-- A place of a row written over, part by part. -/
theorem Rw.put {w w1 w3 : World} {base g n cap : Nat} {vs : List (Value × Value × Value)} {ps : List Nt.Pi} {G C : Nat → Nat} (h : Rw w base (.slice (some ⟨g, 0, none⟩) n cap) vs ps G C) {k : Nat} (hk : k < ps.length) {p' : Nt.Pi}
    (hn : p'.ns.length = (piAt ps k).ns.length) (hs : p'.ks.length = (piAt ps k).ks.length)
    (k1 : Kept [G (2 * k + 2)] w w1) (s1 : Sl w1 base (.slice (some ⟨G (2 * k + 2), 0, none⟩) (piAt ps k).ns.length (C (2 * k + 2))) p'.ns)
    (k3 : Kept [G (2 * k + 3)] (w1.setCell ⟨g, k * 3 + 1, none⟩ (.int .i64 p'.c)) w3)
    (s3 : Sl w3 base (.slice (some ⟨G (2 * k + 3), 0, none⟩) (piAt ps k).ks.length (C (2 * k + 3))) p'.ks) :
    Rw w3 base (.slice (some ⟨g, 0, none⟩) n cap) (vs.set k (.slice (some ⟨G (2 * k + 2), 0, none⟩) p'.ns.length (C (2 * k + 2)), .int .i64 p'.c, .slice (some ⟨G (2 * k + 3), 0, none⟩) p'.ks.length (C (2 * k + 3)))) (ps.set k p') G C := by
  have hv := h.len
  have hnl := h.nlen
  have k2 : Kept [g] w1 (w1.setCell ⟨g, k * 3 + 1, none⟩ (.int .i64 p'.c)) := (Kept.refl _ _).setCell (.inl (by simp)) _
  have og : ∀ i, 2 ≤ i → i < 2 * ps.length + 2 → G i ≠ g := fun i a b => h.off a b
  have ne := fun i j a b c d e => h.ne (i := i) (j := j) a b c d e
  have o1 := og (2 * k + 2) (by omega) (by omega)
  have o2 := og (2 * k + 3) (by omega) (by omega)
  have r1 := h.row.kept k1 (fun g' hg => by simp [Value.ownBlock] at hg; subst hg; simp; omega)
  have r2 := r1.set1 hnl k (by omega) (.int .i64 p'.c)
  have r3 := r2.kept k3 (fun g' hg => by simp [Value.ownBlock] at hg; subst hg; simp; omega)
  have hat := (h.past k hk).1
  rw [hat] at r3
  refine ⟨by rw [hn, hs]; exact r3, by simp [hv], fun j hj => ?_, by simpa using h.inc⟩
  rw [List.length_set] at hj
  have n23 := ne (2 * k + 2) (2 * k + 3) (by omega) (by omega) (by omega) (by omega) (by omega)
  by_cases e : j = k
  · subst e
    unfold PastAt
    rw [at3_set _ _ _ _ (by omega), if_pos rfl, piAt_set _ _ _ _ hk, if_pos rfl]
    refine ⟨rfl, ?_, by rw [hs]; exact s3⟩
    rw [hn]
    exact (s1.kept k2 (fun q hq => by simp [Value.ownBlock] at hq; subst hq; simp; omega)).kept k3 (fun q hq => by simp [Value.ownBlock] at hq; subst hq; simp; omega)
  · unfold PastAt
    rw [at3_set _ _ _ _ (by omega), if_neg e, piAt_set _ _ _ _ hk, if_neg e]
    obtain ⟨a, b, c⟩ := h.past j hj
    have p1 := og (2 * j + 2) (by omega) (by omega)
    have p2 := og (2 * j + 3) (by omega) (by omega)
    have n1 := ne (2 * j + 2) (2 * k + 2) (by omega) (by omega) (by omega) (by omega) (by omega)
    have n2 := ne (2 * j + 2) (2 * k + 3) (by omega) (by omega) (by omega) (by omega) (by omega)
    have n3 := ne (2 * j + 3) (2 * k + 2) (by omega) (by omega) (by omega) (by omega) (by omega)
    have n4 := ne (2 * j + 3) (2 * k + 3) (by omega) (by omega) (by omega) (by omega) (by omega)
    exact ⟨a, ((b.kept k1 (fun q hq => by simp [Value.ownBlock] at hq; subst hq; simp; omega)).kept k2 (fun q hq => by simp [Value.ownBlock] at hq; subst hq; simp; omega)).kept k3 (fun q hq => by simp [Value.ownBlock] at hq; subst hq; simp; omega),
      ((c.kept k1 (fun q hq => by simp [Value.ownBlock] at hq; subst hq; simp; omega)).kept k2 (fun q hq => by simp [Value.ownBlock] at hq; subst hq; simp; omega)).kept k3 (fun q hq => by simp [Value.ownBlock] at hq; subst hq; simp; omega)⟩

def mkPi (p : Nt.Pi) (m : Int) : Nt.Pi := ⟨marks m p.ns.length, m + (p.ns.length : Nat), marks (m + (p.ns.length : Nat) + 1) p.ks.length⟩
def mkTo (ps : List Nt.Pi) (m : Int) : Nat → List Nt.Pi
  | 0 => ps
  | k + 1 => (mkTo ps m k).set k (mkPi (piAt ps k) (m + (k : Nat) + (psLen ps k : Nat)))
theorem mkTo_length (ps : List Nt.Pi) (m : Int) (k : Nat) : (mkTo ps m k).length = ps.length := by
  induction k with
  | zero => rfl
  | succ k ih => show ((mkTo ps m k).set k _).length = _; rw [List.length_set, ih]
theorem mkTo_at (ps : List Nt.Pi) (m : Int) (k j : Nat) (hk : k ≤ ps.length) : piAt (mkTo ps m k) j = if j < k then mkPi (piAt ps j) (m + (j : Nat) + (psLen ps j : Nat)) else piAt ps j := by
  induction k with
  | zero => rfl
  | succ k ih =>
    show piAt ((mkTo ps m k).set k _) j = _
    rw [piAt_set _ _ _ _ (by rw [mkTo_length]; omega)]
    by_cases e : j = k
    · subst e; rw [if_pos rfl, if_pos (by omega)]
    · rw [if_neg e, ih (by omega)]
      by_cases e2 : j < k
      · rw [if_pos e2, if_pos (by omega)]
      · rw [if_neg e2, if_neg (by omega)]
/-- The blocks of a row of places. -/
def rwRows (g n : Nat) (G : Nat → Nat) : List Nat := g :: (List.range (2 * n)).map fun i => G (i + 2)
theorem rwRows_g (g n : Nat) (G : Nat → Nat) : g ∈ rwRows g n G := by simp [rwRows]
theorem rwRows_i (g n : Nat) (G : Nat → Nat) {i : Nat} (h2 : 2 ≤ i) (hi : i < 2 * n + 2) : G i ∈ rwRows g n G := by
  simp only [rwRows, List.mem_cons, List.mem_map, List.mem_range]
  exact .inr ⟨i - 2, by omega, by rw [show i - 2 + 2 = i by omega]⟩
theorem rwRows_of {g n : Nat} {G : Nat → Nat} {q : Nat} (h : q ∈ rwRows g n G) : q = g ∨ ∃ i, 2 ≤ i ∧ i < 2 * n + 2 ∧ q = G i := by
  simp only [rwRows, List.mem_cons, List.mem_map, List.mem_range] at h
  rcases h with rfl | ⟨i, hi, rfl⟩
  · exact .inl rfl
  · exact .inr ⟨i + 2, by omega, by omega, rfl⟩

set_option maxHeartbeats 4000000 in
set_option maxRecDepth 100000 in
theorem markPlaceS_any (m : Int) (h0 : 0 ≤ m) (ps : List Nt.Pi) (hT : m + (ps.length : Nat) + (psLen ps ps.length : Nat) ≤ 2000000) (w : World) (base g cap : Nat) (vs : List (Value × Value × Value)) (G C : Nat → Nat) (h : Rw w base (.slice (some ⟨g, 0, none⟩) ps.length cap) vs ps G C) :
    Calls Try.prog 77 #[.slice (some ⟨g, 0, none⟩) ps.length cap, .int .i64 m] w fun e w' => e = .returned (.int .i64 (m + (ps.length : Nat) + (psLen ps ps.length : Nat))) ∧ (∃ vs', Rw w' base (.slice (some ⟨g, 0, none⟩) ps.length cap) vs' (mkTo ps m ps.length) G C) ∧ Kept (rwRows g ps.length G) w w' := by
  have HR := Lib.hid h
  have HT := Lib.hid hT
  have H0 := Lib.hid h0
  have HONE := Lib.hid (fun k (hk : k < ps.length) => psLen_one ps hk)
  have HAT := Lib.hid (fun k (hk : k < ps.length) => (mkTo_at ps m k k (by omega)).trans (if_neg (by omega)))
  have HLE := Lib.hid (fun k => mkTo_length ps m k)
  obtain ⟨n, hn⟩ : ∃ n, n = ps.length := ⟨_, rfl⟩
  rw [← hn] at HR HT HONE HAT HLE ⊢
  have hn2 : n ≤ 2000000 := by omega
  clear h0 hT h hn
  go_enter Try.func77, Try.ntmps77
  go_wp2_with fail
  go_loopw [1, 5] (fun q i wr => ∃ (k : Nat) (vs' : List (Value × Value × Value)), k ≤ n ∧ i = .int .i64 k ∧ q = .int .i64 (m + (k : Nat) + (psLen ps k : Nat)) ∧ Rw wr base (.slice (some ⟨g, 0, none⟩) n cap) vs' (mkTo ps m k) G C ∧ Kept (rwRows g n G) w wr) (fun _ i _ => n - (intOf i).toNat)
  case atStart => exact ⟨0, vs, Nat.zero_le _, rfl, by simp [psLen], HR.out, Kept.refl _ _⟩
  case round =>
    clear HR
    obtain ⟨k, vs', hk, rfl, rfl, hrw, hkept⟩ := hrel
    have HW := Lib.hid hrw
    have HK := Lib.hid hkept
    by_cases hlt : k < n
    · have hone := HONE.out k hlt
      have hpa := hrw.past k (by rw [HLE.out]; exact hlt)
      have HOFF := Lib.hid (And.intro (hrw.off (i := 2 * k + 2) (by omega) (by rw [HLE.out]; omega)) (hrw.off (i := 2 * k + 3) (by omega) (by rw [HLE.out]; omega)))
      have HVL := Lib.hid (hrw.len.trans (HLE.out k))
      have HMEM := Lib.hid (And.intro (rwRows_i g n G (i := 2 * k + 2) (by omega) (by omega)) (rwRows_i g n G (i := 2 * k + 3) (by omega) (by omega)))
      have HNE := Lib.hid (hrw.ne (i := 2 * k + 2) (j := 2 * k + 3) (by omega) (by omega) (by rw [HLE.out]; omega) (by rw [HLE.out]; omega) (by omega))
      unfold PastAt at hpa
      rw [HAT.out k hlt] at hpa
      obtain ⟨e3, hs1, hs2⟩ := hpa
      rcases hrw.row.form with ⟨hno, _⟩ | ⟨gg, cc, heq, _, _, _, _, hcell, hfr⟩
      · cases hno
      · simp only [Value.slice.injEq, Option.some.injEq, Addr.mk.injEq, and_true] at heq
        obtain ⟨rfl, hx1, hx2⟩ := heq
        clear hx1 hx2
        obtain ⟨s0, s1, s2⟩ := hcell k (by rw [HVL.out]; exact hlt)
        rw [e3] at s0 s1 s2
        clear hcell hfr
        have HSL1 := Lib.hid hs1
        have HSL2 := Lib.hid hs2
        have HE3 := Lib.hid e3
        have HPUT := Lib.hid (fun (p' : Nt.Pi) (w1 w3 : World) (a) (b) (c) (d) (e) (f) => Rw.put hrw (k := k) (by rw [HLE.out]; exact hlt) (p' := p') (w1 := w1) (w3 := w3) a b c d e f)
        rw [HAT.out k hlt] at HPUT
        have HL : Hid ((piAt ps k).ns.length + (piAt ps k).ks.length = plLen (piAt ps k)) := Lib.hid rfl
        have HPS : Hid (psLen ps (k + 1) = psLen ps k + plLen (piAt ps k)) := Lib.hid rfl
        have HMK : Hid (mkTo ps m (k + 1) = (mkTo ps m k).set k (mkPi (piAt ps k) (m + (k : Nat) + (psLen ps k : Nat)))) := Lib.hid rfl
        have HB := Lib.hid hone
        have hrow := hrw.row
        have HROW := Lib.hid hrow
        clear hrw hs1 hs2 e3 hkept hone hrow
        generalize hq : piAt ps k = p at *
        generalize psLen ps k = z at *
        have hb1 : m + (k : Nat) + (z : Nat) ≤ 2000000 ∧ p.ns.length ≤ 2000000 ∧ p.ks.length ≤ 2000000 := by
          have h1 := HT.out; have h2 := HB.out; have h3 := HL.out; have h4 := H0.out; omega
        have HB1 := Lib.hid hb1
        clear hb1 hq
        generalize G (2 * k + 2) = ga at *
        generalize G (2 * k + 3) = gb at *
        generalize C (2 * k + 2) = ca at *
        generalize C (2 * k + 3) = cb at *
        go_wp2_with fail
        refine (markIntS_any (m + (k : Nat) + (z : Nat)) (by have := H0.out; omega) (by have := HB1.out; omega) p.ns HB1.out.2.1 _ _ _ HSL1.out).mono ?_
        rintro e w1 ⟨rfl, hs3, hk1⟩
        have HS3 := Lib.hid hs3
        have HK1 : Hid (Kept [ga] wr w1) := Lib.hid hk1
        have HROW1 := Lib.hid (HROW.out.kept HK1.out (fun q hq => by have := HOFF.out; simp [Value.ownBlock] at hq; subst hq; simp; omega))
        have HS4 := Lib.hid (HSL2.out.kept HK1.out (fun q hq => by have := HNE.out; simp [Value.ownBlock] at hq; subst hq; simp; omega))
        have s1q : IntKind.i64.wrap (m + (k : Nat) + (z : Nat) + (p.ns.length : Nat) + 1) = m + (k : Nat) + (z : Nat) + (p.ns.length : Nat) + 1 := IntWalk.i64_in _ (by have := HB1.out; have := H0.out; omega)
        clear hs3 hk1 s0 s1 s2
        rcases HROW1.out.form with ⟨hno, _⟩ | ⟨gg, cc, heq, _, _, _, _, hcell, hfr⟩
        · cases hno
        simp only [Value.slice.injEq, Option.some.injEq, Addr.mk.injEq, and_true] at heq
        obtain ⟨rfl, hx1, hx2⟩ := heq
        clear hx1 hx2
        obtain ⟨t0, t1, t2⟩ := hcell k (by rw [HVL.out]; exact hlt)
        rw [HE3.out] at t0 t1 t2
        have f1 := hfr (k * 3 + 1)
        clear hcell hfr
        have HROW2 := Lib.hid (HROW1.out.set1 (by rw [HVL.out]) k hlt (.int .i64 (m + (k : Nat) + (z : Nat) + (p.ns.length : Nat))))
        have hk2 : Kept [g] w1 (w1.setCell ⟨g, k * 3 + 1, none⟩ (.int .i64 (m + (k : Nat) + (z : Nat) + (p.ns.length : Nat)))) := (Kept.refl _ _).setCell (.inl (by simp)) _
        have HK2 := Lib.hid hk2
        rcases HROW2.out.form with ⟨hno, _⟩ | ⟨gg, cc, heq, _, _, _, _, hcell, hfr⟩
        · cases hno
        simp only [Value.slice.injEq, Option.some.injEq, Addr.mk.injEq, and_true] at heq
        obtain ⟨rfl, hx1, hx2⟩ := heq
        clear hx1 hx2
        obtain ⟨u0, u1, u2⟩ := hcell k (by rw [List.length_set, HVL.out]; exact hlt)
        rw [at3_set _ _ _ _ (by rw [HVL.out]; exact hlt), if_pos rfl, HE3.out] at u0 u1 u2
        clear hcell hfr hk2
        have HS5 := Lib.hid (HS4.out.kept HK2.out (fun q hq => by have := HOFF.out; simp [Value.ownBlock] at hq; subst hq; simp; omega))
        generalize hw2 : w1.setCell ⟨g, k * 3 + 1, none⟩ (.int .i64 (m + (k : Nat) + (z : Nat) + (p.ns.length : Nat))) = w2 at *
        have HW2 := Lib.hid hw2
        go_wp2_with fail
        clear hw2
        refine (markIntS_any (m + (k : Nat) + (z : Nat) + (p.ns.length : Nat) + 1) (by have := H0.out; omega) (by have := HB1.out; omega) p.ks HB1.out.2.2 _ _ _ HS5.out).mono ?_
        rintro e w3 ⟨rfl, hs6, hk3⟩
        have HS6 := Lib.hid hs6
        have HK3 : Hid (Kept [gb] w2 w3) := Lib.hid hk3
        clear hs6 hk3 t0 t1 t2 u0 u1 u2 f1
        go_wp2
        go_roundw
        case rel =>
          have hput := HPUT.out (mkPi p (m + (k : Nat) + (z : Nat))) w1 w3 (by simp [mkPi, marks_length]) (by simp [mkPi, marks_length]) HK1.out HS3.out (by rw [show (mkPi p (m + (k : Nat) + (z : Nat))).c = m + (k : Nat) + (z : Nat) + (p.ns.length : Nat) from rfl, HW2.out]; exact HK3.out) HS6.out
          rw [← HMK.out] at hput
          refine ⟨k + 1, _, by omega, by go_num, by have h1 := HL.out; have h2 := HPS.out; rw [h2]; go_num, hput, ((HK.out.trans HK1.out ?_).trans HK2.out ?_).trans HK3.out ?_⟩
          · intro q hq; simp at hq; subst hq; exact .inl HMEM.out.1
          · intro q hq; simp at hq; subst hq; exact .inl (rwRows_g _ _ _)
          · intro q hq; simp at hq; subst hq; exact .inl HMEM.out.2
        case measure => simp [intOf]; omega
    · have hk' : k = n := by omega
      subst hk'
      clear hkept hrw
      go_wp2
      go_ret
      exact ⟨rfl, ⟨_, HW.out⟩, HK.out⟩

set_option maxHeartbeats 4000000 in
set_option maxRecDepth 100000 in
theorem heldPlaceS_any (m : Int) (h0 : 0 ≤ m) (ps : List Nt.Pi) (hT : m + (ps.length : Nat) + (psLen ps ps.length : Nat) ≤ 2000000) (w : World) (base g cap : Nat) (vs : List (Value × Value × Value)) (G C : Nat → Nat) (h : Rw w base (.slice (some ⟨g, 0, none⟩) ps.length cap) vs (mkTo ps m ps.length) G C) :
    Calls Try.prog 79 #[.slice (some ⟨g, 0, none⟩) ps.length cap, .int .i64 m] w fun e w' => e = .returned (.int .i64 (m + (ps.length : Nat) + (psLen ps ps.length : Nat))) ∧ w = w' := by
  have HR := Lib.hid h
  have HT := Lib.hid hT
  have H0 := Lib.hid h0
  have HONE := Lib.hid (fun k (hk : k < ps.length) => psLen_one ps hk)
  have HAT := Lib.hid (fun k (hk : k < ps.length) => (mkTo_at ps m ps.length k (Nat.le_refl _)).trans (if_pos hk))
  have HLE := Lib.hid (mkTo_length ps m ps.length)
  obtain ⟨n, hn⟩ : ∃ n, n = ps.length := ⟨_, rfl⟩
  rw [← hn] at HR HT HONE HAT HLE ⊢
  have hn2 : n ≤ 2000000 := by omega
  clear h0 hT h hn
  go_enter Try.func79, Try.ntmps79
  go_wp2_with fail
  go_loop [1, 5] (fun q i => ∃ (k : Nat), k ≤ n ∧ i = .int .i64 k ∧ q = .int .i64 (m + (k : Nat) + (psLen ps k : Nat))) (fun _ i => n - (intOf i).toNat)
  case atStart => exact ⟨0, Nat.zero_le _, rfl, by simp [psLen]⟩
  case round =>
    obtain ⟨k, hk, rfl, rfl⟩ := hrel
    by_cases hlt : k < n
    · have hone := HONE.out k hlt
      have hpa := HR.out.past k (by rw [HLE.out]; exact hlt)
      unfold PastAt at hpa
      rw [HAT.out k hlt] at hpa
      obtain ⟨e3, hs1, hs2⟩ := hpa
      rcases HR.out.row.form with ⟨hno, _⟩ | ⟨gg, cc, heq, _, _, _, _, hcell, hfr⟩
      · cases hno
      · simp only [Value.slice.injEq, Option.some.injEq, Addr.mk.injEq, and_true] at heq
        obtain ⟨rfl, hx1, hx2⟩ := heq
        clear hx1 hx2
        obtain ⟨s0, s1, s2⟩ := hcell k (by rw [HR.out.len, HLE.out]; exact hlt)
        rw [e3] at s0 s1 s2
        clear hcell hfr e3
        have HL : Hid ((piAt ps k).ns.length + (piAt ps k).ks.length = plLen (piAt ps k)) := Lib.hid rfl
        have HPS : Hid (psLen ps (k + 1) = psLen ps k + plLen (piAt ps k)) := Lib.hid rfl
        simp only [mkPi, marks_length] at s0 s1 s2 hs1 hs2
        have HSL1 := Lib.hid hs1
        have HSL2 := Lib.hid hs2
        have HB := Lib.hid hone
        clear hs1 hs2 hone
        generalize hq : piAt ps k = p at *
        generalize psLen ps k = z at *
        have hb1 : m + (k : Nat) + (z : Nat) ≤ 2000000 ∧ p.ns.length ≤ 2000000 ∧ p.ks.length ≤ 2000000 := by
          have h1 := HT.out; have h2 := HB.out; have h3 := HL.out; have h4 := H0.out; omega
        have HB1 := Lib.hid hb1
        clear hb1 hq
        have s1q : IntKind.i64.wrap (m + (k : Nat) + (z : Nat) + (p.ns.length : Nat) + 1) = m + (k : Nat) + (z : Nat) + (p.ns.length : Nat) + 1 := IntWalk.i64_in _ (by have := HB1.out; have := H0.out; omega)
        have d1 : decide (m + (k : Nat) + (z : Nat) + (p.ns.length : Nat) < 0) = false := dec_not (by have := H0.out; omega)
        have d2 : decide (m + (k : Nat) + (z : Nat) + (p.ns.length : Nat) + 1 + (p.ks.length : Nat) < 0) = false := dec_not (by have := H0.out; omega)
        have hne : ((m + (k : Nat) + (z : Nat) + (p.ns.length : Nat)) != (m + (k : Nat) + (z : Nat) + (p.ns.length : Nat))) = false := by simp
        go_wp2_with fail
        refine (heldIntSAt_any (m + (k : Nat) + (z : Nat)) (by have := H0.out; omega) (by have := HB1.out; omega) p.ns.length HB1.out.2.1 _ _ _ HSL1.out).mono ?_
        rintro e w1 ⟨rfl, rfl⟩
        go_wp2_with fail
        refine (heldIntSAt_any (m + (k : Nat) + (z : Nat) + (p.ns.length : Nat) + 1) (by have := H0.out; omega) (by have := HB1.out; omega) p.ks.length HB1.out.2.2 _ _ _ HSL2.out).mono ?_
        rintro e w1 ⟨rfl, rfl⟩
        go_wp2
        go_round
        case rel => exact ⟨k + 1, by omega, by go_num, by have h1 := HL.out; have h2 := HPS.out; rw [h2]; go_num⟩
        case measure => simp [intOf]; omega
    · have hk' : k = n := by omega
      subst hk'
      go_wp2
      go_ret
      exact ⟨rfl, rfl⟩

set_option maxHeartbeats 4000000 in
set_option maxRecDepth 100000 in
theorem eqPlaceS_same (ps : List Nt.Pi) (w : World) (v u : Value) (base base' : Nat) (h : Ps w base v ps) (h' : Ps w base' u ps) :
    Calls Try.prog 75 #[v, u] w fun e w' => e = .returned (.bool true) ∧ Kept [] w w' := by
  obtain ⟨a, cap, rfl, _, hl1, hl2, hp⟩ := h
  obtain ⟨a', cap', rfl, _, _, _, hp'⟩ := h'
  have HP := Lib.hid hp
  have HP' := Lib.hid hp'
  have hm : ps.length ≤ 9223372036854775807 := by omega
  have hne : ((ps.length : Int) != (ps.length : Int)) = false := by simp
  clear hp hp' hl1 hl2
  obtain ⟨n, hn⟩ : ∃ n, n = ps.length := ⟨_, rfl⟩
  rw [← hn] at HP HP' hm hne ⊢
  clear hn
  go_enter Try.func75, Try.ntmps75
  go_wp2_with fail
  go_loopw [5] (fun i wr => ∃ k : Nat, k ≤ n ∧ i = .int .i64 k ∧ Kept [] w wr) (fun i _ => n - (intOf i).toNat)
  case atStart => exact ⟨0, Nat.zero_le _, rfl, Kept.refl _ _⟩
  case round =>
    obtain ⟨k, hk, rfl, hkept⟩ := hrel
    have HK := Lib.hid hkept
    by_cases hlt : k < n
    · obtain ⟨g, off, rfl, hbg, hg, hpc⟩ := HP.out k hlt
      obtain ⟨x, y, p0, p1, p2, hx, hy⟩ := hpc.stay hg hkept
      obtain ⟨g', off', rfl, hbg', hg', hpc'⟩ := HP'.out k hlt
      obtain ⟨x', y', q0, q1, q2, hx', hy'⟩ := hpc'.stay hg' hkept
      have HPK : Hid (Pv wr base (.agg #[x, .int .i64 (piAt ps k).c, y]) (piAt ps k)) := Lib.hid ⟨x, y, rfl, hx, hy⟩
      have HPK' : Hid (Pv wr base' (.agg #[x', .int .i64 (piAt ps k).c, y']) (piAt ps k)) := Lib.hid ⟨x', y', rfl, hx', hy'⟩
      obtain ⟨ax, cx, rfl, _, _, _⟩ := hx.any
      obtain ⟨ay, cy, rfl, _, _, _⟩ := hy.any
      obtain ⟨ax', cx', rfl, _, _, _⟩ := hx'.any
      obtain ⟨ay', cy', rfl, _, _, _⟩ := hy'.any
      have HGG := Lib.hid (And.intro (Nat.lt_of_lt_of_le hg hkept.size) (Nat.lt_of_lt_of_le hg' hkept.size))
      clear hpc hx hy hkept hpc' hx' hy' hbg hbg'
      generalize piAt ps k = p at *
      have HC : Hid (∀ W, Kept [] wr W → Calls Try.prog 35 #[.agg #[.slice ax p.ns.length cx, .int .i64 p.c, .slice ay p.ks.length cy], .agg #[.slice ax' p.ns.length cx', .int .i64 p.c, .slice ay' p.ks.length cy']] W fun e w' => e = .returned (.bool true) ∧ Kept [] wr w') := Lib.hid (fun W k' => (eqPlace_same p W _ _ base base' (HPK.out.stay k') (HPK'.out.stay k')).mono (by rintro e w' ⟨rfl, hk⟩; exact ⟨rfl, k'.trans hk (by simp)⟩))
      have HSB : Hid (∀ w', Kept [] wr w' → w'.cell? ⟨g, off + k * 3, none⟩ = some (.slice ax p.ns.length cx) ∧ w'.cell? ⟨g, off + k * 3 + 1, none⟩ = some (.int .i64 p.c) ∧ w'.cell? ⟨g, off + k * 3 + 2, none⟩ = some (.slice ay p.ks.length cy) ∧ w'.cell? ⟨g', off' + k * 3, none⟩ = some (.slice ax' p.ns.length cx') ∧ w'.cell? ⟨g', off' + k * 3 + 1, none⟩ = some (.int .i64 p.c) ∧ w'.cell? ⟨g', off' + k * 3 + 2, none⟩ = some (.slice ay' p.ks.length cy')) := Lib.hid (fun w' k' => ⟨(k'.cell (p := ⟨g, off + k * 3, none⟩) HGG.out.1 (by simp)).trans p0, (k'.cell (p := ⟨g, off + k * 3 + 1, none⟩) HGG.out.1 (by simp)).trans p1, (k'.cell (p := ⟨g, off + k * 3 + 2, none⟩) HGG.out.1 (by simp)).trans p2, (k'.cell (p := ⟨g', off' + k * 3, none⟩) HGG.out.2 (by simp)).trans q0, (k'.cell (p := ⟨g', off' + k * 3 + 1, none⟩) HGG.out.2 (by simp)).trans q1, (k'.cell (p := ⟨g', off' + k * 3 + 2, none⟩) HGG.out.2 (by simp)).trans q2⟩)
      clear p0 p1 p2 q0 q1 q2
      go_wp2_with fail
      go_region_held3 (fun w' => w'.cell? ⟨g, off + k * 3, none⟩ = some (.slice ax p.ns.length cx) ∧ w'.cell? ⟨g, off + k * 3 + 1, none⟩ = some (.int .i64 p.c) ∧ w'.cell? ⟨g, off + k * 3 + 2, none⟩ = some (.slice ay p.ks.length cy) ∧ w'.cell? ⟨g', off' + k * 3, none⟩ = some (.slice ax' p.ns.length cx') ∧ w'.cell? ⟨g', off' + k * 3 + 1, none⟩ = some (.int .i64 p.c) ∧ w'.cell? ⟨g', off' + k * 3 + 2, none⟩ = some (.slice ay' p.ks.length cy'))
        ((refine HSB.out _ ?_; repeat (first | exact Kept.refl _ _ | assumption | apply Kept.alloc | apply Kept.drew)))
        (first
        | (go_simp; go_at_call 35; refine (HC.out _ (by repeat (first | exact Kept.refl _ _ | assumption | apply Kept.alloc | apply Kept.drew))).mono ?_; rintro e w2 ⟨rfl, k2⟩)
        | (refine (HC.out _ (by repeat (first | exact Kept.refl _ _ | assumption | apply Kept.alloc | apply Kept.drew))).mono ?_; rintro e w2 ⟨rfl, k2⟩))
      all_goals
        go_wp2
        go_roundw
        case rel => exact ⟨k + 1, by omega, by go_num, HK.out.trans k2 (by simp)⟩
        case measure => simp [intOf]; omega
    · have hk' : k = n := by omega
      subst hk'
      clear hkept
      go_wp2
      go_ret
      exact ⟨rfl, HK.out⟩
end Go.Proofs.Ytofgfhfdmkcmcaa
