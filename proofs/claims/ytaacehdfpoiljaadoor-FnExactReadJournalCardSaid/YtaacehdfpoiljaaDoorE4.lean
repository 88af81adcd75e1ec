/-
  Walks: places of exact laws: copied, compared, marked, looked over.
-/
import Derived.Test.YtaacehdfpoiljaaDoorIP1
import Derived.Test.YtaacehdfpoiljaaDoorE1
namespace Go.Proofs.YtaacehdfpoiljaaDoor
open Go.RowKit

set_option maxHeartbeats 1000000 in
set_option maxRecDepth 100000 in
theorem toIntSG_any (xs : List Int) (h20 : xs.length ≤ 1048576) (w : World) (v : Value) (ha : Arg w v xs) :
    Calls Tryd.prog 76 #[v] w fun e w' => e = .returned (.slice (some ⟨w.heap.size, 0, none⟩) xs.length xs.length) ∧ Sl w' w.heap.size (.slice (some ⟨w.heap.size, 0, none⟩) xs.length xs.length) xs ∧ Kept [] w w' := by
  obtain ⟨a, cap, rfl, _, hc⟩ := ha
  have HC := Lib.hid hc
  clear hc
  go_enter Tryd.func76, Tryd.ntmps76
  go_wp2_with (at_make; refine make_int w xs.length rfl _ _ rfl rfl rfl ?_ ?_)
  · omega
  · intro w1 hs1 hk1 _
    have HS1 := Lib.hid hs1
    have HK1 := Lib.hid hk1
    clear hs1 hk1
    go_wp2
    go_loopw [4] (fun i wr => ∃ k : Nat, k ≤ xs.length ∧ i = .int .i64 k ∧ Sl wr w.heap.size (.slice (some ⟨w.heap.size, 0, none⟩) xs.length xs.length) (copyTo xs k) ∧ Kept [] w wr) (fun i _ => xs.length - (intOf i).toNat)
    case atStart => exact ⟨0, Nat.zero_le _, rfl, by simpa [copyTo] using HS1.out, HK1.out⟩
    case round =>
      clear HS1 HK1
      obtain ⟨k, hk, rfl, hsl, hkept⟩ := hrel
      have HSL := Lib.hid hsl
      have HK := Lib.hid hkept
      by_cases hlt : k < xs.length
      · obtain ⟨hcell, hfr⟩ := hsl.at k (by rw [copyTo_length _ _ hk]; exact hlt)
        obtain ⟨b, off, rfl, hb, hca⟩ := HC.out k hlt
        have hcw := (hkept.cell (p := ⟨b, off + k, none⟩) hb (by simp)).trans hca
        have HSET := Lib.hid (copyTo_set xs k hlt)
        clear hsl hkept hca
        generalize xs.getD k 0 = x at *
        go_wp2
        go_roundw
        case rel => exact ⟨k + 1, by omega, by go_num, by rw [← HSET.out]; exact HSL.out.set (copyTo_length _ _ hk).symm k x, HK.out.setCell (.inr (Nat.le_refl _)) _⟩
        case measure => simp [intOf]; omega
      · have hk' : k = xs.length := by omega
        subst hk'
        clear hsl hkept
        go_wp2
        go_ret
        exact ⟨rfl, by have h := HSL.out; rw [copyTo_end] at h; exact h, HK.out⟩

set_option maxHeartbeats 1000000 in
set_option maxRecDepth 100000 in
theorem heldIntSAt_any (m : Int) (h0 : 0 ≤ m) (hm9 : m ≤ 1000000000) (n : Nat) (h20 : n ≤ 2000000) (w : World) (v : Value) (base : Nat) (hs : Sl w base v (marks m n)) :
    Calls Tryd.prog 79 #[v, .int .i64 m] w fun e w' => e = .returned (.int .i64 (m + (n : Nat))) ∧ w = w' := by
  obtain ⟨a, cap, rfl, _, hm, hc⟩ := hs.any
  rw [marks_length] at *
  have HC := Lib.hid hc
  clear hc hs
  go_enter Tryd.func79, Tryd.ntmps79
  go_wp2
  go_loop [1, 5] (fun q i => ∃ k : Nat, k ≤ n ∧ i = .int .i64 k ∧ q = .int .i64 (m + (k : Int))) (fun _ i => n - (intOf i).toNat)
  case atStart => exact ⟨0, Nat.zero_le _, rfl, by simp⟩
  case round =>
    obtain ⟨k, hk, rfl, rfl⟩ := hrel
    by_cases hlt : k < n
    · obtain ⟨g, rfl, _, _, hcell, _⟩ := HC.out k hlt
      rw [marks_get _ _ _ hlt] at hcell
      have hne : ((m + (k : Int)) != (m + (k : Int))) = false := by simp
      go_wp2
      go_round
      case rel => exact ⟨k + 1, by omega, by go_num, by go_num⟩
      case measure => simp [intOf]; omega
    · have hk' : k = n := by omega
      subst hk'
      go_wp2
      go_ret
      exact ⟨rfl, rfl⟩

theorem eqIntS_same (xs : List Int) (w : World) (v u : Value) (base base' : Nat) (hs : Sl w base v xs) (ht : Sl w base' u xs) :
    Calls Tryd.prog 77 #[v, u] w fun e w' => e = .returned (.bool true) ∧ Kept [] w w' :=
  (eqIntS_any xs xs w v u base base' hs ht).mono (by rintro e w' ⟨rfl, h⟩; exact ⟨by simp, h.kept⟩)

set_option maxHeartbeats 400000 in
set_option maxRecDepth 100000 in
theorem szIntS_any (n : Nat) (left : Int) (h0 : 0 ≤ left) (h1 : left ≤ 1048576) (hm : n ≤ 9223372036854775807) (a : Option Addr) (cap : Nat) (w : World) :
    Calls Tryd.prog 75 #[.slice a n cap, .int .i64 left] w fun e w' => (∃ r : Int, e = .returned (.int .i64 r) ∧ Hid (r = -1 ∨ (0 ≤ r ∧ r = left - (n : Int)))) ∧ w = w' := by
  have s1 : IntKind.i64.wrap (left - (n : Int)) = left - (n : Int) := IntWalk.i64_in _ (by omega)
  by_cases h : left - (n : Int) < 0
  · have hd : decide (left - (n : Int) < 0) = true := dec_of h
    clear h0 h1 hm
    go_enter Tryd.func75, Tryd.ntmps75
    go_wp2
    go_ret
    exact ⟨⟨_, rfl, Lib.hid (.inl rfl)⟩, rfl⟩
  · have hd : decide (left - (n : Int) < 0) = false := dec_not h
    have HH := Lib.hid h
    clear h0 h1 hm h
    go_enter Tryd.func75, Tryd.ntmps75
    go_wp2
    go_ret
    exact ⟨⟨_, rfl, Lib.hid (.inr ⟨by have := HH.out; omega, rfl⟩)⟩, rfl⟩

theorem three_newE (w : World) (T T2 T3 : TypeId) (cs ds es : Array Value) : Kept [] w (((w.alloc (.cells cs T)).alloc (.cells ds T2)).alloc (.cells es T3)) ∧ Bk (((w.alloc (.cells cs T)).alloc (.cells ds T2)).alloc (.cells es T3)) w.heap.size T cs ∧ Bk (((w.alloc (.cells cs T)).alloc (.cells ds T2)).alloc (.cells es T3)) (w.heap.size + 1) T2 ds ∧ Bk (((w.alloc (.cells cs T)).alloc (.cells ds T2)).alloc (.cells es T3)) (w.heap.size + 1 + 1) T3 es := by
  obtain ⟨hk, h1, h2⟩ := two_new w T T2 cs ds
  have e1 : ((w.alloc (.cells cs T)).alloc (.cells ds T2)).heap.size = w.heap.size + 1 + 1 := by simp
  have hk2 : Kept [] ((w.alloc (.cells cs T)).alloc (.cells ds T2)) (((w.alloc (.cells cs T)).alloc (.cells ds T2)).alloc (.cells es T3)) := (Kept.refl _ _).alloc _
  refine ⟨hk.alloc _, h1.stay hk2, h2.stay hk2, ?_⟩
  rw [← e1]
  exact Bk.new _ _ _

/-- A place that came in from outside. -/
def ArgPl (w : World) (x : Value) (p : Nt.Pi) : Prop := ∃ v u, x = .agg #[v, .int .i64 p.c, u] ∧ Arg w v p.ns ∧ Arg w u p.ks
theorem ArgPl.stay {w w' : World} {x : Value} {p : Nt.Pi} (h : ArgPl w x p) (hk : Kept [] w w') : ArgPl w' x p := by
  obtain ⟨v, u, rfl, h1, h2⟩ := h
  exact ⟨v, u, rfl, h1.stay hk, h2.stay hk⟩
/-- A place whose two slices lie apart, one behind the other. -/
def PvA (w : World) (base : Nat) (x : Value) (p : Nt.Pi) (g1 q1 g2 q2 : Nat) : Prop :=
  x = .agg #[.slice (some ⟨g1, 0, none⟩) p.ns.length q1, .int .i64 p.c, .slice (some ⟨g2, 0, none⟩) p.ks.length q2] ∧
    Sl w base (.slice (some ⟨g1, 0, none⟩) p.ns.length q1) p.ns ∧ Sl w base (.slice (some ⟨g2, 0, none⟩) p.ks.length q2) p.ks ∧ g1 < g2
theorem PvA.pv {w : World} {base : Nat} {x : Value} {p : Nt.Pi} {g1 q1 g2 q2 : Nat} (h : PvA w base x p g1 q1 g2 q2) : Pv w base x p := ⟨_, _, h.1, h.2.1, h.2.2.1⟩
theorem PvA.stay {w w' : World} {base : Nat} {x : Value} {p : Nt.Pi} {g1 q1 g2 q2 : Nat} (h : PvA w base x p g1 q1 g2 q2) (hk : Kept [] w w') : PvA w' base x p g1 q1 g2 q2 := ⟨h.1, h.2.1.stay hk, h.2.2.1.stay hk, h.2.2.2⟩
theorem PvA.mono {w : World} {base base' : Nat} {x : Value} {p : Nt.Pi} {g1 q1 g2 q2 : Nat} (h : PvA w base x p g1 q1 g2 q2) (hb : base' ≤ base) : PvA w base' x p g1 q1 g2 q2 := ⟨h.1, h.2.1.mono hb, h.2.2.1.mono hb, h.2.2.2⟩
theorem PvA.block {w : World} {base : Nat} {x : Value} {p : Nt.Pi} {g1 q1 g2 q2 : Nat} (h : PvA w base x p g1 q1 g2 q2) : base ≤ g1 ∧ g2 < w.heap.size := ⟨(h.2.1.block rfl).1, (h.2.2.1.block rfl).2⟩

set_option maxHeartbeats 2000000 in
set_option maxRecDepth 100000 in
theorem szPlace_any (p : Nt.Pi) (left : Int) (h0 : 0 ≤ left) (h1 : left ≤ 1048576) (w : World) (x : Value) (h : ArgPl w x p) :
    Calls Tryd.prog 34 #[x, .int .i64 left] w fun e w' => (∃ r : Int, e = .returned (.int .i64 r) ∧ Hid (r = -1 ∨ (0 ≤ r ∧ r = left - (p.ns.length : Int) - (p.ks.length : Int)))) ∧ Kept [] w w' := by
  obtain ⟨v, u, rfl, ⟨a, cap, rfl, hm1, _⟩, ⟨b, cap2, rfl, hm2, _⟩⟩ := h
  have HK := Lib.hid ((Kept.refl [] w).alloc (.cells #[.slice a p.ns.length cap, .int .i64 p.c, .slice b p.ks.length cap2] 47))
  have HL := Lib.hid (And.intro h0 h1)
  clear h0 h1
  go_enter Tryd.func34, Tryd.ntmps34
  go_wp2_with fail
  refine (szIntS_any p.ns.length left HL.out.1 HL.out.2 hm1 _ _ _).mono ?_
  rintro e w1 ⟨⟨r, rfl, hr⟩, rfl⟩
  by_cases hn : r < 0
  · have hd : decide (r < 0) = true := dec_of hn
    clear hn
    go_wp2
    go_ret
    exact ⟨⟨_, rfl, Lib.hid (.inl rfl)⟩, HK.out⟩
  · have hd : decide (r < 0) = false := dec_not hn
    have HR : Hid (0 ≤ r ∧ r = left - (p.ns.length : Int)) := Lib.hid (hr.out.resolve_left (by omega))
    have HR2 : Hid (r ≤ 1048576) := Lib.hid (by have := HR.out; have := HL.out; omega)
    clear hn hr
    go_wp2_with fail
    refine (szIntS_any p.ks.length r HR.out.1 HR2.out hm2 _ _ _).mono ?_
    rintro e w1 ⟨⟨r2, rfl, hr⟩, rfl⟩
    by_cases hn : r2 < 0
    · have hd2 : decide (r2 < 0) = true := dec_of hn
      clear hn
      go_wp2
      go_ret
      exact ⟨⟨_, rfl, Lib.hid (.inl rfl)⟩, HK.out⟩
    · have hd2 : decide (r2 < 0) = false := dec_not hn
      have HN := Lib.hid hn
      clear hn
      go_wp2
      go_ret
      exact ⟨⟨_, rfl, Lib.hid (.inr (by have := hr.out; have := HR.out; have := HN.out; omega))⟩, HK.out⟩

set_option maxHeartbeats 2000000 in
set_option maxRecDepth 100000 in
theorem toPlace_any (p : Nt.Pi) (hn : p.ns.length ≤ 1048576) (hk : p.ks.length ≤ 1048576) (w : World) (x : Value) (h : ArgPl w x p) :
    Calls Tryd.prog 35 #[x] w fun e w' => ∃ y g1 q1 g2 q2, e = .returned y ∧ PvA w' w.heap.size y p g1 q1 g2 q2 ∧ Kept [] w w' := by
  obtain ⟨v, u, rfl, h1, h2⟩ := h
  obtain ⟨hk0, hb0, ho0, hr0⟩ := three_newE w 47 25 25 #[v, .int .i64 p.c, u] #[.slice none 0 0, .int .i64 0, .slice none 0 0] #[.slice none 0 0, .int .i64 0, .slice none 0 0]
  have H1 := Lib.hid (h1.stay hk0)
  have H2 := Lib.hid h2
  obtain ⟨a, cap, rfl, _, _⟩ := h1
  obtain ⟨b, cap2, rfl, _, _⟩ := h2
  have HB := Lib.hid hb0
  have HR := Lib.hid hr0
  have HK0 := Lib.hid hk0
  have HO := Lib.hid ho0
  obtain ⟨c0, c1, c2⟩ := hb0.three
  clear hb0 hr0 hk0 ho0
  go_enter Tryd.func35, Tryd.ntmps35
  go_wp2_with fail
  generalize (((w.alloc (.cells #[.slice a p.ns.length cap, .int .i64 p.c, .slice b p.ks.length cap2] 47)).alloc (.cells #[.slice none 0 0, .int .i64 0, .slice none 0 0] 25)).alloc (.cells #[.slice none 0 0, .int .i64 0, .slice none 0 0] 25)) = W0 at *
  refine (toIntSG_any p.ns hn _ _ H1.out).mono ?_
  rintro e w1 ⟨rfl, hs1, hk1⟩
  have HS1 := Lib.hid hs1
  have HK1 := Lib.hid hk1
  clear c0 c1 c2
  obtain ⟨c0, c1, c2⟩ := (HB.out.stay hk1).three
  obtain ⟨r0, r1, r2⟩ := (HR.out.stay hk1).three
  have f0 := (HR.out.stay hk1).frozen 0
  have f1 := (HR.out.stay hk1).frozen 1
  clear hs1 hk1
  generalize hg1 : W0.heap.size = g1 at *
  have HG1 := Lib.hid hg1
  have hk2 : Kept [w.heap.size + 1 + 1] w1 ((w1.setCell ⟨w.heap.size + 1 + 1, 0, none⟩ (.slice (some ⟨g1, 0, none⟩) p.ns.length p.ns.length)).setCell ⟨w.heap.size + 1 + 1, 1, none⟩ (.int .i64 p.c)) := ((Kept.refl _ _).setCell (.inl (by simp)) _).setCell (.inl (by simp)) _
  have hr2 : Bk ((w1.setCell ⟨w.heap.size + 1 + 1, 0, none⟩ (.slice (some ⟨g1, 0, none⟩) p.ns.length p.ns.length)).setCell ⟨w.heap.size + 1 + 1, 1, none⟩ (.int .i64 p.c)) (w.heap.size + 1 + 1) 25 #[.slice (some ⟨g1, 0, none⟩) p.ns.length p.ns.length, .int .i64 p.c, .slice none 0 0] := ((HR.out.stay HK1.out).set 0 _).set 1 _
  have HK2 := Lib.hid hk2
  have HR2 := Lib.hid hr2
  clear hk2 hr2 hg1
  go_wp2_with fail
  generalize ((w1.setCell ⟨w.heap.size + 1 + 1, 0, none⟩ (.slice (some ⟨g1, 0, none⟩) p.ns.length p.ns.length)).setCell ⟨w.heap.size + 1 + 1, 1, none⟩ (.int .i64 p.c)) = W2 at *
  have HB2 := Lib.hid ((HB.out.stay HK1.out).kept HK2.out (fun h => by rw [List.mem_singleton] at h; omega))
  have hold : Kept [] w W2 := (HK0.out.trans HK1.out (by simp)).trans HK2.out (fun x hx => .inr (by rw [List.mem_singleton] at hx; omega))
  have HOLD := Lib.hid hold
  have hsz : w.heap.size + 1 + 1 < g1 := by rw [← HG1.out]; exact HR.out.lt
  have HSZ := Lib.hid hsz
  have HA2 := Lib.hid (H2.out.stay hold)
  have HS2 := Lib.hid (HS1.out.kept HK2.out (fun g hg => by simp [Value.ownBlock] at hg; subst hg; simp; omega))
  clear hold hsz c0 c1 c2 r0 r1 r2 f0 f1
  obtain ⟨c0, c1, c2⟩ := HB2.out.three
  refine (toIntSG_any p.ks hk _ _ HA2.out).mono ?_
  rintro e w3 ⟨rfl, hs3, hk3⟩
  have HS3 := Lib.hid hs3
  have HK3 := Lib.hid hk3
  have HR3 := Lib.hid (HR2.out.stay hk3)
  have f2 := (HR2.out.stay hk3).frozen 2
  obtain ⟨r0, r1, r2⟩ := (HR2.out.stay hk3).three
  generalize hg2 : W2.heap.size = g2 at *
  have HG2 := Lib.hid hg2
  clear hs3 hk3 hg2 c0 c1 c2
  have HO3 := Lib.hid (((HO.out.stay HK1.out).kept HK2.out (fun h => by rw [List.mem_singleton] at h; omega)).stay HK3.out)
  have ho3 := HO3.out.lt
  have hb3 := HR3.out.lt
  have hk4 : Kept [w.heap.size + 1 + 1] w3 (w3.setCell ⟨w.heap.size + 1 + 1, 2, none⟩ (.slice (some ⟨g2, 0, none⟩) p.ks.length p.ks.length)) := (Kept.refl _ _).setCell (.inl (by simp)) _
  have HK4 := Lib.hid hk4
  have HR4 := Lib.hid (HR3.out.set 2 (.slice (some ⟨g2, 0, none⟩) p.ks.length p.ks.length))
  have HO4 := Lib.hid (HO3.out.kept hk4 (fun h => by rw [List.mem_singleton] at h; omega))
  obtain ⟨p0, p1, p2⟩ := HO4.out.three
  have o0 := HO4.out.frozen 0
  have o1 := HO4.out.frozen 1
  have o2 := HO4.out.frozen 2
  obtain ⟨q0, q1, q2⟩ := HR4.out.three
  clear hk4
  go_wp2
  (try simp only [Exit.inBlock, Exit.then])
  generalize w3.setCell ⟨w.heap.size + 1 + 1, 2, none⟩ (.slice (some ⟨g2, 0, none⟩) p.ks.length p.ks.length) = w4 at *
  refine bodyPost_ret (results_cell_row rfl _ _ (w.heap.size + 1) 25 #[.slice (some ⟨g1, 0, none⟩) p.ns.length p.ns.length, .int .i64 p.c, .slice (some ⟨g2, 0, none⟩) p.ks.length p.ks.length] (0, 0) _ rfl (HO4.out.set3 _ _ _) Tryd.underlying25 rfl (by kernel_rfl)) rfl ?_
  have hz := HSZ.out
  have h12 : g1 < g2 := by rw [← HG2.out]; exact (HS2.out.block rfl).2
  have hk5 := Kept.rows3 w4 (w.heap.size + 1) (.slice (some ⟨g1, 0, none⟩) p.ns.length p.ns.length) (.int .i64 p.c) (.slice (some ⟨g2, 0, none⟩) p.ks.length p.ks.length)
  refine ⟨_, g1, _, g2, _, rfl, ⟨rfl, (((HS2.out.stay HK3.out).kept HK4.out (fun g hg => by simp [Value.ownBlock] at hg; subst hg; simp; omega)).kept hk5 (fun g hg => by simp [Value.ownBlock] at hg; subst hg; simp; omega)).mono (by omega), ((HS3.out.kept HK4.out (fun g hg => by simp [Value.ownBlock] at hg; subst hg; simp; omega)).kept hk5 (fun g hg => by simp [Value.ownBlock] at hg; subst hg; simp; omega)).mono (by omega), h12⟩, ((HOLD.out.trans HK3.out (by simp)).trans HK4.out (fun x hx => .inr (by rw [List.mem_singleton] at hx; omega))).trans hk5 (fun x hx => .inr (by rw [List.mem_singleton] at hx; omega))⟩

set_option maxHeartbeats 2000000 in
set_option maxRecDepth 100000 in
theorem eqPlace_same (p : Nt.Pi) (w : World) (x y : Value) (base base' : Nat) (h : Pv w base x p) (h' : Pv w base' y p) :
    Calls Tryd.prog 36 #[x, y] w fun e w' => e = .returned (.bool true) ∧ Kept [] w w' := by
  obtain ⟨v, u, rfl, h1, h2⟩ := h
  obtain ⟨v', u', rfl, h3, h4⟩ := h'
  obtain ⟨hk0, hb0, hr0⟩ := two_new w 25 25 #[v, .int .i64 p.c, u] #[v', .int .i64 p.c, u']
  have H1 := Lib.hid (h1.stay hk0)
  have H2 := Lib.hid (h2.stay hk0)
  have H3 := Lib.hid (h3.stay hk0)
  have H4 := Lib.hid (h4.stay hk0)
  obtain ⟨a, cap, rfl, _, _, _⟩ := h1.any
  obtain ⟨b, cap2, rfl, _, _, _⟩ := h2.any
  obtain ⟨a', cap', rfl, _, _, _⟩ := h3.any
  obtain ⟨b', cap2', rfl, _, _, _⟩ := h4.any
  have HB := Lib.hid hb0
  have HR := Lib.hid hr0
  have HK0 := Lib.hid hk0
  obtain ⟨c0, c1, c2⟩ := hb0.three
  obtain ⟨d0, d1, d2⟩ := hr0.three
  have hne : (p.c != p.c) = false := by simp
  clear hb0 hr0 hk0 h1 h2 h3 h4
  go_enter Tryd.func36, Tryd.ntmps36
  go_wp2_with fail
  generalize ((w.alloc (.cells #[.slice a p.ns.length cap, .int .i64 p.c, .slice b p.ks.length cap2] 25)).alloc (.cells #[.slice a' p.ns.length cap', .int .i64 p.c, .slice b' p.ks.length cap2'] 25)) = W0 at *
  refine (eqIntS_same p.ns _ _ _ _ _ H1.out H3.out).mono ?_
  rintro e w1 ⟨rfl, hk1⟩
  have HK1 := Lib.hid hk1
  clear c0 c1 c2 d0 d1 d2
  obtain ⟨c0, c1, c2⟩ := (HB.out.stay hk1).three
  obtain ⟨d0, d1, d2⟩ := (HR.out.stay hk1).three
  clear hk1
  go_wp2_with fail
  refine (eqIntS_same p.ks _ _ _ _ _ (H2.out.stay HK1.out) (H4.out.stay HK1.out)).mono ?_
  rintro e w2 ⟨rfl, hk2⟩
  have HK2 := Lib.hid ((HK0.out.trans HK1.out (by simp)).trans hk2 (by simp))
  clear hk2 c0 c1 c2 d0 d1 d2
  go_wp2
  go_ret
  exact ⟨rfl, HK2.out⟩

set_option maxHeartbeats 2000000 in
set_option maxRecDepth 100000 in
theorem markPlace_any (m : Int) (h0 : 0 ≤ m) (hm9 : m ≤ 900000000) (p : Nt.Pi) (hn : p.ns.length ≤ 2000000) (hk : p.ks.length ≤ 2000000) (w : World) (x : Value) (base g1 q1 g2 q2 : Nat) (h : PvA w base x p g1 q1 g2 q2) :
    Calls Tryd.prog 37 #[x, .int .i64 m] w fun e w' => e = .returned (.int .i64 (m + (p.ns.length : Nat) + (p.ks.length : Nat))) ∧ PvA w' base x ⟨marks m p.ns.length, p.c, marks (m + (p.ns.length : Nat)) p.ks.length⟩ g1 q1 g2 q2 ∧ Kept [g1, g2] w w' := by
  obtain ⟨rfl, h1, h2, h12⟩ := h
  have hk0 : Kept [] w (w.alloc (.cells #[.slice (some ⟨g1, 0, none⟩) p.ns.length q1, .int .i64 p.c, .slice (some ⟨g2, 0, none⟩) p.ks.length q2] 25)) := (Kept.refl [] w).alloc _
  have HB := Lib.hid (Bk.new w 25 #[.slice (some ⟨g1, 0, none⟩) p.ns.length q1, .int .i64 p.c, .slice (some ⟨g2, 0, none⟩) p.ks.length q2])
  have HG := Lib.hid (And.intro h12 (And.intro (h1.block (g := g1) rfl) (h2.block (g := g2) rfl)))
  have H1 := Lib.hid (h1.stay hk0)
  have H2 := Lib.hid (h2.stay hk0)
  have HK0 := Lib.hid hk0
  have HM := Lib.hid (And.intro h0 hm9)
  have HN := Lib.hid (And.intro hn hk)
  obtain ⟨c0, c1, c2⟩ := HB.out.three
  clear h1 h2 h12 hk0 h0 hm9 hn hk
  go_enter Tryd.func37, Tryd.ntmps37
  go_wp2_with fail
  generalize w.alloc (.cells #[.slice (some ⟨g1, 0, none⟩) p.ns.length q1, .int .i64 p.c, .slice (some ⟨g2, 0, none⟩) p.ks.length q2] 25) = W0 at *
  refine (markIntS_any m HM.out.1 (by have := HM.out.2; omega) p.ns HN.out.1 _ _ _ H1.out).mono ?_
  rintro e w1 ⟨rfl, hs1, hk1⟩
  have HS1 := Lib.hid hs1
  have HK1 : Hid (Kept [g1] W0 w1) := Lib.hid hk1
  have HB1 := Lib.hid (HB.out.kept HK1.out (by have := HG.out; simp; omega))
  have HS2 := Lib.hid (H2.out.kept HK1.out (fun g hg => by have := HG.out; simp [Value.ownBlock] at hg; subst hg; simp; omega))
  clear hs1 hk1 c0 c1 c2
  obtain ⟨c0, c1, c2⟩ := HB1.out.three
  go_wp2_with fail
  refine (markIntS_any (m + (p.ns.length : Nat)) (by have := HM.out; omega) (by have := HM.out; have := HN.out; omega) p.ks HN.out.2 _ _ _ HS2.out).mono ?_
  rintro e w2 ⟨rfl, hs2, hk2⟩
  have HS3 := Lib.hid hs2
  have HK2 : Hid (Kept [g2] w1 w2) := Lib.hid hk2
  clear hs2 hk2 c0 c1 c2
  go_wp2
  go_ret
  have hg := HG.out
  refine ⟨rfl, ⟨by simp only [marks_length], ?_, ?_, hg.1⟩, ?_⟩
  · simp only [marks_length]
    exact HS1.out.kept HK2.out (fun g hg => by simp [Value.ownBlock] at hg; subst hg; simp; omega)
  · simp only [marks_length]
    exact HS3.out
  · exact ((Kept.weak _ HK0.out).trans HK1.out (by simp)).trans HK2.out (by simp)

set_option maxHeartbeats 2000000 in
set_option maxRecDepth 100000 in
theorem heldPlace_any (m : Int) (h0 : 0 ≤ m) (hm9 : m ≤ 900000000) (c : Int) (a b : Nat) (hn : a ≤ 2000000) (hk : b ≤ 2000000) (w : World) (x : Value) (base : Nat) (h : Pv w base x ⟨marks m a, c, marks (m + (a : Nat)) b⟩) :
    Calls Tryd.prog 38 #[x, .int .i64 m] w fun e w' => e = .returned (.int .i64 (m + (a : Nat) + (b : Nat))) ∧ Kept [] w w' := by
  obtain ⟨v, u, rfl, h1, h2⟩ := h
  obtain ⟨a1, cap, rfl, _, _, _⟩ := h1.any
  obtain ⟨b1, cap2, rfl, _, _, _⟩ := h2.any
  simp only [marks_length] at *
  have hk0 : Kept [] w (w.alloc (.cells #[.slice a1 a cap, .int .i64 c, .slice b1 b cap2] 25)) := (Kept.refl [] w).alloc _
  have HB := Lib.hid (Bk.new w 25 #[.slice a1 a cap, .int .i64 c, .slice b1 b cap2])
  have H1 := Lib.hid (h1.stay hk0)
  have H2 := Lib.hid (h2.stay hk0)
  have HK0 := Lib.hid hk0
  have HM := Lib.hid (And.intro h0 hm9)
  have HN := Lib.hid (And.intro hn hk)
  have d1 : decide (m + (a : Int) < 0) = false := dec_not (by omega)
  have d2 : decide (m + (a : Int) + (b : Int) < 0) = false := dec_not (by omega)
  obtain ⟨c0, c1, c2⟩ := HB.out.three
  clear h1 h2 hk0 h0 hm9 hn hk
  go_enter Tryd.func38, Tryd.ntmps38
  go_wp2_with fail
  generalize w.alloc (.cells #[.slice a1 a cap, .int .i64 c, .slice b1 b cap2] 25) = W0 at *
  refine (heldIntSAt_any m HM.out.1 (by have := HM.out.2; omega) a HN.out.1 _ _ _ H1.out).mono ?_
  rintro e w1 ⟨rfl, rfl⟩
  go_wp2_with fail
  refine (heldIntSAt_any (m + (a : Nat)) (by have := HM.out; omega) (by have := HM.out; have := HN.out; omega) b HN.out.2 _ _ _ H2.out).mono ?_
  rintro e w1 ⟨rfl, rfl⟩
  go_wp2
  go_ret
  exact ⟨rfl, HK0.out⟩

def plLen (p : Nt.Pi) : Nat := p.ns.length + p.ks.length
end Go.Proofs.YtaacehdfpoiljaaDoor
