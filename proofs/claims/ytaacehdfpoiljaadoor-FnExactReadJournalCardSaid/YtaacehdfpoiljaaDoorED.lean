/-
  Walks: deeds of exact laws, and lists of them: copied, compared, marked, looked over.
-/
import Derived.Test.YtaacehdfpoiljaaDoorEP
import Derived.Test.YtaacehdfpoiljaaDoorPXT
namespace Go.Proofs.YtaacehdfpoiljaaDoor
open Go.RowKit

/-- A deed that came in from outside. -/
def ArgDd (_ : World) (x : Value) (a : Nt.Dd) : Prop := x = .agg #[.int .i64 a.kind, .int .i64 a.a, .int .i64 a.b]

def ddAt (ds : List Nt.Dd) (k : Nat) : Nt.Dd := ds.getD k ⟨0, 0, 0⟩

/-- A slice of deeds that came in from outside. -/
def ArgDs (w : World) (v : Value) (ds : List Nt.Dd) : Prop :=
  ∃ (a : Option Addr) (cap : Nat), v = .slice a ds.length cap ∧ ds.length ≤ 9223372036854775807 ∧
    ∀ k, k < ds.length → ∃ b off, a = some ⟨b, off, none⟩ ∧ b < w.heap.size ∧ w.cell? ⟨b, off + k * 3, none⟩ = some (.int .i64 (ddAt ds k).kind) ∧ w.cell? ⟨b, off + k * 3 + 1, none⟩ = some (.int .i64 (ddAt ds k).a) ∧ w.cell? ⟨b, off + k * 3 + 2, none⟩ = some (.int .i64 (ddAt ds k).b)

theorem ArgDs.stay {w w' : World} {v : Value} {ds : List Nt.Dd} (h : ArgDs w v ds) (hk : Kept [] w w') : ArgDs w' v ds := by
  obtain ⟨a, cap, rfl, h1, h3⟩ := h
  refine ⟨a, cap, rfl, h1, fun k hkl => ?_⟩
  obtain ⟨g, off, e, hg, c0, c1, c2⟩ := h3 k hkl
  exact ⟨g, off, e, Nat.lt_of_lt_of_le hg hk.size, (hk.cell (p := ⟨g, off + k * 3, none⟩) hg (by simp)).trans c0, (hk.cell (p := ⟨g, off + k * 3 + 1, none⟩) hg (by simp)).trans c1, (hk.cell (p := ⟨g, off + k * 3 + 2, none⟩) hg (by simp)).trans c2⟩

set_option maxHeartbeats 400000 in
set_option maxRecDepth 100000 in
theorem toDeed_any (k a b : Int) (w : World) :
    Calls Tryd.prog 39 #[.agg #[.int .i64 k, .int .i64 a, .int .i64 b]] w fun e w' => e = .returned (.agg #[.int .i64 k, .int .i64 a, .int .i64 b]) ∧ Kept [] w w' := by
  have HK := Lib.hid (fun (o1 o2 o3 : Obj) => (((Kept.refl [] w).alloc o1).alloc o2).alloc o3)
  go_enter Tryd.func39, Tryd.ntmps39
  go_wp2
  (try simp only [Exit.inBlock, Exit.then])
  refine bodyPost_ret (results_cell_row rfl _ _ (w.heap.size + 1) 36 #[.int .i64 k, .int .i64 a, .int .i64 b] (0, 0) _ rfl ?_ Tryd.underlying36 rfl (by kernel_rfl)) rfl ?_
  · rw [heap_alloc_old _ _ (by simp)]
    exact heap_alloc2_new _ _ _
  · exact ⟨rfl, HK.out _ _ _⟩

set_option maxHeartbeats 400000 in
set_option maxRecDepth 100000 in
theorem eqDeed_same (k a b : Int) (w : World) :
    Calls Tryd.prog 40 #[.agg #[.int .i64 k, .int .i64 a, .int .i64 b], .agg #[.int .i64 k, .int .i64 a, .int .i64 b]] w fun e w' => e = .returned (.bool true) ∧ Kept [] w w' := by
  have HK := Lib.hid (fun (o1 o2 : Obj) => ((Kept.refl [] w).alloc o1).alloc o2)
  have d1 : (k != k) = false := by simp
  have d2 : (a != a) = false := by simp
  have d3 : (b != b) = false := by simp
  go_enter Tryd.func40, Tryd.ntmps40
  go_wp2
  go_ret
  exact ⟨rfl, HK.out _ _⟩

set_option maxHeartbeats 400000 in
set_option maxRecDepth 100000 in
theorem szDeedS_any (n : Nat) (left : Int) (h0 : 0 ≤ left) (h1 : left ≤ 1048576) (hm : n ≤ 9223372036854775807) (a : Option Addr) (cap : Nat) (w : World) :
    Calls Tryd.prog 41 #[.slice a n cap, .int .i64 left] w fun e w' => (∃ r : Int, e = .returned (.int .i64 r) ∧ Hid (¬ r < 0 → n ≤ 1048576)) ∧ w = w' := by
  have s1 : IntKind.i64.wrap (left - (n : Int)) = left - (n : Int) := IntWalk.i64_in _ (by omega)
  by_cases h : left - (n : Int) < 0
  · have hd : decide (left - (n : Int) < 0) = true := dec_of h
    clear h0 h1 hm
    go_enter Tryd.func41, Tryd.ntmps41
    go_wp2
    go_ret
    exact ⟨⟨_, rfl, Lib.hid (fun h => by omega)⟩, rfl⟩
  · have hd : decide (left - (n : Int) < 0) = false := dec_not h
    have HH := Lib.hid (And.intro h h1)
    clear h0 h1 hm h
    go_enter Tryd.func41, Tryd.ntmps41
    go_wp2
    go_ret
    exact ⟨⟨_, rfl, Lib.hid (fun _ => by have := HH.out; omega)⟩, rfl⟩

def copyToD (ds : List Nt.Dd) (k : Nat) : List Nt.Dd := ds.take k ++ List.replicate (ds.length - k) ⟨0, 0, 0⟩

theorem copyToD_length (ds : List Nt.Dd) (i : Nat) (h : i ≤ ds.length) : (copyToD ds i).length = ds.length := by simp [copyToD]; omega

theorem ddAt_get {ds : List Nt.Dd} {k : Nat} (h : k < ds.length) : ddAt ds k = ds[k] := by
  unfold ddAt; rw [List.getD_eq_getElem?_getD, List.getElem?_eq_getElem h]; rfl

theorem copyToD_set (ds : List Nt.Dd) (i : Nat) (h : i < ds.length) : (copyToD ds i).set i (ddAt ds i) = copyToD ds (i + 1) := by
  unfold copyToD
  have hl : (ds.take i).length = i := by simp; omega
  have e : ds.length - i = (ds.length - (i + 1)) + 1 := by omega
  rw [List.set_append_right _ _ (by omega), hl, Nat.sub_self, e, List.replicate_succ, List.set_cons_zero, List.take_succ_eq_append_getElem h, List.append_assoc, ddAt_get h]
  rfl

theorem copyToD_end (ds : List Nt.Dd) : copyToD ds ds.length = ds := by simp [copyToD]

theorem Dg.set3 {w : World} {base g cap n : Nat} {ds : List Nt.Dd} (h : Dg w base (.slice (some ⟨g, 0, none⟩) n cap) ds) (hn : n = ds.length) (k : Nat) (hk : k < n) (a b c : Int) :
    Dg (((w.setCell ⟨g, k * 3, none⟩ (.int .i64 a)).setCell ⟨g, k * 3 + 1, none⟩ (.int .i64 b)).setCell ⟨g, k * 3 + 2, none⟩ (.int .i64 c)) base (.slice (some ⟨g, 0, none⟩) n cap) (ds.set k ⟨a, b, c⟩) := by
  have h1 := Tg.set3 h (by rw [List.length_map]; exact hn) k hk (.int .i64 a) (.int .i64 b) (.int .i64 c)
  unfold Dg
  rw [List.map_set]
  exact h1

theorem Dg.stay {w w' : World} {base : Nat} {v : Value} {ds : List Nt.Dd} (h : Dg w base v ds) (hk : Kept [] w w') : Dg w' base v ds := Tg.stay h hk

theorem Dg.mono {w : World} {base base' : Nat} {v : Value} {ds : List Nt.Dd} (h : Dg w base v ds) (hb : base' ≤ base) : Dg w base' v ds := Tg.mono h hb

theorem Dg.cells {w : World} {base : Nat} {v : Value} {ds : List Nt.Dd} (h : Dg w base v ds) : ∃ (a : Option Addr) (cap : Nat), v = .slice a ds.length cap ∧ ds.length ≤ 9223372036854775807 ∧
    ∀ k, k < ds.length → ∃ g, a = some ⟨g, 0, none⟩ ∧ base ≤ g ∧ g < w.heap.size ∧ w.cell? ⟨g, k * 3, none⟩ = some (.int .i64 (ddAt ds k).kind) ∧ w.cell? ⟨g, k * 3 + 1, none⟩ = some (.int .i64 (ddAt ds k).a) ∧ w.cell? ⟨g, k * 3 + 2, none⟩ = some (.int .i64 (ddAt ds k).b) ∧ (∀ j, w.frozen? ⟨g, j, none⟩ = false) := by
  have hl : (ds.map d3).length = ds.length := List.length_map ..
  rcases Tg.form h with ⟨rfl, e⟩ | ⟨g, cap, rfl, hb, hg, hc, hm, hcell, hfr⟩
  · have e2 : ds = [] := by simpa using e
    subst e2
    exact ⟨none, 0, rfl, by simp, fun k hk => by simp at hk⟩
  · refine ⟨_, cap, by rw [hl], by omega, fun k hk => ⟨g, rfl, hb, hg, ?_⟩⟩
    obtain ⟨c0, c1, c2⟩ := hcell k (by omega)
    rw [d3_at ds hk] at c0 c1 c2
    exact ⟨c0, c1, c2, hfr⟩

set_option maxHeartbeats 1000000 in
set_option maxRecDepth 100000 in
theorem toDeedS_any (ds : List Nt.Dd) (h20 : ds.length ≤ 1048576) (w : World) (v : Value) (ha : ArgDs w v ds) :
    Calls Tryd.prog 42 #[v] w fun e w' => ∃ u, e = .returned u ∧ Dg w' w.heap.size u ds ∧ Kept [] w w' := by
  obtain ⟨a, cap, rfl, _, hc⟩ := ha
  have HC := Lib.hid hc
  clear hc
  go_enter Tryd.func42, Tryd.ntmps42
  go_wp2_with (at_make; refine make_tri 36 41 (.int .i64 0) (.int .i64 0) (.int .i64 0) 24 Tryd.underlying41 info_deed (by omega) rfl w ds.length rfl _ _ rfl rfl rfl (by omega) ?_; intro w1 hs1 hk1 hz1)
  have HS1 : Hid (Dg w1 w.heap.size (.slice (some ⟨w.heap.size, 0, none⟩) ds.length ds.length) (copyToD ds 0)) := Lib.hid (by
    unfold Dg
    rw [show (copyToD ds 0).map d3 = List.replicate ds.length (Value.int .i64 0, Value.int .i64 0, Value.int .i64 0) from by simp [copyToD, d3]]
    exact hs1)
  have HK1 := Lib.hid hk1
  clear hs1 hk1 hz1
  go_wp2_with fail
  go_loopw [4] (fun i wr => ∃ k : Nat, k ≤ ds.length ∧ i = .int .i64 k ∧ Dg wr w.heap.size (.slice (some ⟨w.heap.size, 0, none⟩) ds.length ds.length) (copyToD ds k) ∧ Kept [] w wr) (fun i _ => ds.length - (intOf i).toNat)
  case atStart => exact ⟨0, Nat.zero_le _, rfl, HS1.out, HK1.out⟩
  case round =>
    clear HS1 HK1
    obtain ⟨k, hk, rfl, hsl, hkept⟩ := hrel
    have HSL := Lib.hid hsl
    have HK := Lib.hid hkept
    by_cases hlt : k < ds.length
    · obtain ⟨b, off, rfl, hb, h1, h2, h3⟩ := HC.out k hlt
      have c1 := (hkept.cell (p := ⟨b, off + k * 3, none⟩) hb (by simp)).trans h1
      have c2 := (hkept.cell (p := ⟨b, off + k * 3 + 1, none⟩) hb (by simp)).trans h2
      have c3 := (hkept.cell (p := ⟨b, off + k * 3 + 2, none⟩) hb (by simp)).trans h3
      have HSET := Lib.hid (copyToD_set ds k hlt)
      have HLK := Lib.hid (copyToD_length ds k hk)
      clear hsl hkept h1 h2 h3
      generalize ddAt ds k = p at *
      obtain ⟨x, y, z⟩ := p
      simp only at c1 c2 c3
      go_wp2_with fail
      refine (toDeed_any x y z _).mono ?_
      rintro e w5 ⟨rfl, hk5⟩
      have HS5 := Lib.hid (HSL.out.stay hk5)
      have HK5 := Lib.hid (HK.out.trans hk5 (by simp))
      obtain ⟨a', cap', e', _, hcc⟩ := HS5.out.cells
      simp only [Value.slice.injEq] at e'
      obtain ⟨g', hg', _, _, q1, q2, q3, hfr⟩ := hcc k (by rw [HLK.out]; exact hlt)
      rw [← e'.1] at hg'
      simp only [Option.some.injEq, Addr.mk.injEq, and_true] at hg'
      subst hg'
      have r1 := hfr (k * 3)
      have r2 := hfr (k * 3 + 1)
      have r3 := hfr (k * 3 + 2)
      clear hk5 c1 c2 c3 hfr hcc e'
      go_wp2
      go_roundw
      case rel => exact ⟨k + 1, by omega, by go_num, by rw [← HSET.out]; exact HS5.out.set3 HLK.out.symm k hlt x y z, HK5.out.tri3 (.inr (Nat.le_refl _)) _ _ _ _ _ _⟩
      case measure => simp [intOf]; omega
    · have hk' : k = ds.length := by omega
      subst hk'
      clear hsl hkept
      go_wp2
      go_ret
      exact ⟨_, rfl, by have h := HSL.out; rw [copyToD_end] at h; exact h, HK.out⟩

set_option maxHeartbeats 4000000 in
set_option maxRecDepth 100000 in
theorem eqDeedS_same (ds : List Nt.Dd) (w : World) (v u : Value) (base base' : Nat) (h : Dg w base v ds) (h' : Dg w base' u ds) :
    Calls Tryd.prog 43 #[v, u] w fun e w' => e = .returned (.bool true) ∧ Kept [] w w' := by
  obtain ⟨a, cap, rfl, hm, hp⟩ := h.cells
  obtain ⟨a', cap', rfl, _, hp'⟩ := h'.cells
  have HP := Lib.hid hp
  have HP' := Lib.hid hp'
  have hne : ((ds.length : Int) != (ds.length : Int)) = false := by simp
  clear hp hp' h h'
  obtain ⟨n, hn⟩ : ∃ n, n = ds.length := ⟨_, rfl⟩
  rw [← hn] at HP HP' hm hne ⊢
  clear hn
  go_enter Tryd.func43, Tryd.ntmps43
  go_wp2_with fail
  go_loopw [5] (fun i wr => ∃ k : Nat, k ≤ n ∧ i = .int .i64 k ∧ Kept [] w wr) (fun i _ => n - (intOf i).toNat)
  case atStart => exact ⟨0, Nat.zero_le _, rfl, Kept.refl _ _⟩
  case round =>
    obtain ⟨k, hk, rfl, hkept⟩ := hrel
    have HK := Lib.hid hkept
    by_cases hlt : k < n
    · obtain ⟨g, rfl, _, hg, p0, p1, p2, _⟩ := HP.out k hlt
      obtain ⟨g', rfl, _, hg', q0, q1, q2, _⟩ := HP'.out k hlt
      have HGG := Lib.hid (And.intro hg hg')
      have HKW := Lib.hid hkept
      generalize ddAt ds k = p at *
      obtain ⟨x, y, z⟩ := p
      simp only at p0 p1 p2 q0 q1 q2
      have HC : Hid (∀ W, Kept [] wr W → Calls Tryd.prog 40 #[.agg #[.int .i64 x, .int .i64 y, .int .i64 z], .agg #[.int .i64 x, .int .i64 y, .int .i64 z]] W fun e w' => e = .returned (.bool true) ∧ Kept [] wr w') := Lib.hid (fun W k' => (eqDeed_same x y z W).mono (by rintro e w' ⟨rfl, hk⟩; exact ⟨rfl, k'.trans hk (by simp)⟩))
      have HSB : Hid (∀ w', Kept [] wr w' → w'.cell? ⟨g, k * 3, none⟩ = some (.int .i64 x) ∧ w'.cell? ⟨g, k * 3 + 1, none⟩ = some (.int .i64 y) ∧ w'.cell? ⟨g, k * 3 + 2, none⟩ = some (.int .i64 z) ∧ w'.cell? ⟨g', k * 3, none⟩ = some (.int .i64 x) ∧ w'.cell? ⟨g', k * 3 + 1, none⟩ = some (.int .i64 y) ∧ w'.cell? ⟨g', k * 3 + 2, none⟩ = some (.int .i64 z)) := Lib.hid (fun w' k' => ⟨((HKW.out.trans k' (by simp)).cell (p := ⟨g, k * 3, none⟩) HGG.out.1 (by simp)).trans p0, ((HKW.out.trans k' (by simp)).cell (p := ⟨g, k * 3 + 1, none⟩) HGG.out.1 (by simp)).trans p1, ((HKW.out.trans k' (by simp)).cell (p := ⟨g, k * 3 + 2, none⟩) HGG.out.1 (by simp)).trans p2, ((HKW.out.trans k' (by simp)).cell (p := ⟨g', k * 3, none⟩) HGG.out.2 (by simp)).trans q0, ((HKW.out.trans k' (by simp)).cell (p := ⟨g', k * 3 + 1, none⟩) HGG.out.2 (by simp)).trans q1, ((HKW.out.trans k' (by simp)).cell (p := ⟨g', k * 3 + 2, none⟩) HGG.out.2 (by simp)).trans q2⟩)
      clear p0 p1 p2 q0 q1 q2 hkept hg hg'
      go_wp2_with fail
      go_region_held3 (fun w' => w'.cell? ⟨g, k * 3, none⟩ = some (.int .i64 x) ∧ w'.cell? ⟨g, k * 3 + 1, none⟩ = some (.int .i64 y) ∧ w'.cell? ⟨g, k * 3 + 2, none⟩ = some (.int .i64 z) ∧ w'.cell? ⟨g', k * 3, none⟩ = some (.int .i64 x) ∧ w'.cell? ⟨g', k * 3 + 1, none⟩ = some (.int .i64 y) ∧ w'.cell? ⟨g', k * 3 + 2, none⟩ = some (.int .i64 z))
        ((refine HSB.out _ ?_; repeat (first | exact Kept.refl _ _ | assumption | apply Kept.alloc | apply Kept.drew)))
        (first
        | (go_simp; go_at_call 40; refine (HC.out _ (by repeat (first | exact Kept.refl _ _ | assumption | apply Kept.alloc | apply Kept.drew))).mono ?_; rintro e w2 ⟨rfl, k2⟩)
        | (refine (HC.out _ (by repeat (first | exact Kept.refl _ _ | assumption | apply Kept.alloc | apply Kept.drew))).mono ?_; rintro e w2 ⟨rfl, k2⟩))
      all_goals
        go_wp2
        go_roundw
        case rel => exact ⟨k + 1, by omega, by go_num, HK.out.trans k2 (by simp)⟩
        case measure => simp [intOf]; omega
    · have hk' : k = n := by omega
      subst hk'
      clear hkept
      go_wp2
      go_ret
      exact ⟨rfl, HK.out⟩

def marksD (m : Int) (n : Nat) : List Nt.Dd := (List.range n).map fun i => ⟨m + 3 * (i : Nat), m + 3 * (i : Nat) + 1, m + 3 * (i : Nat) + 2⟩

theorem marksD_length (m : Int) (n : Nat) : (marksD m n).length = n := by simp [marksD]

theorem marksD_get (m : Int) (n i : Nat) (h : i < n) : ddAt (marksD m n) i = ⟨m + 3 * (i : Nat), m + 3 * (i : Nat) + 1, m + 3 * (i : Nat) + 2⟩ := by
  simp [marksD, ddAt, List.getD_eq_getElem?_getD, h]

def markToD (m : Int) (ds : List Nt.Dd) (i : Nat) : List Nt.Dd := marksD m i ++ ds.drop i

theorem markToD_length (m : Int) (ds : List Nt.Dd) (i : Nat) (h : i ≤ ds.length) : (markToD m ds i).length = ds.length := by simp [markToD, marksD_length]; omega

theorem markToD_set (m : Int) (ds : List Nt.Dd) (i : Nat) (h : i < ds.length) : (markToD m ds i).set i ⟨m + 3 * (i : Nat), m + 3 * (i : Nat) + 1, m + 3 * (i : Nat) + 2⟩ = markToD m ds (i + 1) := by
  unfold markToD
  rw [List.set_append_right _ _ (by simp [marksD_length])]
  rw [marksD_length, Nat.sub_self, List.drop_eq_getElem_cons h, List.set_cons_zero]
  simp [marksD, List.range_succ]

theorem markToD_end (m : Int) (ds : List Nt.Dd) : markToD m ds ds.length = marksD m ds.length := by simp [markToD]

set_option maxHeartbeats 2000000 in
set_option maxRecDepth 100000 in
theorem markDeedS_any (m : Int) (h0 : 0 ≤ m) (ds : List Nt.Dd) (hT : m + 3 * (ds.length : Nat) ≤ 10000000) (w : World) (v : Value) (base : Nat) (hs : Dg w base v ds) :
    Calls Tryd.prog 45 #[v, .int .i64 m] w fun e w' => e = .returned (.int .i64 (m + 3 * (ds.length : Nat))) ∧ Dg w' base v (marksD m ds.length) ∧ Kept v.ownBlock.toList w w' := by
  have HS := Lib.hid hs
  obtain ⟨a, cap, rfl, _, hc⟩ := hs.cells
  have HC := Lib.hid hc
  have HH := Lib.hid (And.intro h0 hT)
  obtain ⟨n, hn⟩ : ∃ n, n = ds.length := ⟨_, rfl⟩
  have HN := Lib.hid hn
  rw [← hn] at HS HC HH ⊢
  have hn2 : n ≤ 10000000 := by omega
  clear hc hs h0 hT hn
  go_enter Tryd.func45, Tryd.ntmps45
  go_wp2_with fail
  go_loopw [1, 5] (fun q i wr => ∃ k : Nat, k ≤ n ∧ i = .int .i64 k ∧ q = .int .i64 (m + 3 * (k : Int)) ∧ Dg wr base (.slice a n cap) (markToD m ds k) ∧ Kept (Value.slice a n cap).ownBlock.toList w wr) (fun _ i _ => n - (intOf i).toNat)
  case atStart => exact ⟨0, Nat.zero_le _, rfl, by simp, by simpa [markToD, marksD] using HS.out, Kept.refl _ _⟩
  case round =>
    obtain ⟨k, hk, rfl, rfl, hsl, hkept⟩ := hrel
    have HSL := Lib.hid hsl
    have HK := Lib.hid hkept
    clear hkept
    by_cases hlt : k < n
    · obtain ⟨g, rfl, _, _, _, _⟩ := HC.out k hlt
      have HLK : Hid (n = (markToD m ds k).length) := Lib.hid (by rw [markToD_length m ds k (by rw [← HN.out]; exact hk)]; exact HN.out)
      obtain ⟨a', cap', e', _, hcc⟩ := hsl.cells
      simp only [Value.slice.injEq] at e'
      obtain ⟨g', hg', _, _, q1, q2, q3, hfr⟩ := hcc k (by rw [← HLK.out]; exact hlt)
      rw [← e'.1] at hg'
      simp only [Option.some.injEq, Addr.mk.injEq, and_true] at hg'
      subst hg'
      have r1 := hfr (k * 3)
      have r2 := hfr (k * 3 + 1)
      have r3 := hfr (k * 3 + 2)
      have HX := Lib.hid (HSL.out.set3 HLK.out k hlt (m + 3 * (k : Int)) (m + 3 * (k : Int) + 1) (m + 3 * (k : Int) + 2))
      have HKX := Lib.hid (HK.out.tri3 (g := g) (.inl (by simp [Value.ownBlock])) (k * 3) (k * 3 + 1) (k * 3 + 2) (.int .i64 (m + 3 * (k : Int))) (.int .i64 (m + 3 * (k : Int) + 1)) (.int .i64 (m + 3 * (k : Int) + 2)))
      have HSET := Lib.hid (markToD_set m ds k (by rw [← HN.out]; exact hlt))
      have s1 : IntKind.i64.wrap (m + 3 * (k : Int) + 1) = m + 3 * (k : Int) + 1 := IntWalk.i64_in _ (by have := HH.out; omega)
      have s2 : IntKind.i64.wrap (m + 3 * (k : Int) + 1 + 1) = m + 3 * (k : Int) + 2 := (IntWalk.i64_in _ (by have := HH.out; omega)).trans (by omega)
      have s3 : IntKind.i64.wrap (m + 3 * (k : Int) + 2 + 1) = m + 3 * (k : Int) + 3 := (IntWalk.i64_in _ (by have := HH.out; omega)).trans (by omega)
      have q2' : ∀ u, (wr.setCell ⟨g, k * 3, none⟩ u).cell? ⟨g, k * 3 + 1, none⟩ = some (.int .i64 (ddAt (markToD m ds k) k).a) := fun u => (World.cell?_setCell_other wr ⟨g, k * 3, none⟩ ⟨g, k * 3 + 1, none⟩ u (by simp)).trans q2
      have q3' : ∀ u v, ((wr.setCell ⟨g, k * 3, none⟩ u).setCell ⟨g, k * 3 + 1, none⟩ v).cell? ⟨g, k * 3 + 2, none⟩ = some (.int .i64 (ddAt (markToD m ds k) k).b) := fun u v => (World.cell?_setCell_other _ ⟨g, k * 3 + 1, none⟩ ⟨g, k * 3 + 2, none⟩ v (by simp)).trans ((World.cell?_setCell_other wr ⟨g, k * 3, none⟩ ⟨g, k * 3 + 2, none⟩ u (by simp)).trans q3)
      clear hsl hfr hcc e'
      go_wp2
      go_roundw
      case rel => exact ⟨k + 1, by omega, by go_num, by go_num, by rw [← HSET.out]; exact HX.out, HKX.out⟩
      case measure => simp [intOf]; omega
    · have hk' : k = n := by omega
      subst hk'
      clear hsl
      go_wp2
      go_ret
      exact ⟨rfl, by have h := HSL.out; rw [HN.out, markToD_end, ← HN.out] at h; exact h, HK.out⟩

theorem szDeedS_n (ds : List Nt.Dd) (left : Int) (h0 : 0 ≤ left) (h1 : left ≤ 1048576) (w : World) (v : Value) (h : ArgDs w v ds) :
    Calls Tryd.prog 41 #[v, .int .i64 left] w fun e w' => ∃ r : Int, e = .returned (.int .i64 r) ∧ Hid (¬ r < 0 → ds.length ≤ 1048576) ∧ Kept [] w w' := by
  obtain ⟨a, cap, rfl, hm, _⟩ := h
  exact (szDeedS_any ds.length left h0 h1 hm a cap w).mono (by
    rintro e w' ⟨⟨r, rfl, hr⟩, rfl⟩
    exact ⟨r, rfl, hr, Kept.refl _ _⟩)

/-- A list of deeds in memory of its own, between two blocks. -/
def Dn (w : World) (lo hi : Nat) (v : Value) (ds : List Nt.Dd) : Prop := Dg w lo v ds ∧ ∀ g, v.ownBlock = some g → g < hi

theorem Dn.stay {w w' : World} {lo hi : Nat} {v : Value} {ds : List Nt.Dd} (h : Dn w lo hi v ds) (hk : Kept [] w w') : Dn w' lo hi v ds := ⟨h.1.stay hk, h.2⟩

theorem Dn.kin {w w' : World} {lo hi lo' hi' : Nat} {v : Value} {ds : List Nt.Dd} (h : Dn w lo hi v ds) (hk : Kin lo' hi' w w') (hn : hi' ≤ lo) : Dn w' lo hi v ds := by
  obtain ⟨rows, hk, hr⟩ := hk
  exact ⟨Tg.kept h.1 hk (fun g hg hm => by have h1 := hr g hm; have h2 := (Tg.block h.1 hg).1; omega), h.2⟩

theorem toDeedS_dn (ds : List Nt.Dd) (h20 : ds.length ≤ 1048576) (w : World) (v : Value) (ha : ArgDs w v ds) :
    Calls Tryd.prog 42 #[v] w fun e w' => ∃ u, e = .returned u ∧ Dn w' w.heap.size w'.heap.size u ds ∧ Kept [] w w' :=
  (toDeedS_any ds h20 w v ha).mono (by
    rintro e w' ⟨u, rfl, h1, h2⟩
    exact ⟨u, rfl, ⟨h1, fun _ hg => (Tg.block h1 hg).2⟩, h2⟩)

theorem markDeedS_dn (m : Int) (h0 : 0 ≤ m) (ds : List Nt.Dd) (hT : m + 3 * (ds.length : Nat) ≤ 10000000) (w : World) (v : Value) (lo hi : Nat) (h : Dn w lo hi v ds) :
    Calls Tryd.prog 45 #[v, .int .i64 m] w fun e w' => e = .returned (.int .i64 (m + 3 * (ds.length : Nat))) ∧ Dn w' lo hi v (marksD m ds.length) ∧ Kin lo hi w w' :=
  (markDeedS_any m h0 ds hT w v lo h.1).mono (by
    rintro e w' ⟨rfl, h1, h2⟩
    refine ⟨rfl, ⟨h1, h.2⟩, ⟨_, h2, fun g hg => ?_⟩⟩
    have hg' : v.ownBlock = some g := by simpa using hg
    exact ⟨(Tg.block h.1 hg').1, h.2 g hg'⟩)

set_option maxHeartbeats 2000000 in
set_option maxRecDepth 100000 in
theorem heldDeedS_any (m : Int) (h0 : 0 ≤ m) (n : Nat) (hT : m + 3 * (n : Nat) ≤ 10000000) (w : World) (v : Value) (base : Nat) (hs : Dg w base v (marksD m n)) :
    Calls Tryd.prog 46 #[v, .int .i64 m] w fun e w' => e = .returned (.int .i64 (m + 3 * (n : Nat))) ∧ w = w' := by
  obtain ⟨a, cap, rfl, _, hc⟩ := hs.cells
  rw [marksD_length] at hc ⊢
  have HC := Lib.hid hc
  have HM := Lib.hid (fun k (hk : k < n) => marksD_get m n k hk)
  have HH := Lib.hid (And.intro h0 hT)
  have hn2 : n ≤ 10000000 := by omega
  clear hc hs h0 hT
  go_enter Tryd.func46, Tryd.ntmps46
  go_wp2_with fail
  go_loop [1, 5] (fun q i => ∃ k : Nat, k ≤ n ∧ i = .int .i64 k ∧ q = .int .i64 (m + 3 * (k : Int))) (fun _ i => n - (intOf i).toNat)
  case atStart => exact ⟨0, Nat.zero_le _, rfl, by simp⟩
  case round =>
    obtain ⟨k, hk, rfl, rfl⟩ := hrel
    by_cases hlt : k < n
    · obtain ⟨g, rfl, _, _, q1, q2, q3, _⟩ := HC.out k hlt
      rw [HM.out k hlt] at q1 q2 q3
      simp only at q1 q2 q3
      have s1 : IntKind.i64.wrap (m + 3 * (k : Int) + 1) = m + 3 * (k : Int) + 1 := IntWalk.i64_in _ (by have := HH.out; omega)
      have s2 : IntKind.i64.wrap (m + 3 * (k : Int) + 1 + 1) = m + 3 * (k : Int) + 2 := (IntWalk.i64_in _ (by have := HH.out; omega)).trans (by omega)
      have s3 : IntKind.i64.wrap (m + 3 * (k : Int) + 2 + 1) = m + 3 * (k : Int) + 3 := (IntWalk.i64_in _ (by have := HH.out; omega)).trans (by omega)
      have e1 : (m + 3 * (k : Int) != m + 3 * (k : Int)) = false := by simp
      have e2 : (m + 3 * (k : Int) + 1 != m + 3 * (k : Int) + 1) = false := by simp
      have e3 : (m + 3 * (k : Int) + 2 != m + 3 * (k : Int) + 2) = false := by simp
      go_wp2
      go_round
      case rel => exact ⟨k + 1, by omega, by go_num, by go_num⟩
      case measure => simp [intOf]; omega
    · have hk' : k = n := by omega
      subst hk'
      go_wp2
      go_ret
      exact ⟨rfl, rfl⟩
end Go.Proofs.YtaacehdfpoiljaaDoor
