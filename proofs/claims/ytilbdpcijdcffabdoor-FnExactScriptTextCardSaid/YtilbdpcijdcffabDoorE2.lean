/-
  Walks: copies of lists of lights, such lists compared, marked, and looked over.
-/
import Derived.Test.YtilbdpcijdcffabDoorLgD
import Derived.StillTailTactics
import Derived.Laws.Rows
namespace Go.Proofs.YtilbdpcijdcffabDoor
open Go.RowKit

/-- A slice of lights that came in from outside. -/
def ArgL (w : World) (v : Value) (xs : List (Int × Int)) : Prop :=
  ∃ (a : Option Addr) (cap : Nat), v = .slice a xs.length cap ∧ xs.length ≤ 9223372036854775807 ∧
    ∀ k, k < xs.length → ∃ b off, a = some ⟨b, off, none⟩ ∧ b < w.heap.size ∧ w.cell? ⟨b, off + k * 2, none⟩ = some (.int .i64 (Nt.at2 xs k).1) ∧ w.cell? ⟨b, off + k * 2 + 1, none⟩ = some (.int .i64 (Nt.at2 xs k).2)
theorem ArgL.stay {w w' : World} {v : Value} {xs : List (Int × Int)} (h : ArgL w v xs) (hk : Kept [] w w') : ArgL w' v xs := by
  obtain ⟨a, cap, rfl, hm, hc⟩ := h
  refine ⟨a, cap, rfl, hm, fun k hkl => ?_⟩
  obtain ⟨b, off, rfl, hb, h1, h2⟩ := hc k hkl
  exact ⟨b, off, rfl, Nat.lt_of_lt_of_le hb hk.size, (hk.cell (p := ⟨b, off + k * 2, none⟩) hb (by simp)).trans h1, (hk.cell (p := ⟨b, off + k * 2 + 1, none⟩) hb (by simp)).trans h2⟩

/-- What is told of a slice of lights that came in: it is nil; or it leads to a row of 'cap' lights. -/
def IsRowL (w : World) (a : Option Addr) (len cap : Nat) (zs : List (Int × Int)) : Prop :=
  (a = none ∧ len = 0 ∧ cap = 0 ∧ zs = []) ∨
  ∃ x, a = some x ∧ len ≤ cap ∧ cap ≤ maxLen ∧ zs.length = cap ∧ ∀ i, i < zs.length → w.cell? (x.add (i * 2)) = some (.int .i64 (Nt.at2 zs i).1) ∧ w.cell? (x.add (i * 2 + 1)) = some (.int .i64 (Nt.at2 zs i).2)
theorem argL_of {w : World} {a : Option Addr} {len cap : Nat} {zs : List (Int × Int)} (h : IsRowL w a len cap zs) : ArgL w (.slice a len cap) (zs.take len) := by
  rcases h with ⟨rfl, rfl, rfl, rfl⟩ | ⟨x, rfl, hl, hm, hz, hcell⟩
  · exact ⟨none, 0, rfl, by simp, fun k hk => by simp at hk⟩
  · have hlen : (zs.take len).length = len := by simp; omega
    refine ⟨some x, cap, by rw [hlen], by rw [hlen]; unfold maxLen at hm; omega, fun k hk => ?_⟩
    rw [hlen] at hk
    have h00 := (hcell 0 (by omega)).1
    obtain ⟨h1, h2⟩ := hcell k (by omega)
    obtain ⟨b, off, spot⟩ := x
    have hspot : spot = none := by simpa [Addr.add] using World.cell?_spot h00
    subst hspot
    have e : ∀ j, (⟨b, off, none⟩ : Addr).add j = ⟨b, off + j, none⟩ := fun j => by unfold Addr.add; split <;> simp_all
    rw [e] at h1 h2
    have e2 : Nt.at2 (zs.take len) k = Nt.at2 zs k := by simp [Nt.at2, List.getD_eq_getElem?_getD, hk]
    rw [e2]
    exact ⟨b, off, rfl, World.block_lt_of_cell? w _ h1, h1, by rw [← h2, Nat.add_assoc]⟩

/-- Copied up to i, zeros behind. -/
def copyToL (xs : List (Int × Int)) (i : Nat) : List (Int × Int) := xs.take i ++ List.replicate (xs.length - i) (0, 0)
theorem copyToL_length (xs : List (Int × Int)) (i : Nat) (h : i ≤ xs.length) : (copyToL xs i).length = xs.length := by simp [copyToL]; omega
theorem copyToL_set (xs : List (Int × Int)) (i : Nat) (h : i < xs.length) : (copyToL xs i).set i (Nt.at2 xs i) = copyToL xs (i + 1) := by
  unfold copyToL
  have hl : (xs.take i).length = i := by simp; omega
  have e : xs.length - i = (xs.length - (i + 1)) + 1 := by omega
  rw [List.set_append_right _ _ (by omega), hl, Nat.sub_self, e, List.replicate_succ, List.set_cons_zero, List.take_succ_eq_append_getElem h, List.append_assoc, Nt.at2_get h]
  rfl
theorem copyToL_end (xs : List (Int × Int)) : copyToL xs xs.length = xs := by simp [copyToL]
theorem copyToL_zero (xs : List (Int × Int)) : copyToL xs 0 = List.replicate xs.length (0, 0) := by simp [copyToL]

/-- Numbers that mark the cells of a list of lights. -/
def marksL (k : Int) (n : Nat) : List (Int × Int) := (List.range n).map fun i => (k + 2 * (i : Nat), k + 2 * (i : Nat) + 1)
theorem marksL_length (k : Int) (n : Nat) : (marksL k n).length = n := by simp [marksL]
theorem marksL_get (k : Int) (n i : Nat) (h : i < n) : Nt.at2 (marksL k n) i = (k + 2 * (i : Nat), k + 2 * (i : Nat) + 1) := by
  simp [marksL, Nt.at2, List.getD_eq_getElem?_getD, h]
def markToL (k : Int) (xs : List (Int × Int)) (i : Nat) : List (Int × Int) := marksL k i ++ xs.drop i
theorem markToL_length (k : Int) (xs : List (Int × Int)) (i : Nat) (h : i ≤ xs.length) : (markToL k xs i).length = xs.length := by simp [markToL, marksL_length]; omega
theorem markToL_set (k : Int) (xs : List (Int × Int)) (i : Nat) (h : i < xs.length) : (markToL k xs i).set i (k + 2 * (i : Nat), k + 2 * (i : Nat) + 1) = markToL k xs (i + 1) := by
  unfold markToL
  rw [List.set_append_right _ _ (by simp [marksL_length])]
  rw [marksL_length, Nat.sub_self, List.drop_eq_getElem_cons h, List.set_cons_zero]
  simp [marksL, List.range_succ]
theorem markToL_end (k : Int) (xs : List (Int × Int)) : markToL k xs xs.length = marksL k xs.length := by simp [markToL]

set_option maxHeartbeats 400000 in
set_option maxRecDepth 100000 in
theorem toLight_any (x y : Int) (w : World) :
    Calls Tryd.prog 16 #[.agg #[.int .i64 x, .int .i64 y]] w fun e w' => e = .returned (.agg #[.int .i64 x, .int .i64 y]) ∧ Kept [] w w' := by
  have HK := Lib.hid (fun (o1 o2 o3 : Obj) => (((Kept.refl [] w).alloc o1).alloc o2).alloc o3)
  go_enter Tryd.func16, Tryd.ntmps16
  go_wp2
  (try simp only [Exit.inBlock, Exit.then])
  refine bodyPost_ret (results_cell_row rfl _ _ (w.heap.size + 1) 36 #[.int .i64 x, .int .i64 y] (0, 0) _ rfl ?_ Tryd.underlying36 rfl (by kernel_rfl)) rfl ?_
  · rw [heap_alloc_old _ _ (by simp)]
    exact heap_alloc2_new _ _ _
  · exact ⟨rfl, HK.out _ _ _⟩

theorem light_iff (x y a b : Int) : (decide (((x, y) : Int × Int) = (a, b))) = (decide (x = a) && decide (y = b)) := by
  rw [Bool.eq_iff_iff]; simp

set_option maxHeartbeats 1000000 in
set_option maxRecDepth 100000 in
theorem eqLight_any (x y a b : Int) (w : World) :
    Calls Tryd.prog 20 #[.agg #[.int .i64 x, .int .i64 y], .agg #[.int .i64 a, .int .i64 b]] w fun e w' => e = .returned (.bool (decide (((x, y) : Int × Int) = (a, b)))) ∧ Kept [] w w' := by
  have HF := Lib.hid (light_iff x y a b)
  have HK := Lib.hid (fun (o o' : Obj) => ((Kept.refl [] w).alloc o).alloc o')
  by_cases h1 : x = a
  · have d1 : (x == a) = true := by simp [h1]
    have d1' : (x != a) = false := by simp [h1]
    have e1 : decide (x = a) = true := dec_of h1
    by_cases h2 : y = b
    · have d2 : (y == b) = true := by simp [h2]
      have d2' : (y != b) = false := by simp [h2]
      have HY : Hid (decide (((x, y) : Int × Int) = (a, b)) = true) := Lib.hid (by rw [HF.out, e1, dec_of h2]; rfl)
      clear h1 h2 e1
      go_enter Tryd.func20, Tryd.ntmps20
      go_wp2
      go_ret
      exact ⟨by rw [HY.out]; rfl, HK.out _ _⟩
    · have d2 : (y == b) = false := by simp [h2]
      have d2' : (y != b) = true := by simp [h2]
      have HY : Hid (decide (((x, y) : Int × Int) = (a, b)) = false) := Lib.hid (by rw [HF.out, e1, dec_not h2]; rfl)
      clear h1 h2 e1
      go_enter Tryd.func20, Tryd.ntmps20
      go_wp2
      go_ret
      exact ⟨by rw [HY.out]; rfl, HK.out _ _⟩
  · have d1 : (x == a) = false := by simp [h1]
    have d1' : (x != a) = true := by simp [h1]
    have HY : Hid (decide (((x, y) : Int × Int) = (a, b)) = false) := Lib.hid (by rw [HF.out, dec_not h1]; rfl)
    clear h1
    go_enter Tryd.func20, Tryd.ntmps20
    go_wp2
    go_ret
    exact ⟨by rw [HY.out]; rfl, HK.out _ _⟩

set_option maxHeartbeats 400000 in
set_option maxRecDepth 100000 in
theorem szLightS_big (n : Nat) (hn : 1048576 < n) (hm : n ≤ 9223372036854775807) (a : Option Addr) (cap : Nat) (w : World) :
    Calls Tryd.prog 5 #[.slice a n cap, .int .i64 1048576] w fun e w' => e = .returned (.int .i64 (-1)) ∧ w = w' := by
  have s1 : IntKind.i64.wrap (1048576 - (n : Int)) = 1048576 - (n : Int) := IntWalk.i64_in _ (by omega)
  have s2 : wrap64 (1048576 - (n : Int)) = 1048576 - (n : Int) := IntWalk.wrap64_in _ (by omega)
  have d1 : decide (1048576 - (n : Int) < 0) = true := dec_of (by omega)
  clear hm hn
  go_enter Tryd.func5, Tryd.ntmps5
  go_wp2
  all_goals
    first | (go_ret; exact ⟨rfl, rfl⟩) | skip

set_option maxHeartbeats 400000 in
set_option maxRecDepth 100000 in
theorem szLightS_ok (n : Nat) (hn : n ≤ 1048576) (a : Option Addr) (cap : Nat) (w : World) :
    Calls Tryd.prog 5 #[.slice a n cap, .int .i64 1048576] w fun e w' => e = .returned (.int .i64 (1048576 - (n : Int))) ∧ w = w' := by
  have s1 : IntKind.i64.wrap (1048576 - (n : Int)) = 1048576 - (n : Int) := IntWalk.i64_in _ (by omega)
  have s2 : wrap64 (1048576 - (n : Int)) = 1048576 - (n : Int) := IntWalk.wrap64_in _ (by omega)
  have d1 : decide (1048576 - (n : Int) < 0) = false := dec_not (by omega)
  clear hn
  go_enter Tryd.func5, Tryd.ntmps5
  go_wp2
  all_goals
    first | (go_ret; exact ⟨rfl, rfl⟩) | skip

set_option maxHeartbeats 1000000 in
set_option maxRecDepth 100000 in
theorem toLightS_any (xs : List (Int × Int)) (h20 : xs.length ≤ 1048576) (w : World) (v : Value) (ha : ArgL w v xs) :
    Calls Tryd.prog 7 #[v] w fun e w' => ∃ u, e = .returned u ∧ Sg w' w.heap.size u xs ∧ Kept [] w w' := by
  obtain ⟨a, cap, rfl, _, hc⟩ := ha
  have HC := Lib.hid hc
  clear hc
  go_enter Tryd.func7, Tryd.ntmps7
  go_wp2_with (at_make; refine make_light w xs.length rfl _ _ rfl rfl rfl ?_ ?_)
  · omega
  · intro w1 hs1 hk1 _
    have HS1 : Hid (Sg w1 w.heap.size (.slice (some ⟨w.heap.size, 0, none⟩) xs.length xs.length) (copyToL xs 0)) := Lib.hid (by rw [copyToL_zero]; exact hs1)
    have HK1 := Lib.hid hk1
    clear hs1 hk1
    go_wp2
    go_loopw [4] (fun i wr => ∃ k : Nat, k ≤ xs.length ∧ i = .int .i64 k ∧ Sg wr w.heap.size (.slice (some ⟨w.heap.size, 0, none⟩) xs.length xs.length) (copyToL xs k) ∧ Kept [] w wr) (fun i _ => xs.length - (intOf i).toNat)
    case atStart => exact ⟨0, Nat.zero_le _, rfl, HS1.out, HK1.out⟩
    case round =>
      clear HS1 HK1
      obtain ⟨k, hk, rfl, hsl, hkept⟩ := hrel
      have HSL := Lib.hid hsl
      have HK := Lib.hid hkept
      by_cases hlt : k < xs.length
      · obtain ⟨b, off, rfl, hb, h1, h2⟩ := HC.out k hlt
        have c1 := (hkept.cell (p := ⟨b, off + k * 2, none⟩) hb (by simp)).trans h1
        have c2 := (hkept.cell (p := ⟨b, off + k * 2 + 1, none⟩) hb (by simp)).trans h2
        have HSET := Lib.hid (copyToL_set xs k hlt)
        have HLK := Lib.hid (copyToL_length xs k hk)
        clear hsl hkept h1 h2
        generalize Nt.at2 xs k = p at *
        obtain ⟨x, y⟩ := p
        simp only at c1 c2
        go_wp2_with fail
        refine (toLight_any x y _).mono ?_
        rintro e w5 ⟨rfl, hk5⟩
        have HS5 := Lib.hid (HSL.out.stay hk5)
        have HK5 := Lib.hid (HK.out.trans hk5 (by simp))
        obtain ⟨q1, q2, r1, r2⟩ := HS5.out.at k (by rw [HLK.out]; exact hlt)
        clear hk5 c1 c2
        go_wp2
        go_roundw
        case rel => exact ⟨k + 1, by omega, by go_num, by rw [← HSET.out]; exact HS5.out.set HLK.out.symm k hlt x y, (HK5.out.setCell (.inr (Nat.le_refl _)) _).setCell (.inr (Nat.le_refl _)) _⟩
        case measure => simp [intOf]; omega
      · have hk' : k = xs.length := by omega
        subst hk'
        clear hsl hkept
        go_wp2
        go_ret
        exact ⟨_, rfl, by have h := HSL.out; rw [copyToL_end] at h; exact h, HK.out⟩

/-- Two lists of lights that agree up to k. -/
def sameL (xs ys : List (Int × Int)) (k : Nat) : Prop := ∀ i, i < k → Nt.at2 xs i = Nt.at2 ys i
theorem sameL_succ {xs ys : List (Int × Int)} {k : Nat} (h : sameL xs ys k) (h1 : Nt.at2 xs k = Nt.at2 ys k) : sameL xs ys (k + 1) := by
  intro j hj
  by_cases e : j = k
  · subst e; exact h1
  · exact h j (by omega)
theorem sameL_all {xs ys : List (Int × Int)} (h : sameL xs ys xs.length) (hl : xs.length = ys.length) : xs = ys := by
  apply List.ext_getElem hl
  intro i h1 h2
  have := h i h1
  rw [Nt.at2_get h1, Nt.at2_get h2] at this
  exact this

set_option maxHeartbeats 1000000 in
set_option maxRecDepth 100000 in
theorem eqLightS_any (xs ys : List (Int × Int)) (w : World) (v u : Value) (base base' : Nat) (hs : Sg w base v xs) (ht : Sg w base' u ys) :
    Calls Tryd.prog 9 #[v, u] w fun e w' => e = .returned (.bool (decide (xs = ys))) ∧ Kept [] w w' := by
  obtain ⟨a, cap, rfl, _, hm, hc⟩ := hs.any
  obtain ⟨b, cap', rfl, _, hm', hc'⟩ := ht.any
  have HC := Lib.hid hc
  have HD := Lib.hid hc'
  clear hc hc' hs ht
  by_cases hl : xs.length = ys.length
  · have h0 : ((xs.length : Int) != (ys.length : Int)) = false := by simp [hl]
    have HL := Lib.hid hl
    clear hl
    go_enter Tryd.func9, Tryd.ntmps9
    go_wp2
    go_loopw [5] (fun i wr => ∃ k : Nat, k ≤ xs.length ∧ i = .int .i64 k ∧ sameL xs ys k ∧ Kept [] w wr) (fun i _ => xs.length - (intOf i).toNat)
    case atStart => exact ⟨0, Nat.zero_le _, rfl, fun i hi => absurd hi (by omega), Kept.refl _ _⟩
    case round =>
      obtain ⟨k, hk, rfl, hsame, hq⟩ := hrel
      have HQ := Lib.hid hq
      have HS := Lib.hid hsame
      clear hsame
      by_cases hlt : k < xs.length
      · obtain ⟨g, rfl, _, hg1, c1, c2⟩ := HC.out k hlt
        have hlt2 : k < ys.length := by rw [← HL.out]; exact hlt
        obtain ⟨g', rfl, _, hg2, c3, c4⟩ := HD.out k hlt2
        have k1 := (hq.cell (p := ⟨g, k * 2, none⟩) hg1 (by simp)).trans c1
        have k2 := (hq.cell (p := ⟨g, k * 2 + 1, none⟩) hg1 (by simp)).trans c2
        have k3 := (hq.cell (p := ⟨g', k * 2, none⟩) hg2 (by simp)).trans c3
        have k4 := (hq.cell (p := ⟨g', k * 2 + 1, none⟩) hg2 (by simp)).trans c4
        have HNE : Hid (¬ Nt.at2 xs k = Nt.at2 ys k → decide (xs = ys) = false) := Lib.hid (fun h => dec_not (fun e => h (by rw [e])))
        have HSU := Lib.hid (fun h => sameL_succ HS.out h)
        clear c1 c2 c3 c4 hq
        generalize Nt.at2 xs k = p at *
        generalize Nt.at2 ys k = q at *
        obtain ⟨p1, p2⟩ := p
        obtain ⟨q1, q2⟩ := q
        simp only at k1 k2 k3 k4
        obtain ⟨b, hb⟩ : ∃ b, decide (((p1, p2) : Int × Int) = (q1, q2)) = b := ⟨_, rfl⟩
        have HB := Lib.hid hb
        clear hb
        go_wp2_with fail
        go_still_tail 8, (by kernel_rfl)
        change wpList _ _ _ _ _ wr.drew
        have HKD := Lib.hid HQ.out.drew
        clear k1 k2 k3 k4
        generalize wr.drew = w4 at *
        cases b
        · have HY := Lib.hid (HNE.out (of_decide_eq_false HB.out))
          go_wp2_with (go_at_call 20; refine (eqLight_any p1 p2 q1 q2 _).mono ?_; rintro e w5 ⟨rfl, hk5⟩; rw [HB.out]; have HK5 := Lib.hid (HKD.out.trans hk5 (by simp)); clear hk5)
          go_ret
          exact ⟨by rw [HY.out]; rfl, HK5.out⟩
        · have HY := Lib.hid (HSU.out (of_decide_eq_true HB.out))
          go_wp2_with (go_at_call 20; refine (eqLight_any p1 p2 q1 q2 _).mono ?_; rintro e w5 ⟨rfl, hk5⟩; rw [HB.out]; have HK5 := Lib.hid (HKD.out.trans hk5 (by simp)); clear hk5)
          go_roundw
          case rel => exact ⟨k + 1, by omega, by go_num, HY.out, HK5.out⟩
          case measure => simp [intOf]; omega
      · have hk' : xs.length = k := by omega
        subst hk'
        have HY := Lib.hid (dec_of (sameL_all HS.out HL.out))
        clear hq
        go_wp2
        go_ret
        exact ⟨by rw [HY.out]; rfl, HQ.out⟩
  · have h0 : ((xs.length : Int) != (ys.length : Int)) = true := bne_iff_ne.2 (by omega)
    have HY : Hid (decide (xs = ys) = false) := Lib.hid (dec_not (fun e => hl (by rw [e])))
    clear hl
    go_enter Tryd.func9, Tryd.ntmps9
    go_wp2
    go_ret
    exact ⟨by rw [HY.out]; rfl, Kept.refl _ _⟩

set_option maxHeartbeats 1000000 in
set_option maxRecDepth 100000 in
theorem markLightS_any (m : Int) (h0 : 0 ≤ m) (hm9 : m ≤ 1000000000) (xs : List (Int × Int)) (h20 : xs.length ≤ 2000000) (w : World) (v : Value) (base : Nat) (hs : Sg w base v xs) :
    Calls Tryd.prog 12 #[v, .int .i64 m] w fun e w' => e = .returned (.int .i64 (m + 2 * (xs.length : Nat))) ∧ Sg w' base v (marksL m xs.length) ∧ Kept v.ownBlock.toList w w' := by
  have HS := Lib.hid hs
  obtain ⟨a, cap, rfl, _, hm, hc⟩ := hs.any
  have HC := Lib.hid hc
  clear hc hs
  go_enter Tryd.func12, Tryd.ntmps12
  go_wp2
  go_loopw [1, 5] (fun q i wr => ∃ k : Nat, k ≤ xs.length ∧ i = .int .i64 k ∧ q = .int .i64 (m + 2 * (k : Int)) ∧ Sg wr base (.slice a xs.length cap) (markToL m xs k) ∧ Kept (Value.slice a xs.length cap).ownBlock.toList w wr) (fun _ i _ => xs.length - (intOf i).toNat)
  case atStart => exact ⟨0, Nat.zero_le _, rfl, by simp, by simpa [markToL, marksL] using HS.out, Kept.refl _ _⟩
  case round =>
    obtain ⟨k, hk, rfl, rfl, hsl, hkept⟩ := hrel
    have HSL := Lib.hid hsl
    have HK := Lib.hid hkept
    clear hkept
    by_cases hlt : k < xs.length
    · obtain ⟨g, rfl, _, _, _, _⟩ := HC.out k hlt
      obtain ⟨q1, q2, r1, r2⟩ := hsl.at k (by rw [markToL_length _ _ _ hk]; exact hlt)
      have q2' : ∀ u, (wr.setCell ⟨g, k * 2, none⟩ u).cell? ⟨g, k * 2 + 1, none⟩ = some (.int .i64 (Nt.at2 (markToL m xs k) k).2) := fun u => (World.cell?_setCell_other wr ⟨g, k * 2, none⟩ ⟨g, k * 2 + 1, none⟩ u (by simp)).trans q2
      have HX := Lib.hid (HSL.out.set (markToL_length m xs k hk).symm k hlt (m + 2 * (k : Int)) (m + 2 * (k : Int) + 1))
      have HKX := Lib.hid ((HK.out.setCell (p := ⟨g, k * 2, none⟩) (.inl (by simp [Value.ownBlock])) (.int .i64 (m + 2 * (k : Int)))).setCell (p := ⟨g, k * 2 + 1, none⟩) (.inl (by simp [Value.ownBlock])) (.int .i64 (m + 2 * (k : Int) + 1)))
      have HSET := Lib.hid (markToL_set m xs k hlt)
      clear hsl
      go_wp2
      go_roundw
      case rel => exact ⟨k + 1, by omega, by go_num, by go_num, by rw [← HSET.out]; exact HX.out, HKX.out⟩
      case measure => simp [intOf]; omega
    · have hk' : k = xs.length := by omega
      subst hk'
      clear hsl
      go_wp2
      go_ret
      exact ⟨rfl, by have h := HSL.out; rw [markToL_end] at h; exact h, HK.out⟩

set_option maxHeartbeats 1000000 in
set_option maxRecDepth 100000 in
theorem heldLightS_any (n : Nat) (h20 : n ≤ 2000000) (w : World) (v : Value) (base : Nat) (hs : Sg w base v (marksL 1 n)) :
    Calls Tryd.prog 13 #[v, .int .i64 1] w fun e w' => e = .returned (.int .i64 (1 + 2 * (n : Nat))) ∧ w = w' := by
  obtain ⟨a, cap, rfl, _, hm, hc⟩ := hs.any
  rw [marksL_length] at *
  have HC := Lib.hid hc
  clear hc hs
  go_enter Tryd.func13, Tryd.ntmps13
  go_wp2
  go_loop [1, 5] (fun m i => ∃ k : Nat, k ≤ n ∧ i = .int .i64 k ∧ m = .int .i64 (1 + 2 * (k : Int))) (fun _ i => n - (intOf i).toNat)
  case atStart => exact ⟨0, Nat.zero_le _, rfl, by simp⟩
  case round =>
    obtain ⟨k, hk, rfl, rfl⟩ := hrel
    by_cases hlt : k < n
    · obtain ⟨g, rfl, _, _, c1, c2⟩ := HC.out k hlt
      rw [marksL_get _ _ _ hlt] at c1 c2
      have hne : ((1 + 2 * (k : Int)) != (1 + 2 * (k : Int))) = false := by simp
      have hne2 : ((1 + 2 * (k : Int) + 1) != (1 + 2 * (k : Int) + 1)) = false := by simp
      go_wp2
      go_round
      case rel => exact ⟨k + 1, by omega, by go_num, by go_num⟩
      case measure => simp [intOf]; omega
    · have hk' : k = n := by omega
      subst hk'
      go_wp2
      go_ret
      exact ⟨rfl, rfl⟩
end Go.Proofs.YtilbdpcijdcffabDoor
