/-
  Walks: numbers of states, by the program (an iterator that goes backwards) and by the model.
-/
import Derived.RangeFuncNested
import Derived.RangeFuncBound
import Derived.RangeFuncCalls
import Derived.RangeFuncLeaves
import Derived.RangeFuncFrom
import Derived.RangeFuncBox
import Derived.Shelf.Abstract
import Derived.Shelf.RegionOpen
import Derived.OwnWalkIn
import Derived.TacticsInMore
import Derived.LoopNIn
import Derived.LoopIn
import Derived.Test.YtlcbpnbehbgbeaaNA
namespace Go.Proofs.Ytlcbpnbehbgbeaa
open Go.RowKit Go.Shelf
open Nt (stB)

set_option maxHeartbeats 1000000 in
set_option maxRecDepth 100000 in
theorem sNumber_any (kinds : Int) (xs : List Int) (w : World) (v : Value) (base : Nat) (hs : Sl w base v xs) :
    Calls Try.prog 57 #[.int .i64 kinds, v] w fun e w' => e = .returned (.int .i64 (Nt.numberOf kinds xs)) ∧ w = w' := by
  have HS := Lib.hid hs
  by_cases ho : stB kinds xs = true
  · obtain ⟨c, ks, rfl, rfl, hst⟩ := Nt.stB_st ho
    have HF := Lib.hid (Nt.numberOf_ok hst)
    have HST := Lib.hid hst
    obtain ⟨n, hn⟩ : ∃ n, n = ks.length := ⟨_, rfl⟩
    have hp := hst.some
    have h6 := hst.few
    have h5 := hst.c5
    rw [← hn] at hp h6
    obtain ⟨g, cap, rfl, hg, hc⟩ := hs.row hn.symm hp
    have HC := Lib.hid hc
    have HN := Lib.hid hn
    have H0 : Hid (Nt.num c (ks.drop n) = 0) := Lib.hid (by rw [hn, List.drop_length]; rfl)
    clear hs hst hc hn
    go_enter Try.func57, Try.ntmps57
    go_wp2_with fail
    refine (sStateOk_any (c : Int) (Nt.nats ks) _ _ base HS.out).mono ?_
    rintro e w' ⟨rfl, rfl⟩
    rw [ho]
    clear ho
    go_wp2
    go_loop [5, 6] (fun q i => ∃ k : Nat, k ≤ n ∧ i = .int .i64 ((k : Int) - 1) ∧ q = .int .i64 ((Nt.num c (ks.drop k) : Nat) : Int)) (fun _ i => (intOf i + 1).toNat)
    case atStart => exact ⟨n, Nat.le_refl _, rfl, by rw [H0.out]; rfl⟩
    case round =>
      obtain ⟨k, hk, rfl, rfl⟩ := hrel
      by_cases hpos : 0 < k
      · obtain ⟨j, rfl⟩ : ∃ j, k = j + 1 := ⟨k - 1, by omega⟩
        have hck := HC.out j (by omega)
        have HD := Lib.hid (Nt.num_drop (c := c) (ks := ks) (k := j) (by rw [← HN.out]; omega))
        have hb1 := Nt.num_small HST.out (j + 1)
        have hlt := HST.out.lt j (by rw [← HN.out]; omega)
        generalize Nt.num c (ks.drop (j + 1)) = q at *
        generalize ks.getD j 0 = x at *
        have hmul : q * c ≤ 15625 * 5 := Nat.mul_le_mul (by omega) h5
        have e0 : ((j + 1 : Nat) : Int) - 1 = (j : Int) := by omega
        have e1 : (q : Int) * (c : Int) = ((q * c : Nat) : Int) := by simp
        rw [e0]
        have HE1 := Lib.hid e1
        have m1 : wrap64 ((q : Int) * (c : Int)) = ((q * c : Nat) : Int) := by rw [e1]; exact IntWalk.wrap64_in _ (by omega)
        have m2 : IntKind.i64.wrap ((q : Int) * (c : Int)) = ((q * c : Nat) : Int) := by rw [e1]; exact IntWalk.i64_in _ (by omega)
        clear e1 e0
        generalize q * c = p at *
        go_wp2
        go_round
        case rel => exact ⟨j, by omega, by go_num, by rw [HD.out]; first | rfl | go_num⟩
        case measure => first | (simp [intOf]; done) | (simp [intOf]; omega)
      · have hk0 : k = 0 := by omega
        subst hk0
        go_wp2
        go_ret
        exact ⟨by rw [HF.out]; first | rfl | simp, rfl⟩
  · have ho' : stB kinds xs = false := by simpa using ho
    have HF := Lib.hid (Nt.numberOf_no ho')
    obtain ⟨a, cap, rfl, _, hm, _⟩ := hs.any
    clear ho hs
    go_enter Try.func57, Try.ntmps57
    go_wp2_with fail
    refine (sStateOk_any kinds xs _ _ base HS.out).mono ?_
    rintro e w' ⟨rfl, rfl⟩
    rw [ho']
    clear ho'
    go_wp2
    go_ret
    exact ⟨by rw [HF.out]; rfl, rfl⟩

attribute [local go_sem] Oper.semAt_some

/-- What has come when j rounds are over. -/
def backTo (ks : List Nat) (n j : Nat) : List (Nat × Nat) := (List.range j).map fun i => (n - 1 - i, ks.getD (n - 1 - i) 0)
theorem backTo_succ (ks : List Nat) (n j : Nat) : backTo ks n (j + 1) = backTo ks n j ++ [(n - 1 - j, ks.getD (n - 1 - j) 0)] := by simp [backTo, List.range_succ]
theorem backTo_length (ks : List Nat) (n j : Nat) : (backTo ks n j).length = j := by simp [backTo]

/-- What lay below n₀ is as it was, and one block beside. -/
def KB (n₀ Bs : Nat) (A B : World) : Prop := Below n₀ A B ∧ B.heap[Bs]? = A.heap[Bs]?
theorem KB.refl (n₀ Bs : Nat) (A : World) : KB n₀ Bs A A := ⟨Below.refl _ _, rfl⟩
theorem KB.trans {n₀ Bs : Nat} {A B C : World} (h : KB n₀ Bs A B) (k : KB n₀ Bs B C) : KB n₀ Bs A C := ⟨h.1.trans k.1, k.2.trans h.2⟩
theorem KB.box {n₀ Bs : Nat} {A B : World} (h : KB n₀ Bs A B) : B.cell? ⟨Bs, 0, none⟩ = A.cell? ⟨Bs, 0, none⟩ := World.cell?_of_block h.2

set_option maxRecDepth 100000 in
set_option maxHeartbeats 2000000 in
set_option maxRecDepth 100000 in
theorem backward1_in (F : Fence) (n : Nat) (h1 : F.fn 112) (hro : F.round = none) (hn : 1 ≤ n) (l Bs n₀ g m cap : Nat) (hm : m ≤ 1000) (ks : List Nat) (hb : g < n₀) (J Jx : List (Nat × Nat) → World → Prop)
    (hY : ∀ pre x W, J pre W → pre.length < m → YieldAt F (n - 1) Try.prog l #[.int .i64 (x.1 : Int), .int .i64 (x.2 : Int)] W fun e W' =>
      (e = .returned (.bool true) ∧ J (pre ++ [x]) W' ∧ KB n₀ Bs W W') ∨ (e = .returned (.bool false) ∧ Jx (pre ++ [x]) W'))
    (W : World) (hBs : W.cell? ⟨Bs, 0, none⟩ = some (.slice (some ⟨g, 0, none⟩) m cap)) (hc : ∀ j, j < m → W.cell? ⟨g, j, none⟩ = some (.int .i64 ((ks.getD j 0 : Nat) : Int))) (h0 : J [] W) :
    CallsIn F n Try.prog 112 #[.func (.yield l) #[] #[], .pointer (some ⟨Bs, 0, none⟩)] W fun e W' => (∃ v, e = .returned v) ∧
      ((∃ ys, ys = backTo ks m m ∧ J ys W') ∨ (∃ pre, (∃ k, k ≤ m ∧ pre = backTo ks m k) ∧ Jx pre W')) := by
  refine callsIn_of_wp Try.func112 rfl h1 ?_ hro
  simp only [Try.ntmps112, List.size_toArray, List.length_cons, List.length_nil, Nat.reduceAdd, Nat.reduceSub, Array.replicate_succ, Array.replicate_zero, List.push_toArray, List.append_toArray, List.nil_append, List.cons_append]
  gi_wp2
  gi_loopw [3] (fun i wr => ∃ k : Nat, k ≤ m ∧ i = .int .i64 ((m : Int) - 1 - (k : Int)) ∧ J (backTo ks m k) wr ∧ KB n₀ Bs W wr) (fun i _ => (intOf i + 1).toNat)
  case atStart => exact ⟨0, Nat.zero_le _, by simp, h0, KB.refl _ _ _⟩
  case round =>
    obtain ⟨k, hk, rfl, hJs, hnx⟩ := hrel
    have hbs := hnx.box.trans hBs
    by_cases hlt : k < m
    · obtain ⟨j, hj⟩ : ∃ j, j = m - 1 - k := ⟨_, rfl⟩
      have hcx := (hnx.1.cell (p := ⟨g, j, none⟩) hb).trans (hc j (by omega))
      have e0 : (m : Int) - 1 - (k : Int) = (j : Int) := by omega
      have HSUC := Lib.hid (backTo_succ ks m k)
      rw [← hj] at HSUC
      obtain ⟨fn, tmps, assign, body, hy, hR⟩ := hY _ (j, ks.getD j 0) wr hJs (by rw [backTo_length]; exact hlt)
      dsimp only at hy
      rw [e0]
      have hjm : j < m := by omega
      have HE2 : Hid ((j : Int) - 1 = (m : Int) - 1 - ((k + 1 : Nat) : Int)) := Lib.hid (by omega)
      clear hj e0
      generalize ks.getD j 0 = x at *
      clear hc
      gi_wp2
      refine hR.mono ?_
      rintro e W3 (⟨rfl, hJ3, hk3⟩ | ⟨rfl, hJx3⟩)
      · gi_wp2
        go_roundw
        case rel => exact ⟨k + 1, by omega, by rw [← HE2.out], by rw [HSUC.out]; exact hJ3, hnx.trans hk3⟩
        case measure => first | (simp [intOf]; done) | (simp [intOf]; omega)
      · gi_wp2
        refine bodyPost_ret (results_none rfl _ _ _) rfl ?_
        exact ⟨⟨_, rfl⟩, .inr ⟨_, ⟨k + 1, by omega, HSUC.out.symm⟩, hJx3⟩⟩
    · obtain rfl : k = m := by omega
      have e0 : (k : Int) - 1 - (k : Int) = -1 := by omega
      rw [e0]
      gi_wp2
      go_end0
      exact ⟨⟨_, rfl⟩, .inl ⟨_, rfl, hJs⟩⟩

set_option maxHeartbeats 1000000 in
set_option maxRecDepth 100000 in
theorem backward_in (F : Fence) (n : Nat) (h1 : F.fn 96) (hro : F.round = none) (a : Option Addr) (len cap : Nat) (w : World) :
    CallsIn F n Try.prog 96 #[.slice a len cap] w fun e w' => e = .returned (.func (.func 112) #[] #[.pointer (some ⟨w.heap.size, 0, none⟩)]) ∧ w' = w.alloc (.cells #[.slice a len cap] 23) := by
  refine callsIn_of_wp Try.func96 rfl h1 ?_ hro
  simp only [Try.ntmps96, List.size_toArray, List.length_cons, List.length_nil, Nat.reduceAdd, Nat.reduceSub, Array.replicate_succ, Array.replicate_zero, List.push_toArray, List.append_toArray, List.nil_append, List.cons_append]
  gi_wp2
  go_ret
  exact ⟨rfl, rfl⟩

/-- The number so far. -/
def numW (c : Nat) (pre : List (Nat × Nat)) : Int := pre.foldl (fun a x => wrap64 (wrap64 (a * (c : Int)) + (x.2 : Int))) 0
theorem numW_snoc (c : Nat) (pre : List (Nat × Nat)) (x : Nat × Nat) : numW c (pre ++ [x]) = wrap64 (wrap64 (numW c pre * (c : Int)) + (x.2 : Int)) := by simp [numW]

theorem numW_back {c : Nat} {ks : List Nat} (h : Nt.St c ks) : ∀ j, j ≤ ks.length → numW c (backTo ks ks.length j) = ((Nt.num c (ks.drop (ks.length - j)) : Nat) : Int)
  | 0, _ => by rw [Nat.sub_zero, List.drop_length]; rfl
  | j + 1, hj => by
    have ih := numW_back h j (by omega)
    obtain ⟨i, hi⟩ : ∃ i, i = ks.length - 1 - j := ⟨_, rfl⟩
    have e : ks.length - j = i + 1 := by omega
    have e2 : ks.length - (j + 1) = i := by omega
    have hb := Nt.num_small h (i + 1)
    have hlt := h.lt i (by omega)
    have h5 := h.c5
    rw [e] at ih
    rw [backTo_succ, numW_snoc, ih, e2, ← hi, Nt.num_drop (k := i) (by omega)]
    generalize Nt.num c (ks.drop (i + 1)) = q at *
    show wrap64 (wrap64 ((q : Int) * (c : Int)) + ((ks.getD i 0 : Nat) : Int)) = _
    generalize ks.getD i 0 = x at *
    have hmul : q * c ≤ 15625 * 5 := Nat.mul_le_mul (by omega) h5
    have e1 : (q : Int) * (c : Int) = ((q * c : Nat) : Int) := by simp
    rw [e1]
    generalize q * c = p at *
    rw [show wrap64 (p : Int) = (p : Int) from IntWalk.wrap64_in _ (by omega), show wrap64 ((p : Int) + (x : Int)) = (p : Int) + (x : Int) from IntWalk.wrap64_in _ (by omega)]
    omega

set_option maxRecDepth 100000 in
set_option maxHeartbeats 2000000 in
set_option maxRecDepth 100000 in
theorem iNumber_in (kinds : Int) (xs : List Int) (w : World) (v : Value) (base : Nat) (hs : Sl w base v xs) (ho : stB kinds xs = true) :
    CallsIn Fence.wide 9 Try.prog 89 #[.int .i64 kinds, v] w fun e w' => e = .returned (.int .i64 (Nt.numberOf kinds xs)) ∧ Below w.heap.size w w' := by
  have hk1 : Kept [] w (w.alloc (.cells #[.int .i64 kinds] 3)) := (Kept.refl _ _).alloc _
  have HS1 := Lib.hid (hs.stay hk1)
  obtain ⟨c, ks, rfl, rfl, hst⟩ := Nt.stB_st ho
  have HF := Lib.hid (Nt.numberOf_ok hst)
  have HST := Lib.hid hst
  obtain ⟨n, hn⟩ : ∃ n, n = ks.length := ⟨_, rfl⟩
  have hp := hst.some
  have h6 := hst.few
  have h5 := hst.c5
  rw [← hn] at hp h6
  obtain ⟨g, cap, rfl, hg, hc⟩ := hs.row hn.symm hp
  have HC := Lib.hid hc
  have HN := Lib.hid hn
  clear hs hst hc hn hk1
  refine callsIn_of_wp_marks Try.func89 rfl trivial ?_ rfl
  simp only [Try.ntmps89, List.size_toArray, List.length_cons, List.length_nil, Nat.reduceAdd, Nat.reduceSub, Array.replicate_succ, Array.replicate_zero, List.push_toArray, List.append_toArray, List.nil_append, List.cons_append]
  gi_wp2_with (first | (refine ⟨trivial, ?_⟩; gi_at_call 76; refine (callsIn_wide.2 (iStateOk_any (c : Int) (Nt.nats ks) _ _ base HS1.out)).mono ?_; rintro e w' ⟨rfl, rfl⟩; rw [ho]) | (refine ⟨trivial, ?_⟩; gi_at_call 96; refine (backward_in Fence.wide _ trivial rfl _ _ _ _).mono ?_; rintro e w' ⟨rfl, rfl⟩))
  have c0 := Boxed.new w 3 (.int .i64 (c : Int))
  have c1 := Boxed.new (w.alloc (.cells #[.int .i64 (c : Int)] 3)) 3 (.int .i64 0)
  have c2 := Boxed.new ((w.alloc (.cells #[.int .i64 (c : Int)] 3)).alloc (.cells #[.int .i64 0] 3)) 23 (.slice (some ⟨g, 0, none⟩) n cap)
  simp only [World.size_alloc] at c1 c2
  have hB0 : Below w.heap.size w (((w.alloc (.cells #[.int .i64 (c : Int)] 3)).alloc (.cells #[.int .i64 0] 3)).alloc (.cells #[.slice (some ⟨g, 0, none⟩) n cap] 23)) :=
    (((Below.refl _ w).alloc (Nat.le_refl _) _).alloc (by simp) _).alloc (by simp; omega) _
  refine wpIn_rangeFunc_ownF rfl (by omega) (gf := 112) (lb := #[.pointer (some ⟨w.heap.size + 1 + 1, 0, none⟩)]) rfl trivial (enters_of Try.func112 (by kernel_rfl) rfl)
    (encs := fun x : Nat × Nat => #[Value.int .i64 (x.1 : Int), Value.int .i64 (x.2 : Int)]) (Kp := KB w.heap.size (w.heap.size + 1 + 1)) (S := fun ys => ys = backTo ks n n) (Sp := fun pre => ∃ k, k ≤ n ∧ pre = backTo ks n k) (N := n)
    (fun l J Jx W hW _ _ hY h0 => by
      refine backward1_in Fence.wide _ trivial rfl (by omega) l (w.heap.size + 1 + 1) w.heap.size g n cap (by omega) ks hg J Jx hY W ?_ ?_ h0
      · exact (hW.cell (p := ⟨w.heap.size + 1 + 1, 0, none⟩) (by simp)).trans c2.cell
      · intro j hj
        have hW2 : Below w.heap.size w W := hB0.trans (hW.mono hB0.size)
        exact (hW2.cell (p := ⟨g, j, none⟩) hg).trans (HC.out j hj))
    (fun h k => h.trans k)
    (fun W l o o' hl h h1 h2 => ⟨belowK_b (by simp; omega) W l o o' hl h h1 h2, World.putObj_heap_other (by simp at hl; omega)⟩)
    (Below.refl _ _) (fun _ => rfl)
    (fun pre W => (W.cell? ⟨w.heap.size, 0, none⟩ = some (.int .i64 (c : Int)) ∧ W.cell? ⟨w.heap.size + 1, 0, none⟩ = some (.int .i64 (numW c pre)) ∧ W.frozen? ⟨w.heap.size + 1, 0, none⟩ = false) ∧ Below w.heap.size w W)
    (fun _ _ _ => False)
    (OwnFrom.and (Own.from (fun s A B row hs hg hr => ⟨cell_kept hs.1 hg hr, cell_kept hs.2.1 hg hr, (frozen_kept hs.2.1 hg hr).trans hs.2.2⟩) _) (ownFrom_below (Nat.le_refl _) (by simp; omega)))
    (fun _ _ _ _ _ hs _ _ => hs)
    ⟨⟨((c0.alloc _).alloc _).cell, (c1.alloc _).cell, (c1.alloc _).frozen⟩, hB0⟩
    (fun x => { tmps := #[.int .i64 (c : Int), .slice (some ⟨g, 0, none⟩) n cap, .pointer (some ⟨w.heap.size, 0, none⟩), undef, .int .i64 0, .pointer (some ⟨w.heap.size + 1, 0, none⟩), undef, .int .i64 (x.2 : Int), .int .i64 (c : Int), .slice (some ⟨g, 0, none⟩) n cap, .bool true, .bool false, .slice (some ⟨g, 0, none⟩) n cap, .func (.func 112) #[] #[.pointer (some ⟨w.heap.size + 1 + 1, 0, none⟩)], .int .i64 (x.1 : Int), .int .i64 (x.2 : Int), undef, undef, undef, undef, undef, undef], defers := [] }) ?assign ?body ?done ?stop
  case assign =>
    intro l x W K hK
    gi_wp2
    exact hK
  case body =>
    rintro l pre x W ⟨⟨hk, hc, hf⟩, hB⟩ _
    gi_wp2
    exact ⟨KeepsOthers.setCell _ _ _, ⟨(Below.refl w.heap.size W).setCell (p := ⟨w.heap.size + 1, 0, none⟩) (by simp) _, Below.heap_setCell _ _ _ _ (by simp)⟩,
      ⟨(World.cell?_of_block (Below.heap_setCell _ _ _ _ (by simp))).trans hk, by rw [numW_snoc]; exact World.cell?_setCell_same' _ _ _ (by rw [hc]; rfl), by rw [World.frozen?_setCell]; exact hf⟩, hB.setCell (p := ⟨w.heap.size + 1, 0, none⟩) (by simp) _⟩
  case done =>
    rintro D ys W hD rfl ⟨⟨_, hc, _⟩, hB⟩ hK
    gi_wp2
    refine ⟨by simp, .inl ⟨_, _, rfl, run_takeDeferred hK, ?_⟩⟩
    refine ⟨_, results_tmp rfl _ _ _, ?_, hB.trans (belowK_b (w := w) (Nat.le_refl _) W D _ _ (by simp at hD; omega) hK rfl rfl)⟩
    have e := numW_back HST.out n (by rw [HN.out]; exact Nat.le_refl _)
    rw [← HN.out, Nat.sub_self] at e
    rw [HF.out, e]
    first | rfl | simp
  case stop =>
    rintro D c pre W _ _ h _
    exact h.elim

set_option maxHeartbeats 1000000 in
set_option maxRecDepth 100000 in
theorem iNumber_any (kinds : Int) (xs : List Int) (w : World) (v : Value) (base : Nat) (hs : Sl w base v xs) :
    Calls Try.prog 89 #[.int .i64 kinds, v] w fun e w' => e = .returned (.int .i64 (Nt.numberOf kinds xs)) ∧ Kept [] w w' := by
  by_cases ho : stB kinds xs = true
  · exact (callsIn_wide.1 (iNumber_in kinds xs w v base hs ho)).mono fun _ _ h => ⟨h.1, Kept.of_below h.2⟩
  · have ho' : stB kinds xs = false := by simpa using ho
    have HF := Lib.hid (Nt.numberOf_no ho')
    have hk1 : Kept [] w (w.alloc (.cells #[.int .i64 kinds] 3)) := (Kept.refl _ _).alloc _
    have HS1 := Lib.hid (hs.stay hk1)
    have HK1 := Lib.hid hk1
    obtain ⟨a, cap, rfl, _, hm, _⟩ := hs.any
    clear ho hs hk1
    go_enter Try.func89, Try.ntmps89
    go_wp2_with fail
    refine (iStateOk_any kinds xs _ _ base HS1.out).mono ?_
    rintro e w' ⟨rfl, rfl⟩
    rw [ho']
    clear ho'
    go_wp2
    go_ret
    exact ⟨by rw [HF.out]; rfl, HK1.out⟩
end Go.Proofs.Ytlcbpnbehbgbeaa
