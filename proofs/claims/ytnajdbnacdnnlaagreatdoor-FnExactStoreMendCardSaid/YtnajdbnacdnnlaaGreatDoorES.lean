/-
  Walks: stores of exact laws: measured, copied, compared.
-/
import Derived.Test.YtnajdbnacdnnlaaGreatDoorPO1
import Derived.Test.YtnajdbnacdnnlaaGreatDoorTxE
namespace Go.Proofs.YtnajdbnacdnnlaaGreatDoor
open Go.RowKit

/-- A store that came in from outside. -/
def ArgSt (_ : World) (x : Value) (s : Nt.Si) : Prop := ∃ z1 z2 n, x = .agg #[.string z1, .string z2, .int .i64 n] ∧ si z1 z2 n = s ∧ z1.size ≤ 9223372036854775807 ∧ z2.size ≤ 9223372036854775807

set_option maxHeartbeats 400000 in
set_option maxRecDepth 100000 in
theorem szStore_any (z1 z2 : ByteArray) (n : Int) (h1 : z1.size ≤ 9223372036854775807) (h2 : z2.size ≤ 9223372036854775807) (w : World) :
    Calls Tryz.prog 43 #[.agg #[.string z1, .string z2, .int .i64 n], .int .i64 1048576] w fun e w' => ∃ r : Int, e = .returned (.int .i64 r) ∧ Hid (¬ r < 0 → z1.size ≤ 1048576 ∧ z2.size ≤ 1048576) ∧ Kept [] w w' := by
  have HK := Lib.hid ((Kept.refl [] w).alloc (.cells #[.string z1, .string z2, .int .i64 n] 70))
  have s1 : IntKind.i64.wrap (1048576 - (z1.size : Int)) = 1048576 - (z1.size : Int) := IntWalk.i64_in _ (by omega)
  have s1' : wrap64 (1048576 - (z1.size : Int)) = 1048576 - (z1.size : Int) := IntWalk.wrap64_in _ (by omega)
  by_cases h : 1048576 - (z1.size : Int) < 0
  · have hd : decide (1048576 - (z1.size : Int) < 0) = true := dec_of h
    clear h1 h2
    go_enter Tryz.func43, Tryz.ntmps43
    go_wp2
    go_ret
    exact ⟨_, rfl, Lib.hid (fun h => absurd h (by omega)), HK.out⟩
  · have hd : decide (1048576 - (z1.size : Int) < 0) = false := dec_not h
    have HH := Lib.hid h
    have s2 : IntKind.i64.wrap (1048576 - (z1.size : Int) - (z2.size : Int)) = 1048576 - (z1.size : Int) - (z2.size : Int) := IntWalk.i64_in _ (by omega)
    have s2' : wrap64 (1048576 - (z1.size : Int) - (z2.size : Int)) = 1048576 - (z1.size : Int) - (z2.size : Int) := IntWalk.wrap64_in _ (by omega)
    by_cases hb : 1048576 - (z1.size : Int) - (z2.size : Int) < 0
    · have hd2 : decide (1048576 - (z1.size : Int) - (z2.size : Int) < 0) = true := dec_of hb
      clear h1 h2 h hb
      go_enter Tryz.func43, Tryz.ntmps43
      go_wp2
      go_ret
      exact ⟨_, rfl, Lib.hid (fun h => absurd h (by omega)), HK.out⟩
    · have hd2 : decide (1048576 - (z1.size : Int) - (z2.size : Int) < 0) = false := dec_not hb
      have HB := Lib.hid hb
      clear h1 h2 h hb
      go_enter Tryz.func43, Tryz.ntmps43
      go_wp2
      go_ret
      exact ⟨_, rfl, Lib.hid (fun _ => by have := HH.out; have := HB.out; omega), HK.out⟩

set_option maxHeartbeats 400000 in
set_option maxRecDepth 100000 in
theorem toStore_any (z1 z2 : ByteArray) (n : Int) (w : World) :
    Calls Tryz.prog 45 #[.agg #[.string z1, .string z2, .int .i64 n]] w fun e w' => e = .returned (.agg #[.string z1, .string z2, .int .i64 n]) ∧ Kept [] w w' := by
  have HK := Lib.hid (fun (o1 o2 o3 : Obj) => (((Kept.refl [] w).alloc o1).alloc o2).alloc o3)
  go_enter Tryz.func45, Tryz.ntmps45
  go_wp2
  (try simp only [Exit.inBlock, Exit.then])
  refine bodyPost_ret (results_cell_row rfl _ _ (w.heap.size + 1) 73 #[.string z1, .string z2, .int .i64 n] (0, 0) _ rfl ?_ Tryz.underlying73 rfl (by kernel_rfl)) rfl ?_
  · rw [heap_alloc_old _ _ (by simp)]
    exact heap_alloc2_new _ _ _
  · exact ⟨rfl, HK.out _ _ _⟩

set_option maxHeartbeats 400000 in
set_option maxRecDepth 100000 in
theorem eqStore_same (a b a' b' : ByteArray) (n n' : Int) (h : si a b n = si a' b' n') (w : World) :
    Calls Tryz.prog 48 #[.agg #[.string a, .string b, .int .i64 n], .agg #[.string a', .string b', .int .i64 n']] w fun e w' => e = .returned (.bool true) ∧ Kept [] w w' := by
  unfold si at h
  simp only [Nt.Si.mk.injEq] at h
  obtain ⟨h1, h2, rfl⟩ := h
  obtain rfl := tx_inj h1
  obtain rfl := tx_inj h2
  clear h1 h2
  have HK := Lib.hid (fun (o1 o2 : Obj) => ((Kept.refl [] w).alloc o1).alloc o2)
  have d1 : (a.toList == a.toList) = true := by simp
  have d2 : (b.toList == b.toList) = true := by simp
  have d3 : (n != n) = false := by simp
  go_enter Tryz.func48, Tryz.ntmps48
  go_wp2
  go_ret
  exact ⟨rfl, HK.out _ _⟩
theorem eqStore_is {y y' : Value} {r : Nt.Si} (h : SvIs y r) (h' : SvIs y' r) (w : World) : Calls Tryz.prog 48 #[y, y'] w fun e w' => e = .returned (.bool true) ∧ Kept [] w w' := by
  obtain ⟨a, b, m, rfl, e1⟩ := h
  obtain ⟨a', b', m', rfl, e2⟩ := h'
  exact eqStore_same a b a' b' m m' (e1.trans e2.symm) w
end Go.Proofs.YtnajdbnacdnnlaaGreatDoor
