/-
  Walks: a desk is drawn for DeskOk.
-/
import Derived.Test.YtofgfhfdmkcmcaaD35
namespace Go.Proofs.Ytofgfhfdmkcmcaa
open Go.RowKit

def DrawnDe (w : World) (e : Ending) (w' : World) : Prop := ∃ y, ∃ d : Nt.Di, e = .returned y ∧ De w' y d ∧ Kept [] w w'

set_option maxHeartbeats 1000000 in
set_option maxRecDepth 100000 in
theorem drawDeskOk_any (w : World) (v : Value) (ha : ArgB w v) : Calls Try.prog 17 #[v] w (DrawnDe w) := by
  have hka : Kept [] w (w.alloc (.cells #[.slice none 0 0, .int .i64 0, .slice none 0 0, .slice none 0 0] 32)) := (Kept.refl _ _).alloc _
  have HB0 := Lib.hid (Bk.new w 32 #[.slice none 0 0, .int .i64 0, .slice none 0 0, .slice none 0 0])
  have HA := Lib.hid (ha.stay hka)
  have HK0 := Lib.hid hka
  clear hka
  obtain ⟨a, n, cap, rfl, _, _, _⟩ := ha
  go_enter Try.func17, Try.ntmps17
  go_wp2_with fail
  generalize w.alloc (.cells #[.slice none 0 0, .int .i64 0, .slice none 0 0, .slice none 0 0] 32) = W0 at *
  refine (open_any _ _ HA.out).mono ?_
  rintro e w1 ⟨rfl, hr, hk⟩
  have HR := Lib.hid hr
  have HK := Lib.hid (HK0.out.trans hk (by simp))
  have HB1 := Lib.hid (HB0.out.stay hk)
  have HZ : Hid (w.heap.size < W0.heap.size) := Lib.hid HB0.out.lt
  clear hr hk HB0
  go_wp2_with fail
  refine (desk_any _ _ 0 (by omega) 2 (by omega) (by omega) _ HR.out).mono ?_
  rintro e w2 ⟨y, d, rfl, hd, _, _, hk2⟩
  obtain ⟨b1, n1, c1, b2, n2, c2, b3, n3, c3, rfl⟩ := hd.form
  have HD := Lib.hid hd
  have HB2 := Lib.hid (HB1.out.kept hk2 (by have := HZ.out; simp; omega))
  have HK2 := Lib.hid (HK.out.trans hk2 (fun x hx => by have := HZ.out; right; simp at hx; omega))
  obtain ⟨r0, r1, r2, r3⟩ := HB2.out.four
  have f0 := HB2.out.frozen 0
  have f1 := HB2.out.frozen 1
  have f2 := HB2.out.frozen 2
  have f3 := HB2.out.frozen 3
  have hzr := HB2.out.lt
  clear hd hk2
  go_wp2
  (try simp only [Exit.inBlock, Exit.then])
  refine bodyPost_ret (results_cell_row rfl _ _ w.heap.size 32 #[.slice b1 n1 c1, .int .i64 d.now.c, .slice b2 n2 c2, .slice b3 n3 c3] (0, 0) _ rfl (HB2.out.set4 _ _ _ _) Try.underlying32 rfl (by kernel_rfl)) rfl ?_
  exact ⟨_, d, rfl, HD.out.alien (Kept.rows4 _ w.heap.size _ _ _ _) (Alien.one HB2.out), HK2.out.set4 (Nat.le_refl _) _ _ _ _⟩
end Go.Proofs.Ytofgfhfdmkcmcaa
