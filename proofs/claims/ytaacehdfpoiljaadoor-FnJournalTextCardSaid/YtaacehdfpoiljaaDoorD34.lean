/-
  Walks: lists of deeds drawn.
-/
import Derived.Test.YtaacehdfpoiljaaDoorD33
import Derived.Test.YtaacehdfpoiljaaDoorTgB
namespace Go.Proofs.YtaacehdfpoiljaaDoor
open Go.RowKit

/-- A list of deeds is drawn: at most five. -/
def DrawsDs (w : World) (B R P : Nat) (e : Ending) (w' : World) : Prop :=
  ∃ u, ∃ l : List Nt.Dd, e = .returned u ∧ Dg w' w.heap.size u l ∧ l.length ≤ 5 ∧ Rd w' B R (P + 60) ∧ Kept [R] w w'

set_option maxHeartbeats 4000000 in
set_option maxRecDepth 100000 in
theorem deeds_any (B R P : Nat) (hP : P ≤ 79000) (w : World) (hr : Rd w B R P) (a1 a2 : Option Addr) (n c1 m2 c2 : Nat) (pc : Int) (hn : n ≤ 100) :
    Calls Tryd.prog 99 #[.pointer (some ⟨R, 0, none⟩), .agg #[.slice a1 n c1, .int .i64 pc, .slice a2 m2 c2]] w (DrawsDs w B R P) := by
  have hlt := hr.lt
  have hBR := hr.1
  obtain ⟨hk0, hb0, hd0⟩ := two_new w 25 36 #[.slice a1 n c1, .int .i64 pc, .slice a2 m2 c2] #[]
  have e1 : (w.alloc (.cells #[.slice a1 n c1, .int .i64 pc, .slice a2 m2 c2] 25)).heap.size = w.heap.size + 1 := by simp
  have HDG : Hid (Dg ((w.alloc (.cells #[.slice a1 n c1, .int .i64 pc, .slice a2 m2 c2] 25)).alloc (.cells #[] 36)) (w.heap.size + 1) (.slice (some ⟨w.heap.size + 1, 0, none⟩) 0 0) []) := Lib.hid (by
    have h := Tg.lit 36 (w.alloc (.cells #[.slice a1 n c1, .int .i64 pc, .slice a2 m2 c2] 25)) [] (by simp)
    rw [e1] at h
    exact h)
  have HR := Lib.hid (hr.kept hk0 (by simp))
  have HB := Lib.hid hb0
  have HK := Lib.hid (Kept.weak [R] hk0)
  clear hk0 hb0 hd0 hr e1
  go_enter Tryd.func99, Tryd.ntmps99
  go_wp2_with fail
  generalize ((w.alloc (.cells #[.slice a1 n c1, .int .i64 pc, .slice a2 m2 c2] 25)).alloc (.cells #[] 36)) = W0 at *
  refine (pick_any B R P (by omega) 6 (by omega) _ HR.out).mono ?_
  rintro e w1 ⟨x, rfl, hx0, hx, hr1, hk1⟩
  obtain ⟨j0, rfl⟩ := Int.eq_ofNat_of_zero_le hx0
  have hj5 : j0 ≤ 5 := by omega
  have HR1 := Lib.hid hr1
  have HB1 := Lib.hid (HB.out.kept hk1 (by simp; omega))
  have HDG1 : Hid (Dg w1 (w.heap.size + 1) (.slice (some ⟨w.heap.size + 1, 0, none⟩) 0 0) []) := Lib.hid (HDG.out.kept hk1 (fun g hg hm => by have := (Tg.block HDG.out hg).1; simp at hm; omega))
  have HK1 := Lib.hid (HK.out.trans hk1 (by simp))
  clear hr1 hk1 hx hx0 HR HB HDG HK
  go_wp2_with fail
  go_loopw [5, 6] (fun u q wr => ∃ (j : Nat) (l : List Nt.Dd), j ≤ 5 ∧ q = .int .i64 j ∧ Dg wr (w.heap.size + 1) u l ∧ l.length + j ≤ 5 ∧ Bk wr w.heap.size 25 #[.slice a1 n c1, .int .i64 pc, .slice a2 m2 c2] ∧ Rd wr B R (P + 1 + 10 * (5 - j)) ∧ Kept [R] w wr) (fun _ q _ => (intOf q).toNat)
  case atStart => exact ⟨j0, [], hj5, rfl, HDG1.out, by simpa using hj5, HB1.out, HR1.out.mono (by omega), HK1.out⟩
  case round =>
    clear HDG1 HB1 HR1 HK1
    obtain ⟨j, l, hj, rfl, hdg, hll, hb, hrd, hkept⟩ := hrel
    have HDG := Lib.hid hdg
    have HLL := Lib.hid hll
    have HB := Lib.hid hb
    have HR := Lib.hid hrd
    have HK := Lib.hid hkept
    clear hdg hll hrd hkept
    obtain ⟨r0, r1, r2⟩ := hb.three
    clear hb
    by_cases hj0 : 0 < j
    · go_wp2_with fail
      refine (deed_any B R _ (by omega) _ HR.out a1 a2 n c1 m2 c2 pc hn).mono ?_
      rintro e w3 ⟨k, a, b, rfl, hr3, hk3⟩
      have HR3 := Lib.hid hr3
      have HB3 := Lib.hid (HB.out.kept hk3 (by simp; omega))
      have HDG3 := Lib.hid (Tg.kept HDG.out hk3 (fun g hg hm => by have := (Tg.block HDG.out hg).1; simp at hm; omega))
      have HK3 := Lib.hid (HK.out.trans hk3 (by simp))
      have hsz : w.heap.size + 1 ≤ w3.heap.size := HB3.out.lt
      clear hr3 hk3 r0 r1 r2 HR HB HDG HK
      go_wp2_with (at_builtin; refine app_tri 36 41 (.agg #[.int .i64 0, .int .i64 0, .int .i64 0]) 24 Tryd.underlying41 info_deed rfl (by omega) (l.map d3) ([(⟨k, a, b⟩ : Nt.Dd)].map d3) (d3_one _) rfl _ _ rfl (w.heap.size + 1) _ HDG3.out rfl 1 rfl rfl (by have := HLL.out; simp; omega) hsz ?_; intro u9 w9 hs9 hk9; have HDG9 : Hid (Dg w9 (w.heap.size + 1) u9 (l ++ [⟨k, a, b⟩])) := Lib.hid (by unfold Dg; rw [List.map_append]; exact hs9); have HK9 := Lib.hid hk9; clear hs9 hk9)
      go_roundw
      case rel => exact ⟨j - 1, _, by omega, by go_num, HDG9.out, by have := HLL.out; simp; omega, HB3.out.kept HK9.out (fun hm => by have := (Tg.block HDG3.out (by simpa using hm)).1; omega), (HR3.out.own HK9.out (fun g hg => (Tg.block HDG3.out hg).1) (by omega) (by omega)).mono (by omega), HK3.out.trans HK9.out (fun q hq => .inr (by have := (Tg.block HDG3.out (by simpa using hq)).1; omega))⟩
      case measure => simp [intOf]; omega
    · go_wp2
      go_ret
      exact ⟨_, l, rfl, Tg.mono HDG.out (by omega), by have := HLL.out; omega, HR.out.mono (by omega), HK.out⟩
end Go.Proofs.YtaacehdfpoiljaaDoor
