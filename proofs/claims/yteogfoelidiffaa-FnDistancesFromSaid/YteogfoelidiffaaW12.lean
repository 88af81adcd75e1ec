/-
  Walks: paths and rings, by the program and by the model.
-/
import Derived.Test.YteogfoelidiffaaW11
import Derived.Test.YteogfoelidiffaaW1
namespace Go.Proofs.Yteogfoelidiffaa
open Go.RowKit

theorem pathOf_yes (n : Nat) (h : 1 ≤ n ∧ n ≤ 6) : Nt.pathOf (n : Int) = Nt.nats (Nt.pathN n) := by
  unfold Nt.pathOf
  rw [if_pos (by omega), Int.toNat_natCast]
theorem pathOf_no (n : Int) (h : ¬ (1 ≤ n ∧ n ≤ 6)) : Nt.pathOf n = [] := by
  unfold Nt.pathOf
  rw [if_neg h]
theorem ringOf_yes (n : Nat) (h : 3 ≤ n ∧ n ≤ 6) : Nt.ringOf (n : Int) = Nt.nats (Nt.ringN n) := by
  unfold Nt.ringOf
  rw [if_pos (by omega), Int.toNat_natCast]
theorem ringOf_no (n : Int) (h : ¬ (3 ≤ n ∧ n ≤ 6)) : Nt.ringOf n = [] := by
  unfold Nt.ringOf
  rw [if_neg h]

set_option maxHeartbeats 1000000 in
theorem iPath_any (n : Int) (w : World) :
    Calls Try.prog 31 #[.int .i64 n] w fun e w' => ∃ u, e = .returned u ∧ Sl w' w.heap.size u (Nt.pathOf n) ∧ Kept [] w w' := by
  by_cases h1 : n < 1
  · have HF := Lib.hid (pathOf_no n (by omega))
    go_enter Try.func31, Try.ntmps31
    go_wp2
    go_ret
    exact ⟨_, rfl, by rw [HF.out]; exact Sl.nil _ _, Kept.refl _ _⟩
  by_cases h6 : 6 < n
  · have HF := Lib.hid (pathOf_no n (by omega))
    go_enter Try.func31, Try.ntmps31
    go_wp2
    go_ret
    exact ⟨_, rfl, by rw [HF.out]; exact Sl.nil _ _, Kept.refl _ _⟩
  obtain ⟨m, rfl⟩ := Int.eq_ofNat_of_zero_le (show 0 ≤ n by omega)
  have m1 : 1 ≤ m := by omega
  have m6 : m ≤ 6 := by omega
  have HF := Lib.hid (pathOf_yes m ⟨m1, m6⟩)
  go_enter Try.func31, Try.ntmps31
  go_wp2_with (at_make; refine make_int w m rfl _ _ rfl rfl rfl ?_ ?_)
  · omega
  · intro w1 hs1 hk1 _
    have hs2 : Sl w1 w.heap.size (.slice (some ⟨w.heap.size, 0, none⟩) m m) (Nt.nats (Nt.pathTo m 1)) := by
      rw [Nt.pathTo_one m (by omega)]
      simpa [Nt.nats] using hs1
    have HS1 := Lib.hid hs2
    have HK1 := Lib.hid hk1
    clear hs1 hk1 hs2
    go_wp2
    go_loopw [4] (fun i wr => ∃ k : Nat, 1 ≤ k ∧ k ≤ m ∧ i = .int .i64 k ∧ Sl wr w.heap.size (.slice (some ⟨w.heap.size, 0, none⟩) m m) (Nt.nats (Nt.pathTo m k)) ∧ Kept [] w wr) (fun i _ => m - (intOf i).toNat)
    case atStart => exact ⟨1, Nat.le_refl _, m1, rfl, HS1.out, HK1.out⟩
    case round =>
      clear HS1 HK1
      obtain ⟨k, hk1, hk, rfl, hsl, hkept⟩ := hrel
      have HSL := Lib.hid hsl
      have HK := Lib.hid hkept
      clear hsl hkept
      by_cases hlt : k < m
      · have HE : Hid ((k : Int) - 1 = ((k - 1 : Nat) : Int)) := Lib.hid (by omega)
        have HW := Lib.hid (Nt.pathTo_wire m (by omega) k hlt hk1)
        go_wp2_with fail
        rw [HE.out]
        refine (addWire_any (Nt.pathTo m k) (k - 1) k (by rw [Nt.pathTo_length]; omega) (by rw [Nt.pathTo_length]; exact hlt) (by rw [Nt.pathTo_length]; exact m6) (by omega) (Nt.pathTo_small m (by omega) k (by omega) _ (by omega)) (Nt.pathTo_small m (by omega) k (by omega) _ hlt) _ _ _ HSL.out).mono ?_
        rintro e w2 ⟨rfl, hs2, hk2⟩
        rw [HW.out] at hs2
        have HS2 := Lib.hid hs2
        have HK2 := Lib.hid hk2
        clear hs2 hk2
        go_wp2
        go_roundw
        case rel => exact ⟨k + 1, by omega, by omega, by go_num, HS2.out, HK.out.own HK2.out (fun g hg => by simp [Value.ownBlock] at hg; omega)⟩
        case measure => simp [intOf]; omega
      · have hk' : k = m := by omega
        subst hk'
        have HP := Lib.hid (Nt.pathTo_end k (by omega))
        go_wp2
        go_ret
        exact ⟨_, rfl, by rw [HF.out, ← HP.out]; exact HSL.out, HK.out⟩

set_option maxHeartbeats 1000000 in
theorem iRing_any (n : Int) (w : World) :
    Calls Try.prog 28 #[.int .i64 n] w fun e w' => ∃ u, e = .returned u ∧ Sl w' w.heap.size u (Nt.ringOf n) ∧ Kept [] w w' := by
  by_cases h1 : n < 3
  · have HF := Lib.hid (ringOf_no n (by omega))
    go_enter Try.func28, Try.ntmps28
    go_wp2
    go_ret
    exact ⟨_, rfl, by rw [HF.out]; exact Sl.nil _ _, Kept.refl _ _⟩
  by_cases h6 : 6 < n
  · have HF := Lib.hid (ringOf_no n (by omega))
    go_enter Try.func28, Try.ntmps28
    go_wp2
    go_ret
    exact ⟨_, rfl, by rw [HF.out]; exact Sl.nil _ _, Kept.refl _ _⟩
  obtain ⟨m, rfl⟩ := Int.eq_ofNat_of_zero_le (show 0 ≤ n by omega)
  have m1 : 3 ≤ m := by omega
  have m6 : m ≤ 6 := by omega
  have HF := Lib.hid (ringOf_yes m ⟨m1, m6⟩)
  have HP := Lib.hid (pathOf_yes m ⟨by omega, m6⟩)
  have HE : Hid ((m : Int) - 1 = ((m - 1 : Nat) : Int)) := Lib.hid (by omega)
  have HW := Lib.hid (Nt.ring_wire m (by omega) m1)
  have c0 : (0 : Int) = ((0 : Nat) : Int) := rfl
  have C0 := Lib.hid c0
  clear c0
  go_enter Try.func28, Try.ntmps28
  go_wp2_with fail
  refine (iPath_any (m : Int) _).mono ?_
  rintro e w1 ⟨u, rfl, hs1, hk1⟩
  rw [HP.out] at hs1
  have HS1 := Lib.hid hs1
  have HK1 := Lib.hid hk1
  have HB := Lib.hid (fun g hg => (hs1.block (g := g) hg).1)
  clear hs1 hk1
  go_wp2_with fail
  rw [HE.out]
  refine (addWire_any (Nt.pathN m) 0 (m - 1) (by rw [Nt.pathN_length]; omega) (by rw [Nt.pathN_length]; omega) (by rw [Nt.pathN_length]; exact m6) (by omega) (Nt.pathN_small m (by omega) _ (by omega)) (Nt.pathN_small m (by omega) _ (by omega)) _ _ _ HS1.out).mono ?_
  rintro e w2 ⟨rfl, hs2, hk2⟩
  rw [HW.out] at hs2
  have HS2 := Lib.hid hs2
  have HK2 := Lib.hid hk2
  clear hs2 hk2
  go_wp2
  go_ret
  exact ⟨_, rfl, by rw [HF.out]; exact HS2.out, HK1.out.own HK2.out HB.out⟩
end Go.Proofs.Yteogfoelidiffaa
