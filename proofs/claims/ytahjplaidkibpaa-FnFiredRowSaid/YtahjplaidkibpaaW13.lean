/-
  Walks: paths and rings, by the model.
-/
import Derived.Test.YtahjplaidkibpaaW12
namespace Go.Proofs.Ytahjplaidkibpaa
open Go.RowKit

theorem Sl.empty' (w : World) : Sl (w.alloc (.cells #[] 3)) w.heap.size (.slice (some ⟨w.heap.size, 0, none⟩) 0 0) [] := Sl.lit w [] (by simp)

theorem pow_lt64 {b : Nat} (h : b < 6) : 2 ^ b < 64 := Nat.pow_lt_pow_right (n := 6) (by omega) h

set_option maxHeartbeats 2000000 in
theorem sPath_any (n : Int) (w : World) :
    Calls Try.prog 69 #[.int .i64 n] w fun e w' => ∃ u, e = .returned u ∧ Sl w' w.heap.size u (Nt.pathOf n) ∧ Kept [] w w' := by
  by_cases h1 : 1 ≤ n ∧ n ≤ 6
  · obtain ⟨m, rfl⟩ := Int.eq_ofNat_of_zero_le (show 0 ≤ n by omega)
    have m1 : 1 ≤ m := by omega
    have m6 : m ≤ 6 := by omega
    have HF := Lib.hid (pathOf_yes m ⟨m1, m6⟩)
    have hd : decide ((1 : Int) ≤ (m : Int) ∧ (m : Int) ≤ 6) = true := dec_of h1
    clear h1
    go_enter Try.func69, Try.ntmps69
    go_wp2
    go_loopw [3, 4] (fun u i wr => ∃ k : Nat, k ≤ m ∧ i = .int .i64 k ∧ Sl wr w.heap.size u (Nt.nats ((Nt.pathN m).take k)) ∧ Kept [] w wr) (fun _ i _ => m - (intOf i).toNat)
    case atStart => exact ⟨0, Nat.zero_le _, rfl, Sl.empty' w, (Kept.refl _ _).alloc _⟩
    case round =>
      obtain ⟨k, hk, rfl, hsl, hkept⟩ := hrel
      have HSL := Lib.hid hsl
      have HK := Lib.hid hkept
      have hsz := hkept.size
      clear hsl hkept
      by_cases hlt : k < m
      · have HT := Lib.hid (Nt.take_more (Nt.pathN m) k (by rw [Nt.pathN_length]; exact hlt))
        have HG := Lib.hid (Nt.pathN_get m k hlt)
        have hl : (Nt.nats ((Nt.pathN m).take k)).length ≤ 1000000 := by rw [Nt.nats_length, List.length_take]; omega
        have HL := Lib.hid hl
        clear hl
        by_cases c1 : 0 < k <;> by_cases c2 : k + 1 < m
        all_goals
          go_wp2_with (first | (go_at_call 51; refine (l1In_any _ _ _ _).mono ?_; rintro e w' ⟨rfl, rfl⟩; rw [hd]) | (at_builtin; refine app_int _ rfl _ _ rfl w.heap.size _ _ HSL.out rfl rfl HL.out (by omega) ?_; intro u' w1 hs1 hk1; have HS1 := Lib.hid hs1; have HK1 := Lib.hid hk1; clear hs1 hk1))
          go_roundw
          case rel =>
            refine ⟨k + 1, by omega, by go_num, HS1.out.val ?_ HT.out, HK.out.own HK1.out (fun g hg => (HSL.out.block hg).1)⟩
            rw [HG.out]
            clear HG HT HL HSL HK HS1 HK1
            first
            | (rw [if_pos c1, if_pos c2, or_zero_shl _ (by omega)]; exact or_shl _ _ (pow_lt64 (by omega)) (by omega))
            | (rw [if_pos c1, if_neg c2, or_zero_shl _ (by omega), Nat.or_zero])
            | (rw [if_neg c1, if_pos c2, or_zero_shl _ (by omega), Nat.zero_or])
            | (rw [if_neg c1, if_neg c2]; rfl)
          case measure => simp [intOf]; omega
      · have hk' : k = m := by omega
        subst hk'
        go_wp2_with (go_at_call 51; refine (l1In_any _ _ _ _).mono ?_; rintro e w' ⟨rfl, rfl⟩; rw [hd])
        go_ret
        refine ⟨_, rfl, ?_, HK.out⟩
        have h := HSL.out
        rw [List.take_of_length_le (by rw [Nt.pathN_length]; exact Nat.le_refl _)] at h
        rw [HF.out]
        exact h
  · have HF := Lib.hid (pathOf_no n h1)
    have hd : decide ((1 : Int) ≤ n ∧ n ≤ 6) = false := dec_not h1
    clear h1
    by_cases h0 : 0 < n
    all_goals
      go_enter Try.func69, Try.ntmps69
      go_wp2
      refine wp_loop_rounds 1 ?_
      rw [rounds_succ]
      go_wp2_with (go_at_call 51; refine (l1In_any _ _ _ _).mono ?_; rintro e w' ⟨rfl, rfl⟩; rw [hd])
      go_ret
      exact ⟨_, rfl, by rw [HF.out]; exact Sl.empty' w, (Kept.refl _ _).alloc _⟩
end Go.Proofs.Ytahjplaidkibpaa
