/-
  The law of NetOk, walked.
-/
import Derived.Test.YteogfoelidiffaaD4
import Derived.Test.YteogfoelidiffaaW5
import Derived.Test.YteogfoelidiffaaOpsB
namespace Go.Proofs.Yteogfoelidiffaa
open Go.RowKit

theorem okB_zeros : ∀ n, n < 7 → Nt.okB (List.replicate n 0) = decide (1 ≤ n) := by decide

set_option maxHeartbeats 1000000 in
theorem FnNetOk_calls (w : World) (v : Value) (ha : ArgB w v) :
    Calls Try.prog 3 #[v] w fun e w' => e = .returned (.bool true) ∧ Kept [] w w' := by
  have HA := Lib.hid ha
  obtain ⟨a, len, cap, rfl, hlc, hcm, _⟩ := ha
  by_cases hbig : 1048576 < len
  · have hb : (1048576 : Int) < (len : Int) := by omega
    clear hbig
    go_enter Try.func3, Try.ntmps3
    go_wp2
    go_ret
    exact ⟨rfl, Kept.refl _ _⟩
  have hb : ¬ (1048576 : Int) < (len : Int) := by omega
  clear hbig
  have o1 : Nt.okB [0] = true := by decide
  have o2 : Nt.okB [] = false := by decide
  go_enter Try.func3, Try.ntmps3
  go_wp2_with fail
  refine (drawNetOk_any _ _ HA.out).mono ?_
  rintro e w1 ⟨u, xs, rfl, hs, hl, hk⟩
  obtain ⟨b, cap1, rfl, _, _, _⟩ := hs.any
  have HS := Lib.hid hs
  have HL := Lib.hid hl
  have HK := Lib.hid hk
  clear hs hk
  go_wp2_with fail
  refine (iNetOk_any xs _ _ _ HS.out).mono ?_
  rintro e w' ⟨rfl, rfl⟩
  go_wp2_with fail
  refine (sNetOk_any xs _ _ _ HS.out).mono ?_
  rintro e w2 ⟨rfl, hq⟩
  have HK2 := Lib.hid (HK.out.trans hq.kept (by simp))
  clear hq
  go_wp2_with fail
  have hs1 : Sl (w2.alloc (.cells #[.int .i64 0] 3)) w2.heap.size (.slice (some ⟨w2.heap.size, 0, none⟩) 1 1) [0] := Sl.lit w2 [0] (by simp)
  refine (iNetOk_any [0] _ _ _ hs1).mono ?_
  rintro e w' ⟨rfl, rfl⟩
  rw [o1]
  clear hs1
  go_wp2_with fail
  have hs2 : Sl ((w2.alloc (.cells #[.int .i64 0] 3)).alloc (.cells #[] 3)) (w2.heap.size + 1) (.slice (some ⟨w2.heap.size + 1, 0, none⟩) 0 0) [] := by
    have h := Sl.lit (w2.alloc (.cells #[.int .i64 0] 3)) [] (by simp)
    have e : (w2.alloc (.cells #[.int .i64 0] 3)).heap.size = w2.heap.size + 1 := by simp
    rw [e] at h
    exact h
  refine (iNetOk_any [] _ _ _ hs2).mono ?_
  rintro e w' ⟨rfl, rfl⟩
  rw [o2]
  clear hs2
  have HK3 := Lib.hid ((HK2.out.alloc (.cells #[.int .i64 0] 3)).alloc (.cells #[] 3))
  clear HS HK HK2
  generalize (w2.alloc (.cells #[.int .i64 0] 3)).alloc (.cells #[] 3) = w3 at *
  go_wp2_with (at_make; refine make_int_g _ xs.length (by rfl) _ _ rfl rfl rfl ?_ ?_)
  · omega
  · intro w4 hs4 hk4 _
    have HS4 := Lib.hid hs4
    have HK4 := Lib.hid (HK3.out.trans hk4 (by simp))
    have HZ := Lib.hid (okB_zeros xs.length (by omega))
    clear hs4 hk4
    go_wp2_with fail
    refine (iNetOk_any _ _ _ _ HS4.out).mono ?_
    rintro e w' ⟨rfl, rfl⟩
    rw [HZ.out]
    by_cases h1 : 1 ≤ xs.length
    · have h2 : (1 : Int) ≤ (xs.length : Int) := by omega
      have h3 : (xs.length : Int) ≤ 6 := by omega
      have hd : decide (1 ≤ xs.length) = true := dec_of h1
      rw [hd]
      clear hd h1
      go_wp2
      go_ret
      exact ⟨rfl, HK4.out⟩
    · have h2 : ¬ (1 : Int) ≤ (xs.length : Int) := by omega
      have hd : decide (1 ≤ xs.length) = false := dec_not h1
      rw [hd]
      clear hd h1
      go_wp2
      go_ret
      exact ⟨rfl, HK4.out⟩
end Go.Proofs.Yteogfoelidiffaa
