/-
  The laws of PathNet and RingNet, walked.
-/
import Derived.Test.YteogfoelidiffaaD4
import Derived.Test.YteogfoelidiffaaL1
import Derived.Test.YteogfoelidiffaaW10
import Derived.Test.YteogfoelidiffaaPureB
namespace Go.Proofs.Yteogfoelidiffaa
open Go.RowKit

theorem path_ok : ∀ n, n < 7 → 1 ≤ n → Nt.okB (Nt.nats (Nt.pathN n)) = true := by decide
theorem ring_ok : ∀ n, n < 7 → 3 ≤ n → Nt.okB (Nt.nats (Nt.ringN n)) = true := by decide
theorem path_far : ∀ n, n < 7 → 1 ≤ n → Nt.far (Nt.pathN n) 1 = (List.range n).map Int.ofNat := by decide +kernel
theorem ring_far : ∀ n, n < 7 → 3 ≤ n → Nt.maxTo (Nt.far (Nt.ringN n) 1) n = ((n / 2 : Nat) : Int) := by decide +kernel

theorem path_farOf (n : Nat) (h : 1 ≤ n ∧ n ≤ 6) : Nt.farOf (Nt.nats (Nt.pathN n)) 1 = (List.range n).map Int.ofNat := by
  obtain ⟨ns, hns, hok⟩ := Nt.okB_ok (path_ok n (by omega) h.1)
  have e : ns = Nt.pathN n := by
    have := congrArg (List.map Int.toNat) hns
    rw [Nt.nats_toNat, Nt.nats_toNat] at this
    exact this.symm
  rw [e] at hok
  have := Nt.farOf_ok hok (set := 1) (by rw [Nt.pathN_length]; exact Nat.one_lt_two_pow (by omega))
  rw [← path_far n (by omega) h.1]
  exact this

theorem ring_farOf (n : Nat) (h : 3 ≤ n ∧ n ≤ 6) : Nt.farOf (Nt.nats (Nt.ringN n)) 1 = Nt.far (Nt.ringN n) 1 := by
  obtain ⟨ns, hns, hok⟩ := Nt.okB_ok (ring_ok n (by omega) h.1)
  have e : ns = Nt.ringN n := by
    have := congrArg (List.map Int.toNat) hns
    rw [Nt.nats_toNat, Nt.nats_toNat] at this
    exact this.symm
  rw [e] at hok
  exact Nt.farOf_ok hok (set := 1) (by rw [Nt.ringN_length]; exact Nat.one_lt_two_pow (by omega))

set_option maxHeartbeats 2000000 in
theorem FnPathNet_calls (w : World) (v : Value) (ha : ArgB w v) :
    Calls Try.prog 8 #[v] w fun e w' => e = .returned (.bool true) ∧ Kept [] w w' := by
  have HA := Lib.hid ha
  obtain ⟨a, len, cap, rfl, hlc, hcm, _⟩ := ha
  by_cases hbig : 1048576 < len
  · have hb : (1048576 : Int) < (len : Int) := by omega
    clear hbig
    go_enter Try.func8, Try.ntmps8
    go_wp2
    go_ret
    exact ⟨rfl, Kept.refl _ _⟩
  have hb : ¬ (1048576 : Int) < (len : Int) := by omega
  clear hbig
  go_enter Try.func8, Try.ntmps8
  go_wp2_with fail
  refine (drawPathNet_any _ _ HA.out).mono ?_
  rintro e w1 ⟨n, rfl, hn1, hn8, hk⟩
  have HK := Lib.hid hk
  clear hk
  go_wp2_with fail
  refine (iPath_any n _).mono ?_
  rintro e w2 ⟨u2, rfl, hs, hk⟩
  have HS2 := Lib.hid hs
  have HK2 := Lib.hid (HK.out.trans hk (by simp))
  clear hs hk
  go_wp2_with fail
  refine (sPath_any n _).mono ?_
  rintro e w3 ⟨u3, rfl, hs, hk⟩
  have HS3 := Lib.hid hs
  have HT3 := Lib.hid (HS2.out.stay hk)
  have HK3 := Lib.hid (HK2.out.trans hk (by simp))
  clear hs hk HS2
  go_wp2_with fail
  refine (sameInts_any _ _ _ _ _ _ _ HT3.out HS3.out).mono ?_
  rintro e w4 ⟨rfl, hq⟩
  have HT4 := Lib.hid (hq.sl HT3.out)
  have HK4 := Lib.hid (HK3.out.trans hq.kept (by simp))
  clear hq HT3 HS3
  by_cases hin : 1 ≤ n ∧ n ≤ 6
  · obtain ⟨m, rfl⟩ := Int.eq_ofNat_of_zero_le (show 0 ≤ n by omega)
    have m1 : 1 ≤ m := by omega
    have m6 : m ≤ 6 := by omega
    have HY := Lib.hid (pathOf_yes m ⟨m1, m6⟩)
    rw [HY.out] at HT4
    have HL : Hid ((Nt.nats (Nt.pathN m)).length = m) := Lib.hid (by rw [Nt.nats_length, Nt.pathN_length])
    obtain ⟨g, cap4, rfl, _, _⟩ := HT4.out.shape HL.out (by omega)
    have hm0 : ((m : Int) == 0) = false := by simp; omega
    clear hin
    go_wp2_with fail
    refine (iFar_any _ 1 _ _ _ HT4.out).mono ?_
    rintro e w5 ⟨u5, rfl, hs, hk⟩
    rw [path_farOf m ⟨m1, m6⟩] at hs
    have HT5 := Lib.hid (HT4.out.stay hk)
    have HK5 := Lib.hid (HK4.out.trans hk (by simp))
    have HS5 := Lib.hid hs
    clear hk HT4
    have hlen : ((List.range m).map Int.ofNat).length = m := by simp
    obtain ⟨g5, cap5, rfl, _, _⟩ := hs.shape hlen (by omega)
    have HC := Lib.hid (fun k (hk : k < m) => (hs.at k (by rw [hlen]; exact hk)).1)
    clear hs hlen
    go_wp2
    go_loop [6] (fun i => ∃ k : Nat, k ≤ m ∧ i = .int .i64 k) (fun i => m - (intOf i).toNat)
    case atStart => exact ⟨0, Nat.zero_le _, rfl⟩
    case round =>
      obtain ⟨k, hk, rfl⟩ := hrel
      by_cases hlt : k < m
      · have hcell := HC.out k hlt
        have hv : ((List.range m).map Int.ofNat).getD k 0 = (k : Int) := by simp [List.getD_eq_getElem?_getD, hlt]
        rw [hv] at hcell
        have hne : ((k : Int) != (k : Int)) = false := by simp
        clear hv
        go_wp2
        go_round
        case rel => exact ⟨k + 1, by omega, by go_num⟩
        case measure => simp [intOf]; omega
      · have hk' : k = m := by omega
        subst hk'
        go_wp2_with (go_at_call 14; refine (iNetOk_any _ _ _ _ HT5.out).mono ?_; rintro e w' ⟨rfl, rfl⟩; rw [path_ok k (by omega) m1])
        go_ret
        exact ⟨by simp, HK5.out⟩
  · have HN := Lib.hid (pathOf_no n hin)
    rw [HN.out] at HT4
    obtain ⟨b4, cap4, rfl, _, _, _⟩ := HT4.out.any
    by_cases h1 : n < 1
    · clear hin
      go_wp2_with (go_at_call 19; refine (alive_any _).mono ?_; rintro e w5 ⟨rfl, hk⟩; have HK5 := Lib.hid (HK4.out.trans hk (by simp)); clear hk)
      go_ret
      exact ⟨rfl, HK5.out⟩
    · have h6 : 6 < n := by omega
      clear hin
      go_wp2_with (go_at_call 19; refine (alive_any _).mono ?_; rintro e w5 ⟨rfl, hk⟩; have HK5 := Lib.hid (HK4.out.trans hk (by simp)); clear hk)
      go_ret
      exact ⟨rfl, HK5.out⟩

set_option maxHeartbeats 2000000 in
theorem FnRingNet_calls (w : World) (v : Value) (ha : ArgB w v) :
    Calls Try.prog 7 #[v] w fun e w' => e = .returned (.bool true) ∧ Kept [] w w' := by
  have HA := Lib.hid ha
  obtain ⟨a, len, cap, rfl, hlc, hcm, _⟩ := ha
  by_cases hbig : 1048576 < len
  · have hb : (1048576 : Int) < (len : Int) := by omega
    clear hbig
    go_enter Try.func7, Try.ntmps7
    go_wp2
    go_ret
    exact ⟨rfl, Kept.refl _ _⟩
  have hb : ¬ (1048576 : Int) < (len : Int) := by omega
  clear hbig
  go_enter Try.func7, Try.ntmps7
  go_wp2_with fail
  refine (drawRingNet_any _ _ HA.out).mono ?_
  rintro e w1 ⟨n, rfl, hn1, hn8, hk⟩
  have HK := Lib.hid hk
  clear hk
  go_wp2_with fail
  refine (iRing_any n _).mono ?_
  rintro e w2 ⟨u2, rfl, hs, hk⟩
  have HS2 := Lib.hid hs
  have HK2 := Lib.hid (HK.out.trans hk (by simp))
  clear hs hk
  go_wp2_with fail
  refine (sRing_any n _).mono ?_
  rintro e w3 ⟨u3, rfl, hs, hk⟩
  have HS3 := Lib.hid hs
  have HT3 := Lib.hid (HS2.out.stay hk)
  have HK3 := Lib.hid (HK2.out.trans hk (by simp))
  clear hs hk HS2
  go_wp2_with fail
  refine (sameInts_any _ _ _ _ _ _ _ HT3.out HS3.out).mono ?_
  rintro e w4 ⟨rfl, hq⟩
  have HT4 := Lib.hid (hq.sl HT3.out)
  have HK4 := Lib.hid (HK3.out.trans hq.kept (by simp))
  clear hq HT3 HS3
  by_cases hin : 3 ≤ n ∧ n ≤ 6
  · obtain ⟨m, rfl⟩ := Int.eq_ofNat_of_zero_le (show 0 ≤ n by omega)
    have m1 : 3 ≤ m := by omega
    have m6 : m ≤ 6 := by omega
    have HY := Lib.hid (ringOf_yes m ⟨m1, m6⟩)
    rw [HY.out] at HT4
    have HL : Hid ((Nt.nats (Nt.ringN m)).length = m) := Lib.hid (by rw [Nt.nats_length, Nt.ringN_length])
    obtain ⟨g, cap4, rfl, _, _⟩ := HT4.out.shape HL.out (by omega)
    have hm0 : ((m : Int) == 0) = false := by simp; omega
    clear hin
    go_wp2_with fail
    refine (iFar_any _ 1 _ _ _ HT4.out).mono ?_
    rintro e w5 ⟨u5, rfl, hs, hk⟩
    rw [ring_farOf m ⟨m1, m6⟩] at hs
    have HT5 := Lib.hid (HT4.out.stay hk)
    have HK5 := Lib.hid (HK4.out.trans hk (by simp))
    have HS5 := Lib.hid hs
    clear hk HT4
    have hlen : (Nt.far (Nt.ringN m) 1).length = m := by rw [Nt.far_length, Nt.ringN_length]
    obtain ⟨g5, cap5, rfl, _, _⟩ := hs.shape hlen (by omega)
    have HC := Lib.hid (fun k (hk : k < m) => (hs.at k (by rw [hlen]; exact hk)).1)
    have HF := Lib.hid (ring_far m (by omega) m1)
    clear hs hlen
    go_wp2
    go_loop [6, 7] (fun q i => ∃ k : Nat, k ≤ m ∧ i = .int .i64 k ∧ q = .int .i64 (Nt.maxTo (Nt.far (Nt.ringN m) 1) k)) (fun _ i => m - (intOf i).toNat)
    case atStart => exact ⟨0, Nat.zero_le _, rfl, rfl⟩
    case round =>
      obtain ⟨k, hk, rfl, rfl⟩ := hrel
      by_cases hlt : k < m
      · have hcell := HC.out k hlt
        have HT : Hid (Nt.maxTo (Nt.far (Nt.ringN m) 1) (k + 1) = max (Nt.maxTo (Nt.far (Nt.ringN m) 1) k) ((Nt.far (Nt.ringN m) 1).getD k 0)) := Lib.hid rfl
        generalize Nt.maxTo (Nt.far (Nt.ringN m) 1) k = a1 at *
        generalize (Nt.far (Nt.ringN m) 1).getD k 0 = b1 at *
        go_wp2
        go_round
        case rel => exact ⟨k + 1, by omega, by go_num, by rw [HT.out]; first | rfl | go_num⟩
        case measure => simp [intOf]; omega
      · have hk' : k = m := by omega
        subst hk'
        have hq : ((Nt.maxTo (Nt.far (Nt.ringN k) 1) k) == ((k : Int) / 2)) = true := by rw [HF.out]; simp
        have HQ := Lib.hid hq
        clear hq
        generalize Nt.maxTo (Nt.far (Nt.ringN k) 1) k = q1 at *
        go_wp2_with (go_at_call 14; refine (iNetOk_any _ _ _ _ HT5.out).mono ?_; rintro e w' ⟨rfl, rfl⟩; rw [ring_ok k (by omega) m1])
        go_ret
        exact ⟨by have h := HQ.out; simp at h; simp [h], HK5.out⟩
  · have HN := Lib.hid (ringOf_no n hin)
    rw [HN.out] at HT4
    obtain ⟨b4, cap4, rfl, _, _, _⟩ := HT4.out.any
    by_cases h1 : n < 3
    · clear hin
      go_wp2_with (go_at_call 19; refine (alive_any _).mono ?_; rintro e w5 ⟨rfl, hk⟩; have HK5 := Lib.hid (HK4.out.trans hk (by simp)); clear hk)
      go_ret
      exact ⟨rfl, HK5.out⟩
    · have h6 : 6 < n := by omega
      clear hin
      go_wp2_with (go_at_call 19; refine (alive_any _).mono ?_; rintro e w5 ⟨rfl, hk⟩; have HK5 := Lib.hid (HK4.out.trans hk (by simp)); clear hk)
      go_ret
      exact ⟨rfl, HK5.out⟩
end Go.Proofs.Yteogfoelidiffaa
