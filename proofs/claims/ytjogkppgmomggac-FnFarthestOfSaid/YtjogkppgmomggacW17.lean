/-
  Walks: the greatest distance from a node.
-/
import Derived.Test.YtjogkppgmomggacW10
import Derived.Test.YtjogkppgmomggacPureB
namespace Go.Proofs.Ytjogkppgmomggac
open Go.RowKit

set_option maxHeartbeats 1000000 in
theorem max_any (xs : List Int) (n : Nat) (hn : xs.length = n + 1) (w : World) (v : Value) (base : Nat) (hs : Sl w base v xs) :
    Calls Try.prog 52 #[v] w fun e w' => e = .returned (.int .i64 (Nt.topTo xs n)) ∧ w = w' := by
  obtain ⟨g, cap, rfl, _, _⟩ := hs.shape hn (by omega)
  have hc0 := (hs.at 0 (by omega)).1
  have HC := Lib.hid (fun k (hk : k < xs.length) => (hs.at k hk).1)
  have hlen := hs.len
  clear hs
  have h1 : ¬ ((n + 1 : Nat) : Int) < 1 := by omega
  generalize hx0 : xs.getD 0 0 = x0 at *
  have HX0 := Lib.hid hx0
  clear hx0
  have hmax : n ≤ 9223372036854775806 := by omega
  have HN := Lib.hid hn
  clear hlen hn
  go_enter Try.func52, Try.ntmps52
  go_wp2
  go_loop [3, 4] (fun a i => ∃ k : Nat, k ≤ n ∧ i = .int .i64 ((k : Int) + 1) ∧ a = .int .i64 (Nt.topTo xs k)) (fun _ i => n + 1 - (intOf i).toNat)
  case atStart => exact ⟨0, Nat.zero_le _, rfl, by rw [Nt.topTo, HX0.out]⟩
  case round =>
    obtain ⟨k, hk, rfl, rfl⟩ := hrel
    by_cases hlt : k < n
    · have hcell := HC.out (k + 1) (by have := HN.out; omega)
      have HT : Hid (Nt.topTo xs (k + 1) = max (Nt.topTo xs k) (xs.getD (k + 1) 0)) := Lib.hid rfl
      generalize Nt.topTo xs k = a at *
      generalize xs.getD (k + 1) 0 = b at *
      go_wp2
      go_round
      case rel => exact ⟨k + 1, by omega, by go_num, by rw [HT.out]; first | rfl | go_num⟩
      case measure => simp [intOf]; omega
    · have hk' : k = n := by omega
      subst hk'
      go_wp2
      go_ret
      exact ⟨rfl, rfl⟩

set_option maxHeartbeats 1000000 in
theorem iFarthest_any (xs : List Int) (node : Int) (w : World) (v : Value) (base : Nat) (hs : Sl w base v xs) :
    Calls Try.prog 28 #[v, .int .i64 node] w fun e w' => e = .returned (.int .i64 (Nt.farthestOf xs node)) ∧ Kept [] w w' := by
  have HS := Lib.hid hs
  by_cases ho : Nt.okB xs = true
  · obtain ⟨ns, rfl, hok⟩ := Nt.okB_ok ho
    have hfew := hok.few
    have hl : (Nt.nats ns).length = ns.length := Nt.nats_length ns
    obtain ⟨a, cap, rfl, _, _, _⟩ := hs.any
    by_cases h1 : node < 0
    · have HF := Lib.hid (Nt.farthestOf_no (xs := Nt.nats ns) (node := node) (fun h => by omega))
      clear hl
      go_enter Try.func28, Try.ntmps28
      go_wp2_with (go_at_call 14; refine (iNetOk_any (Nt.nats ns) _ _ base HS.out).mono ?_; rintro e w' ⟨rfl, rfl⟩)
      go_ret
      exact ⟨by rw [HF.out]; rfl, Kept.refl _ _⟩
    · by_cases h2 : node < (Nt.nats ns).length
      · obtain ⟨k, rfl⟩ := Int.eq_ofNat_of_zero_le (show 0 ≤ node by omega)
        have hk : k < ns.length := by omega
        have HF := Lib.hid (Nt.farthestOf_ok hok hk)
        have HP := Lib.hid (Nt.two_pow_lt hk)
        have HD := Lib.hid (Nt.farOf_ok hok (Nt.two_pow_lt hk))
        have HZ := Lib.hid (Nt.far_self hk)
        have HL := Lib.hid hl
        have e1 : wrap64 (2 ^ k) = ((2 ^ k : Nat) : Int) := by
          have h := wrap_pow k (by omega) (by omega)
          rw [Int.toNat_natCast] at h
          rw [h]
          exact (Int.natCast_pow 2 k).symm
        have E1 := Lib.hid e1
        clear hok hs hl e1
        go_enter Try.func28, Try.ntmps28
        go_wp2_with (go_at_call 14; refine (iNetOk_any (Nt.nats ns) _ _ base HS.out).mono ?_; rintro e w' ⟨rfl, rfl⟩)
        rw [E1.out]
        refine (iFar_any (Nt.nats ns) ((2 ^ k : Nat) : Int) _ _ base HS.out).mono ?_
        rintro e w1 ⟨u, rfl, hs1, hk1⟩
        rw [HD.out] at hs1
        have HS1 := Lib.hid hs1
        have HK1 := Lib.hid hk1
        clear hs1 hk1
        go_wp2_with (go_at_call 52; refine (max_any (Nt.far ns (2 ^ k)) (ns.length - 1) (by rw [Nt.far_length]; omega) _ _ _ HS1.out).mono ?_; rintro e w' ⟨rfl, rfl⟩)
        go_ret
        refine ⟨?_, HK1.out⟩
        rw [HF.out]
        unfold Nt.farthest
        have e : ns.length - 1 + 1 = ns.length := by omega
        rw [← e, ← Nt.top_of_zero (i := k) (by omega) HZ.out]
        rfl
      · have HF := Lib.hid (Nt.farthestOf_no (xs := Nt.nats ns) (node := node) (fun h => h2 h.2.2))
        clear hl
        go_enter Try.func28, Try.ntmps28
        go_wp2_with (go_at_call 14; refine (iNetOk_any (Nt.nats ns) _ _ base HS.out).mono ?_; rintro e w' ⟨rfl, rfl⟩)
        go_ret
        exact ⟨by rw [HF.out]; rfl, Kept.refl _ _⟩
  · have ho' : Nt.okB xs = false := by simpa using ho
    have HF := Lib.hid (Nt.farthestOf_no (xs := xs) (node := node) (fun h => ho h.1))
    obtain ⟨a, cap, rfl, _, _, _⟩ := hs.any
    clear ho hs
    go_enter Try.func28, Try.ntmps28
    go_wp2_with (go_at_call 14; refine (iNetOk_any xs _ _ base HS.out).mono ?_; rintro e w' ⟨rfl, rfl⟩)
    go_ret
    exact ⟨by rw [HF.out]; rfl, Kept.refl _ _⟩

set_option maxHeartbeats 1000000 in
theorem sFarthest_any (xs : List Int) (node : Int) (w : World) (v : Value) (base : Nat) (hs : Sl w base v xs) :
    Calls Try.prog 29 #[v, .int .i64 node] w fun e w' => e = .returned (.int .i64 (Nt.farthestOf xs node)) ∧ Kept [] w w' := by
  have HS := Lib.hid hs
  by_cases ho : Nt.okB xs = true
  · obtain ⟨ns, rfl, hok⟩ := Nt.okB_ok ho
    have hfew := hok.few
    have hpos := hok.some
    have hl : (Nt.nats ns).length = ns.length := Nt.nats_length ns
    obtain ⟨a, cap, rfl, _, hlm, _⟩ := hs.any
    have h6 : (Nt.nats ns).length ≤ 6 := by omega
    by_cases h1 : 0 ≤ node ∧ node < (Nt.nats ns).length
    · obtain ⟨k, rfl⟩ := Int.eq_ofNat_of_zero_le h1.1
      have hk : k < ns.length := by omega
      have hd : decide ((0 : Int) ≤ (k : Int) ∧ (k : Int) ≤ ((Nt.nats ns).length : Int) - 1) = true := dec_of (by omega)
      have HF := Lib.hid (Nt.farthestOf_ok hok hk)
      have HP := Lib.hid (Nt.two_pow_lt hk)
      have HOK := Lib.hid hok
      have HL := Lib.hid hl
      have e1 : wrap64 (2 ^ k) = ((2 ^ k : Nat) : Int) := by
        have h := wrap_pow k (by omega) (by omega)
        rw [Int.toNat_natCast] at h
        rw [h]
        exact (Int.natCast_pow 2 k).symm
      have E1 := Lib.hid e1
      clear hok hs hl e1 h1
      go_enter Try.func29, Try.ntmps29
      go_wp2_with (first | (go_at_call 38; refine (sNetOk_any (Nt.nats ns) _ _ base HS.out).mono ?_; rintro e w1 ⟨rfl, hq⟩; have HQ := Lib.hid hq; clear hq) | (go_at_call 53; refine (l1In_any _ _ _ _).mono ?_; rintro e w' ⟨rfl, rfl⟩; rw [hd]))
      rw [E1.out]
      refine (l1Far_any ns HOK.out (2 ^ k) HP.out _ _ base (HQ.out.sl HS.out)).mono ?_
      rintro e w2 ⟨u, rfl, hs2, hk2⟩
      have HS2 := Lib.hid hs2
      have HK2 := Lib.hid hk2
      obtain ⟨g', cap', rfl, _, _⟩ := hs2.shape (Nt.far_length ns (2 ^ k)) (by omega)
      have HC := Lib.hid (fun j (hj : j < ns.length) => (hs2.at j (by rw [Nt.far_length]; exact hj)).1)
      clear hs2 hk2 hd
      go_wp2
      go_loop [5, 7] (fun m i => ∃ j : Nat, j ≤ ns.length ∧ i = .int .i64 j ∧ m = .int .i64 (Nt.maxTo (Nt.far ns (2 ^ k)) j)) (fun _ i => ns.length - (intOf i).toNat)
      case atStart => exact ⟨0, Nat.zero_le _, rfl, rfl⟩
      case round =>
        obtain ⟨j, hj, rfl, rfl⟩ := hrel
        by_cases hlt : j < ns.length
        · have hcell := HC.out j hlt
          have HT : Hid (Nt.maxTo (Nt.far ns (2 ^ k)) (j + 1) = max (Nt.maxTo (Nt.far ns (2 ^ k)) j) ((Nt.far ns (2 ^ k)).getD j 0)) := Lib.hid rfl
          generalize Nt.maxTo (Nt.far ns (2 ^ k)) j = a at *
          generalize (Nt.far ns (2 ^ k)).getD j 0 = b at *
          go_wp2
          go_round
          case rel => exact ⟨j + 1, by omega, by go_num, by rw [HT.out]; first | rfl | go_num⟩
          case measure => simp [intOf]; omega
        · have hj' : j = ns.length := by omega
          subst hj'
          go_wp2
          go_ret
          exact ⟨by rw [HF.out]; rfl, HQ.out.kept.trans HK2.out (by simp)⟩
    · have hd : decide ((0 : Int) ≤ node ∧ node ≤ ((Nt.nats ns).length : Int) - 1) = false := dec_not (by omega)
      have HF := Lib.hid (Nt.farthestOf_no (xs := Nt.nats ns) (node := node) (fun h => h1 h.2))
      clear hl h1
      go_enter Try.func29, Try.ntmps29
      go_wp2_with (first | (go_at_call 38; refine (sNetOk_any (Nt.nats ns) _ _ base HS.out).mono ?_; rintro e w1 ⟨rfl, hq⟩; have HQ := Lib.hid hq; clear hq) | (go_at_call 53; refine (l1In_any _ _ _ _).mono ?_; rintro e w' ⟨rfl, rfl⟩; rw [hd]))
      go_ret
      exact ⟨by rw [HF.out]; rfl, HQ.out.kept⟩
  · have ho' : Nt.okB xs = false := by simpa using ho
    have HF := Lib.hid (Nt.farthestOf_no (xs := xs) (node := node) (fun h => ho h.1))
    obtain ⟨a, cap, rfl, _, _, _⟩ := hs.any
    clear ho hs
    go_enter Try.func29, Try.ntmps29
    go_wp2_with (go_at_call 38; refine (sNetOk_any xs _ _ base HS.out).mono ?_; rintro e w1 ⟨rfl, hq⟩; have HQ := Lib.hid hq; clear hq)
    go_ret
    exact ⟨by rw [HF.out]; rfl, HQ.out.kept⟩
end Go.Proofs.Ytjogkppgmomggac
