/-
  Walks: states of numbers, by the program and by the model.
-/
import Derived.Test.YtjogkppgmomggaaS2
namespace Go.Proofs.Ytjogkppgmomggaa
open Go.RowKit

theorem pow_div (m c k : Nat) : m / c ^ (k + 1) = m / c ^ k / c := by
  rw [Nat.pow_succ, Nat.div_div_eq_div_mul]

theorem div_zero_iff {m c n : Nat} (hc : 0 < c) : m / c ^ n = 0 ↔ m < c ^ n := by
  rw [Nat.div_eq_zero_iff]
  have := Nat.pow_pos (n := n) hc
  omega

set_option maxHeartbeats 2000000 in
theorem iStateOf_any (nodes kinds number : Int) (hN : number ≤ 9223372036854775807) (w : World) :
    Calls Try.prog 30 #[.int .i64 nodes, .int .i64 kinds, .int .i64 number] w fun e w' => ∃ u, e = .returned u ∧ Sl w' w.heap.size u (Nt.stateOf nodes kinds number) ∧ Kept [] w w' := by
  by_cases h1 : 1 ≤ nodes ∧ nodes ≤ 6
  · have d1 : decide (1 ≤ nodes ∧ nodes ≤ 6) = true := dec_of h1
    by_cases h2 : 3 ≤ kinds ∧ kinds ≤ 5
    · have d2 : decide (3 ≤ kinds ∧ kinds ≤ 5) = true := dec_of h2
      by_cases h3 : number < 0
      · have HF := Lib.hid (Nt.stateOf_no (nodes := nodes) (kinds := kinds) (number := number) (fun h => by omega))
        clear h1 h2
        go_enter Try.func30, Try.ntmps30
        go_wp2_with (first | (go_at_call 37; refine (nodesOk_any _ _).mono ?_; rintro e w' ⟨rfl, rfl⟩; rw [d1]) | (go_at_call 36; refine (kindsOk_any _ _).mono ?_; rintro e w' ⟨rfl, rfl⟩; rw [d2]))
        go_ret
        exact ⟨_, rfl, by rw [HF.out]; exact Sl.nil _ _, Kept.refl _ _⟩
      · obtain ⟨n, rfl⟩ := Int.eq_ofNat_of_zero_le (show 0 ≤ nodes by omega)
        obtain ⟨c, rfl⟩ := Int.eq_ofNat_of_zero_le (show 0 ≤ kinds by omega)
        obtain ⟨m, rfl⟩ := Int.eq_ofNat_of_zero_le (show 0 ≤ number by omega)
        have n1 : 1 ≤ n := by omega
        have n6 : n ≤ 6 := by omega
        have c3 : 3 ≤ c := by omega
        have c5 : c ≤ 5 := by omega
        have hm : m ≤ 9223372036854775807 := by omega
        have HYES := Lib.hid (fun h : m < c ^ n => Nt.stateOf_ok (m := m) ⟨n1, n6⟩ ⟨c3, c5⟩ h)
        have HNO := Lib.hid (fun h : ¬ m < c ^ n => Nt.stateOf_no (nodes := (n : Int)) (kinds := (c : Int)) (number := (m : Int)) (fun h4 => h (by have h5 := h4.2.2.2; rw [Int.toNat_natCast] at h5; exact_mod_cast h5)))
        have HZ := Lib.hid (div_zero_iff (m := m) (c := c) (n := n) (by omega))
        clear h1 h2 h3
        go_enter Try.func30, Try.ntmps30
        go_wp2_with (first | (go_at_call 37; refine (nodesOk_any _ _).mono ?_; rintro e w' ⟨rfl, rfl⟩; rw [d1]) | (go_at_call 36; refine (kindsOk_any _ _).mono ?_; rintro e w' ⟨rfl, rfl⟩; rw [d2]) | (at_make; refine make_int w n rfl _ _ rfl rfl rfl ?_ ?_))
        · omega
        · intro w1 hs1 hk1 _
          have hs2 : Sl w1 w.heap.size (.slice (some ⟨w.heap.size, 0, none⟩) n n) (Nt.nats (Nt.digitsTo c m n 0)) := by
            rw [Nt.digitsTo_zero, nats_zeros]; exact hs1
          have HS1 := Lib.hid hs2
          have HK1 := Lib.hid hk1
          clear hs1 hk1 hs2 d1 d2
          go_wp2
          go_loopw [2, 25] (fun q i wr => ∃ k : Nat, k ≤ n ∧ i = .int .i64 k ∧ q = .int .i64 ((m / c ^ k : Nat) : Int) ∧ Sl wr w.heap.size (.slice (some ⟨w.heap.size, 0, none⟩) n n) (Nt.nats (Nt.digitsTo c m n k)) ∧ Kept [] w wr) (fun _ i _ => n - (intOf i).toNat)
          case atStart => exact ⟨0, Nat.zero_le _, rfl, by simp, HS1.out, HK1.out⟩
          case round =>
            clear HS1 HK1
            obtain ⟨k, hk, rfl, rfl, hsl, hkept⟩ := hrel
            have HSL := Lib.hid hsl
            have HK := Lib.hid hkept
            by_cases hlt : k < n
            · obtain ⟨hcell, hfr⟩ := hsl.at k (by rw [Nt.nats_length, Nt.digitsTo_length _ _ _ _ hk]; exact hlt)
              have HSET := Lib.hid (Nt.digitsTo_set c m n k hlt)
              have HP := Lib.hid (pow_div m c k)
              have HLEN := Lib.hid (Nt.digitsTo_length c m n k hk)
              have hq : m / c ^ k ≤ 9223372036854775807 := Nat.le_trans (Nat.div_le_self _ _) hm
              clear hsl hkept
              generalize m / c ^ k = q at *
              have f1 := tmod_nat q c
              have f2 := tdiv_nat q c
              have l2 : q / c ≤ q := Nat.div_le_self _ _
              generalize q % c = r at *
              generalize q / c = d at *
              have hc0 : ¬ c = 0 := by omega
              go_wp2
              go_roundw
              case rel => exact ⟨k + 1, by omega, by go_num, by rw [HP.out], by rw [← HSET.out, Nt.nats_set]; exact HSL.out.set (by rw [Nt.nats_length, HLEN.out]) k _, HK.out.setCell (.inr (Nat.le_refl _)) _⟩
              case measure => simp [intOf]; omega
            · have hk' : k = n := by omega
              subst hk'
              clear hsl hkept
              by_cases hz : m < c ^ k
              · have e0 : m / c ^ k = 0 := HZ.out.2 hz
                rw [e0]
                go_wp2
                go_ret
                exact ⟨_, rfl, by rw [HYES.out hz, ← Nt.digitsTo_end]; exact HSL.out, HK.out⟩
              · have hpos : 0 < m / c ^ k := by
                  have := HZ.out
                  rcases Nat.eq_zero_or_pos (m / c ^ k) with h | h
                  · exact absurd (this.1 h) hz
                  · exact h
                generalize m / c ^ k = q at *
                go_wp2
                go_ret
                exact ⟨_, rfl, by rw [HNO.out hz]; exact Sl.nil _ _, HK.out⟩
    · have d2 : decide (3 ≤ kinds ∧ kinds ≤ 5) = false := dec_not h2
      have HF := Lib.hid (Nt.stateOf_no (nodes := nodes) (kinds := kinds) (number := number) (fun h => h2 h.2.1))
      clear h1 h2
      go_enter Try.func30, Try.ntmps30
      go_wp2_with (first | (go_at_call 37; refine (nodesOk_any _ _).mono ?_; rintro e w' ⟨rfl, rfl⟩; rw [d1]) | (go_at_call 36; refine (kindsOk_any _ _).mono ?_; rintro e w' ⟨rfl, rfl⟩; rw [d2]))
      go_ret
      exact ⟨_, rfl, by rw [HF.out]; exact Sl.nil _ _, Kept.refl _ _⟩
  · have d1 : decide (1 ≤ nodes ∧ nodes ≤ 6) = false := dec_not h1
    have HF := Lib.hid (Nt.stateOf_no (nodes := nodes) (kinds := kinds) (number := number) (fun h => h1 h.1))
    clear h1
    go_enter Try.func30, Try.ntmps30
    go_wp2_with (go_at_call 37; refine (nodesOk_any _ _).mono ?_; rintro e w' ⟨rfl, rfl⟩; rw [d1])
    go_ret
    exact ⟨_, rfl, by rw [HF.out]; exact Sl.nil _ _, Kept.refl _ _⟩

set_option maxHeartbeats 1000000 in
theorem l2Power_any (n c : Nat) (h6 : n ≤ 6) (h5 : c ≤ 5) (w : World) :
    Calls Try.prog 49 #[.int .i64 (n : Int), .int .i64 (c : Int)] w fun e w' => e = .returned (.int .i64 ((c ^ n : Nat) : Int)) ∧ w = w' := by
  go_enter Try.func49, Try.ntmps49
  go_wp2
  go_loop [5, 6] (fun p i => ∃ k : Nat, k ≤ n ∧ i = .int .i64 k ∧ p = .int .i64 ((c ^ k : Nat) : Int)) (fun _ i => n - (intOf i).toNat)
  case atStart => exact ⟨0, Nat.zero_le _, rfl, by simp⟩
  case round =>
    obtain ⟨k, hk, rfl, rfl⟩ := hrel
    by_cases hlt : k < n
    · have hp := Nt.pow5_le (c := c) (n := k + 1) h5 (by omega)
      have HP := Lib.hid (Nat.pow_succ c k)
      rw [Nat.pow_succ] at hp
      have e1 : ((c ^ k : Nat) : Int) * (c : Int) = ((c ^ k * c : Nat) : Int) := by simp
      generalize c ^ k = q at *
      generalize q * c = p at *
      have e2 : wrap64 ((q : Int) * (c : Int)) = (p : Int) := by rw [e1]; exact IntWalk.wrap64_in _ (by omega)
      go_wp2
      go_round
      case rel => exact ⟨k + 1, by omega, by go_num, by rw [HP.out]⟩
      case measure => simp [intOf]; omega
    · have hk' : k = n := by omega
      subst hk'
      go_wp2
      go_ret
      exact ⟨rfl, rfl⟩

theorem digits_take (c m k : Nat) : Nt.nats (Nt.digits c m (k + 1)) = Nt.nats (Nt.digits c m k) ++ [((m / c ^ k % c : Nat) : Int)] := by
  rw [Nt.digits_succ]
  simp [Nt.nats]

set_option maxHeartbeats 1000000 in
theorem l2State_any (n c m : Nat) (h6 : n ≤ 6) (h3 : 3 ≤ c) (h5 : c ≤ 5) (hm : m ≤ 9223372036854775807) (w : World) :
    Calls Try.prog 50 #[.int .i64 (n : Int), .int .i64 (c : Int), .int .i64 (m : Int)] w fun e w' => ∃ u, e = .returned u ∧ Sl w' w.heap.size u (Nt.nats (Nt.digits c m n)) ∧ Kept [] w w' := by
  go_enter Try.func50, Try.ntmps50
  go_wp2
  go_loopw [2, 7, 8] (fun q u i wr => ∃ k : Nat, k ≤ n ∧ i = .int .i64 k ∧ q = .int .i64 ((m / c ^ k : Nat) : Int) ∧ Sl wr w.heap.size u (Nt.nats (Nt.digits c m k)) ∧ Kept [] w wr) (fun _ _ i _ => n - (intOf i).toNat)
  case atStart => exact ⟨0, Nat.zero_le _, rfl, by simp, by simpa [Nt.digits, Nt.nats] using Sl.empty3 w, (Kept.refl _ _).alloc _⟩
  case round =>
    obtain ⟨k, hk, rfl, rfl, hsl, hkept⟩ := hrel
    have HSL := Lib.hid hsl
    have HK := Lib.hid hkept
    have hsz := hkept.size
    clear hsl hkept
    by_cases hlt : k < n
    · have HT := Lib.hid (digits_take c m k)
      have hl : (Nt.nats (Nt.digits c m k)).length ≤ 1000000 := by rw [Nt.nats_length, Nt.digits_length]; omega
      have HL := Lib.hid hl
      have HP := Lib.hid (pow_div m c k)
      have hq : m / c ^ k ≤ 9223372036854775807 := Nat.le_trans (Nat.div_le_self _ _) hm
      clear hl
      generalize m / c ^ k = q at *
      have f1 := tmod_nat q c
      have f2 := tdiv_nat q c
      have l2 : q / c ≤ q := Nat.div_le_self _ _
      generalize q % c = r at *
      generalize q / c = d at *
      have hc0 : ¬ c = 0 := by omega
      go_wp2_with (at_builtin; refine app_int _ rfl _ _ rfl w.heap.size _ _ HSL.out rfl rfl HL.out (by omega) ?_; intro u' w1 hs1 hk1; have HS1 := Lib.hid hs1; have HK1 := Lib.hid hk1; clear hs1 hk1)
      go_roundw
      case rel => exact ⟨k + 1, by omega, by go_num, by rw [HP.out], HS1.out.val rfl HT.out, HK.out.own HK1.out (fun g hg => (HSL.out.block hg).1)⟩
      case measure => simp [intOf]; omega
    · have hk' : k = n := by omega
      subst hk'
      go_wp2
      go_ret
      exact ⟨_, rfl, HSL.out, HK.out⟩

set_option maxHeartbeats 2000000 in
theorem sStateOf_any (nodes kinds number : Int) (hN : number ≤ 9223372036854775807) (w : World) :
    Calls Try.prog 32 #[.int .i64 nodes, .int .i64 kinds, .int .i64 number] w fun e w' => ∃ u, e = .returned u ∧ Sl w' w.heap.size u (Nt.stateOf nodes kinds number) ∧ Kept [] w w' := by
  by_cases h1 : 1 ≤ nodes ∧ nodes ≤ 6
  · have d1 : decide ((1 : Int) ≤ nodes ∧ nodes ≤ 6) = true := dec_of h1
    by_cases h2 : 3 ≤ kinds ∧ kinds ≤ 5
    · have d2 : decide ((3 : Int) ≤ kinds ∧ kinds ≤ 5) = true := dec_of h2
      by_cases h3 : number < 0
      · have HF := Lib.hid (Nt.stateOf_no (nodes := nodes) (kinds := kinds) (number := number) (fun h => by omega))
        clear h1 h2
        go_enter Try.func32, Try.ntmps32
        go_wp2_with fail
        refine (l1In_any _ _ _ _).mono ?_
        rintro e w' ⟨rfl, rfl⟩
        rw [d1]
        go_wp2_with fail
        refine (l1In_any _ _ _ _).mono ?_
        rintro e w' ⟨rfl, rfl⟩
        rw [d2]
        go_wp2
        go_ret
        exact ⟨_, rfl, by rw [HF.out]; exact Sl.empty3 _, (Kept.refl _ _).alloc _⟩
      · obtain ⟨n, rfl⟩ := Int.eq_ofNat_of_zero_le (show 0 ≤ nodes by omega)
        obtain ⟨c, rfl⟩ := Int.eq_ofNat_of_zero_le (show 0 ≤ kinds by omega)
        obtain ⟨m, rfl⟩ := Int.eq_ofNat_of_zero_le (show 0 ≤ number by omega)
        have n1 : 1 ≤ n := by omega
        have n6 : n ≤ 6 := by omega
        have c3 : 3 ≤ c := by omega
        have c5 : c ≤ 5 := by omega
        have hm : m ≤ 9223372036854775807 := by omega
        have HYES := Lib.hid (fun h : m < c ^ n => Nt.stateOf_ok (m := m) ⟨n1, n6⟩ ⟨c3, c5⟩ h)
        have HNO := Lib.hid (fun h : ¬ m < c ^ n => Nt.stateOf_no (nodes := (n : Int)) (kinds := (c : Int)) (number := (m : Int)) (fun h4 => h (by have h5 := h4.2.2.2; rw [Int.toNat_natCast] at h5; exact_mod_cast h5)))
        clear h1 h2 h3
        go_enter Try.func32, Try.ntmps32
        go_wp2_with fail
        refine (l1In_any _ _ _ _).mono ?_
        rintro e w' ⟨rfl, rfl⟩
        rw [d1]
        go_wp2_with fail
        refine (l1In_any _ _ _ _).mono ?_
        rintro e w' ⟨rfl, rfl⟩
        rw [d2]
        go_wp2_with fail
        refine (l2Power_any n c n6 c5 _).mono ?_
        rintro e w' ⟨rfl, rfl⟩
        generalize hp : c ^ n = p at *
        clear d1 d2 hp
        by_cases hlt : m < p
        · go_wp2_with fail
          refine (l2State_any n c m n6 c3 c5 hm _).mono ?_
          rintro e w1 ⟨u, rfl, hs1, hk1⟩
          have HS1 := Lib.hid hs1
          have HK1 := Lib.hid hk1
          clear hs1 hk1
          go_wp2
          go_ret
          exact ⟨_, rfl, by rw [HYES.out hlt]; exact HS1.out, HK1.out⟩
        · have hge : (p : Int) ≤ (m : Int) := by omega
          go_wp2
          go_ret
          exact ⟨_, rfl, by rw [HNO.out hlt]; exact Sl.empty3 _, (Kept.refl _ _).alloc _⟩
    · have d2 : decide ((3 : Int) ≤ kinds ∧ kinds ≤ 5) = false := dec_not h2
      have HF := Lib.hid (Nt.stateOf_no (nodes := nodes) (kinds := kinds) (number := number) (fun h => h2 h.2.1))
      clear h1 h2
      go_enter Try.func32, Try.ntmps32
      go_wp2_with fail
      refine (l1In_any _ _ _ _).mono ?_
      rintro e w' ⟨rfl, rfl⟩
      rw [d1]
      go_wp2_with fail
      refine (l1In_any _ _ _ _).mono ?_
      rintro e w' ⟨rfl, rfl⟩
      rw [d2]
      go_wp2
      go_ret
      exact ⟨_, rfl, by rw [HF.out]; exact Sl.empty3 _, (Kept.refl _ _).alloc _⟩
  · have d1 : decide ((1 : Int) ≤ nodes ∧ nodes ≤ 6) = false := dec_not h1
    have HF := Lib.hid (Nt.stateOf_no (nodes := nodes) (kinds := kinds) (number := number) (fun h => h1 h.1))
    clear h1
    go_enter Try.func32, Try.ntmps32
    go_wp2_with fail
    refine (l1In_any _ _ _ _).mono ?_
    rintro e w' ⟨rfl, rfl⟩
    rw [d1]
    go_wp2
    go_ret
    exact ⟨_, rfl, by rw [HF.out]; exact Sl.empty3 _, (Kept.refl _ _).alloc _⟩
end Go.Proofs.Ytjogkppgmomggaa
