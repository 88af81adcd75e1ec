/-
  Walks: lit states, by the program and by the model.
-/
import Derived.Test.YtjogkppgmomggaaS2
namespace Go.Proofs.Ytjogkppgmomggaa
open Go.RowKit

theorem shr_rem (x j : Nat) : ((x : Int) / 2 ^ j).tmod 2 = if x.testBit j then 1 else 0 := by
  rw [Int.tmod_eq_emod_of_nonneg (shr_nonneg x j)]
  exact shr_bit x j

theorem pow_cast (n : Nat) : ((2 ^ n : Nat) : Int) = (2 : Int) ^ n := Int.natCast_pow 2 n

theorem lit_take (n s k : Nat) (h : k < n) : Nt.nats ((Nt.lit n s).take (k + 1)) = Nt.nats ((Nt.lit n s).take k) ++ [if s.testBit k then 1 else 0] := by
  rw [Nt.take_more _ _ (by rw [Nt.lit_length]; exact h), Nt.lit_get _ _ _ h]
  split <;> rfl

set_option maxHeartbeats 1000000 in
theorem iLit_any (nodes set : Int) (w : World) :
    Calls Try.prog 20 #[.int .i64 nodes, .int .i64 set] w fun e w' => ∃ u, e = .returned u ∧ Sl w' w.heap.size u (Nt.litOf nodes set) ∧ Kept [] w w' := by
  by_cases h1 : 1 ≤ nodes ∧ nodes ≤ 6
  · have d1 : decide (1 ≤ nodes ∧ nodes ≤ 6) = true := dec_of h1
    obtain ⟨n, rfl⟩ := Int.eq_ofNat_of_zero_le (show 0 ≤ nodes by omega)
    have n1 : 1 ≤ n := by omega
    have n6 : n ≤ 6 := by omega
    by_cases h2 : 0 ≤ set ∧ set < 2 ^ (n : Int).toNat
    · have d2 : decide (0 ≤ set ∧ set < 2 ^ (n : Int).toNat) = true := dec_of h2
      obtain ⟨s, rfl⟩ := Int.eq_ofNat_of_zero_le h2.1
      have hs : s < 2 ^ n := by have := h2.2; rw [Int.toNat_natCast] at this; exact_mod_cast this
      have HF := Lib.hid (Nt.litOf_ok n1 n6 hs)
      clear h1 h2 hs
      go_enter Try.func20, Try.ntmps20
      go_wp2_with (first | (go_at_call 37; refine (nodesOk_any _ _).mono ?_; rintro e w' ⟨rfl, rfl⟩; rw [d1]) | (go_at_call 43; refine (setOk_any _ _ _ (by omega) (by omega)).mono ?_; rintro e w' ⟨rfl, rfl⟩; rw [d2]) | (at_make; refine make_int w n rfl _ _ rfl rfl rfl ?_ ?_))
      · omega
      · intro w1 hs1 hk1 _
        have hs2 : Sl w1 w.heap.size (.slice (some ⟨w.heap.size, 0, none⟩) n n) (Nt.nats (Nt.litTo n s 0)) := by
          rw [Nt.litTo_zero, nats_zeros]; exact hs1
        have HS1 := Lib.hid hs2
        have HK1 := Lib.hid hk1
        clear hs1 hk1 hs2 d1 d2
        go_wp2
        go_loopw [20] (fun i wr => ∃ k : Nat, k ≤ n ∧ i = .int .i64 k ∧ Sl wr w.heap.size (.slice (some ⟨w.heap.size, 0, none⟩) n n) (Nt.nats (Nt.litTo n s k)) ∧ Kept [] w wr) (fun i _ => n - (intOf i).toNat)
        case atStart => exact ⟨0, Nat.zero_le _, rfl, HS1.out, HK1.out⟩
        case round =>
          clear HS1 HK1
          obtain ⟨k, hk, rfl, hsl, hkept⟩ := hrel
          have HSL := Lib.hid hsl
          have HK := Lib.hid hkept
          by_cases hlt : k < n
          · obtain ⟨hcell, hfr⟩ := hsl.at k (by rw [Nt.nats_length, Nt.litTo_length]; exact hlt)
            clear hsl hkept
            cases hb : s.testBit k
            · have HM := Lib.hid (Nt.litTo_miss (n := n) hb)
              go_wp2_with (go_at_call 44; refine (hasNode_nat s k _ (by omega)).mono ?_; rintro e w' ⟨rfl, rfl⟩; rw [hb])
              go_roundw
              case rel => exact ⟨k + 1, by omega, by go_num, by rw [← HM.out]; exact HSL.out, HK.out⟩
              case measure => simp [intOf]; omega
            · have HM := Lib.hid (Nt.litTo_hit (n := n) hb)
              go_wp2_with (go_at_call 44; refine (hasNode_nat s k _ (by omega)).mono ?_; rintro e w' ⟨rfl, rfl⟩; rw [hb])
              go_roundw
              case rel => exact ⟨k + 1, by omega, by go_num, by rw [← HM.out, Nt.nats_set]; exact HSL.out.set (by rw [Nt.nats_length, Nt.litTo_length]) k 1, HK.out.setCell (.inr (Nat.le_refl _)) _⟩
              case measure => simp [intOf]; omega
          · have hk' : k = n := by omega
            subst hk'
            clear hsl hkept
            go_wp2
            go_ret
            exact ⟨_, rfl, by rw [HF.out, ← Nt.litTo_end]; exact HSL.out, HK.out⟩
    · have d2 : decide (0 ≤ set ∧ set < 2 ^ (n : Int).toNat) = false := dec_not h2
      have HF := Lib.hid (Nt.litOf_no (nodes := (n : Int)) (set := set) (fun h => h2 h.2))
      clear h1 h2
      go_enter Try.func20, Try.ntmps20
      go_wp2_with (first | (go_at_call 37; refine (nodesOk_any _ _).mono ?_; rintro e w' ⟨rfl, rfl⟩; rw [d1]) | (go_at_call 43; refine (setOk_any _ _ _ (by omega) (by omega)).mono ?_; rintro e w' ⟨rfl, rfl⟩; rw [d2]))
      go_ret
      exact ⟨_, rfl, by rw [HF.out]; exact Sl.nil _ _, Kept.refl _ _⟩
  · have d1 : decide (1 ≤ nodes ∧ nodes ≤ 6) = false := dec_not h1
    have HF := Lib.hid (Nt.litOf_no (nodes := nodes) (set := set) (fun h => h1 h.1))
    clear h1
    go_enter Try.func20, Try.ntmps20
    go_wp2_with (go_at_call 37; refine (nodesOk_any _ _).mono ?_; rintro e w' ⟨rfl, rfl⟩; rw [d1])
    go_ret
    exact ⟨_, rfl, by rw [HF.out]; exact Sl.nil _ _, Kept.refl _ _⟩

set_option maxHeartbeats 1000000 in
theorem sLit_any (nodes set : Int) (w : World) :
    Calls Try.prog 21 #[.int .i64 nodes, .int .i64 set] w fun e w' => ∃ u, e = .returned u ∧ Sl w' w.heap.size u (Nt.litOf nodes set) ∧ Kept [] w w' := by
  by_cases h1 : 1 ≤ nodes ∧ nodes ≤ 6
  · have d1 : decide (1 ≤ nodes ∧ nodes ≤ 6) = true := dec_of h1
    obtain ⟨n, rfl⟩ := Int.eq_ofNat_of_zero_le (show 0 ≤ nodes by omega)
    have n1 : 1 ≤ n := by omega
    have n6 : n ≤ 6 := by omega
    have ep : wrap64 (wrap64 (2 ^ n) - 1) = 2 ^ n - 1 := by
      have h := wrap_pow n (by omega) (by omega)
      rw [Int.toNat_natCast] at h
      have h2 := wrap_pow_pred n (by omega)
      rw [IntWalk.i64_left] at h2
      rw [h]
      exact h2
    have EP := Lib.hid ep
    clear ep
    by_cases h2 : 0 ≤ set ∧ set < 2 ^ n
    · have d2 : decide (0 ≤ set ∧ set ≤ 2 ^ n - 1) = true := dec_of (by omega)
      obtain ⟨s, rfl⟩ := Int.eq_ofNat_of_zero_le h2.1
      have hs : s < 2 ^ n := by exact_mod_cast h2.2
      have HF := Lib.hid (Nt.litOf_ok n1 n6 hs)
      have d1 : decide ((1 : Int) ≤ (n : Int) ∧ (n : Int) ≤ 6) = true := dec_of h1
      clear h1 h2 hs
      go_enter Try.func21, Try.ntmps21
      go_wp2
      go_loopw [5, 6] (fun u i wr => ∃ k : Nat, k ≤ n ∧ i = .int .i64 k ∧ Sl wr w.heap.size u (Nt.nats ((Nt.lit n s).take k)) ∧ Kept [] w wr) (fun _ i _ => n - (intOf i).toNat)
      case atStart => exact ⟨0, Nat.zero_le _, rfl, Sl.empty3 w, (Kept.refl _ _).alloc _⟩
      case round =>
        obtain ⟨k, hk, rfl, hsl, hkept⟩ := hrel
        have HSL := Lib.hid hsl
        have HK := Lib.hid hkept
        have hsz := hkept.size
        clear hsl hkept
        by_cases hlt : k < n
        · have HT := Lib.hid (lit_take n s k hlt)
          have hl : (Nt.nats ((Nt.lit n s).take k)).length ≤ 1000000 := by rw [Nt.nats_length, List.length_take]; omega
          have HL := Lib.hid hl
          have hsr := shr_rem s k
          have p1 := shr_nonneg s k
          have e1 := shr_bit s k
          clear hl
          generalize (if s.testBit k = true then (1 : Int) else 0) = b at *
          go_wp2_with fail
          refine (l1In_any _ _ _ _).mono ?_
          rintro e w' ⟨rfl, rfl⟩
          rw [d1]
          go_wp2_with fail
          rw [EP.out]
          refine (l1In_any _ _ _ _).mono ?_
          rintro e w' ⟨rfl, rfl⟩
          rw [d2]
          go_wp2_with (at_builtin; refine app_int _ rfl _ _ rfl w.heap.size _ _ HSL.out rfl rfl HL.out (by omega) ?_; intro u' w1 hs1 hk1; have HS1 := Lib.hid hs1; have HK1 := Lib.hid hk1; clear hs1 hk1)
          go_roundw
          case rel => exact ⟨k + 1, by omega, by go_num, HS1.out.val (by first | exact hsr | exact e1 | rfl) HT.out, HK.out.own HK1.out (fun g hg => (HSL.out.block hg).1)⟩
          case measure => simp [intOf]; omega
        · have hk' : k = n := by omega
          subst hk'
          go_wp2_with fail
          go_ret
          refine ⟨_, rfl, ?_, HK.out⟩
          have h := HSL.out
          rw [List.take_of_length_le (by rw [Nt.lit_length]; exact Nat.le_refl _)] at h
          rw [HF.out]
          exact h
    · have d2 : decide (0 ≤ set ∧ set ≤ 2 ^ n - 1) = false := dec_not (by omega)
      have HF := Lib.hid (Nt.litOf_no (nodes := (n : Int)) (set := set) (fun h => h2 (by have := h.2; rwa [Int.toNat_natCast] at this)))
      have d1 : decide ((1 : Int) ≤ (n : Int) ∧ (n : Int) ≤ 6) = true := dec_of h1
      clear h1 h2
      go_enter Try.func21, Try.ntmps21
      go_wp2
      refine wp_loop_rounds 1 ?_
      rw [rounds_succ]
      go_wp2_with fail
      refine (l1In_any _ _ _ _).mono ?_
      rintro e w' ⟨rfl, rfl⟩
      rw [d1]
      go_wp2_with fail
      rw [EP.out]
      refine (l1In_any _ _ _ _).mono ?_
      rintro e w' ⟨rfl, rfl⟩
      rw [d2]
      go_wp2_with fail
      go_ret
      exact ⟨_, rfl, by rw [HF.out]; exact Sl.empty3 w, (Kept.refl _ _).alloc _⟩
  · have HF := Lib.hid (Nt.litOf_no (nodes := nodes) (set := set) (fun h => h1 h.1))
    have d1 : decide ((1 : Int) ≤ nodes ∧ nodes ≤ 6) = false := dec_not h1
    clear h1
    by_cases h0 : 0 < nodes
    · go_enter Try.func21, Try.ntmps21
      go_wp2
      refine wp_loop_rounds 1 ?_
      rw [rounds_succ]
      go_wp2_with fail
      refine (l1In_any _ _ _ _).mono ?_
      rintro e w' ⟨rfl, rfl⟩
      rw [d1]
      go_wp2_with fail
      go_ret
      exact ⟨_, rfl, by rw [HF.out]; exact Sl.empty3 w, (Kept.refl _ _).alloc _⟩
    · go_enter Try.func21, Try.ntmps21
      go_wp2
      refine wp_loop_rounds 1 ?_
      rw [rounds_succ]
      go_wp2_with fail
      go_ret
      exact ⟨_, rfl, by rw [HF.out]; exact Sl.empty3 w, (Kept.refl _ _).alloc _⟩
end Go.Proofs.Ytjogkppgmomggaa
