/-
  Walks: the neighbours of a set, by the program and by the model.
-/
import Derived.Test.YtjogkppgmomggacW5
import Derived.Test.YtjogkppgmomggacW2
namespace Go.Proofs.Ytjogkppgmomggac
open Go.RowKit
open Nt (okB)

set_option maxHeartbeats 1000000 in
theorem l1Near_any (ns : List Nat) (hok : Nt.Ok ns) (set : Nat) (w : World) (v : Value) (base : Nat) (hs : Sl w base v (Nt.nats ns)) :
    Calls Try.prog 55 #[v, .int .i64 set] w fun e w' => e = .returned (.int .i64 ((Nt.near ns set : Nat) : Int)) ∧ w = w' := by
  have hfew := hok.few
  obtain ⟨g, cap, rfl, _, _, _, hc⟩ := hs.net (by have := hok.some; omega)
  have HOK := Lib.hid hok
  have HC := Lib.hid hc
  clear hok hc hs
  go_enter Try.func55, Try.ntmps55
  go_wp2
  go_loop [5, 6] (fun a i => ∃ k : Nat, k ≤ ns.length ∧ i = .int .i64 k ∧ a = .int .i64 ((Nt.nearTo ns set k : Nat) : Int)) (fun _ i => ns.length - (intOf i).toNat)
  case atStart => exact ⟨0, Nat.zero_le _, rfl, rfl⟩
  case round =>
    obtain ⟨k, hk, rfl, rfl⟩ := hrel
    by_cases hlt : k < ns.length
    · have hcell := HC.out k hlt
      have hb1 := Nt.nearTo_small HOK.out set k hk
      have hb2 := HOK.out.get_lt k
      have HN : Hid (Nt.nearTo ns set (k + 1) = if set.testBit k then Nt.nearTo ns set k ||| ns.getD k 0 else Nt.nearTo ns set k) := rfl
      have HOR := Lib.hid (bits_or_nat (Nt.nearTo ns set k) (ns.getD k 0) (by omega) (by omega))
      have p1 := shr_nonneg set k
      have e1 := shr_bit set k
      generalize Nt.nearTo ns set k = x at *
      generalize ns.getD k 0 = y at *
      by_cases hb : set.testBit k = true
      · rw [if_pos hb] at e1
        have HB := Lib.hid hb
        clear hb
        go_wp2
        go_round
        case rel => exact ⟨k + 1, by omega, by go_num, by rw [HN.out, if_pos HB.out, HOR.out]⟩
        case measure => simp [intOf]; omega
      · rw [if_neg hb] at e1
        have HB := Lib.hid hb
        clear hb
        go_wp2
        go_round
        case rel => exact ⟨k + 1, by omega, by go_num, by rw [HN.out, if_neg HB.out]⟩
        case measure => simp [intOf]; omega
    · have hk' : k = ns.length := by omega
      subst hk'
      go_wp2
      go_ret
      exact ⟨rfl, rfl⟩


set_option maxHeartbeats 1000000 in
theorem iNearOf_any (xs : List Int) (set : Int) (w : World) (v : Value) (base : Nat) (hs : Sl w base v xs) :
    Calls Try.prog 26 #[v, .int .i64 set] w fun e w' => e = .returned (.int .i64 (Nt.nearOf xs set)) ∧ w = w' := by
  obtain ⟨a, cap, rfl, _, _, _⟩ := hs.any
  have HS := Lib.hid hs
  clear hs
  by_cases ho : okB xs = true
  · obtain ⟨ns, hns, hok⟩ := Nt.okB_ok ho
    have hfew : xs.length ≤ 6 := by rw [hns, Nt.nats_length]; exact hok.few
    by_cases h1 : 0 ≤ set ∧ set < 2 ^ xs.length
    · have hd : decide (0 ≤ set ∧ set < 2 ^ (xs.length : Int).toNat) = true := dec_of (by simpa using h1)
      obtain ⟨m, rfl⟩ := Int.eq_ofNat_of_zero_le h1.1
      have hm : m < 2 ^ ns.length := by rw [hns, Nt.nats_length] at h1; exact_mod_cast h1.2
      have HF := Lib.hid (Nt.nearOf_ok hok hm)
      rw [← hns] at HF
      have HNS := Lib.hid hns
      have HOK := Lib.hid hok
      clear h1 hm hns hok
      go_enter Try.func26, Try.ntmps26
      go_wp2_with (first | (go_at_call 14; refine (iNetOk_any xs _ _ base HS.out).mono ?_; rintro e w' ⟨rfl, rfl⟩) | (go_at_call 40; refine (setOk_any _ _ _ (by omega) (by omega)).mono ?_; rintro e w' ⟨rfl, rfl⟩; rw [hd]) | (go_at_call 42; refine (nearSet_any ns HOK.out m _ _ base (by rw [← HNS.out]; exact HS.out)).mono ?_; rintro e w' ⟨rfl, rfl⟩))
      go_ret
      exact ⟨by rw [HF.out]; rfl, rfl⟩
    · have hd : decide (0 ≤ set ∧ set < 2 ^ (xs.length : Int).toNat) = false := dec_not (by simpa using h1)
      have HF := Lib.hid (Nt.nearOf_no (xs := xs) (set := set) (fun h => h1 ⟨h.2.1, h.2.2⟩))
      clear h1 hns hok
      go_enter Try.func26, Try.ntmps26
      go_wp2_with (first | (go_at_call 14; refine (iNetOk_any xs _ _ base HS.out).mono ?_; rintro e w' ⟨rfl, rfl⟩) | (go_at_call 40; refine (setOk_any _ _ _ (by omega) (by omega)).mono ?_; rintro e w' ⟨rfl, rfl⟩; rw [hd]))
      go_ret
      exact ⟨by rw [HF.out]; rfl, rfl⟩
  · have ho' : okB xs = false := by simpa using ho
    have HF := Lib.hid (Nt.nearOf_no (xs := xs) (set := set) (fun h => ho h.1))
    clear ho
    go_enter Try.func26, Try.ntmps26
    go_wp2_with (go_at_call 14; refine (iNetOk_any xs _ _ base HS.out).mono ?_; rintro e w' ⟨rfl, rfl⟩)
    go_ret
    exact ⟨by rw [HF.out]; rfl, rfl⟩

end Go.Proofs.Ytjogkppgmomggac
