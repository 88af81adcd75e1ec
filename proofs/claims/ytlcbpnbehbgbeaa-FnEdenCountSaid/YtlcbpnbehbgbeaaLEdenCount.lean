/-
  The law EdenCount, walked.
-/
import Derived.Test.YtlcbpnbehbgbeaaL11
import Derived.Test.YtlcbpnbehbgbeaaNP3
namespace Go.Proofs.Ytlcbpnbehbgbeaa
open Go.RowKit

set_option maxHeartbeats 4000000 in
set_option maxRecDepth 100000 in
theorem FnEdenCount_calls (w : World) (v : Value) (ha : ArgB w v) :
    Calls Try.prog 4 #[v] w fun e w' => e = .returned (.bool true) ∧ Kept [] w w' := by
  have HA := Lib.hid ha
  obtain ⟨a, len, cap, rfl, hlc, hcm, _⟩ := ha
  by_cases hbig : 1048576 < len
  · have hb : (1048576 : Int) < (len : Int) := by omega
    clear hbig
    go_enter Try.func4, Try.ntmps4
    go_wp2
    go_ret
    exact ⟨rfl, Kept.refl _ _⟩
  have hb : ¬ (1048576 : Int) < (len : Int) := by omega
  clear hbig
  go_enter Try.func4, Try.ntmps4
  go_wp2_with fail
  refine (drawEdenCount_any _ _ HA.out).mono ?_
  rintro e w1 ⟨u, xs, kinds, rfl, hs, hk⟩
  have HK1 := Lib.hid hk
  clear hk hb
  cases hcc : Nt.ccB xs kinds
  · have HE := Lib.hid (Nt.edenOf_no hcc)
    obtain ⟨b1, cap1, rfl, _, _, _⟩ := hs.any
    have S1 := Lib.hid hs
    clear hs
    go_wp2_with fail
    refine (iEden_any xs kinds _ _ _ S1.out).mono ?_
    rintro e w2 ⟨rfl, hk⟩
    rw [HE.out]
    have S2 := Lib.hid (S1.out.stay hk)
    have HK2 := Lib.hid (HK1.out.trans hk (by simp))
    clear hk S1 HK1
    go_wp2_with fail
    refine (sEden_any xs kinds _ _ _ S2.out).mono ?_
    rintro e w3 ⟨rfl, hk⟩
    rw [HE.out]
    have S3 := Lib.hid (S2.out.stay hk)
    have HK3 := Lib.hid (HK2.out.trans hk (by simp))
    clear hk S2 HK2
    go_wp2_with fail
    refine (alive_any _).mono ?_
    rintro e w4 ⟨rfl, hk⟩
    have HKE := Lib.hid (HK3.out.trans hk (by simp))
    clear hk
    go_wp2
    go_ret
    exact ⟨rfl, HKE.out⟩
  · obtain ⟨ns, c, rfl, rfl, ok, h4, h3, h5⟩ := Nt.ccB_ok hcc
    clear hcc
    have HOK := Lib.hid ok
    have hn1 := ok.some
    obtain ⟨n, hn⟩ : ∃ n, n = ns.length := ⟨_, rfl⟩
    have HN := Lib.hid hn
    obtain ⟨gN, capN, rfl, _, _⟩ := hs.row hn.symm (by omega)
    have S1 := Lib.hid hs
    obtain ⟨N, hN⟩ : ∃ N, N = c ^ n := ⟨_, rfl⟩
    have HNN := Lib.hid hN
    have hN6 : N ≤ 625 := by rw [hN]; exact pow_625 h5 (by omega)
    have hn4 : n ≤ 4 := by omega
    have hp : 0 < n := by omega
    have HC := Lib.hid (And.intro h3 h5)
    have HPW := Lib.hid (fun (w' : World) => (powerOf_any n c (by omega) h5 w').mono fun e w2 h => (show e = .returned (.int .i64 (N : Int)) ∧ w' = w2 from by rw [hN]; exact h))
    clear hs hN hn
    have HIB := Lib.hid (fun (js : List Nat) (st : Nt.St c js) (hl : js.length = ns.length) (w' : World) (v : Value) (base : Nat) (u : Value) (base' : Nat) (hs : Sl w' base v (Nt.nats ns)) (ht : Sl w' base' u (Nt.nats js)) =>
      (iBef_any (Nt.nats ns) (c : Int) (Nt.nats js) w' v base u base' hs ht).mono fun e w2 h => (show e = .returned (.int .i64 ((Nt.befN ns c js : Nat) : Int)) ∧ Kept [] w' w2 from by rw [Nt.befOf_ok ok h4 st hl] at h; exact h))
    have HE : Hid (Nt.edenOf (Nt.nats ns) (c : Int) = ((Nt.edenN ns c : Nat) : Int)) := Lib.hid (Nt.edenOf_ok ok h4 h3 h5)
    have HEO : Hid (Nt.edenOf [0] (c : Int) = 1) := Lib.hid (by have h := Nt.edenOf_ok Nt.ok_one (by decide) h3 h5; rw [Nt.edenN_one h3 h5] at h; exact h)
    have hqN : Nt.edenN ns c < N := by rw [HNN.out, HN.out]; exact Nt.edenN_lt ok h3 h5
    have HQ : Hid (Nt.cnt (Nt.edenP ns c) N = Nt.edenN ns c) := Lib.hid (by rw [HNN.out, HN.out]; rfl)
    have HSN := Lib.hid (fun (m : Nat) => And.intro (Nt.stN_st (c := c) ok h3 h5 m) (Nt.stN_length ns c m))
    have HSO : Hid (∀ m, m < N → Nt.stateOf (n : Int) (c : Int) (m : Int) = Nt.nats (Nt.stN ns c m)) := Lib.hid (fun m hm => by rw [Nt.stateOf_ok ⟨by omega, by omega⟩ ⟨h3, h5⟩ (by rw [← HNN.out]; exact hm), HN.out]; rfl)
    clear ok h3 h5 h4 hn1
    generalize Nt.edenN ns c = q at *
    go_wp2_with fail
    refine (iEden_any _ _ _ _ _ S1.out).mono ?_
    rintro e w2 ⟨rfl, hk⟩
    rw [HE.out]
    have S2 := Lib.hid (S1.out.stay hk)
    have HK2 := Lib.hid (HK1.out.trans hk (by simp))
    clear hk HK1 S1
    go_wp2_with fail
    refine (sEden_any _ _ _ _ _ S2.out).mono ?_
    rintro e w3 ⟨rfl, hk⟩
    rw [HE.out]
    have S3 := Lib.hid (S2.out.stay hk)
    have HK3 := Lib.hid (HK2.out.trans hk (by simp))
    clear hk HK2 S2
    go_wp2_with fail
    refine (HPW.out _).mono ?_
    rintro e w' ⟨rfl, rfl⟩
    go_wp2
    go_loopw [7, 8] (fun mn num wr => ∃ k : Nat, k ≤ N ∧ (¬ N ≤ 81 → k = 0) ∧ num = .int .i64 k ∧ mn = .int .i64 ((Nt.cnt (Nt.edenP ns c) k : Nat) : Int) ∧ Sl wr 0 (.slice (some ⟨gN, 0, none⟩) n capN) (Nt.nats ns) ∧ Kept [] w wr) (fun _ num _ => N - (intOf num).toNat)
    case atStart => exact ⟨0, Nat.zero_le _, fun _ => rfl, rfl, rfl, S3.out.zero, HK3.out⟩
    case round =>
      clear S3 HK3
      obtain ⟨k, hk, h81, rfl, rfl, hsl, hkept⟩ := hrel
      have S8 := Lib.hid hsl
      have HK8 := Lib.hid hkept
      have hck := Nt.cnt_le (Nt.edenP ns c) k
      clear hsl hkept
      by_cases hlt : k < N
      · by_cases h81' : N ≤ 81
        · clear h81
          have HC1 := Lib.hid (fun h => cnt_hit (p := Nt.edenP ns c) (k := k) h)
          have HC0 := Lib.hid (fun h => cnt_miss (p := Nt.edenP ns c) (k := k) h)
          have HP : Hid (Nt.edenP ns c k = decide (Nt.befN ns c (Nt.stN ns c k) = 0)) := Lib.hid rfl
          go_wp2_with fail
          refine (iStateOf_any (n : Int) (c : Int) (k : Int) (by omega) _).mono ?_
          rintro e w9 ⟨u9, rfl, hz, hk9⟩
          rw [HSO.out k hlt] at hz
          have Z9 := Lib.hid hz
          have S9 := Lib.hid (S8.out.stay hk9)
          have HK9 := Lib.hid (HK8.out.trans hk9 (by simp))
          clear hz hk9 S8 HK8
          go_wp2_with fail
          refine (HIB.out _ (HSN.out k).1 (HSN.out k).2 _ _ _ _ _ S9.out Z9.out).mono ?_
          rintro e w10 ⟨rfl, hk10⟩
          have S10 := Lib.hid (S9.out.stay hk10)
          have HK10 := Lib.hid (HK9.out.trans hk10 (by simp))
          clear hk10 S9 Z9 HK9
          generalize Nt.befN ns c (Nt.stN ns c k) = b0 at *
          by_cases hb0 : b0 = 0
          · subst hb0
            have hp1 : Nt.edenP ns c k = true := by rw [HP.out]; rfl
            go_wp2
            go_roundw
            case rel => exact ⟨k + 1, by omega, fun h => absurd h81' h, by go_num, by rw [HC1.out hp1]; go_num, S10.out, HK10.out⟩
            case measure => simp [intOf]; omega
          · have hp1 : Nt.edenP ns c k = false := by rw [HP.out]; exact decide_eq_false hb0
            have db0 : ((b0 : Int) == 0) = false := by simp; omega
            go_wp2
            go_roundw
            case rel => exact ⟨k + 1, by omega, fun h => absurd h81' h, by go_num, by rw [HC0.out hp1], S10.out, HK10.out⟩
            case measure => simp [intOf]; omega
        · have hN81 : (81 : Int) < (N : Int) := by omega
          go_wp2_with fail
          refine (iEden_any [0] (c : Int) _ _ wr.heap.size (Sl.lit wr [0] (by simp))).mono ?_
          rintro e w9 ⟨rfl, hk9⟩
          rw [HEO.out]
          have HK9 := Lib.hid ((HK8.out.alloc (.cells #[.int .i64 0] 3)).trans hk9 (by simp))
          clear hk9
          go_wp2
          go_ret
          exact ⟨rfl, HK9.out⟩
      · have hkN : k = N := by omega
        subst hkN
        have h81' : k ≤ 81 := by
          by_cases e : k ≤ 81
          · exact e
          · have := h81 e; omega
        rw [HQ.out]
        clear hck hlt
        go_wp2_with fail
        refine (iEden_any [0] (c : Int) _ _ wr.heap.size (Sl.lit wr [0] (by simp))).mono ?_
        rintro e w9 ⟨rfl, hk9⟩
        rw [HEO.out]
        have HK9 := Lib.hid ((HK8.out.alloc (.cells #[.int .i64 0] 3)).trans hk9 (by simp))
        clear hk9
        go_wp2
        go_ret
        exact ⟨rfl, HK9.out⟩
end Go.Proofs.Ytlcbpnbehbgbeaa
