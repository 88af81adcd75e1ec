/-
  The law NoneBefore, walked.
-/
import Derived.Test.YtlcbpnbehbgbeaaL11
namespace Go.Proofs.Ytlcbpnbehbgbeaa
open Go.RowKit

/-- Is one of the first nodes a neighbour of a node, and tired? -/
def tiredTo (ns ks : List Nat) (k : Nat) : Nat → Bool
  | 0 => false
  | j + 1 => tiredTo ns ks k j || ((ns.getD k 0).testBit j && decide (ks.getD j 0 = 2))
theorem tiredTo_succ (ns ks : List Nat) (k j : Nat) : tiredTo ns ks k (j + 1) = (tiredTo ns ks k j || ((ns.getD k 0).testBit j && decide (ks.getD j 0 = 2))) := rfl
theorem tiredTo_iff {ns ks : List Nat} {k : Nat} : ∀ {n}, tiredTo ns ks k n = true ↔ ∃ j, j < n ∧ (ns.getD k 0).testBit j = true ∧ ks.getD j 0 = 2
  | 0 => ⟨fun h => by simp [tiredTo] at h, fun ⟨j, hj, _⟩ => absurd hj (by omega)⟩
  | n + 1 => by
    rw [tiredTo_succ, Bool.or_eq_true, Bool.and_eq_true, decide_eq_true_eq, tiredTo_iff (n := n)]
    constructor
    · rintro (⟨j, hj, h⟩ | h)
      · exact ⟨j, by omega, h⟩
      · exact ⟨n, by omega, h⟩
    · rintro ⟨j, hj, h⟩
      by_cases e : j = n
      · subst e; exact .inr h
      · exact .inl ⟨j, by omega, h⟩

set_option maxHeartbeats 4000000 in
set_option maxRecDepth 100000 in
theorem FnNoneBefore_calls (w : World) (v : Value) (ha : ArgB w v) :
    Calls Try.prog 8 #[v] w fun e w' => e = .returned (.bool true) ∧ Kept [] w w' := by
  have HA := Lib.hid ha
  obtain ⟨a, len, cap, rfl, hlc, hcm, _⟩ := ha
  by_cases hbig : 1048576 < len
  · have hb : (1048576 : Int) < (len : Int) := by omega
    clear hbig
    go_enter Try.func8, Try.ntmps8
    go_wp2
    go_ret
    exact ⟨rfl, Kept.refl _ _⟩
  have hb : ¬ (1048576 : Int) < (len : Int) := by omega
  clear hbig
  go_enter Try.func8, Try.ntmps8
  go_wp2_with fail
  refine (drawBeforeCount_any _ _ HA.out).mono ?_
  rintro e w1 ⟨u, xs, v, ys, kinds, rfl, hs, ht, hk⟩
  have HK1 := Lib.hid hk
  clear hk hb
  by_cases hneg : Nt.befOf xs kinds ys < 0
  · have HE := Lib.hid (Nt.befOf_neg.1 hneg)
    obtain ⟨b1, cap1, rfl, _, _, _⟩ := hs.any
    have S1 := Lib.hid hs
    obtain ⟨b2, cap2, rfl, _, _, _⟩ := ht.any
    have T1 := Lib.hid ht
    clear hs ht
    go_wp2_with fail
    refine (iBef_any xs kinds ys _ _ _ _ _ S1.out T1.out).mono ?_
    rintro e w2 ⟨rfl, hk⟩
    rw [HE.out]
    have S2 := Lib.hid (S1.out.stay hk)
    have T2 := Lib.hid (T1.out.stay hk)
    have HK2 := Lib.hid (HK1.out.trans hk (by simp))
    clear hk S1 T1 HK1
    go_wp2_with fail
    refine (sBef_any xs kinds ys _ _ _ _ _ S2.out T2.out).mono ?_
    rintro e w3 ⟨rfl, hk⟩
    rw [HE.out]
    have S3 := Lib.hid (S2.out.stay hk)
    have T3 := Lib.hid (T2.out.stay hk)
    have HK3 := Lib.hid (HK2.out.trans hk (by simp))
    clear hk S2 T2 HK2
    go_wp2_with fail
    refine (alive_any _).mono ?_
    rintro e w4 ⟨rfl, hk⟩
    have HKE := Lib.hid (HK3.out.trans hk (by simp))
    clear hk
    go_wp2
    go_ret
    exact ⟨rfl, HKE.out⟩
  · obtain ⟨ns, c, ks, rfl, rfl, rfl, ok, h4, st, hl⟩ := Nt.befOf_neg.2 hneg
    clear hneg
    have hn1 := ok.some
    obtain ⟨n, hn⟩ : ∃ n, n = ns.length := ⟨_, rfl⟩
    have HN := Lib.hid hn
    have hp : 0 < n := by omega
    have hn4 : n ≤ 4 := by omega
    obtain ⟨gN, capN, rfl, _, _⟩ := hs.row hn.symm hp
    obtain ⟨gS, capS, rfl, _, _⟩ := ht.row (hl.trans hn.symm) hp
    have S1 := Lib.hid hs
    have T1 := Lib.hid ht
    have HB : Hid (Nt.befOf (Nt.nats ns) (c : Int) (Nt.nats ks) = ((Nt.befN ns c ks : Nat) : Int)) := Lib.hid (Nt.befOf_ok ok h4 st hl)
    have HLK : Hid (ks.length = n) := Lib.hid (by omega)
    have HLIT : Hid (Nt.befN ns c ks ≠ 0 → ∀ k, k < n → ks.getD k 0 = 1 → tiredTo ns ks k n = true) := Lib.hid (fun hb k hk h1 => by
      obtain ⟨j, hj, hbit, h2⟩ := Nt.befN_lit ok st hl hb (k := k) (by omega) h1
      exact tiredTo_iff.2 ⟨j, by omega, hbit, h2⟩)
    clear ok h4 st hl hs ht hn hn1
    generalize Nt.befN ns c ks = q at *
    go_wp2_with fail
    refine (iBef_any _ _ _ _ _ _ _ _ S1.out T1.out).mono ?_
    rintro e w2 ⟨rfl, hk⟩
    rw [HB.out]
    have S2 := Lib.hid (S1.out.stay hk)
    have T2 := Lib.hid (T1.out.stay hk)
    have HK2 := Lib.hid (HK1.out.trans hk (by simp))
    clear hk HK1 S1 T1
    go_wp2
    go_loopw [7] (fun kk wr => ∃ k : Nat, k ≤ n ∧ kk = .int .i64 k ∧ Sl wr 0 (.slice (some ⟨gN, 0, none⟩) n capN) (Nt.nats ns) ∧ Sl wr 0 (.slice (some ⟨gS, 0, none⟩) n capS) (Nt.nats ks) ∧ Kept [] w wr) (fun kk _ => n - (intOf kk).toNat)
    case atStart => exact ⟨0, Nat.zero_le _, rfl, S2.out.zero, T2.out.zero, HK2.out⟩
    case round =>
      clear S2 T2 HK2
      obtain ⟨k, hk, rfl, hsl, htl, hkept⟩ := hrel
      have S3 := Lib.hid hsl
      have T3 := Lib.hid htl
      have HK3 := Lib.hid hkept
      clear hsl htl hkept
      by_cases hlt : k < n
      · go_wp2
        go_loopw [8, 9] (fun tt jj wr => ∃ j : Nat, j ≤ n ∧ jj = .int .i64 j ∧ tt = .bool (tiredTo ns ks k j) ∧ Sl wr 0 (.slice (some ⟨gN, 0, none⟩) n capN) (Nt.nats ns) ∧ Sl wr 0 (.slice (some ⟨gS, 0, none⟩) n capS) (Nt.nats ks) ∧ Kept [] w wr) (fun _ jj _ => n - (intOf jj).toNat)
        case atStart => exact ⟨0, Nat.zero_le _, rfl, rfl, S3.out, T3.out, HK3.out⟩
        case round =>
          clear S3 T3 HK3
          obtain ⟨j, hj, rfl, rfl, hsl, htl, hkept⟩ := hrel
          have S4 := Lib.hid hsl
          have T4 := Lib.hid htl
          have HK4 := Lib.hid hkept
          clear hsl htl hkept
          have HTS := Lib.hid (tiredTo_succ ns ks k j)
          by_cases hjl : j < n
          · have c1 := (S4.out.at k (by rw [Nt.nats_length, ← HN.out]; exact hlt)).1
            have c2 := (T4.out.at j (by rw [Nt.nats_length, HLK.out]; exact hjl)).1
            rw [Nt.nats_get] at c1 c2
            cases htt : tiredTo ns ks k j
            · cases hbit : (ns.getD k 0).testBit j
              · have e1 := shr_bit (ns.getD k 0) j
                have p1 := shr_nonneg (ns.getD k 0) j
                rw [hbit] at e1
                simp only [Bool.false_eq_true, if_false] at e1
                have hnx : tiredTo ns ks k (j + 1) = false := by rw [HTS.out, htt, hbit]; rfl
                have HNX := Lib.hid hnx
                clear hnx htt hbit
                generalize ns.getD k 0 = x at *
                go_wp2
                go_roundw
                case rel => exact ⟨j + 1, by omega, by go_num, by rw [HNX.out], S4.out, T4.out, HK4.out⟩
                case measure => simp [intOf]; omega
              · have e1 := shr_bit (ns.getD k 0) j
                have p1 := shr_nonneg (ns.getD k 0) j
                rw [hbit] at e1
                simp only [if_true] at e1
                by_cases h2 : ks.getD j 0 = 2
                · have HNX : Hid (tiredTo ns ks k (j + 1) = true) := Lib.hid (by rw [HTS.out, htt, hbit, decide_eq_true h2]; rfl)
                  rw [h2] at c2
                  clear htt hbit h2
                  generalize ns.getD k 0 = x at *
                  go_wp2
                  go_roundw
                  case rel => exact ⟨j + 1, by omega, by go_num, by rw [HNX.out], S4.out, T4.out, HK4.out⟩
                  case measure => simp [intOf]; omega
                · have HNX : Hid (tiredTo ns ks k (j + 1) = false) := Lib.hid (by rw [HTS.out, htt, hbit, decide_eq_false h2]; rfl)
                  have d2 : (((ks.getD j 0 : Nat) : Int) == 2) = false := beq_eq_false_iff_ne.2 (fun e => h2 (by omega))
                  clear htt hbit h2
                  generalize ns.getD k 0 = x at *
                  generalize ks.getD j 0 = y at *
                  go_wp2
                  go_roundw
                  case rel => exact ⟨j + 1, by omega, by go_num, by rw [HNX.out], S4.out, T4.out, HK4.out⟩
                  case measure => simp [intOf]; omega
            · have HNX : Hid (tiredTo ns ks k (j + 1) = true) := Lib.hid (by rw [HTS.out, htt]; rfl)
              clear htt c1 c2
              go_wp2
              go_roundw
              case rel => exact ⟨j + 1, by omega, by go_num, by rw [HNX.out], S4.out, T4.out, HK4.out⟩
              case measure => simp [intOf]; omega
          · have hjn : j = n := by omega
            subst hjn
            have c1 := (T4.out.at k (by rw [Nt.nats_length, HLK.out]; exact hlt)).1
            rw [Nt.nats_get] at c1
            by_cases hq0 : q = 0
            · subst hq0
              generalize tiredTo ns ks k j = tv at *
              by_cases h1 : ks.getD k 0 = 1
              · rw [h1] at c1
                cases tv
                all_goals
                  go_wp2
                  go_roundw
                  case rel => exact ⟨k + 1, by omega, by go_num, S4.out, T4.out, HK4.out⟩
                  case measure => simp [intOf]; omega
              · have d1 : (((ks.getD k 0 : Nat) : Int) == 1) = false := beq_eq_false_iff_ne.2 (fun e => h1 (by omega))
                generalize ks.getD k 0 = y at *
                go_wp2
                go_roundw
                case rel => exact ⟨k + 1, by omega, by go_num, S4.out, T4.out, HK4.out⟩
                case measure => simp [intOf]; omega
            · by_cases h1 : ks.getD k 0 = 1
              · have htr := HLIT.out hq0 k hlt h1
                rw [h1] at c1
                rw [htr]
                clear htr
                go_wp2
                go_roundw
                case rel => exact ⟨k + 1, by omega, by go_num, S4.out, T4.out, HK4.out⟩
                case measure => simp [intOf]; omega
              · have d1 : (((ks.getD k 0 : Nat) : Int) == 1) = false := beq_eq_false_iff_ne.2 (fun e => h1 (by omega))
                generalize ks.getD k 0 = y at *
                generalize tiredTo ns ks k j = tv at *
                go_wp2
                go_roundw
                case rel => exact ⟨k + 1, by omega, by go_num, S4.out, T4.out, HK4.out⟩
                case measure => simp [intOf]; omega
      · go_wp2_with fail
        refine (alive_any _).mono ?_
        rintro e w9 ⟨rfl, hk9⟩
        have HK9 := Lib.hid (HK3.out.trans hk9 (by simp))
        clear hk9
        go_wp2
        go_ret
        exact ⟨rfl, HK9.out⟩
end Go.Proofs.Ytlcbpnbehbgbeaa
