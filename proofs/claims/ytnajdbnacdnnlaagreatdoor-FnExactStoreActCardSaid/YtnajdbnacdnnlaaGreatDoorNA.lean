/-
  Walks: the neighbours of a set.
  Walks: what a net is, by the program.
  Walks: NetOk of the program.
  Walks: NetOk of the model.
  Walks: what a state is, by the program and by the model.
  Walks: counts of kinds, by the program and by the model.
  Walks: states of numbers, by the program and by the model.
  Walks: raised states, by the program and by the model.
  Walks: lit states, by the program and by the model.
-/
import Derived.Test.YtnajdbnacdnnlaaGreatDoorKA
import Derived.Deep.QuietTactic
import Derived.BigQuiet
import Derived.Test.YtnajdbnacdnnlaaGreatDoorPA
import Derived.StillTailTactics
namespace Go.Proofs.YtnajdbnacdnnlaaGreatDoor
open Go.RowKit

set_option maxHeartbeats 1000000 in
set_option maxRecDepth 100000 in
theorem nearSet_any (ns : List Nat) (hok : Nt.Ok ns) (set : Nat) (w : World) (v : Value) (base : Nat) (hs : Sl w base v (Nt.nats ns)) :
    Calls Tryz.prog 221 #[v, .int .i64 set] w fun e w' => e = .returned (.int .i64 ((Nt.near ns set : Nat) : Int)) ∧ w = w' := by
  have hfew := hok.few
  obtain ⟨g, cap, rfl, _, _, _, hc⟩ := hs.net (by have := hok.some; omega)
  have HOK := Lib.hid hok
  have HC := Lib.hid hc
  clear hok hc hs
  go_enter Tryz.func221, Tryz.ntmps221
  go_wp2
  go_loop [5, 10] (fun a i => ∃ k : Nat, k ≤ ns.length ∧ i = .int .i64 k ∧ a = .int .i64 ((Nt.nearTo ns set k : Nat) : Int)) (fun _ i => ns.length - (intOf i).toNat)
  case atStart => exact ⟨0, Nat.zero_le _, rfl, rfl⟩
  case round =>
    obtain ⟨k, hk, rfl, rfl⟩ := hrel
    by_cases hlt : k < ns.length
    · have hcell := HC.out k hlt
      have hb1 := Nt.nearTo_small HOK.out set k hk
      have hb2 := HOK.out.get_lt k
      have HN : Hid (Nt.nearTo ns set (k + 1) = if set.testBit k then Nt.nearTo ns set k ||| ns.getD k 0 else Nt.nearTo ns set k) := rfl
      have HOR := Lib.hid (bits_or_nat (Nt.nearTo ns set k) (ns.getD k 0) (by omega) (by omega))
      generalize Nt.nearTo ns set k = x at *
      generalize ns.getD k 0 = y at *
      by_cases hb : set.testBit k = true
      · go_wp2_with (go_at_call 171; refine (hasNode_nat set k _ (by omega)).mono ?_; rintro e w' ⟨rfl, rfl⟩)
        go_round
        case rel => exact ⟨k + 1, by omega, by go_num, by rw [HN.out, if_pos hb, HOR.out]⟩
        case measure => simp [intOf]; omega
      · have hb' : set.testBit k = false := by simpa using hb
        clear hb
        go_wp2_with (go_at_call 171; refine (hasNode_nat set k _ (by omega)).mono ?_; rintro e w' ⟨rfl, rfl⟩)
        go_round
        case rel => exact ⟨k + 1, by omega, by go_num, by rw [HN.out, if_neg (by simp [hb'])]⟩
        case measure => simp [intOf]; omega
    · have hk' : k = ns.length := by omega
      subst hk'
      go_wp2
      go_ret
      exact ⟨rfl, rfl⟩
end Go.Proofs.YtnajdbnacdnnlaaGreatDoor

namespace Go.Proofs.YtnajdbnacdnnlaaGreatDoor
open Go.RowKit

open Nt (badB goodTo bothB bothB_yes bothB_no goodTo_succ)

set_option maxHeartbeats 1000000 in
set_option maxRecDepth 100000 in
theorem nearBothWays_any (xs : List Int) (i : Nat) (hi : i < xs.length) (h6 : xs.length ≤ 6) (w : World) (v : Value) (base : Nat) (hs : Sl w base v xs) :
    Calls Tryz.prog 122 #[v, .int .i64 i] w fun e w' => e = .returned (.bool (bothB xs i)) ∧ w = w' := by
  rcases hs.form with ⟨_, rfl⟩ | ⟨g, cap, rfl, _, _, _, _, hc, _⟩
  · simp at hi
  have hci := hc i hi
  have HC := Lib.hid hc
  clear hc hs
  generalize ha : xs.getD i 0 = a at *
  have HA := Lib.hid ha
  clear ha
  go_enter Tryz.func122, Tryz.ntmps122
  go_wp2
  go_loop [8] (fun n => ∃ k : Nat, k ≤ xs.length ∧ n = .int .i64 k ∧ goodTo xs i k) (fun n => xs.length - (intOf n).toNat)
  case atStart => exact ⟨0, Nat.zero_le _, rfl, fun j hj => absurd hj (by omega)⟩
  case round =>
    obtain ⟨k, hk, rfl, hgood⟩ := hrel
    by_cases hlt : k < xs.length
    · have hck := HC.out k hlt
      generalize hb : xs.getD k 0 = b at *
      have HB := Lib.hid hb
      have HG := Lib.hid hgood
      clear hb hgood
      have fin : ∀ r, badB xs i k = r ↔ (Nt.bit a k && (k == i || !Nt.bit b i)) = r := by
        intro r; unfold badB; rw [HA.out, HB.out]
      have FIN := Lib.hid fin
      clear fin
      by_cases h1 : Nt.bit a k = true
      · by_cases h2 : k = i
        · have h2' : ((k : Int) == (i : Int)) = true := by rw [h2]; simp
          have H2 := Lib.hid h2
          clear h2
          go_wp2_with (go_at_call 171; refine (hasNode_int _ _ _ (by omega)).mono ?_; rintro e w' ⟨rfl, rfl⟩)
          go_ret
          exact ⟨by rw [bothB_no (j := k) hlt ((FIN.out _).2 (by rw [h1]; simp [H2.out]))]; rfl, rfl⟩
        · have h2' : ((k : Int) == (i : Int)) = false := by simp; omega
          have H2 := Lib.hid h2
          clear h2
          by_cases h3 : Nt.bit b i = true
          · go_wp2_with (go_at_call 171; refine (hasNode_int _ _ _ (by omega)).mono ?_; rintro e w' ⟨rfl, rfl⟩)
            go_round
            case rel => exact ⟨k + 1, by omega, by go_num, goodTo_succ HG.out ((FIN.out _).2 (by simp [h1, H2.out, h3]))⟩
            case measure => simp [intOf]; omega
          · have h3' : Nt.bit b i = false := by simpa using h3
            clear h3
            go_wp2_with (go_at_call 171; refine (hasNode_int _ _ _ (by omega)).mono ?_; rintro e w' ⟨rfl, rfl⟩)
            go_ret
            exact ⟨by rw [bothB_no (j := k) hlt ((FIN.out _).2 (by simp [h1, h3']))]; rfl, rfl⟩
      · have h1' : Nt.bit a k = false := by simpa using h1
        clear h1
        go_wp2_with (go_at_call 171; refine (hasNode_int _ _ _ (by omega)).mono ?_; rintro e w' ⟨rfl, rfl⟩)
        go_round
        case rel => exact ⟨k + 1, by omega, by go_num, goodTo_succ HG.out ((FIN.out _).2 (by simp [h1']))⟩
        case measure => simp [intOf]; omega
    · have hk' : k = xs.length := by omega
      subst hk'
      have HG := Lib.hid hgood
      clear hgood
      go_wp2
      go_ret
      exact ⟨by rw [bothB_yes HG.out]; rfl, rfl⟩
end Go.Proofs.YtnajdbnacdnnlaaGreatDoor

namespace Go.Proofs.YtnajdbnacdnnlaaGreatDoor
open Go.RowKit
open Nt (okB bothB)

/-- The first k nodes are as they should be. -/
def fineTo (xs : List Int) (k : Nat) : Prop := ∀ i, i < k → (0 ≤ xs.getD i 0 ∧ xs.getD i 0 < 2 ^ xs.length) ∧ bothB xs i = true

theorem fineTo_succ {xs : List Int} {k : Nat} (h : fineTo xs k) (h1 : 0 ≤ xs.getD k 0 ∧ xs.getD k 0 < 2 ^ xs.length) (h2 : bothB xs k = true) : fineTo xs (k + 1) := by
  intro j hj
  by_cases e : j = k
  · subst e; exact ⟨h1, h2⟩
  · exact h j (by omega)

set_option maxHeartbeats 1000000 in
set_option maxRecDepth 100000 in
theorem iNetOk_any (xs : List Int) (w : World) (v : Value) (base : Nat) (hs : Sl w base v xs) :
    Calls Tryz.prog 73 #[v] w fun e w' => e = .returned (.bool (okB xs)) ∧ w = w' := by
  rcases hs.form with ⟨rfl, rfl⟩ | ⟨g, cap, rfl, _, _, hcap, hmax, hc, _⟩
  · go_enter Tryz.func73, Tryz.ntmps73
    go_wp2
    go_ret
    exact ⟨by rw [Nt.not_ok_len (by simp)]; rfl, rfl⟩
  by_cases hl : xs.length < 1 ∨ 6 < xs.length
  · have hno := Nt.not_ok_len hl
    have HNO := Lib.hid hno
    clear hno hc
    rcases hl with h1 | h1
    · have h0 : (xs.length : Int) < 1 := by omega
      go_enter Tryz.func73, Tryz.ntmps73
      go_wp2
      go_ret
      exact ⟨by rw [HNO.out]; rfl, rfl⟩
    · have h0 : ¬ (xs.length : Int) < 1 := by omega
      have h2 : (6 : Int) < (xs.length : Int) := by omega
      go_enter Tryz.func73, Tryz.ntmps73
      go_wp2
      go_ret
      exact ⟨by rw [HNO.out]; rfl, rfl⟩
  · have l1 : 1 ≤ xs.length := by omega
    have l6 : xs.length ≤ 6 := by omega
    have HC := Lib.hid hc
    have HS := Lib.hid hs
    clear hc hs hl
    go_enter Tryz.func73, Tryz.ntmps73
    go_wp2
    go_loop [15] (fun n => ∃ k : Nat, k ≤ xs.length ∧ n = .int .i64 k ∧ fineTo xs k) (fun n => xs.length - (intOf n).toNat)
    case atStart => exact ⟨0, Nat.zero_le _, rfl, fun j hj => absurd hj (by omega)⟩
    case round =>
      obtain ⟨k, hk, rfl, hfine⟩ := hrel
      by_cases hlt : k < xs.length
      · have hck := HC.out k hlt
        have HF := Lib.hid hfine
        clear hfine
        generalize hb : xs.getD k 0 = b at *
        have HB := Lib.hid hb
        clear hb
        by_cases h1 : 0 ≤ b ∧ b < 2 ^ xs.length
        · have h1' : decide (0 ≤ b ∧ b < 2 ^ (xs.length : Int).toNat) = true := by simpa using h1
          have H1 := Lib.hid h1
          clear h1
          by_cases h2 : bothB xs k = true
          · go_wp2_with (first | (go_at_call 121; refine (setOk_any _ _ _ (by omega) (by omega)).mono ?_; rintro e w' ⟨rfl, rfl⟩; rw [h1']) | (go_at_call 122; refine (nearBothWays_any xs k hlt l6 _ _ base HS.out).mono ?_; rintro e w' ⟨rfl, rfl⟩))
            go_round
            case rel => exact ⟨k + 1, by omega, by go_num, fineTo_succ HF.out (by rw [HB.out]; exact H1.out) h2⟩
            case measure => simp [intOf]; omega
          · have h2' : bothB xs k = false := by simpa using h2
            clear h2
            go_wp2_with (first | (go_at_call 121; refine (setOk_any _ _ _ (by omega) (by omega)).mono ?_; rintro e w' ⟨rfl, rfl⟩; rw [h1']) | (go_at_call 122; refine (nearBothWays_any xs k hlt l6 _ _ base HS.out).mono ?_; rintro e w' ⟨rfl, rfl⟩))
            go_ret
            exact ⟨by rw [Nt.not_ok_both hlt h2']; rfl, rfl⟩
        · have h1' : decide (0 ≤ b ∧ b < 2 ^ (xs.length : Int).toNat) = false := by simpa using h1
          have hno := Nt.not_ok_fit hlt (by rw [HB.out]; exact h1)
          have HNO := Lib.hid hno
          clear h1 hno
          go_wp2_with (go_at_call 121; refine (setOk_any _ _ _ (by omega) (by omega)).mono ?_; rintro e w' ⟨rfl, rfl⟩; rw [h1'])
          go_ret
          exact ⟨by rw [HNO.out]; rfl, rfl⟩
      · have hk' : k = xs.length := by omega
        subst hk'
        have HF := Lib.hid hfine
        clear hfine
        go_wp2
        go_ret
        exact ⟨by rw [Nt.ok_of l1 l6 (fun k hk => (HF.out k hk).1) (fun k hk => (HF.out k hk).2)]; rfl, rfl⟩
end Go.Proofs.YtnajdbnacdnnlaaGreatDoor

namespace Go.Proofs.YtnajdbnacdnnlaaGreatDoor
open Go.RowKit
open Nt (okB bothB)

/-- The first k sets are of the nodes of the net. -/
def fitTo (xs : List Int) (k : Nat) : Prop := ∀ i, i < k → 0 ≤ xs.getD i 0 ∧ xs.getD i 0 < 2 ^ xs.length

theorem fitTo_succ {xs : List Int} {k : Nat} (h : fitTo xs k) (h1 : 0 ≤ xs.getD k 0 ∧ xs.getD k 0 < 2 ^ xs.length) : fitTo xs (k + 1) := by
  intro j hj
  by_cases e : j = k
  · subst e; exact h1
  · exact h j (by omega)

def bothTo (xs : List Int) (k : Nat) : Prop := ∀ i, i < k → bothB xs i = true

theorem bothTo_succ {xs : List Int} {k : Nat} (h : bothTo xs k) (h1 : bothB xs k = true) : bothTo xs (k + 1) := by
  intro j hj
  by_cases e : j = k
  · subst e; exact h1
  · exact h j (by omega)

set_option maxHeartbeats 4000000 in
set_option maxRecDepth 100000 in
theorem sNetOk_any (xs : List Int) (w : World) (v : Value) (base : Nat) (hs : Sl w base v xs) :
    Calls Tryz.prog 162 #[v] w fun e w' => e = .returned (.bool (okB xs)) ∧ Qt w w' := by
  rcases hs.form with ⟨rfl, rfl⟩ | ⟨g, cap, rfl, _, _, hcap, hmax, hc, _⟩
  · go_enter Tryz.func162, Tryz.ntmps162
    go_wp2_with (go_at_call 151; refine (l1In_any _ _ _ _).mono ?_; rintro e w' ⟨rfl, rfl⟩)
    go_ret
    exact ⟨by rw [Nt.not_ok_len (by simp)]; rfl, Qt.refl _⟩
  by_cases hl : xs.length < 1 ∨ 6 < xs.length
  · have hno := Nt.not_ok_len hl
    have HNO := Lib.hid hno
    have h0 : decide ((1 : Int) ≤ (xs.length : Int) ∧ (xs.length : Int) ≤ 6) = false := by simp; omega
    clear hno hc hl
    go_enter Tryz.func162, Tryz.ntmps162
    go_wp2_with (go_at_call 151; refine (l1In_any _ _ _ _).mono ?_; rintro e w' ⟨rfl, rfl⟩; rw [h0])
    go_ret
    exact ⟨by rw [HNO.out]; rfl, Qt.refl _⟩
  · have l1 : 1 ≤ xs.length := by omega
    have l6 : xs.length ≤ 6 := by omega
    have HC := Lib.hid hc
    have h0 : decide ((1 : Int) ≤ (xs.length : Int) ∧ (xs.length : Int) ≤ 6) = true := by simp; omega
    clear hc hs hl
    go_enter Tryz.func162, Tryz.ntmps162
    go_wp2_with (go_at_call 151; refine (l1In_any _ _ _ _).mono ?_; rintro e w' ⟨rfl, rfl⟩; rw [h0])
    clear h0
    have e1 := wrap_pow_nat xs.length (by omega)
    have e2 := wrap_pow_pred xs.length (by omega)
    have E1 := Lib.hid e1
    have E2 := Lib.hid e2
    clear e1 e2
    go_loopw [3] (fun n wr => ∃ k : Nat, k ≤ xs.length ∧ n = .int .i64 k ∧ fitTo xs k ∧ Qt w wr) (fun n _ => xs.length - (intOf n).toNat)
    case atStart => exact ⟨0, Nat.zero_le _, rfl, fun j hj => absurd hj (by omega), Qt.refl _⟩
    case round =>
      obtain ⟨k, hk, rfl, hfit, hq⟩ := hrel
      have HQ := Lib.hid hq
      have HF := Lib.hid hfit
      by_cases hlt : k < xs.length
      · have hck := (hq.cell _).trans (HC.out k hlt)
        clear hq hfit
        generalize hb : xs.getD k 0 = b at *
        have HB := Lib.hid hb
        clear hb
        by_cases h1 : 0 ≤ b ∧ b < 2 ^ xs.length
        · have hd : decide (0 ≤ b ∧ b ≤ 2 ^ xs.length - 1) = true := by simp; omega
          have e1 := E1.out
          have e2 := E2.out
          have H1 := Lib.hid h1
          clear h1
          go_wp2_with fail
          go_quiet ((go_at_call 151; exact quietL (l1In_any _ _ _ _)))
          clear e1 e2
          go_wp2
          go_roundw
          case rel => exact ⟨k + 1, by omega, by go_num, fitTo_succ HF.out (by rw [HB.out]; exact H1.out), HQ.out.draw _⟩
          case measure => simp [intOf]; omega
        · have hd : decide (0 ≤ b ∧ b ≤ 2 ^ xs.length - 1) = false := by simp; omega
          have e1 := E1.out
          have e2 := E2.out
          have hno := Nt.not_ok_fit hlt (by rw [HB.out]; exact h1)
          have HNO := Lib.hid hno
          clear h1 hno
          go_wp2_with fail
          go_quiet ((go_at_call 151; exact quietL (l1In_any _ _ _ _)))
          clear e1 e2
          go_wp2
          go_ret
          exact ⟨by rw [HNO.out]; rfl, HQ.out.draw _⟩
      · have hk' : k = xs.length := by omega
        obtain ⟨ns, rfl⟩ := Nt.nats_of_nonneg fun i hi => (hfit i (by omega)).1
        subst hk'
        clear hq hfit hlt hk
        go_wp2
        go_loopw [4, 5] (fun n _ wr => ∃ k : Nat, k ≤ (Nt.nats ns).length ∧ n = .int .i64 k ∧ bothTo (Nt.nats ns) k ∧ Qt w wr) (fun n _ _ => (Nt.nats ns).length - (intOf n).toNat)
        case atStart => exact ⟨0, Nat.zero_le _, rfl, fun j hj => absurd hj (by omega), HQ.out⟩
        case round =>
          clear HQ
          obtain ⟨k, hk, rfl, hboth, hq⟩ := hrel
          have HQ := Lib.hid hq
          have HB := Lib.hid hboth
          clear hq hboth
          by_cases hlt : k < (Nt.nats ns).length
          · go_wp2
            go_loopw [5] (fun n wr => ∃ j : Nat, j ≤ (Nt.nats ns).length ∧ n = .int .i64 j ∧ Nt.goodTo (Nt.nats ns) k j ∧ Qt w wr) (fun n _ => (Nt.nats ns).length - (intOf n).toNat)
            case atStart => exact ⟨0, Nat.zero_le _, rfl, fun j hj => absurd hj (by omega), HQ.out⟩
            case round =>
              clear HQ
              obtain ⟨j, hj, rfl, hgood, hq⟩ := hrel
              have HQ := Lib.hid hq
              have HG := Lib.hid hgood
              clear hgood
              by_cases hjlt : j < (Nt.nats ns).length
              · have hck := ((hq.cell _).trans (HC.out k hlt)).trans (by rw [Nt.nats_get])
                have hcj := ((hq.cell _).trans (HC.out j hjlt)).trans (by rw [Nt.nats_get])
                have hbx : ∀ b, Nt.badB (Nt.nats ns) k j = b ↔ ((ns.getD k 0).testBit j && (j == k || !(ns.getD j 0).testBit k)) = b := by
                  intro b; unfold Nt.badB; rw [Nt.nats_get, Nt.nats_get, Nt.bit_nat, Nt.bit_nat]
                have hby : ∀ b, Nt.badB (Nt.nats ns) j k = b ↔ ((ns.getD j 0).testBit k && (k == j || !(ns.getD k 0).testBit j)) = b := by
                  intro b; unfold Nt.badB; rw [Nt.nats_get, Nt.nats_get, Nt.bit_nat, Nt.bit_nat]
                have HBX := Lib.hid hbx
                have HBY := Lib.hid hby
                clear hbx hby hq
                have p1 := shr_nonneg (ns.getD k 0) j
                have p2 := shr_nonneg (ns.getD j 0) k
                have e1 := shr_bit (ns.getD k 0) j
                have e2 := shr_bit (ns.getD j 0) k
                by_cases hkj : j = k
                · subst hkj
                  clear hcj p2 e2
                  generalize ns.getD j 0 = x at *
                  have hjj : ((j : Int) == (j : Int)) = true := by simp
                  cases hx : x.testBit j
                  · rw [hx] at e1
                    simp only [Bool.false_eq_true, if_false] at e1
                    have HX := Lib.hid hx
                    clear hx
                    go_wp2_with fail
                    go_quiet (fail)
                    clear e1 p1
                    go_wp2
                    go_roundw
                    case rel => exact ⟨j + 1, by omega, by go_num, Nt.goodTo_succ HG.out ((HBX.out _).2 (by rw [HX.out]; rfl)), HQ.out.draw _⟩
                    case measure => simp [intOf]; omega
                  · rw [hx] at e1
                    simp only [if_true] at e1
                    have HX := Lib.hid hx
                    clear hx
                    go_wp2_with fail
                    go_quiet (fail)
                    clear e1 p1
                    go_wp2
                    go_ret
                    exact ⟨by rw [Nt.not_ok_both hlt (Nt.bothB_no hlt ((HBX.out _).2 (by rw [HX.out]; simp)))]; rfl, HQ.out.draw _⟩
                · have hjk : ((j : Int) == (k : Int)) = false := by simp; omega
                  have HKJ := Lib.hid hkj
                  clear hkj
                  generalize ns.getD j 0 = y at *
                  generalize ns.getD k 0 = x at *
                  cases hx : x.testBit j <;> cases hy : y.testBit k
                  all_goals
                    rw [hx] at e1
                    rw [hy] at e2
                    simp only [Bool.false_eq_true, if_false, if_true] at e1 e2
                    have HX := Lib.hid hx
                    have HY := Lib.hid hy
                    clear hx hy
                    go_wp2_with fail
                    go_quiet (fail)
                    clear e1 p1 e2 p2
                    go_wp2
                  · go_roundw
                    case rel => exact ⟨j + 1, by omega, by go_num, Nt.goodTo_succ HG.out ((HBX.out _).2 (by rw [HX.out]; rfl)), HQ.out.draw _⟩
                    case measure => simp [intOf]; omega
                  · go_ret
                    exact ⟨by rw [Nt.not_ok_both hjlt (Nt.bothB_no hlt ((HBY.out _).2 (by rw [HX.out, HY.out]; simp)))]; rfl, HQ.out.draw _⟩
                  · go_ret
                    exact ⟨by rw [Nt.not_ok_both hlt (Nt.bothB_no hjlt ((HBX.out _).2 (by rw [HX.out, HY.out]; simp)))]; rfl, HQ.out.draw _⟩
                  · go_roundw
                    case rel => exact ⟨j + 1, by omega, by go_num, Nt.goodTo_succ HG.out ((HBX.out _).2 (by rw [HX.out, HY.out]; simp [HKJ.out])), HQ.out.draw _⟩
                    case measure => simp [intOf]; omega
              · have hj' : j = (Nt.nats ns).length := by omega
                subst hj'
                clear hq
                go_wp2
                go_roundw
                case rel => exact ⟨k + 1, by omega, by go_num, bothTo_succ HB.out (Nt.bothB_yes HG.out), HQ.out⟩
                case measure => simp [intOf]; omega
          · have hk' : k = (Nt.nats ns).length := by omega
            subst hk'
            go_wp2
            go_ret
            exact ⟨by rw [Nt.ok_of l1 l6 HF.out HB.out]; rfl, HQ.out⟩
end Go.Proofs.YtnajdbnacdnnlaaGreatDoor

namespace Go.Proofs.YtnajdbnacdnnlaaGreatDoor
open Go.RowKit
open Nt (stB stB_iff stB_no kindTo kindTo_succ)

set_option maxHeartbeats 400000 in
set_option maxRecDepth 100000 in
theorem nodesOk_any (n : Int) (w : World) :
    Calls Tryz.prog 139 #[.int .i64 n] w fun e w' => e = .returned (.bool (decide (1 ≤ n ∧ n ≤ 6))) ∧ w = w' := by
  by_cases a : 1 ≤ n <;> by_cases b : n ≤ 6
  all_goals
    go_enter Tryz.func139, Tryz.ntmps139
    go_wp2
    go_ret
    exact ⟨by simp [a, b], rfl⟩

set_option maxHeartbeats 400000 in
set_option maxRecDepth 100000 in
theorem kindsOk_any (n : Int) (w : World) :
    Calls Tryz.prog 212 #[.int .i64 n] w fun e w' => e = .returned (.bool (decide (3 ≤ n ∧ n ≤ 5))) ∧ w = w' := by
  by_cases a : 3 ≤ n <;> by_cases b : n ≤ 5
  all_goals
    go_enter Tryz.func212, Tryz.ntmps212
    go_wp2
    go_ret
    exact ⟨by simp [a, b], rfl⟩

set_option maxHeartbeats 1000000 in
set_option maxRecDepth 100000 in
theorem iStateOk_any (kinds : Int) (xs : List Int) (w : World) (v : Value) (base : Nat) (hs : Sl w base v xs) :
    Calls Tryz.prog 177 #[.int .i64 kinds, v] w fun e w' => e = .returned (.bool (stB kinds xs)) ∧ w = w' := by
  obtain ⟨a, cap, rfl, _, hm, hc⟩ := hs.any
  have HC := Lib.hid hc
  clear hc hs
  by_cases h1 : 3 ≤ kinds ∧ kinds ≤ 5
  · have d1 : decide (3 ≤ kinds ∧ kinds ≤ 5) = true := dec_of h1
    by_cases h2 : 1 ≤ xs.length ∧ xs.length ≤ 6
    · have d2 : decide ((1 : Int) ≤ (xs.length : Int) ∧ (xs.length : Int) ≤ 6) = true := dec_of (by omega)
      have H1 := Lib.hid h1
      have H2 := Lib.hid h2
      clear h1 h2
      go_enter Tryz.func177, Tryz.ntmps177
      go_wp2_with (first | (go_at_call 212; refine (kindsOk_any _ _).mono ?_; rintro e w' ⟨rfl, rfl⟩; rw [d1]) | (go_at_call 139; refine (nodesOk_any _ _).mono ?_; rintro e w' ⟨rfl, rfl⟩; rw [d2]))
      clear d1 d2
      go_loop [18] (fun n => ∃ k : Nat, k ≤ xs.length ∧ n = .int .i64 k ∧ kindTo kinds xs k) (fun n => xs.length - (intOf n).toNat)
      case atStart => exact ⟨0, Nat.zero_le _, rfl, fun j hj => absurd hj (by omega)⟩
      case round =>
        obtain ⟨k, hk, rfl, hto⟩ := hrel
        have HT := Lib.hid hto
        clear hto
        by_cases hlt : k < xs.length
        · obtain ⟨g, rfl, _, _, hcell, _⟩ := HC.out k hlt
          generalize hb : xs.getD k 0 = b at *
          have HB := Lib.hid hb
          clear hb
          by_cases h3 : b < 0
          · go_wp2
            go_ret
            exact ⟨by rw [stB_no (fun h => by have := (h.2.2 k hlt).1; rw [HB.out] at this; omega)]; rfl, rfl⟩
          · by_cases h4 : kinds ≤ b
            · go_wp2
              go_ret
              exact ⟨by rw [stB_no (fun h => by have := (h.2.2 k hlt).2; rw [HB.out] at this; omega)]; rfl, rfl⟩
            · go_wp2
              go_round
              case rel => exact ⟨k + 1, by omega, by go_num, kindTo_succ HT.out (by rw [HB.out]; omega)⟩
              case measure => simp [intOf]; omega
        · have hk' : k = xs.length := by omega
          subst hk'
          go_wp2
          go_ret
          exact ⟨by rw [stB_iff.2 ⟨H1.out, H2.out, HT.out⟩]; rfl, rfl⟩
    · have d2 : decide ((1 : Int) ≤ (xs.length : Int) ∧ (xs.length : Int) ≤ 6) = false := dec_not (by omega)
      have HNO := Lib.hid (stB_no (kinds := kinds) (xs := xs) (fun h => h2 h.2.1))
      clear h1 h2
      go_enter Tryz.func177, Tryz.ntmps177
      go_wp2_with (first | (go_at_call 212; refine (kindsOk_any _ _).mono ?_; rintro e w' ⟨rfl, rfl⟩; rw [d1]) | (go_at_call 139; refine (nodesOk_any _ _).mono ?_; rintro e w' ⟨rfl, rfl⟩; rw [d2]))
      go_ret
      exact ⟨by rw [HNO.out]; rfl, rfl⟩
  · have d1 : decide (3 ≤ kinds ∧ kinds ≤ 5) = false := dec_not h1
    have HNO := Lib.hid (stB_no (kinds := kinds) (xs := xs) (fun h => h1 h.1))
    clear h1
    go_enter Tryz.func177, Tryz.ntmps177
    go_wp2_with (go_at_call 212; refine (kindsOk_any _ _).mono ?_; rintro e w' ⟨rfl, rfl⟩; rw [d1])
    go_ret
    exact ⟨by rw [HNO.out]; rfl, rfl⟩

set_option maxHeartbeats 1000000 in
set_option maxRecDepth 100000 in
theorem sStateOk_any (kinds : Int) (xs : List Int) (w : World) (v : Value) (base : Nat) (hs : Sl w base v xs) :
    Calls Tryz.prog 163 #[.int .i64 kinds, v] w fun e w' => e = .returned (.bool (stB kinds xs)) ∧ w = w' := by
  obtain ⟨a, cap, rfl, _, hm, hc⟩ := hs.any
  have HC := Lib.hid hc
  clear hc hs
  go_enter Tryz.func163, Tryz.ntmps163
  go_wp2
  go_loop [5] (fun n => ∃ k : Nat, k ≤ xs.length ∧ n = .int .i64 k ∧ kindTo kinds xs k) (fun n => xs.length - (intOf n).toNat)
  case atStart => exact ⟨0, Nat.zero_le _, rfl, fun j hj => absurd hj (by omega)⟩
  case round =>
    obtain ⟨k, hk, rfl, hto⟩ := hrel
    have HT := Lib.hid hto
    clear hto
    by_cases hlt : k < xs.length
    · obtain ⟨g, rfl, _, _, hcell, _⟩ := HC.out k hlt
      generalize hb : xs.getD k 0 = b at *
      have HB := Lib.hid hb
      clear hb
      by_cases h3 : b < 0
      · go_wp2
        go_ret
        exact ⟨by rw [stB_no (fun h => by have := (h.2.2 k hlt).1; rw [HB.out] at this; omega)]; rfl, rfl⟩
      · by_cases h4 : kinds ≤ b
        · go_wp2
          go_ret
          exact ⟨by rw [stB_no (fun h => by have := (h.2.2 k hlt).2; rw [HB.out] at this; omega)]; rfl, rfl⟩
        · go_wp2
          go_round
          case rel => exact ⟨k + 1, by omega, by go_num, kindTo_succ HT.out (by rw [HB.out]; omega)⟩
          case measure => simp [intOf]; omega
    · have hk' : k = xs.length := by omega
      subst hk'
      by_cases h1 : 3 ≤ kinds ∧ kinds ≤ 5
      · have d1 : decide ((3 : Int) ≤ kinds ∧ kinds ≤ 5) = true := dec_of h1
        by_cases h2 : 1 ≤ xs.length ∧ xs.length ≤ 6
        · have d2 : decide ((1 : Int) ≤ (xs.length : Int) ∧ (xs.length : Int) ≤ 6) = true := dec_of (by omega)
          have HYES := Lib.hid (stB_iff.2 ⟨h1, h2, HT.out⟩)
          clear h1 h2
          go_wp2_with (first | (go_at_call 151; first | ((with_reducible refine (l1In_any kinds 3 5 _).mono ?_); rintro e w' ⟨rfl, rfl⟩; rw [d1]) | ((with_reducible refine (l1In_any (xs.length : Int) 1 6 _).mono ?_); rintro e w' ⟨rfl, rfl⟩; rw [d2])))
          go_ret
          exact ⟨by rw [HYES.out]; rfl, rfl⟩
        · have d2 : decide ((1 : Int) ≤ (xs.length : Int) ∧ (xs.length : Int) ≤ 6) = false := dec_not (by omega)
          have HNO := Lib.hid (stB_no (kinds := kinds) (xs := xs) (fun h => h2 h.2.1))
          clear h1 h2
          go_wp2_with (first | (go_at_call 151; first | ((with_reducible refine (l1In_any kinds 3 5 _).mono ?_); rintro e w' ⟨rfl, rfl⟩; rw [d1]) | ((with_reducible refine (l1In_any (xs.length : Int) 1 6 _).mono ?_); rintro e w' ⟨rfl, rfl⟩; rw [d2])))
          go_ret
          exact ⟨by rw [HNO.out]; rfl, rfl⟩
      · have d1 : decide ((3 : Int) ≤ kinds ∧ kinds ≤ 5) = false := dec_not h1
        have HNO := Lib.hid (stB_no (kinds := kinds) (xs := xs) (fun h => h1 h.1))
        clear h1
        go_wp2_with (go_at_call 151; refine (l1In_any _ _ _ _).mono ?_; rintro e w' ⟨rfl, rfl⟩; rw [d1])
        go_ret
        exact ⟨by rw [HNO.out]; rfl, rfl⟩
end Go.Proofs.YtnajdbnacdnnlaaGreatDoor

namespace Go.Proofs.YtnajdbnacdnnlaaGreatDoor
open Go.RowKit
open Nt (stB)

set_option maxHeartbeats 1000000 in
set_option maxRecDepth 100000 in
theorem iCounts_any (kinds : Int) (xs : List Int) (w : World) (v : Value) (base : Nat) (hs : Sl w base v xs) :
    Calls Tryz.prog 229 #[.int .i64 kinds, v] w fun e w' => ∃ u, e = .returned u ∧ Sl w' w.heap.size u (Nt.countsOf kinds xs) ∧ Kept [] w w' := by
  have HS := Lib.hid hs
  obtain ⟨a, cap, rfl, _, hm, _⟩ := hs.any
  by_cases ho : stB kinds xs = true
  · obtain ⟨c, ks, rfl, rfl, hst⟩ := Nt.stB_st ho
    have hl : (Nt.nats ks).length = ks.length := Nt.nats_length ks
    obtain ⟨g, cap', hg1, hg2, hg3⟩ := hs.shape hl (by have := hst.some; omega)
    simp only [Value.slice.injEq] at hg1
    obtain ⟨rfl, hln, rfl⟩ := hg1
    have HC := Lib.hid (fun k (hk : k < ks.length) => ((hs.at k (by rw [hl]; exact hk)).1).trans (by rw [Nt.nats_get]))
    have HL := Lib.hid hl
    have HF := Lib.hid (Nt.countsOf_ok hst)
    have HST := Lib.hid hst
    have hc5 := hst.c5
    have h6 := hst.few
    clear hs hl hst hln hm
    go_enter Tryz.func229, Tryz.ntmps229
    go_wp2_with fail
    refine (iStateOk_any (c : Int) (Nt.nats ks) _ _ base HS.out).mono ?_
    rintro e w' ⟨rfl, rfl⟩
    rw [ho]
    clear ho
    go_wp2_with (at_make; refine make_int w c rfl _ _ rfl rfl rfl ?_ ?_)
    · omega
    · intro w1 hs1 hk1 _
      have hs2 : Sl w1 w.heap.size (.slice (some ⟨w.heap.size, 0, none⟩) c c) (Nt.nats (Nt.countsTo c ks 0)) := by
        rw [Nt.countsTo_zero, nats_zeros]; exact hs1
      have HS1 := Lib.hid hs2
      have HK1 := Lib.hid hk1
      clear hs1 hk1 hs2
      go_wp2
      go_loopw [16] (fun i wr => ∃ k : Nat, k ≤ ks.length ∧ i = .int .i64 k ∧ Sl wr w.heap.size (.slice (some ⟨w.heap.size, 0, none⟩) c c) (Nt.nats (Nt.countsTo c ks k)) ∧ Kept [] w wr) (fun i _ => ks.length - (intOf i).toNat)
      case atStart => exact ⟨0, Nat.zero_le _, rfl, HS1.out, HK1.out⟩
      case round =>
        clear HS1 HK1
        obtain ⟨k, hk, rfl, hsl, hkept⟩ := hrel
        have HSL := Lib.hid hsl
        have HK := Lib.hid hkept
        by_cases hlt : k < ks.length
        · have hck := (hkept.cell (p := ⟨g, k, none⟩) hg3 (by simp)).trans (HC.out k hlt)
          have hltc := HST.out.lt k hlt
          obtain ⟨hcell, hfr⟩ := hsl.at (ks.getD k 0) (by rw [Nt.nats_length, Nt.countsTo_length]; exact hltc)
          rw [Nt.nats_get, Nt.countsTo_get _ _ _ _ hltc] at hcell
          have hle := Nt.cntTo_le ks (ks.getD k 0) k
          have HSET := Lib.hid (Nt.countsTo_set c ks k)
          have hLlt : k < (Nt.nats ks).length := by rw [HL.out]; exact hlt
          clear hsl hkept
          generalize ks.getD k 0 = x at *
          generalize Nt.cntTo ks x k = y at *
          have HEQ : Hid (((y + 1 : Nat) : Int) = (y : Int) + 1) := Lib.hid (by omega)
          go_wp2
          go_roundw
          case rel => exact ⟨k + 1, by omega, by go_num, by rw [← HSET.out, Nt.nats_set, HEQ.out]; exact HSL.out.set (by rw [Nt.nats_length, Nt.countsTo_length]) x _, HK.out.setCell (.inr (Nat.le_refl _)) _⟩
          case measure => simp [intOf]; omega
        · have hk' : k = ks.length := by omega
          subst hk'
          have hLn : ¬ ks.length < (Nt.nats ks).length := by rw [HL.out]; omega
          clear hsl hkept
          go_wp2
          go_ret
          exact ⟨_, rfl, by rw [HF.out]; exact HSL.out, HK.out⟩
  · have ho' : stB kinds xs = false := by simpa using ho
    have HF := Lib.hid (Nt.countsOf_no ho')
    clear ho hs
    go_enter Tryz.func229, Tryz.ntmps229
    go_wp2_with fail
    refine (iStateOk_any kinds xs _ _ base HS.out).mono ?_
    rintro e w' ⟨rfl, rfl⟩
    rw [ho']
    clear ho'
    go_wp2
    go_ret
    exact ⟨_, rfl, by rw [HF.out]; exact Sl.nil _ _, Kept.refl _ _⟩

set_option maxHeartbeats 1000000 in
set_option maxRecDepth 100000 in
theorem sCounts_any (kinds : Int) (xs : List Int) (w : World) (v : Value) (base : Nat) (hs : Sl w base v xs) :
    Calls Tryz.prog 129 #[.int .i64 kinds, v] w fun e w' => ∃ u, e = .returned u ∧ Sl w' w.heap.size u (Nt.countsOf kinds xs) ∧ Kept [] w w' := by
  have HS := Lib.hid hs
  obtain ⟨a, cap, rfl, _, hm, _⟩ := hs.any
  by_cases ho : stB kinds xs = true
  · obtain ⟨c, ks, rfl, rfl, hst⟩ := Nt.stB_st ho
    have hl : (Nt.nats ks).length = ks.length := Nt.nats_length ks
    obtain ⟨g, cap', hg1, hg2, hg3⟩ := hs.shape hl (by have := hst.some; omega)
    simp only [Value.slice.injEq] at hg1
    obtain ⟨rfl, hln, rfl⟩ := hg1
    have HC := Lib.hid (fun k (hk : k < ks.length) => ((hs.at k (by rw [hl]; exact hk)).1).trans (by rw [Nt.nats_get]))
    have HL := Lib.hid hl
    have HF := Lib.hid (Nt.countsOf_ok hst)
    have HST := Lib.hid hst
    have hc5 := hst.c5
    have h6 := hst.few
    clear hs hl hst hln hm
    go_enter Tryz.func129, Tryz.ntmps129
    go_wp2_with fail
    refine (sStateOk_any (c : Int) (Nt.nats ks) _ _ base HS.out).mono ?_
    rintro e w' ⟨rfl, rfl⟩
    rw [ho]
    clear ho
    go_wp2_with (at_make; refine make_int w c rfl _ _ rfl rfl rfl ?_ ?_)
    · omega
    · intro w1 hs1 hk1 _
      have hs2 : Sl w1 w.heap.size (.slice (some ⟨w.heap.size, 0, none⟩) c c) (Nt.nats (Nt.countsTo c ks 0)) := by
        rw [Nt.countsTo_zero, nats_zeros]; exact hs1
      have HS1 := Lib.hid hs2
      have HK1 := Lib.hid hk1
      clear hs1 hk1 hs2
      go_wp2
      go_loopw [6] (fun i wr => ∃ k : Nat, k ≤ ks.length ∧ i = .int .i64 k ∧ Sl wr w.heap.size (.slice (some ⟨w.heap.size, 0, none⟩) c c) (Nt.nats (Nt.countsTo c ks k)) ∧ Kept [] w wr) (fun i _ => ks.length - (intOf i).toNat)
      case atStart => exact ⟨0, Nat.zero_le _, rfl, HS1.out, HK1.out⟩
      case round =>
        clear HS1 HK1
        obtain ⟨k, hk, rfl, hsl, hkept⟩ := hrel
        have HSL := Lib.hid hsl
        have HK := Lib.hid hkept
        by_cases hlt : k < ks.length
        · have hck := (hkept.cell (p := ⟨g, k, none⟩) hg3 (by simp)).trans (HC.out k hlt)
          have hltc := HST.out.lt k hlt
          obtain ⟨hcell, hfr⟩ := hsl.at (ks.getD k 0) (by rw [Nt.nats_length, Nt.countsTo_length]; exact hltc)
          rw [Nt.nats_get, Nt.countsTo_get _ _ _ _ hltc] at hcell
          have hle := Nt.cntTo_le ks (ks.getD k 0) k
          have HSET := Lib.hid (Nt.countsTo_set c ks k)
          have hLlt : k < (Nt.nats ks).length := by rw [HL.out]; exact hlt
          clear hsl hkept
          generalize ks.getD k 0 = x at *
          generalize Nt.cntTo ks x k = y at *
          have HEQ : Hid (((y + 1 : Nat) : Int) = (y : Int) + 1) := Lib.hid (by omega)
          have ey2 : IntKind.i64.wrap ((y : Int) + 1) = (y : Int) + 1 := IntWalk.i64_in _ (by omega)
          have HSLd : Hid (Sl wr.drew w.heap.size (.slice (some ⟨w.heap.size, 0, none⟩) c c) (Nt.nats (Nt.countsTo c ks k))) := HSL
          have HKd := Lib.hid HK.out.drew
          have hcell2 : wr.drew.cell? ⟨w.heap.size, x, none⟩ = some (.int .i64 (y : Int)) := hcell
          have hfr2 : wr.drew.frozen? ⟨w.heap.size, x, none⟩ = false := hfr
          go_wp2_with fail
          go_still_tail 14, (by kernel_rfl)
          change wpList _ _ _ _ _ wr.drew
          clear hcell hfr HSL HK hck
          generalize wr.drew = w2 at *
          go_wp2
          go_roundw
          case rel => exact ⟨k + 1, by omega, by go_num, by rw [← HSET.out, Nt.nats_set, HEQ.out]; exact HSLd.out.set (by rw [Nt.nats_length, Nt.countsTo_length]) x _, HKd.out.setCell (.inr (Nat.le_refl _)) _⟩
          case measure => simp [intOf]; omega
        · have hk' : k = ks.length := by omega
          subst hk'
          have hLn : ¬ ks.length < (Nt.nats ks).length := by rw [HL.out]; omega
          clear hsl hkept
          go_wp2
          go_ret
          exact ⟨_, rfl, by rw [HF.out]; exact HSL.out, HK.out⟩
  · have ho' : stB kinds xs = false := by simpa using ho
    have HF := Lib.hid (Nt.countsOf_no ho')
    clear ho hs
    go_enter Tryz.func129, Tryz.ntmps129
    go_wp2_with fail
    refine (sStateOk_any kinds xs _ _ base HS.out).mono ?_
    rintro e w' ⟨rfl, rfl⟩
    rw [ho']
    clear ho'
    go_wp2
    go_ret
    exact ⟨_, rfl, by rw [HF.out]; exact Sl.empty3 _, (Kept.refl _ _).alloc _⟩
end Go.Proofs.YtnajdbnacdnnlaaGreatDoor

namespace Go.Proofs.YtnajdbnacdnnlaaGreatDoor
open Go.RowKit

theorem pow_div (m c k : Nat) : m / c ^ (k + 1) = m / c ^ k / c := by
  rw [Nat.pow_succ, Nat.div_div_eq_div_mul]

theorem div_zero_iff {m c n : Nat} (hc : 0 < c) : m / c ^ n = 0 ↔ m < c ^ n := by
  rw [Nat.div_eq_zero_iff]
  have := Nat.pow_pos (n := n) hc
  omega

theorem digits_take (c m k : Nat) : Nt.nats (Nt.digits c m (k + 1)) = Nt.nats (Nt.digits c m k) ++ [((m / c ^ k % c : Nat) : Int)] := by
  rw [Nt.digits_succ]
  simp [Nt.nats]

end Go.Proofs.YtnajdbnacdnnlaaGreatDoor

namespace Go.Proofs.YtnajdbnacdnnlaaGreatDoor
open Go.RowKit
open Nt (stB)

theorem succ_mod (k c : Nat) : ((k : Int) + 1).tmod (c : Int) = (((k + 1) % c : Nat) : Int) := by
  have e : (k : Int) + 1 = ((k + 1 : Nat) : Int) := by omega
  rw [e]; exact tmod_nat _ _

set_option maxHeartbeats 400000 in
set_option maxRecDepth 100000 in
theorem nextKind_any (c k : Nat) (h3 : 3 ≤ c) (hk : k ≤ 1000) (w : World) :
    Calls Tryz.prog 223 #[.int .i64 (c : Int), .int .i64 (k : Int)] w fun e w' => e = .returned (.int .i64 (((k + 1) % c : Nat) : Int)) ∧ w = w' := by
  have f1 := succ_mod k c
  have hc0 : ¬ c = 0 := by omega
  generalize (k + 1) % c = r at *
  go_enter Tryz.func223, Tryz.ntmps223
  go_wp2
  go_ret
  exact ⟨rfl, rfl⟩

theorem raised_take (c : Nat) (ks : List Nat) (k : Nat) (h : k < ks.length) : Nt.nats ((Nt.raised c ks).take (k + 1)) = Nt.nats ((Nt.raised c ks).take k) ++ [(((ks.getD k 0 + 1) % c : Nat) : Int)] := by
  rw [Nt.take_more _ _ (by rw [Nt.raised_length]; exact h), Nt.raised_get _ _ _ h]

end Go.Proofs.YtnajdbnacdnnlaaGreatDoor

namespace Go.Proofs.YtnajdbnacdnnlaaGreatDoor
open Go.RowKit

theorem shr_rem (x j : Nat) : ((x : Int) / 2 ^ j).tmod 2 = if x.testBit j then 1 else 0 := by
  rw [Int.tmod_eq_emod_of_nonneg (shr_nonneg x j)]
  exact shr_bit x j

theorem pow_cast (n : Nat) : ((2 ^ n : Nat) : Int) = (2 : Int) ^ n := Int.natCast_pow 2 n

theorem lit_take (n s k : Nat) (h : k < n) : Nt.nats ((Nt.lit n s).take (k + 1)) = Nt.nats ((Nt.lit n s).take k) ++ [if s.testBit k then 1 else 0] := by
  rw [Nt.take_more _ _ (by rw [Nt.lit_length]; exact h), Nt.lit_get _ _ _ h]
  split <;> rfl

end Go.Proofs.YtnajdbnacdnnlaaGreatDoor
