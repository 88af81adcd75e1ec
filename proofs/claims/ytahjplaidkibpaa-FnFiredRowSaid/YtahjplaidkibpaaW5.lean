/-
  Walks: NetOk of the model.
-/
import Derived.Test.YtahjplaidkibpaaW4
import Derived.Deep.QuietTactic
import Derived.BigQuiet
namespace Go.Proofs.Ytahjplaidkibpaa
open Go.RowKit
open Nt (okB bothB)

/-- The first k sets are of the nodes of the net. -/
def fitTo (xs : List Int) (k : Nat) : Prop := ∀ i, i < k → 0 ≤ xs.getD i 0 ∧ xs.getD i 0 < 2 ^ xs.length

theorem fitTo_succ {xs : List Int} {k : Nat} (h : fitTo xs k) (h1 : 0 ≤ xs.getD k 0 ∧ xs.getD k 0 < 2 ^ xs.length) : fitTo xs (k + 1) := by
  intro j hj
  by_cases e : j = k
  · subst e; exact h1
  · exact h j (by omega)

def bothTo (xs : List Int) (k : Nat) : Prop := ∀ i, i < k → bothB xs i = true

theorem bothTo_succ {xs : List Int} {k : Nat} (h : bothTo xs k) (h1 : bothB xs k = true) : bothTo xs (k + 1) := by
  intro j hj
  by_cases e : j = k
  · subst e; exact h1
  · exact h j (by omega)

set_option maxHeartbeats 4000000 in
theorem sNetOk_any (xs : List Int) (w : World) (v : Value) (base : Nat) (hs : Sl w base v xs) :
    Calls Try.prog 65 #[v] w fun e w' => e = .returned (.bool (okB xs)) ∧ Qt w w' := by
  rcases hs.form with ⟨rfl, rfl⟩ | ⟨g, cap, rfl, _, _, hcap, hmax, hc, _⟩
  · go_enter Try.func65, Try.ntmps65
    go_wp2_with (go_at_call 51; refine (l1In_any _ _ _ _).mono ?_; rintro e w' ⟨rfl, rfl⟩)
    go_ret
    exact ⟨by rw [Nt.not_ok_len (by simp)]; rfl, Qt.refl _⟩
  by_cases hl : xs.length < 1 ∨ 6 < xs.length
  · have hno := Nt.not_ok_len hl
    have HNO := Lib.hid hno
    have h0 : decide ((1 : Int) ≤ (xs.length : Int) ∧ (xs.length : Int) ≤ 6) = false := by simp; omega
    clear hno hc hl
    go_enter Try.func65, Try.ntmps65
    go_wp2_with (go_at_call 51; refine (l1In_any _ _ _ _).mono ?_; rintro e w' ⟨rfl, rfl⟩; rw [h0])
    go_ret
    exact ⟨by rw [HNO.out]; rfl, Qt.refl _⟩
  · have l1 : 1 ≤ xs.length := by omega
    have l6 : xs.length ≤ 6 := by omega
    have HC := Lib.hid hc
    have h0 : decide ((1 : Int) ≤ (xs.length : Int) ∧ (xs.length : Int) ≤ 6) = true := by simp; omega
    clear hc hs hl
    go_enter Try.func65, Try.ntmps65
    go_wp2_with (go_at_call 51; refine (l1In_any _ _ _ _).mono ?_; rintro e w' ⟨rfl, rfl⟩; rw [h0])
    clear h0
    have e1 := wrap_pow_nat xs.length (by omega)
    have e2 := wrap_pow_pred xs.length (by omega)
    have E1 := Lib.hid e1
    have E2 := Lib.hid e2
    clear e1 e2
    go_loopw [3] (fun n wr => ∃ k : Nat, k ≤ xs.length ∧ n = .int .i64 k ∧ fitTo xs k ∧ Qt w wr) (fun n _ => xs.length - (intOf n).toNat)
    case atStart => exact ⟨0, Nat.zero_le _, rfl, fun j hj => absurd hj (by omega), Qt.refl _⟩
    case round =>
      obtain ⟨k, hk, rfl, hfit, hq⟩ := hrel
      have HQ := Lib.hid hq
      have HF := Lib.hid hfit
      by_cases hlt : k < xs.length
      · have hck := (hq.cell _).trans (HC.out k hlt)
        clear hq hfit
        generalize hb : xs.getD k 0 = b at *
        have HB := Lib.hid hb
        clear hb
        by_cases h1 : 0 ≤ b ∧ b < 2 ^ xs.length
        · have hd : decide (0 ≤ b ∧ b ≤ 2 ^ xs.length - 1) = true := by simp; omega
          have e1 := E1.out
          have e2 := E2.out
          have H1 := Lib.hid h1
          clear h1
          go_wp2_with fail
          go_quiet ((go_at_call 51; exact quietL (l1In_any _ _ _ _)))
          clear e1 e2
          go_wp2
          go_roundw
          case rel => exact ⟨k + 1, by omega, by go_num, fitTo_succ HF.out (by rw [HB.out]; exact H1.out), HQ.out.draw _⟩
          case measure => simp [intOf]; omega
        · have hd : decide (0 ≤ b ∧ b ≤ 2 ^ xs.length - 1) = false := by simp; omega
          have e1 := E1.out
          have e2 := E2.out
          have hno := Nt.not_ok_fit hlt (by rw [HB.out]; exact h1)
          have HNO := Lib.hid hno
          clear h1 hno
          go_wp2_with fail
          go_quiet ((go_at_call 51; exact quietL (l1In_any _ _ _ _)))
          clear e1 e2
          go_wp2
          go_ret
          exact ⟨by rw [HNO.out]; rfl, HQ.out.draw _⟩
      · have hk' : k = xs.length := by omega
        obtain ⟨ns, rfl⟩ := Nt.nats_of_nonneg fun i hi => (hfit i (by omega)).1
        subst hk'
        clear hq hfit hlt hk
        go_wp2
        go_loopw [4, 5] (fun n _ wr => ∃ k : Nat, k ≤ (Nt.nats ns).length ∧ n = .int .i64 k ∧ bothTo (Nt.nats ns) k ∧ Qt w wr) (fun n _ _ => (Nt.nats ns).length - (intOf n).toNat)
        case atStart => exact ⟨0, Nat.zero_le _, rfl, fun j hj => absurd hj (by omega), HQ.out⟩
        case round =>
          clear HQ
          obtain ⟨k, hk, rfl, hboth, hq⟩ := hrel
          have HQ := Lib.hid hq
          have HB := Lib.hid hboth
          clear hq hboth
          by_cases hlt : k < (Nt.nats ns).length
          · go_wp2
            go_loopw [5] (fun n wr => ∃ j : Nat, j ≤ (Nt.nats ns).length ∧ n = .int .i64 j ∧ Nt.goodTo (Nt.nats ns) k j ∧ Qt w wr) (fun n _ => (Nt.nats ns).length - (intOf n).toNat)
            case atStart => exact ⟨0, Nat.zero_le _, rfl, fun j hj => absurd hj (by omega), HQ.out⟩
            case round =>
              clear HQ
              obtain ⟨j, hj, rfl, hgood, hq⟩ := hrel
              have HQ := Lib.hid hq
              have HG := Lib.hid hgood
              clear hgood
              by_cases hjlt : j < (Nt.nats ns).length
              · have hck := ((hq.cell _).trans (HC.out k hlt)).trans (by rw [Nt.nats_get])
                have hcj := ((hq.cell _).trans (HC.out j hjlt)).trans (by rw [Nt.nats_get])
                have hbx : ∀ b, Nt.badB (Nt.nats ns) k j = b ↔ ((ns.getD k 0).testBit j && (j == k || !(ns.getD j 0).testBit k)) = b := by
                  intro b; unfold Nt.badB; rw [Nt.nats_get, Nt.nats_get, Nt.bit_nat, Nt.bit_nat]
                have hby : ∀ b, Nt.badB (Nt.nats ns) j k = b ↔ ((ns.getD j 0).testBit k && (k == j || !(ns.getD k 0).testBit j)) = b := by
                  intro b; unfold Nt.badB; rw [Nt.nats_get, Nt.nats_get, Nt.bit_nat, Nt.bit_nat]
                have HBX := Lib.hid hbx
                have HBY := Lib.hid hby
                clear hbx hby hq
                have p1 := shr_nonneg (ns.getD k 0) j
                have p2 := shr_nonneg (ns.getD j 0) k
                have e1 := shr_bit (ns.getD k 0) j
                have e2 := shr_bit (ns.getD j 0) k
                by_cases hkj : j = k
                · subst hkj
                  clear hcj p2 e2
                  generalize ns.getD j 0 = x at *
                  have hjj : ((j : Int) == (j : Int)) = true := by simp
                  cases hx : x.testBit j
                  · rw [hx] at e1
                    simp only [Bool.false_eq_true, if_false] at e1
                    have HX := Lib.hid hx
                    clear hx
                    go_wp2_with fail
                    go_quiet (fail)
                    clear e1 p1
                    go_wp2
                    go_roundw
                    case rel => exact ⟨j + 1, by omega, by go_num, Nt.goodTo_succ HG.out ((HBX.out _).2 (by rw [HX.out]; rfl)), HQ.out.draw _⟩
                    case measure => simp [intOf]; omega
                  · rw [hx] at e1
                    simp only [if_true] at e1
                    have HX := Lib.hid hx
                    clear hx
                    go_wp2_with fail
                    go_quiet (fail)
                    clear e1 p1
                    go_wp2
                    go_ret
                    exact ⟨by rw [Nt.not_ok_both hlt (Nt.bothB_no hlt ((HBX.out _).2 (by rw [HX.out]; simp)))]; rfl, HQ.out.draw _⟩
                · have hjk : ((j : Int) == (k : Int)) = false := by simp; omega
                  have HKJ := Lib.hid hkj
                  clear hkj
                  generalize ns.getD j 0 = y at *
                  generalize ns.getD k 0 = x at *
                  cases hx : x.testBit j <;> cases hy : y.testBit k
                  all_goals
                    rw [hx] at e1
                    rw [hy] at e2
                    simp only [Bool.false_eq_true, if_false, if_true] at e1 e2
                    have HX := Lib.hid hx
                    have HY := Lib.hid hy
                    clear hx hy
                    go_wp2_with fail
                    go_quiet (fail)
                    clear e1 p1 e2 p2
                    go_wp2
                  · go_roundw
                    case rel => exact ⟨j + 1, by omega, by go_num, Nt.goodTo_succ HG.out ((HBX.out _).2 (by rw [HX.out]; rfl)), HQ.out.draw _⟩
                    case measure => simp [intOf]; omega
                  · go_ret
                    exact ⟨by rw [Nt.not_ok_both hjlt (Nt.bothB_no hlt ((HBY.out _).2 (by rw [HX.out, HY.out]; simp)))]; rfl, HQ.out.draw _⟩
                  · go_ret
                    exact ⟨by rw [Nt.not_ok_both hlt (Nt.bothB_no hjlt ((HBX.out _).2 (by rw [HX.out, HY.out]; simp)))]; rfl, HQ.out.draw _⟩
                  · go_roundw
                    case rel => exact ⟨j + 1, by omega, by go_num, Nt.goodTo_succ HG.out ((HBX.out _).2 (by rw [HX.out, HY.out]; simp [HKJ.out])), HQ.out.draw _⟩
                    case measure => simp [intOf]; omega
              · have hj' : j = (Nt.nats ns).length := by omega
                subst hj'
                clear hq
                go_wp2
                go_roundw
                case rel => exact ⟨k + 1, by omega, by go_num, bothTo_succ HB.out (Nt.bothB_yes HG.out), HQ.out⟩
                case measure => simp [intOf]; omega
          · have hk' : k = (Nt.nats ns).length := by omega
            subst hk'
            go_wp2
            go_ret
            exact ⟨by rw [Nt.ok_of l1 l6 HF.out HB.out]; rfl, HQ.out⟩
end Go.Proofs.Ytahjplaidkibpaa
