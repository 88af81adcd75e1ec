/-
  Walks: which nodes fire; whether kinds and a state are those of a net; copies of slices, and slices compared.
-/
import Derived.Test.YtahjplaidkibpaaW4
import Derived.Test.YtahjplaidkibpaaW5
import Derived.Test.YtahjplaidkibpaaS1
import Derived.Test.YtahjplaidkibpaaB2
import Derived.Test.YtahjplaidkibpaaOpsB
import Derived.Test.YtahjplaidkibpaaPureH
import Derived.Lib.SliceRun
namespace Go.Proofs.Ytahjplaidkibpaa
open Go.RowKit

set_option maxHeartbeats 1000000 in
theorem firingSet_any (c : Nat) (ks : List Nat) (hst : Nt.St c ks) (w : World) (v : Value) (base : Nat) (hs : Sl w base v (Nt.nats ks)) :
    Calls Try.prog 62 #[v] w fun e w' => e = .returned (.int .i64 ((Nt.fires ks : Nat) : Int)) ∧ w = w' := by
  obtain ⟨n, hn⟩ : ∃ n, n = ks.length := ⟨_, rfl⟩
  have hp := hst.some
  have h6 := hst.few
  have HF : Hid (Nt.fires ks = Nt.firesTo ks n) := Lib.hid (by rw [hn]; rfl)
  have HSM := Lib.hid (fun k (hk : k ≤ n) => Nt.firesTo_small (ks := ks) h6 (k := k) (by omega))
  have HLT := Lib.hid (fun k (hk : k < n) => hst.lt k (by omega))
  have hc5 := hst.c5
  rw [← hn] at hp h6
  obtain ⟨g, cap, rfl, hg, hc⟩ := hs.row hn.symm hp
  have HC := Lib.hid hc
  clear hs hc hn hst
  go_enter Try.func62, Try.ntmps62
  go_wp2
  go_loop [3, 8] (fun a i => ∃ k : Nat, k ≤ n ∧ i = .int .i64 k ∧ a = .int .i64 ((Nt.firesTo ks k : Nat) : Int)) (fun _ i => n - (intOf i).toNat)
  case atStart => exact ⟨0, Nat.zero_le _, rfl, rfl⟩
  case round =>
    obtain ⟨k, hk, rfl, rfl⟩ := hrel
    by_cases hlt : k < n
    · have hcell := HC.out k hlt
      have hx := HLT.out k hlt
      have hb1 := HSM.out k hk
      have HN : Hid (Nt.firesTo ks (k + 1) = if ks.getD k 0 = 1 then Nt.firesTo ks k ||| 2 ^ k else Nt.firesTo ks k) := Lib.hid rfl
      have HE := Lib.hid (or_shl (Nt.firesTo ks k) k hb1 (by omega))
      generalize Nt.firesTo ks k = s at *
      generalize ks.getD k 0 = x at *
      by_cases h1 : x = 1
      · subst h1
        go_wp2
        go_round
        case rel => exact ⟨k + 1, by omega, by go_num, by rw [HN.out, if_pos rfl, ← HE.out]⟩
        case measure => simp [intOf]; omega
      · have h1' : ((x : Int) == 1) = false := by simp; omega
        have HNO := Lib.hid h1
        clear h1
        go_wp2
        go_round
        case rel => exact ⟨k + 1, by omega, by go_num, by rw [HN.out, if_neg HNO.out]⟩
        case measure => simp [intOf]; omega
    · have hk' : k = n := by omega
      subst hk'
      go_wp2
      go_ret
      exact ⟨by rw [HF.out]; rfl, rfl⟩

set_option maxHeartbeats 1000000 in
theorem firingOk_any (xs : List Int) (kinds : Int) (ys : List Int) (w : World) (v : Value) (base : Nat) (u : Value) (base' : Nat) (hs : Sl w base v xs) (ht : Sl w base' u ys) :
    Calls Try.prog 36 #[v, .int .i64 kinds, u] w fun e w' => e = .returned (.bool (Nt.fireB xs kinds ys)) ∧ w = w' := by
  have HS := Lib.hid hs
  have HT := Lib.hid ht
  obtain ⟨a, cap, rfl, _, hm, _⟩ := hs.any
  obtain ⟨a', cap', rfl, _, hm', _⟩ := ht.any
  clear hs ht
  cases h1 : Nt.okB xs
  · have HF := Lib.hid (Nt.fireB_no1 (kinds := kinds) (ys := ys) h1)
    go_enter Try.func36, Try.ntmps36
    go_wp2_with (go_at_call 40; refine (iNetOk_any xs _ _ base HS.out).mono ?_; rintro e w' ⟨rfl, rfl⟩; rw [h1])
    go_ret
    exact ⟨by rw [HF.out]; rfl, rfl⟩
  · cases h2 : Nt.stB kinds ys
    · have HF := Lib.hid (Nt.fireB_no2 (xs := xs) h2)
      go_enter Try.func36, Try.ntmps36
      go_wp2_with (first | (go_at_call 40; refine (iNetOk_any xs _ _ base HS.out).mono ?_; rintro e w' ⟨rfl, rfl⟩; rw [h1]) | (go_at_call 16; refine (iStateOk_any kinds ys _ _ base' HT.out).mono ?_; rintro e w' ⟨rfl, rfl⟩; rw [h2]))
      go_ret
      exact ⟨by rw [HF.out]; rfl, rfl⟩
    · by_cases h3 : ys.length = xs.length
      · have HF := Lib.hid (Nt.fireB_all h1 h2 h3)
        have h0 : ((ys.length : Int) == (xs.length : Int)) = true := by simp [h3]
        clear h3
        go_enter Try.func36, Try.ntmps36
        go_wp2_with (first | (go_at_call 40; refine (iNetOk_any xs _ _ base HS.out).mono ?_; rintro e w' ⟨rfl, rfl⟩; rw [h1]) | (go_at_call 16; refine (iStateOk_any kinds ys _ _ base' HT.out).mono ?_; rintro e w' ⟨rfl, rfl⟩; rw [h2]))
        go_ret
        exact ⟨by rw [HF.out]; rfl, rfl⟩
      · have HF := Lib.hid (Nt.fireB_no3 (kinds := kinds) h3)
        have h0 : ((ys.length : Int) == (xs.length : Int)) = false := by simp; omega
        clear h3
        go_enter Try.func36, Try.ntmps36
        go_wp2_with (first | (go_at_call 40; refine (iNetOk_any xs _ _ base HS.out).mono ?_; rintro e w' ⟨rfl, rfl⟩; rw [h1]) | (go_at_call 16; refine (iStateOk_any kinds ys _ _ base' HT.out).mono ?_; rintro e w' ⟨rfl, rfl⟩; rw [h2]))
        go_ret
        exact ⟨by rw [HF.out]; rfl, rfl⟩

set_option maxHeartbeats 1000000 in
theorem l3Ok_any (xs : List Int) (kinds : Int) (ys : List Int) (w : World) (v : Value) (base : Nat) (u : Value) (base' : Nat) (hs : Sl w base v xs) (ht : Sl w base' u ys) :
    Calls Try.prog 38 #[v, .int .i64 kinds, u] w fun e w' => e = .returned (.bool (Nt.fireB xs kinds ys)) ∧ Qt w w' := by
  have HS := Lib.hid hs
  have HT := Lib.hid ht
  obtain ⟨a, cap, rfl, _, hm, _⟩ := hs.any
  obtain ⟨a', cap', rfl, _, hm', _⟩ := ht.any
  clear hs ht
  go_enter Try.func38, Try.ntmps38
  go_wp2_with fail
  refine (sNetOk_any xs _ _ base HS.out).mono ?_
  rintro e w1 ⟨rfl, hq⟩
  have HQ := Lib.hid hq
  have HT1 := Lib.hid (hq.sl HT.out)
  clear hq
  cases h1 : Nt.okB xs
  · have HF := Lib.hid (Nt.fireB_no1 (kinds := kinds) (ys := ys) h1)
    go_wp2_with fail
    go_ret
    exact ⟨by rw [HF.out]; rfl, HQ.out⟩
  · go_wp2_with fail
    refine (sStateOk_any kinds ys _ _ base' HT1.out).mono ?_
    rintro e w' ⟨rfl, rfl⟩
    cases h2 : Nt.stB kinds ys
    · have HF := Lib.hid (Nt.fireB_no2 (xs := xs) h2)
      go_wp2_with fail
      go_ret
      exact ⟨by rw [HF.out]; rfl, HQ.out⟩
    · by_cases h3 : ys.length = xs.length
      · have HF := Lib.hid (Nt.fireB_all h1 h2 h3)
        have h0 : ((ys.length : Int) == (xs.length : Int)) = true := by simp [h3]
        clear h3
        go_wp2_with fail
        go_ret
        exact ⟨by rw [HF.out]; rfl, HQ.out⟩
      · have HF := Lib.hid (Nt.fireB_no3 (kinds := kinds) h3)
        have h0 : ((ys.length : Int) == (xs.length : Int)) = false := by simp; omega
        clear h3
        go_wp2_with fail
        go_ret
        exact ⟨by rw [HF.out]; rfl, HQ.out⟩

set_option maxHeartbeats 400000 in
theorem runOk_any (n : Int) (w : World) :
    Calls Try.prog 48 #[.int .i64 n] w fun e w' => e = .returned (.bool (Nt.stepsB n)) ∧ w = w' := by
  by_cases a : 0 ≤ n <;> by_cases b : n ≤ 60
  all_goals
    go_enter Try.func48, Try.ntmps48
    go_wp2
    go_ret
    exact ⟨by simp [Nt.stepsB, a, b], rfl⟩

set_option maxHeartbeats 1000000 in
theorem cloneInts_any (xs : List Int) (hp : 0 < xs.length) (hl : xs.length ≤ 1000) (w : World) (v : Value) (base : Nat) (hs : Sl w base v xs) :
    Calls Try.prog 63 #[v] w fun e w' => ∃ z, e = .returned z ∧ Sl w' w.heap.size z xs ∧ Kept [] w w' := by
  have qT : ∀ (w : World) (a : Option Addr) (n c n' c' : Nat), (binOp .eql 23 (.slice a n c) (.slice none n' c')).run Try.prog w = .ok (.bool a.isNone) w := fun w a n c n' c' => Lib.run_eql_slice_nil w _ _ a n c n' c' Try.underlying23
  have HE := Lib.hid (Sl.empty3 w)
  have HX := Lib.hid (hs.stay ((Kept.refl [] w).alloc (.cells #[] 3)))
  obtain ⟨n, hn⟩ : ∃ n, n = xs.length := ⟨_, rfl⟩
  obtain ⟨g, cap, rfl, _, _⟩ := hs.shape hn.symm (by omega)
  have HN := Lib.hid hn
  have HP := Lib.hid hp
  have HL := Lib.hid hl
  clear hs hn hp hl
  go_enter Try.func63, Try.ntmps63
  go_wp2_with (at_builtin; refine app_sl rfl _ _ rfl w.heap.size _ [] HE.out rfl _ _ xs HX.out HP.out rfl (by have := HL.out; simp; omega) (by simp) ?_; intro z w1 hs1 hk1; have HZ := Lib.hid hs1; have HK := Lib.hid (((Kept.refl [] w).alloc (.cells #[] 3)).own hk1 (fun g' hg' => by simp [Value.ownBlock] at hg'; omega)); clear hs1 hk1)
  go_ret
  exact ⟨_, rfl, by have h := HZ.out; rw [List.nil_append] at h; exact h, HK.out⟩

set_option maxHeartbeats 1000000 in
theorem equalInts_any (xs ys : List Int) (w : World) (v : Value) (base : Nat) (u : Value) (base' : Nat) (hs : Sl w base v xs) (ht : Sl w base' u ys) :
    Calls Try.prog 71 #[v, u] w fun e w' => e = .returned (.bool (decide (xs = ys))) ∧ Qt w w' := by
  obtain ⟨a, cap, rfl, _, hm, hc⟩ := hs.any
  obtain ⟨b, cap', rfl, _, hm', hc'⟩ := ht.any
  have HC := Lib.hid hc
  have HD := Lib.hid hc'
  clear hc hc' hs ht
  by_cases hl : xs.length = ys.length
  · have h0 : ((xs.length : Int) != (ys.length : Int)) = false := by simp [hl]
    have HL := Lib.hid hl
    clear hl
    go_enter Try.func71, Try.ntmps71
    go_wp2
    go_loopw [13] (fun n wr => ∃ k : Nat, k ≤ xs.length ∧ n = .int .i64 k ∧ sameTo xs ys k ∧ Qt w wr) (fun n _ => xs.length - (intOf n).toNat)
    case atStart => exact ⟨0, Nat.zero_le _, rfl, fun j hj => absurd hj (by omega), Qt.refl _⟩
    case round =>
      obtain ⟨k, hk, rfl, hsame, hq⟩ := hrel
      have HQ := Lib.hid hq
      have HS := Lib.hid hsame
      clear hsame
      by_cases hlt : k < xs.length
      · have hlt' : k < ys.length := by have := HL.out; omega
        obtain ⟨g, rfl, _, _, h1, _⟩ := HC.out k hlt
        obtain ⟨g', rfl, _, _, h2, _⟩ := HD.out k hlt'
        have c1 := (hq.cell _).trans h1
        have c2 := (hq.cell _).trans h2
        clear hq h1 h2
        generalize hx : xs.getD k 0 = x at *
        generalize hy : ys.getD k 0 = y at *
        have HX := Lib.hid hx
        have HY := Lib.hid hy
        clear hx hy
        by_cases e : x = y
        · have he : (x != y) = false := by simp [e]
          have HE := Lib.hid e
          clear e
          go_wp2_with fail
          go_quiet (fail)
          go_wp2
          go_roundw
          case rel => exact ⟨k + 1, by omega, by go_num, sameTo_succ HS.out (by rw [HX.out, HY.out, HE.out]), HQ.out.draw _⟩
          case measure => simp [intOf]; omega
        · have he : (x != y) = true := by simp [e]
          have HE := Lib.hid e
          clear e
          go_wp2_with fail
          go_quiet (fail)
          go_wp2
          go_ret
          exact ⟨by rw [dec_not (fun h => HE.out (by rw [← HX.out, ← HY.out, h]))]; rfl, HQ.out.draw _⟩
      · have hk' : k = xs.length := by omega
        subst hk'
        clear hq
        go_wp2
        go_ret
        exact ⟨by rw [dec_of (sameTo_all HS.out HL.out)]; rfl, HQ.out⟩
  · have h0 : ((xs.length : Int) != (ys.length : Int)) = true := by simp; omega
    have HL := Lib.hid hl
    clear hl
    go_enter Try.func71, Try.ntmps71
    go_wp2
    go_ret
    exact ⟨by rw [dec_not (fun h => HL.out (by rw [h]))]; rfl, Qt.refl _⟩
end Go.Proofs.Ytahjplaidkibpaa
