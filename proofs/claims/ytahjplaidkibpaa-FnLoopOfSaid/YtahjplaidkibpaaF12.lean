/-
  Walks: after how many steps all nodes are at rest, by the program and by the model.
-/
import Derived.Test.YtahjplaidkibpaaF11
namespace Go.Proofs.Ytahjplaidkibpaa
open Go.RowKit

set_option maxHeartbeats 1000000 in
theorem iEnds_any {a b : Int} (xs : List Int) (kinds : Int) (ys : List Int) (hL : Nt.LoopIs xs kinds ys a b) (w : World) (v : Value) (base : Nat) (u : Value) (base' : Nat) (hs : Sl w base v xs) (ht : Sl w base' u ys) :
    Calls Try.prog 30 #[v, .int .i64 kinds, u] w fun e w' => e = .returned (.int .i64 (Nt.endsOf a b)) ∧ Kept [] w w' := by
  have HL := Lib.hid hL
  have HS := Lib.hid hs
  have HT := Lib.hid ht
  obtain ⟨p, cap, rfl, _, hm, _⟩ := hs.any
  obtain ⟨p', cap', rfl, _, hm', _⟩ := ht.any
  clear hs ht hL
  go_enter Try.func30, Try.ntmps30
  go_wp2_with fail
  refine (iLoop_any xs kinds ys HL.out _ _ _ _ _ HS.out HT.out).mono ?_
  rintro e w1 ⟨rfl, hk⟩
  have HK := Lib.hid hk
  clear hk
  by_cases h1 : b = 1
  · have h1' : (b != 1) = false := by simp [h1]
    have HE : Hid (Nt.endsOf a b = a) := Lib.hid (by unfold Nt.endsOf; rw [if_pos h1])
    clear h1
    go_wp2_with fail
    go_ret
    exact ⟨by rw [HE.out]; rfl, HK.out⟩
  · have h1' : (b != 1) = true := by simp [h1]
    have HE : Hid (Nt.endsOf a b = -1) := Lib.hid (by unfold Nt.endsOf; rw [if_neg h1])
    clear h1
    go_wp2_with fail
    go_ret
    exact ⟨by rw [HE.out]; rfl, HK.out⟩

set_option maxHeartbeats 1000000 in
theorem sEndsNo_any {a b : Int} (xs : List Int) (kinds : Int) (ys : List Int) (hL : Nt.LoopIs xs kinds ys a b) (hn : a < 0 ∨ 1 < b) (hb : b ≠ 1) (w : World) (v : Value) (base : Nat) (u : Value) (base' : Nat) (hs : Sl w base v xs) (ht : Sl w base' u ys) :
    Calls Try.prog 31 #[v, .int .i64 kinds, u] w fun e w' => e = .returned (.int .i64 (Nt.endsOf a b)) ∧ Kept [] w w' := by
  have HL := Lib.hid hL
  have HS := Lib.hid hs
  have HT := Lib.hid ht
  have HE : Hid (Nt.endsOf a b = -1) := Lib.hid (by unfold Nt.endsOf; rw [if_neg hb])
  obtain ⟨p, cap, rfl, _, hm, _⟩ := hs.any
  obtain ⟨p', cap', rfl, _, hm', _⟩ := ht.any
  clear hs ht hL hb
  go_enter Try.func31, Try.ntmps31
  go_wp2_with fail
  refine (sLoop_any xs kinds ys HL.out _ _ _ _ _ HS.out HT.out).mono ?_
  rintro e w1 ⟨rfl, hk⟩
  have HK := Lib.hid hk
  clear hk
  by_cases ha : a < 0
  · clear hn
    go_wp2_with fail
    go_ret
    exact ⟨by rw [HE.out]; rfl, HK.out⟩
  · have hb1 : 1 < b := by omega
    clear hn
    go_wp2_with fail
    go_ret
    exact ⟨by rw [HE.out]; rfl, HK.out⟩

set_option maxHeartbeats 1000000 in
theorem sEndsOk_any (ns : List Nat) (c : Nat) (ks : List Nat) (ok : Nt.Ok ns) (st : Nt.St c ks) (hl : ks.length = ns.length) (m : Nat) (hloop : Nt.IsLoop (Nt.run ns c ks) m 1) (hb : m + 1 ≤ c ^ ks.length)
    (w : World) (v : Value) (base : Nat) (u : Value) (base' : Nat) (hs : Sl w base v (Nt.nats ns)) (ht : Sl w base' u (Nt.nats ks)) :
    Calls Try.prog 31 #[v, .int .i64 (c : Int), u] w fun e w' => e = .returned (.int .i64 (m : Int)) ∧ Kept [] w w' := by
  have hsm := Nt.loop_small st.c5 st.few hb
  have HX := Lib.hid (show 0 < (Nt.nats ks).length ∧ (Nt.nats ks).length ≤ 1000 from by rw [Nt.nats_length]; have := st.some; have := st.few; omega)
  obtain ⟨n, hn⟩ : ∃ n, n = ks.length := ⟨_, rfl⟩
  have hp := st.some
  have h6 := st.few
  have HS := Lib.hid hs
  have HT := Lib.hid ht
  have HOK := Lib.hid ok
  have HST := Lib.hid st
  have HL := Lib.hid hl
  have HLP := Lib.hid hloop
  have HB := Lib.hid hb
  have HZ : Hid (∀ k, (Nt.run ns c ks m).getD k 0 = 0) := Lib.hid (fun k => by rw [Nt.loop_rest st hloop, Nt.rest_get])
  have HRL : Hid ((Nt.run ns c ks m).length = n) := Lib.hid (by rw [Nt.run_length, hn])
  rw [← hn] at hp h6
  obtain ⟨p, cap, rfl, _, hm, _⟩ := hs.any
  obtain ⟨p', cap', rfl, _, hm', _⟩ := ht.any
  clear hs ht ok st hl hloop hb hn
  go_enter Try.func31, Try.ntmps31
  go_wp2_with fail
  refine (sLoopOk_any ns c ks HOK.out HST.out HL.out m 1 HLP.out HB.out _ _ _ _ _ HS.out HT.out).mono ?_
  rintro e w1 ⟨rfl, hk⟩
  have HK := Lib.hid hk
  have HS1 := Lib.hid (HS.out.stay hk)
  have HT1 := Lib.hid ((HT.out.stay hk).stay ((Kept.refl [] w1).alloc (.cells #[] 3)))
  have HE := Lib.hid (Sl.empty3 w1)
  clear hk HS HT
  go_wp2_with (at_builtin; refine app_sl rfl _ _ rfl w1.heap.size _ [] HE.out rfl _ _ (Nt.nats ks) HT1.out HX.out.1 rfl (by have := HX.out.2; simp; omega) (by simp) ?_; intro z w2 hs2 hk2; have HZ2 := Lib.hid hs2; have HK2 := Lib.hid (((Kept.refl [] w1).alloc (.cells #[] 3)).own hk2 (fun g' hg' => by simp [Value.ownBlock] at hg'; omega)); clear hs2 hk2)
  have hz0 : Sl w2 w1.heap.size z (Nt.nats (Nt.run ns c ks 0)) := by have h := HZ2.out; rw [List.nil_append] at h; exact h
  have HZ0 := Lib.hid hz0
  clear hz0 HZ2 HT1 HE HX
  go_loopw [9, 10] (fun z i wr => ∃ k : Nat, k ≤ m ∧ i = .int .i64 k ∧ Sl wr w1.heap.size z (Nt.nats (Nt.run ns c ks k)) ∧ Kept [] w1 wr) (fun _ i _ => m - (intOf i).toNat)
  case atStart => exact ⟨0, Nat.zero_le _, rfl, HZ0.out, HK2.out⟩
  case round =>
    clear HZ0 HK2
    obtain ⟨k, hk, rfl, hsl, hkept⟩ := hrel
    have HSL := Lib.hid hsl
    have HKR := Lib.hid hkept
    clear hsl hkept
    by_cases hlt : k < m
    · go_wp2_with fail
      refine (l3Step_any ns c (Nt.run ns c ks k) HOK.out (Nt.run_st ns HST.out k) (by rw [Nt.run_length]; exact HL.out) _ _ _ _ _ (HS1.out.stay HKR.out) HSL.out).mono ?_
      rintro e w3 ⟨z3, rfl, hs3, hk3⟩
      have HS3 := Lib.hid (hs3.mono HKR.out.size)
      have HK3 := Lib.hid (HKR.out.trans hk3 (by simp))
      clear hs3 hk3
      go_wp2_with fail
      go_roundw
      case rel => exact ⟨k + 1, by omega, by go_num, HS3.out, HK3.out⟩
      case measure => simp [intOf]; omega
    · have hk' : k = m := by omega
      subst hk'
      obtain ⟨g, capz, rfl, hg, hc⟩ := HSL.out.row HRL.out hp
      have HC := Lib.hid hc
      clear hc hlt
      go_wp2_with fail
      go_loop [11] (fun i => ∃ j : Nat, j ≤ n ∧ i = .int .i64 j) (fun i => n - (intOf i).toNat)
      case atStart => exact ⟨0, Nat.zero_le _, rfl⟩
      case round =>
        obtain ⟨j, hj, rfl⟩ := hrel
        by_cases hlj : j < n
        · have hcell := HC.out j hlj
          rw [HZ.out j] at hcell
          go_wp2
          go_round
          case rel => exact ⟨j + 1, by omega, by go_num⟩
          case measure => simp [intOf]; omega
        · have hj' : j = n := by omega
          subst hj'
          go_wp2
          go_ret
          exact ⟨rfl, HK.out.trans HKR.out (by simp)⟩

theorem sEnds_any {a b : Int} (xs : List Int) (kinds : Int) (ys : List Int) (hL : Nt.LoopIs xs kinds ys a b) (w : World) (v : Value) (base : Nat) (u : Value) (base' : Nat) (hs : Sl w base v xs) (ht : Sl w base' u ys) :
    Calls Try.prog 31 #[v, .int .i64 kinds, u] w fun e w' => e = .returned (.int .i64 (Nt.endsOf a b)) ∧ Kept [] w w' := by
  by_cases hn : (a < 0 ∨ 1 < b) ∧ b ≠ 1
  · exact sEndsNo_any xs kinds ys hL hn.1 hn.2 w v base u base' hs ht
  · rcases hL with ⟨ns, c, ks, m, l, rfl, rfl, rfl, ok, st, hl, hloop, hb, rfl, rfl⟩ | ⟨ho, rfl, rfl⟩
    · have h1 := hloop.pos
      have e : l = 1 := by omega
      subst e
      exact (sEndsOk_any ns c ks ok st hl m hloop hb w v base u base' hs ht).mono fun e w' h => ⟨by rw [h.1]; rfl, h.2⟩
    · omega
end Go.Proofs.Ytahjplaidkibpaa
