/-
  Walks: loops of states, by the model.
-/
import Derived.Test.YtahjplaidkibpaaF10
namespace Go.Proofs.Ytahjplaidkibpaa
open Go.RowKit

set_option maxHeartbeats 2000000 in
theorem sLoopOk_any (ns : List Nat) (c : Nat) (ks : List Nat) (ok : Nt.Ok ns) (st : Nt.St c ks) (hl : ks.length = ns.length) (m l : Nat) (hloop : Nt.IsLoop (Nt.run ns c ks) m l) (hb : m + l ≤ c ^ ks.length)
    (w : World) (v : Value) (base : Nat) (u : Value) (base' : Nat) (hs : Sl w base v (Nt.nats ns)) (ht : Sl w base' u (Nt.nats ks)) :
    Calls Try.prog 28 #[v, .int .i64 (c : Int), u] w fun e w' => e = .returned (.tuple #[.int .i64 (m : Int), .int .i64 (l : Int)]) ∧ Kept [] w w' := by
  have ho := Nt.fireB_yes ok st hl
  have hsm := Nt.loop_small st.c5 st.few hb
  have tells := Nt.run_tells ns c ks
  obtain ⟨i0, hi1, hi2, hmeet, hfirst⟩ := hloop.first_meet tells
  have HX := Lib.hid (show 0 < (Nt.nats ks).length ∧ (Nt.nats ks).length ≤ 1000 from by rw [Nt.nats_length]; have := st.some; have := st.few; omega)
  have HS0 := Lib.hid hs
  have HT0 := Lib.hid ht
  obtain ⟨a, cap, rfl, _, hm, _⟩ := hs.any
  obtain ⟨a', cap', rfl, _, hm', _⟩ := ht.any
  have HM := Lib.hid hmeet
  have HFM := Lib.hid hfirst
  have HBM := Lib.hid (meet_behind hloop tells hi1 hmeet)
  have HTM := Lib.hid (fun k => hloop.third_meet (k := k))
  have HOK := Lib.hid ok
  have HST := Lib.hid st
  have HL := Lib.hid hl
  have HLE := Lib.hid (fun t t' => show (Nt.nats (Nt.run ns c ks t)).length = (Nt.nats (Nt.run ns c ks t')).length from by rw [Nt.nats_length, Nt.nats_length, Nt.run_length, Nt.run_length])
  have hlpos := hloop.pos
  have HR0 : Hid (Nt.run ns c ks 0 = ks) := Lib.hid rfl
  have HRS : Hid (∀ t, Nt.step ns c (Nt.run ns c ks t) = Nt.run ns c ks (t + 1)) := Lib.hid (fun _ => rfl)
  have HSTT := Lib.hid (fun t => Nt.run_st ns st t)
  have HLT := Lib.hid (fun t => (Nt.run_length ns c ks t).trans hl)
  clear hs ht hmeet hfirst hloop tells ok st hl hb
  go_enter Try.func28, Try.ntmps28
  go_wp2_with fail
  refine (l3Ok_any _ _ _ _ _ _ _ _ HS0.out HT0.out).mono ?_
  rintro e w0 ⟨rfl, hq⟩
  rw [ho]
  have HK0 := Lib.hid hq.kept
  have HN := Lib.hid (hq.sl HS0.out)
  have HS : Hid (Sl w0 0 _ (Nt.nats (Nt.run ns c ks 0))) := Lib.hid (hq.sl HT0.out).zero
  have HSTEP := Lib.hid (fun (t : Nat) (w2 : World) (v2 : Value) (hs2 : Sl w2 0 v2 (Nt.nats (Nt.run ns c ks t))) (hj : Kept [] w0 w2) =>
    (l3Step_any ns c (Nt.run ns c ks t) HOK.out (HSTT.out t) (HLT.out t) w2 _ base v2 0 (HN.out.stay hj) hs2).mono fun e w' h => (show ∃ z, e = .returned z ∧ Sl w' 0 z (Nt.nats (Nt.run ns c ks (t + 1))) ∧ Kept [] w2 w' from by
      obtain ⟨z, h1, h2, h3⟩ := h
      exact ⟨z, h1, h2.zero, h3⟩))
  clear hq ho
  generalize Nt.run ns c ks = s at *
  go_wp2_with fail
  refine (HSTEP.out 0 _ _ HS.out (Kept.refl _ _)).mono ?_
  rintro e w1 ⟨z1, rfl, hs1, hk1⟩
  have HS1 := Lib.hid hs1
  have HK1 := Lib.hid hk1
  clear hs1 hk1
  go_wp2_with fail
  refine (HSTEP.out 1 _ _ HS1.out HK1.out).mono ?_
  rintro e w2 ⟨z2, rfl, hs2, hk2⟩
  have HA2 := Lib.hid (HS1.out.stay hk2)
  have HB2 := Lib.hid hs2
  have HK2 := Lib.hid (HK1.out.trans hk2 (by simp))
  clear hs2 hk2 HS1 HK1
  go_wp2_with fail
  go_loopg [8, 9] i0 (fun g p q wr => ∃ i : Nat, 1 ≤ i ∧ i ≤ i0 ∧ i0 - i ≤ g ∧ Sl wr 0 p (Nt.nats (s i)) ∧ Sl wr 0 q (Nt.nats (s (i + i))) ∧ Kept [] w0 wr)
  case atStart => exact ⟨1, Nat.le_refl _, hi1, by omega, HA2.out, HB2.out, HK2.out⟩
  case round =>
    clear HA2 HB2 HK2
    obtain ⟨i, h1, h2, hg, hp, hq, hk⟩ := hrel
    have HP := Lib.hid hp
    have HQ := Lib.hid hq
    have HK := Lib.hid hk
    clear hp hq hk
    by_cases hlt : i < i0
    · have HNE := Lib.hid (HFM.out i h1 hlt)
      go_wp2_with fail
      refine (l3Same_any _ _ (HLE.out _ _) _ _ _ _ _ HP.out HQ.out).mono ?_
      rintro e w3 ⟨rfl, hqt⟩
      rw [dec_nats, decide_eq_false HNE.out]
      have HP3 := Lib.hid (hqt.sl HP.out)
      have HQ3 := Lib.hid (hqt.sl HQ.out)
      have HK3 := Lib.hid (HK.out.trans hqt.kept (by simp))
      clear hqt HP HQ HK
      go_wp2_with fail
      refine (HSTEP.out i _ _ HP3.out HK3.out).mono ?_
      rintro e w4 ⟨z4, rfl, hs4, hk4⟩
      have HP4 := Lib.hid hs4
      have HQ4 := Lib.hid (HQ3.out.stay hk4)
      have HK4 := Lib.hid (HK3.out.trans hk4 (by simp))
      clear hs4 hk4 HP3 HQ3 HK3
      go_wp2_with fail
      refine (HSTEP.out (i + i) _ _ HQ4.out HK4.out).mono ?_
      rintro e w5 ⟨z5, rfl, hs5, hk5⟩
      have HP5 := Lib.hid (HP4.out.stay hk5)
      have HQ5 := Lib.hid hs5
      have HK5 := Lib.hid (HK4.out.trans hk5 (by simp))
      clear hs5 hk5 HP4 HQ4 HK4
      go_wp2_with fail
      refine (HSTEP.out (i + i + 1) _ _ HQ5.out HK5.out).mono ?_
      rintro e w6 ⟨z6, rfl, hs6, hk6⟩
      have HP6 := Lib.hid (HP5.out.stay hk6)
      have HQ6 := Lib.hid hs6
      have HK6 := Lib.hid (HK5.out.trans hk6 (by simp))
      clear hs6 hk6 HP5 HQ5 HK5
      go_wp2_with fail
      go_roundg (i0 - (i + 1))
      case measure => omega
      case rel => exact ⟨i + 1, by omega, by omega, Nat.le_refl _, HP6.out, by rw [show i + 1 + (i + 1) = i + i + 1 + 1 by omega]; exact HQ6.out, HK6.out⟩
    · have hi' : i = i0 := by omega
      subst hi'
      go_wp2_with fail
      refine (l3Same_any _ _ (HLE.out _ _) _ _ _ _ _ HP.out HQ.out).mono ?_
      rintro e w3 ⟨rfl, hqt⟩
      rw [dec_nats, decide_eq_true HM.out]
      have HQ3 := Lib.hid (hqt.sl HQ.out)
      have HK3 := Lib.hid (HK.out.trans hqt.kept (by simp))
      have HT3 := Lib.hid (((HT0.out.stay HK0.out).stay HK3.out).stay ((Kept.refl [] w3).alloc (.cells #[] 3)))
      have HE3 := Lib.hid (Sl.empty3 w3)
      clear hqt HP HQ HK hg hlt
      go_wp2_with (at_builtin; refine app_sl rfl _ _ rfl w3.heap.size _ [] HE3.out rfl _ _ (Nt.nats ks) HT3.out HX.out.1 rfl (by have := HX.out.2; simp; omega) (by simp) ?_; intro z w4 hs4 hk4; have HZ := Lib.hid hs4; have HK4 := Lib.hid (((Kept.refl [] w3).alloc (.cells #[] 3)).own hk4 (fun g' hg' => by simp [Value.ownBlock] at hg'; omega)); clear hs4 hk4)
      have hz0 : Sl w4 0 z (Nt.nats (s 0)) := by rw [HR0.out]; have h := HZ.out.zero; rw [List.nil_append] at h; exact h
      have HS4 := Lib.hid hz0
      have HQ4 := Lib.hid (HQ3.out.stay HK4.out)
      have HK5 := Lib.hid (HK3.out.trans HK4.out (by simp))
      clear hz0 HZ HE3 HT3 HQ3 HK3 HK4
      go_loopw [8, 9, 10] (fun p q n wr => ∃ b : Nat, b ≤ m ∧ n = .int .i64 b ∧ Sl wr 0 p (Nt.nats (s b)) ∧ Sl wr 0 q (Nt.nats (s (i + i + b))) ∧ Kept [] w0 wr) (fun _ _ n _ => m - (intOf n).toNat)
      case atStart => exact ⟨0, Nat.zero_le _, rfl, HS4.out, HQ4.out, HK5.out⟩
      case round =>
        clear HS4 HQ4 HK5
        obtain ⟨b, hbm, rfl, hp, hq, hk⟩ := hrel
        have HP := Lib.hid hp
        have HQ := Lib.hid hq
        have HK := Lib.hid hk
        clear hp hq hk
        by_cases hlt : b < m
        · have HNE : Hid (¬ s b = s (i + i + b)) := Lib.hid (fun e => by have := (HBM.out b).1 e; omega)
          go_wp2_with fail
          refine (l3Same_any _ _ (HLE.out _ _) _ _ _ _ _ HP.out HQ.out).mono ?_
          rintro e w3 ⟨rfl, hqt⟩
          rw [dec_nats, decide_eq_false HNE.out]
          have HP3 := Lib.hid (hqt.sl HP.out)
          have HQ3 := Lib.hid (hqt.sl HQ.out)
          have HK3 := Lib.hid (HK.out.trans hqt.kept (by simp))
          clear hqt HP HQ HK
          go_wp2_with fail
          refine (HSTEP.out b _ _ HP3.out HK3.out).mono ?_
          rintro e w4 ⟨z4, rfl, hs4, hk4⟩
          have HP4 := Lib.hid hs4
          have HQ4 := Lib.hid (HQ3.out.stay hk4)
          have HK4 := Lib.hid (HK3.out.trans hk4 (by simp))
          clear hs4 hk4 HP3 HQ3 HK3
          go_wp2_with fail
          refine (HSTEP.out (i + i + b) _ _ HQ4.out HK4.out).mono ?_
          rintro e w5 ⟨z5, rfl, hs5, hk5⟩
          have HP5 := Lib.hid (HP4.out.stay hk5)
          have HQ5 := Lib.hid hs5
          have HK5 := Lib.hid (HK4.out.trans hk5 (by simp))
          clear hs5 hk5 HP4 HQ4 HK4
          go_wp2_with fail
          go_roundw
          case rel => exact ⟨b + 1, by omega, by go_num, HP5.out, HQ5.out, HK5.out⟩
          case measure => simp [intOf]; omega
        · have hb' : b = m := by omega
          subst hb'
          go_wp2_with fail
          refine (l3Same_any _ _ (HLE.out _ _) _ _ _ _ _ HP.out HQ.out).mono ?_
          rintro e w3 ⟨rfl, hqt⟩
          rw [dec_nats, decide_eq_true ((HBM.out b).2 (Nat.le_refl _))]
          have HP3 := Lib.hid (hqt.sl HP.out)
          have HK3 := Lib.hid (HK.out.trans hqt.kept (by simp))
          clear hqt HP HQ HK hlt
          go_wp2_with fail
          refine (HSTEP.out b _ _ HP3.out HK3.out).mono ?_
          rintro e w4 ⟨z4, rfl, hs4, hk4⟩
          have HP4 := Lib.hid (HP3.out.stay hk4)
          have HQ4 := Lib.hid hs4
          have HK4 := Lib.hid (HK3.out.trans hk4 (by simp))
          clear hs4 hk4 HP3 HK3
          go_wp2_with fail
          go_loopw [9, 11] (fun q n wr => ∃ k : Nat, 1 ≤ k ∧ k ≤ l ∧ n = .int .i64 k ∧ Sl wr 0 q (Nt.nats (s (b + k))) ∧ Kept [] w4 wr) (fun _ n _ => l - (intOf n).toNat)
          case atStart => exact ⟨1, Nat.le_refl _, hlpos, rfl, HQ4.out, Kept.refl _ _⟩
          case round =>
            clear HQ4
            obtain ⟨k, hk1, hkl, rfl, hq, hk⟩ := hrel
            have HQ := Lib.hid hq
            have HKW := Lib.hid hk
            have HP := Lib.hid (HP4.out.stay hk)
            have HK := Lib.hid (HK4.out.trans hk (by simp))
            clear hq hk
            by_cases hlt : k < l
            · have HNE : Hid (¬ s b = s (b + k)) := Lib.hid (fun e => by have := (HTM.out k hk1 hkl).1 e; omega)
              go_wp2_with fail
              refine (l3Same_any _ _ (HLE.out _ _) _ _ _ _ _ HP.out HQ.out).mono ?_
              rintro e w5 ⟨rfl, hqt⟩
              rw [dec_nats, decide_eq_false HNE.out]
              have HQ5 := Lib.hid (hqt.sl HQ.out)
              have HK5 := Lib.hid (HK.out.trans hqt.kept (by simp))
              have HKW5 := Lib.hid (HKW.out.trans hqt.kept (by simp))
              clear hqt HP HQ HK HKW
              go_wp2_with fail
              refine (HSTEP.out (b + k) _ _ HQ5.out HK5.out).mono ?_
              rintro e w6 ⟨z6, rfl, hs6, hk6⟩
              have HQ6 := Lib.hid hs6
              have HKW6 := Lib.hid (HKW5.out.trans hk6 (by simp))
              clear hs6 hk6 HQ5 HK5 HKW5
              go_wp2_with fail
              go_roundw
              case rel => exact ⟨k + 1, by omega, by omega, by go_num, HQ6.out, HKW6.out⟩
              case measure => simp [intOf]; omega
            · have hk' : k = l := by omega
              subst hk'
              go_wp2_with fail
              refine (l3Same_any _ _ (HLE.out _ _) _ _ _ _ _ HP.out HQ.out).mono ?_
              rintro e w5 ⟨rfl, hqt⟩
              rw [dec_nats, decide_eq_true ((HTM.out k hk1 hkl).2 rfl)]
              have HK5 := Lib.hid (HK.out.trans hqt.kept (by simp))
              clear hqt HP HQ HK HKW
              go_wp2_with fail
              go_ret2
              exact ⟨rfl, HK0.out.trans HK5.out (by simp)⟩

set_option maxHeartbeats 1000000 in
theorem sLoopNo_any (xs : List Int) (kinds : Int) (ys : List Int) (ho : Nt.fireB xs kinds ys = false) (w : World) (v : Value) (base : Nat) (u : Value) (base' : Nat) (hs : Sl w base v xs) (ht : Sl w base' u ys) :
    Calls Try.prog 28 #[v, .int .i64 kinds, u] w fun e w' => e = .returned (.tuple #[.int .i64 (-1), .int .i64 (-1)]) ∧ Kept [] w w' := by
  have HS := Lib.hid hs
  have HT := Lib.hid ht
  obtain ⟨a, cap, rfl, _, hm, _⟩ := hs.any
  obtain ⟨a', cap', rfl, _, hm', _⟩ := ht.any
  clear hs ht
  go_enter Try.func28, Try.ntmps28
  go_wp2_with fail
  refine (l3Ok_any xs kinds ys _ _ _ _ _ HS.out HT.out).mono ?_
  rintro e w1 ⟨rfl, hq⟩
  rw [ho]
  have HK1 := Lib.hid hq.kept
  clear hq
  go_wp2_with fail
  go_ret2
  exact ⟨rfl, HK1.out⟩

theorem sLoop_any {a b : Int} (xs : List Int) (kinds : Int) (ys : List Int) (hL : Nt.LoopIs xs kinds ys a b) (w : World) (v : Value) (base : Nat) (u : Value) (base' : Nat) (hs : Sl w base v xs) (ht : Sl w base' u ys) :
    Calls Try.prog 28 #[v, .int .i64 kinds, u] w fun e w' => e = .returned (.tuple #[.int .i64 a, .int .i64 b]) ∧ Kept [] w w' := by
  rcases hL with ⟨ns, c, ks, m, l, rfl, rfl, rfl, ok, st, hl, hloop, hb, rfl, rfl⟩ | ⟨ho, rfl, rfl⟩
  · exact sLoopOk_any ns c ks ok st hl m l hloop hb w v base u base' hs ht
  · exact sLoopNo_any xs kinds ys ho w v base u base' hs ht
end Go.Proofs.Ytahjplaidkibpaa
