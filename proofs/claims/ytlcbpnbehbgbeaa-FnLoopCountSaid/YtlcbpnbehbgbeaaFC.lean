/-
  Walks: loops found by two runners, for any function that steps; loops of states, by the program.
  Walks: loops of states, by the program; states compared by the model.
  Walks: loops of states, by the model.
  Walks: after how many steps all nodes are at rest, by the program and by the model.
-/
import Derived.Test.YtlcbpnbehbgbeaaFA
import Derived.Deep.LoopGhost
namespace Go.Proofs.Ytlcbpnbehbgbeaa
open Go.RowKit

theorem meet_behind {α : Type} {s : Nat → α} {m l i : Nat} (h : Nt.IsLoop s m l) (t : Nt.Tells s) (hi : 1 ≤ i) (e : s i = s (i + i)) (b : Nat) : s b = s (i + i + b) ↔ m ≤ b := by
  have h1 := (h.runners t hi).1 e.symm
  have h2 : (i + i) % l = 0 := by rw [Nat.add_mod, h1.2]; simp
  have h3 := h.meets t (a := b) (d := i + i) (by omega)
  rw [Nat.add_comm b] at h3
  constructor
  · intro e2
    exact (h3.1 e2.symm).1
  · intro hb
    exact (h3.2 ⟨hb, h2⟩).symm

theorem dec_nats (a b : List Nat) : decide (Nt.nats a = Nt.nats b) = decide (a = b) := by
  by_cases h : a = b
  · subst h; simp
  · rw [decide_eq_false h, decide_eq_false (fun e => h (Nt.nats_inj e))]

theorem Sl.zero {w : World} {base : Nat} {v : Value} {xs : List Int} (h : Sl w base v xs) : Sl w 0 v xs := h.mono (Nat.zero_le _)

set_option maxHeartbeats 2000000 in
set_option maxRecDepth 100000 in
/-- Two runners over a row of things, each of which a function leads to the next one. -/
theorem loopFrom_any (F : Nat) (caps : Array Value) (s : Nat → List Nat) (m l : Nat) (hloop : Nt.IsLoop s m l) (tells : Nt.Tells s) (hb : m + l ≤ 1000000) (w0 : World)
    (hent : ∀ (args : Array Value) (w : World), Sem.run Try.prog (callFunc F args) w = .ok (.enter F args) w)
    (hstep : ∀ t (w : World) (v : Value), Sl w 0 v (Nt.nats (s t)) → Kept [] w0 w → Calls Try.prog F (#[v] ++ caps) w fun e w' => ∃ z, e = .returned z ∧ Sl w' 0 z (Nt.nats (s (t + 1))) ∧ Kept [] w w')
    (v : Value) (base : Nat) (hs : Sl w0 base v (Nt.nats (s 0))) :
    Calls Try.prog 93 #[v, .func (.func F) #[] caps] w0 fun e w' => e = .returned (.tuple #[.int .i64 (m : Int), .int .i64 (l : Int)]) ∧ Kept [] w0 w' := by
  obtain ⟨i0, hi1, hi2, hmeet, hfirst⟩ := hloop.first_meet tells
  have HENT := Lib.hid hent
  have HSTEP := Lib.hid hstep
  have HS := Lib.hid hs.zero
  have HM := Lib.hid hmeet
  have HFM := Lib.hid hfirst
  have HBM := Lib.hid (meet_behind hloop tells hi1 hmeet)
  have HTM := Lib.hid (fun k => hloop.third_meet (k := k))
  have hlpos := hloop.pos
  obtain ⟨a, cap, rfl, _, _, _⟩ := hs.any
  clear hs hent hstep hmeet hfirst hloop tells
  go_enter Try.func93, Try.ntmps93
  go_wp2_with fail
  rw [HENT.out, Oper.upon_enter]
  refine (HSTEP.out 0 _ _ HS.out (Kept.refl _ _)).mono ?_
  rintro e w1 ⟨z1, rfl, hs1, hk1⟩
  have HS1 := Lib.hid hs1
  have HK1 := Lib.hid hk1
  clear hs1 hk1
  go_wp2_with fail
  rw [HENT.out, Oper.upon_enter]
  refine (HSTEP.out 1 _ _ HS1.out HK1.out).mono ?_
  rintro e w2 ⟨z2, rfl, hs2, hk2⟩
  have HA2 := Lib.hid (HS1.out.stay hk2)
  have HB2 := Lib.hid hs2
  have HK2 := Lib.hid (HK1.out.trans hk2 (by simp))
  clear hs2 hk2 HS1 HK1
  go_wp2_with fail
  go_loopg [6, 7] i0 (fun g p q wr => ∃ i : Nat, 1 ≤ i ∧ i ≤ i0 ∧ i0 - i ≤ g ∧ Sl wr 0 p (Nt.nats (s i)) ∧ Sl wr 0 q (Nt.nats (s (i + i))) ∧ Kept [] w0 wr)
  case atStart => exact ⟨1, Nat.le_refl _, hi1, by omega, HA2.out, HB2.out, HK2.out⟩
  case round =>
    clear HA2 HB2 HK2
    obtain ⟨i, h1, h2, hg, hp, hq, hk⟩ := hrel
    have HP := Lib.hid hp
    have HQ := Lib.hid hq
    have HK := Lib.hid hk
    clear hp hq hk
    by_cases hlt : i < i0
    · have HNE := Lib.hid (HFM.out i h1 hlt)
      go_wp2_with fail
      refine (equalInts_any _ _ _ _ _ _ _ HP.out HQ.out).mono ?_
      rintro e w3 ⟨rfl, hqt⟩
      rw [dec_nats, decide_eq_false HNE.out]
      have HP3 := Lib.hid (hqt.sl HP.out)
      have HQ3 := Lib.hid (hqt.sl HQ.out)
      have HK3 := Lib.hid (HK.out.trans hqt.kept (by simp))
      clear hqt HP HQ HK
      go_wp2_with fail
      rw [HENT.out, Oper.upon_enter]
      refine (HSTEP.out i _ _ HP3.out HK3.out).mono ?_
      rintro e w4 ⟨z4, rfl, hs4, hk4⟩
      have HP4 := Lib.hid hs4
      have HQ4 := Lib.hid (HQ3.out.stay hk4)
      have HK4 := Lib.hid (HK3.out.trans hk4 (by simp))
      clear hs4 hk4 HP3 HQ3 HK3
      go_wp2_with fail
      rw [HENT.out, Oper.upon_enter]
      refine (HSTEP.out (i + i) _ _ HQ4.out HK4.out).mono ?_
      rintro e w5 ⟨z5, rfl, hs5, hk5⟩
      have HP5 := Lib.hid (HP4.out.stay hk5)
      have HQ5 := Lib.hid hs5
      have HK5 := Lib.hid (HK4.out.trans hk5 (by simp))
      clear hs5 hk5 HP4 HQ4 HK4
      go_wp2_with fail
      rw [HENT.out, Oper.upon_enter]
      refine (HSTEP.out (i + i + 1) _ _ HQ5.out HK5.out).mono ?_
      rintro e w6 ⟨z6, rfl, hs6, hk6⟩
      have HP6 := Lib.hid (HP5.out.stay hk6)
      have HQ6 := Lib.hid hs6
      have HK6 := Lib.hid (HK5.out.trans hk6 (by simp))
      clear hs6 hk6 HP5 HQ5 HK5
      go_wp2_with fail
      go_roundg (i0 - (i + 1))
      case measure => omega
      case rel => exact ⟨i + 1, by omega, by omega, Nat.le_refl _, HP6.out, by rw [show i + 1 + (i + 1) = i + i + 1 + 1 by omega]; exact HQ6.out, HK6.out⟩
    · have hi' : i = i0 := by omega
      subst hi'
      go_wp2_with fail
      refine (equalInts_any _ _ _ _ _ _ _ HP.out HQ.out).mono ?_
      rintro e w3 ⟨rfl, hqt⟩
      rw [dec_nats, decide_eq_true HM.out]
      have HQ3 := Lib.hid (hqt.sl HQ.out)
      have HK3 := Lib.hid (HK.out.trans hqt.kept (by simp))
      have HS3 := Lib.hid (HS.out.stay HK3.out)
      clear hqt HP HQ HK hg hlt
      go_wp2_with fail
      go_loopw [6, 7, 8] (fun p q n wr => ∃ b : Nat, b ≤ m ∧ n = .int .i64 b ∧ Sl wr 0 p (Nt.nats (s b)) ∧ Sl wr 0 q (Nt.nats (s (i + i + b))) ∧ Kept [] w0 wr) (fun _ _ n _ => m - (intOf n).toNat)
      case atStart => exact ⟨0, Nat.zero_le _, rfl, HS3.out, HQ3.out, HK3.out⟩
      case round =>
        clear HS3 HQ3 HK3
        obtain ⟨b, hbm, rfl, hp, hq, hk⟩ := hrel
        have HP := Lib.hid hp
        have HQ := Lib.hid hq
        have HK := Lib.hid hk
        clear hp hq hk
        by_cases hlt : b < m
        · have HNE : Hid (¬ s b = s (i + i + b)) := Lib.hid (fun e => by have := (HBM.out b).1 e; omega)
          go_wp2_with fail
          refine (equalInts_any _ _ _ _ _ _ _ HP.out HQ.out).mono ?_
          rintro e w3 ⟨rfl, hqt⟩
          rw [dec_nats, decide_eq_false HNE.out]
          have HP3 := Lib.hid (hqt.sl HP.out)
          have HQ3 := Lib.hid (hqt.sl HQ.out)
          have HK3 := Lib.hid (HK.out.trans hqt.kept (by simp))
          clear hqt HP HQ HK
          go_wp2_with fail
          rw [HENT.out, Oper.upon_enter]
          refine (HSTEP.out b _ _ HP3.out HK3.out).mono ?_
          rintro e w4 ⟨z4, rfl, hs4, hk4⟩
          have HP4 := Lib.hid hs4
          have HQ4 := Lib.hid (HQ3.out.stay hk4)
          have HK4 := Lib.hid (HK3.out.trans hk4 (by simp))
          clear hs4 hk4 HP3 HQ3 HK3
          go_wp2_with fail
          rw [HENT.out, Oper.upon_enter]
          refine (HSTEP.out (i + i + b) _ _ HQ4.out HK4.out).mono ?_
          rintro e w5 ⟨z5, rfl, hs5, hk5⟩
          have HP5 := Lib.hid (HP4.out.stay hk5)
          have HQ5 := Lib.hid hs5
          have HK5 := Lib.hid (HK4.out.trans hk5 (by simp))
          clear hs5 hk5 HP4 HQ4 HK4
          go_wp2_with fail
          go_roundw
          case rel => exact ⟨b + 1, by omega, by go_num, HP5.out, HQ5.out, HK5.out⟩
          case measure => simp [intOf]; omega
        · have hb' : b = m := by omega
          subst hb'
          go_wp2_with fail
          refine (equalInts_any _ _ _ _ _ _ _ HP.out HQ.out).mono ?_
          rintro e w3 ⟨rfl, hqt⟩
          rw [dec_nats, decide_eq_true ((HBM.out b).2 (Nat.le_refl _))]
          have HP3 := Lib.hid (hqt.sl HP.out)
          have HK3 := Lib.hid (HK.out.trans hqt.kept (by simp))
          clear hqt HP HQ HK hlt
          go_wp2_with fail
          rw [HENT.out, Oper.upon_enter]
          refine (HSTEP.out b _ _ HP3.out HK3.out).mono ?_
          rintro e w4 ⟨z4, rfl, hs4, hk4⟩
          have HP4 := Lib.hid (HP3.out.stay hk4)
          have HQ4 := Lib.hid hs4
          have HK4 := Lib.hid (HK3.out.trans hk4 (by simp))
          clear hs4 hk4 HP3 HK3
          go_wp2_with fail
          go_loopw [7, 9] (fun q n wr => ∃ k : Nat, 1 ≤ k ∧ k ≤ l ∧ n = .int .i64 k ∧ Sl wr 0 q (Nt.nats (s (b + k))) ∧ Kept [] w4 wr) (fun _ n _ => l - (intOf n).toNat)
          case atStart => exact ⟨1, Nat.le_refl _, hlpos, rfl, HQ4.out, Kept.refl _ _⟩
          case round =>
            clear HQ4
            obtain ⟨k, hk1, hkl, rfl, hq, hk⟩ := hrel
            have HQ := Lib.hid hq
            have HKW := Lib.hid hk
            have HP := Lib.hid (HP4.out.stay hk)
            have HK := Lib.hid (HK4.out.trans hk (by simp))
            clear hq hk
            by_cases hlt : k < l
            · have HNE : Hid (¬ s b = s (b + k)) := Lib.hid (fun e => by have := (HTM.out k hk1 hkl).1 e; omega)
              go_wp2_with fail
              refine (equalInts_any _ _ _ _ _ _ _ HP.out HQ.out).mono ?_
              rintro e w5 ⟨rfl, hqt⟩
              rw [dec_nats, decide_eq_false HNE.out]
              have HQ5 := Lib.hid (hqt.sl HQ.out)
              have HK5 := Lib.hid (HK.out.trans hqt.kept (by simp))
              have HKW5 := Lib.hid (HKW.out.trans hqt.kept (by simp))
              clear hqt HP HQ HK HKW
              go_wp2_with fail
              rw [HENT.out, Oper.upon_enter]
              refine (HSTEP.out (b + k) _ _ HQ5.out HK5.out).mono ?_
              rintro e w6 ⟨z6, rfl, hs6, hk6⟩
              have HQ6 := Lib.hid hs6
              have HKW6 := Lib.hid (HKW5.out.trans hk6 (by simp))
              clear hs6 hk6 HQ5 HK5 HKW5
              go_wp2_with fail
              go_roundw
              case rel => exact ⟨k + 1, by omega, by omega, by go_num, HQ6.out, HKW6.out⟩
              case measure => simp [intOf]; omega
            · have hk' : k = l := by omega
              subst hk'
              go_wp2_with fail
              refine (equalInts_any _ _ _ _ _ _ _ HP.out HQ.out).mono ?_
              rintro e w5 ⟨rfl, hqt⟩
              rw [dec_nats, decide_eq_true ((HTM.out k hk1 hkl).2 rfl)]
              have HK5 := Lib.hid (HK.out.trans hqt.kept (by simp))
              clear hqt HP HQ HK HKW
              go_wp2_with fail
              go_ret2
              exact ⟨rfl, HK5.out⟩
end Go.Proofs.Ytlcbpnbehbgbeaa

namespace Go.Proofs.Ytlcbpnbehbgbeaa
open Go.RowKit

set_option maxHeartbeats 400000 in
set_option maxRecDepth 100000 in
theorem loop1_any (ns : List Nat) (c : Nat) (ks : List Nat) (ok : Nt.Ok ns) (st : Nt.St c ks) (hl : ks.length = ns.length) (w : World) (v : Value) (base : Nat) (u : Value) (base' : Nat) (b1 b2 : Nat)
    (hA : w.cell? ⟨b1, 0, none⟩ = some v) (hK : w.cell? ⟨b2, 0, none⟩ = some (.int .i64 (c : Int))) (hs : Sl w base v (Nt.nats ns)) (ht : Sl w base' u (Nt.nats ks)) :
    Calls Try.prog 94 #[u, .pointer (some ⟨b1, 0, none⟩), .pointer (some ⟨b2, 0, none⟩)] w fun e w' => ∃ z, e = .returned z ∧ Sl w' w.heap.size z (Nt.nats (Nt.step ns c ks)) ∧ Kept [] w w' := by
  have HS := Lib.hid hs
  have HT := Lib.hid ht
  have HOK := Lib.hid ok
  have HST := Lib.hid st
  have HL := Lib.hid hl
  obtain ⟨n, hn⟩ : ∃ n, n = ks.length := ⟨_, rfl⟩
  obtain ⟨g, cap, rfl, _, _⟩ := hs.row (n := n) (by omega) (by have := ok.some; omega)
  obtain ⟨g2, cap2, rfl, _, _⟩ := ht.row (n := n) (by omega) (by have := st.some; omega)
  clear hs ht ok st hl hn
  go_enter Try.func94, Try.ntmps94
  go_wp2_with fail
  refine (firedState_any ns c ks HOK.out HST.out HL.out _ _ _ _ _ HS.out HT.out).mono ?_
  rintro e w1 ⟨z, rfl, hs1, hk1⟩
  have HS1 := Lib.hid hs1
  have HK1 := Lib.hid hk1
  clear hs1 hk1
  go_wp2_with fail
  go_ret
  exact ⟨_, rfl, HS1.out, HK1.out⟩

theorem enter_loop1 (args : Array Value) (w : World) : Sem.run Try.prog (callFunc 94 args) w = .ok (.enter 94 args) w := by kernel_rfl

set_option maxHeartbeats 1000000 in
set_option maxRecDepth 100000 in
theorem iLoopOk_any (ns : List Nat) (c : Nat) (ks : List Nat) (ok : Nt.Ok ns) (st : Nt.St c ks) (hl : ks.length = ns.length) (m l : Nat) (hloop : Nt.IsLoop (Nt.run ns c ks) m l) (hb : m + l ≤ c ^ ks.length)
    (w : World) (v : Value) (base : Nat) (u : Value) (base' : Nat) (hs : Sl w base v (Nt.nats ns)) (ht : Sl w base' u (Nt.nats ks)) :
    Calls Try.prog 65 #[v, .int .i64 (c : Int), u] w fun e w' => e = .returned (.tuple #[.int .i64 (m : Int), .int .i64 (l : Int)]) ∧ Kept [] w w' := by
  have hmf : ∀ (fn : Fn) (first cap : Array Value) (w : World), (Instr.makeFunc fn first cap).run Try.prog w = .ok (.func fn first cap) w := fun _ _ _ _ => rfl
  obtain ⟨hk1, ha, hbb, hsz⟩ := two_boxes w 23 v (c : Int)
  have ho := Nt.fireB_yes ok st hl
  have hsm := Nt.loop_small st.c5 st.few hb
  have HK1 := Lib.hid hk1
  have HA := Lib.hid ha
  have HB := Lib.hid hbb
  have HSZ := Lib.hid hsz
  have HS1 := Lib.hid (hs.stay hk1)
  have HT1 := Lib.hid (ht.stay hk1)
  have HOK := Lib.hid ok
  have HST := Lib.hid st
  have HL := Lib.hid hl
  have HLP := Lib.hid hloop
  obtain ⟨a, cap, rfl, _, hm, _⟩ := hs.any
  obtain ⟨a', cap', rfl, _, hm', _⟩ := ht.any
  clear hs ht hk1 ha hbb hsz ok st hl hloop hb
  go_enter Try.func65, Try.ntmps65
  go_wp2_with (go_at_call 42; refine (firingOk_any _ _ _ _ _ _ _ _ HS1.out HT1.out).mono ?_; rintro e w' ⟨rfl, rfl⟩; rw [ho])
  generalize hw1 : (w.alloc (.cells #[Value.slice a (Nt.nats ns).length cap] 23)).alloc (.cells #[.int .i64 (c : Int)] 3) = w1 at *
  refine (loopFrom_any 94 #[.pointer (some ⟨w.heap.size, 0, none⟩), .pointer (some ⟨w.heap.size + 1, 0, none⟩)] (Nt.run ns c ks) m l HLP.out (Nt.run_tells ns c ks) (by omega) w1 enter_loop1 ?_ _ base' HT1.out).mono ?_
  · intro t' w2 v2 hs2 hj
    have hz := HSZ.out
    have h := loop1_any ns c (Nt.run ns c ks t') HOK.out (Nt.run_st ns HST.out t') (by rw [Nt.run_length]; exact HL.out) w2 _ base v2 0 w.heap.size (w.heap.size + 1)
      ((hj.cell (p := ⟨w.heap.size, 0, none⟩) (by show w.heap.size < w1.heap.size; omega) (by simp)).trans HA.out) ((hj.cell (p := ⟨w.heap.size + 1, 0, none⟩) (by show w.heap.size + 1 < w1.heap.size; omega) (by simp)).trans HB.out) (HS1.out.stay hj) hs2
    refine Calls.mono (by simpa using h) ?_
    rintro e w3 ⟨z, rfl, hs3, hk3⟩
    exact ⟨z, rfl, hs3.zero, hk3⟩
  · rintro e w2 ⟨rfl, hk2⟩
    have HK2 := Lib.hid (HK1.out.trans hk2 (by simp))
    clear hk2
    go_wp2_with fail
    go_ret2
    exact ⟨rfl, HK2.out⟩

set_option maxHeartbeats 1000000 in
set_option maxRecDepth 100000 in
theorem iLoopNo_any (xs : List Int) (kinds : Int) (ys : List Int) (ho : Nt.fireB xs kinds ys = false) (w : World) (v : Value) (base : Nat) (u : Value) (base' : Nat) (hs : Sl w base v xs) (ht : Sl w base' u ys) :
    Calls Try.prog 65 #[v, .int .i64 kinds, u] w fun e w' => e = .returned (.tuple #[.int .i64 (-1), .int .i64 (-1)]) ∧ Kept [] w w' := by
  obtain ⟨hk1, ha, hb, hsz⟩ := two_boxes w 23 v kinds
  have HK1 := Lib.hid hk1
  have HS1 := Lib.hid (hs.stay hk1)
  have HT1 := Lib.hid (ht.stay hk1)
  obtain ⟨a, cap, rfl, _, hm, _⟩ := hs.any
  obtain ⟨a', cap', rfl, _, hm', _⟩ := ht.any
  clear hs ht hk1 ha hb hsz
  go_enter Try.func65, Try.ntmps65
  go_wp2_with (go_at_call 42; refine (firingOk_any xs kinds ys _ _ _ _ _ HS1.out HT1.out).mono ?_; rintro e w' ⟨rfl, rfl⟩; rw [ho])
  go_ret2
  exact ⟨rfl, HK1.out⟩

theorem iLoop_any {a b : Int} (xs : List Int) (kinds : Int) (ys : List Int) (hL : Nt.LoopIs xs kinds ys a b) (w : World) (v : Value) (base : Nat) (u : Value) (base' : Nat) (hs : Sl w base v xs) (ht : Sl w base' u ys) :
    Calls Try.prog 65 #[v, .int .i64 kinds, u] w fun e w' => e = .returned (.tuple #[.int .i64 a, .int .i64 b]) ∧ Kept [] w w' := by
  rcases hL with ⟨ns, c, ks, m, l, rfl, rfl, rfl, ok, st, hl, hloop, hb, rfl, rfl⟩ | ⟨ho, rfl, rfl⟩
  · exact iLoopOk_any ns c ks ok st hl m l hloop hb w v base u base' hs ht
  · exact iLoopNo_any xs kinds ys ho w v base u base' hs ht

set_option maxHeartbeats 1000000 in
set_option maxRecDepth 100000 in
theorem l3Same_any (xs ys : List Int) (hl : xs.length = ys.length) (w : World) (v : Value) (base : Nat) (u : Value) (base' : Nat) (hs : Sl w base v xs) (ht : Sl w base' u ys) :
    Calls Try.prog 49 #[v, u] w fun e w' => e = .returned (.bool (decide (xs = ys))) ∧ Qt w w' := by
  obtain ⟨a, cap, rfl, _, hm, hc⟩ := hs.any
  obtain ⟨b, cap', rfl, _, hm', hc'⟩ := ht.any
  have HC := Lib.hid hc
  have HD := Lib.hid hc'
  have HL := Lib.hid hl
  clear hc hc' hs ht hl
  go_enter Try.func49, Try.ntmps49
  go_wp2
  go_loopw [5] (fun n wr => ∃ k : Nat, k ≤ xs.length ∧ n = .int .i64 k ∧ sameTo xs ys k ∧ Qt w wr) (fun n _ => xs.length - (intOf n).toNat)
  case atStart => exact ⟨0, Nat.zero_le _, rfl, fun j hj => absurd hj (by omega), Qt.refl _⟩
  case round =>
    obtain ⟨k, hk, rfl, hsame, hq⟩ := hrel
    have HQ := Lib.hid hq
    have HS := Lib.hid hsame
    clear hsame
    by_cases hlt : k < xs.length
    · have hlt' : k < ys.length := by have := HL.out; omega
      obtain ⟨g, rfl, _, _, h1, _⟩ := HC.out k hlt
      obtain ⟨g', rfl, _, _, h2, _⟩ := HD.out k hlt'
      have c1 := (hq.cell _).trans h1
      have c2 := (hq.cell _).trans h2
      clear hq h1 h2
      generalize hx : xs.getD k 0 = x at *
      generalize hy : ys.getD k 0 = y at *
      have HX := Lib.hid hx
      have HY := Lib.hid hy
      clear hx hy
      by_cases e : x = y
      · have he : (x != y) = false := by simp [e]
        have HE := Lib.hid e
        clear e
        go_wp2_with fail
        go_quiet (fail)
        go_wp2
        go_roundw
        case rel => exact ⟨k + 1, by omega, by go_num, sameTo_succ HS.out (by rw [HX.out, HY.out, HE.out]), HQ.out.draw _⟩
        case measure => simp [intOf]; omega
      · have he : (x != y) = true := by simp [e]
        have HE := Lib.hid e
        clear e
        go_wp2_with fail
        go_quiet (fail)
        go_wp2
        go_ret
        exact ⟨by rw [dec_not (fun h => HE.out (by rw [← HX.out, ← HY.out, h]))]; rfl, HQ.out.draw _⟩
    · have hk' : k = xs.length := by omega
      subst hk'
      clear hq
      go_wp2
      go_ret
      exact ⟨by rw [dec_of (sameTo_all HS.out HL.out)]; rfl, HQ.out⟩
end Go.Proofs.Ytlcbpnbehbgbeaa

namespace Go.Proofs.Ytlcbpnbehbgbeaa
open Go.RowKit

set_option maxHeartbeats 2000000 in
set_option maxRecDepth 100000 in
theorem sLoopOk_any (ns : List Nat) (c : Nat) (ks : List Nat) (ok : Nt.Ok ns) (st : Nt.St c ks) (hl : ks.length = ns.length) (m l : Nat) (hloop : Nt.IsLoop (Nt.run ns c ks) m l) (hb : m + l ≤ c ^ ks.length)
    (w : World) (v : Value) (base : Nat) (u : Value) (base' : Nat) (hs : Sl w base v (Nt.nats ns)) (ht : Sl w base' u (Nt.nats ks)) :
    Calls Try.prog 66 #[v, .int .i64 (c : Int), u] w fun e w' => e = .returned (.tuple #[.int .i64 (m : Int), .int .i64 (l : Int)]) ∧ Kept [] w w' := by
  have ho := Nt.fireB_yes ok st hl
  have hsm := Nt.loop_small st.c5 st.few hb
  have tells := Nt.run_tells ns c ks
  obtain ⟨i0, hi1, hi2, hmeet, hfirst⟩ := hloop.first_meet tells
  have HX := Lib.hid (show 0 < (Nt.nats ks).length ∧ (Nt.nats ks).length ≤ 1000 from by rw [Nt.nats_length]; have := st.some; have := st.few; omega)
  have HS0 := Lib.hid hs
  have HT0 := Lib.hid ht
  obtain ⟨a, cap, rfl, _, hm, _⟩ := hs.any
  obtain ⟨a', cap', rfl, _, hm', _⟩ := ht.any
  have HM := Lib.hid hmeet
  have HFM := Lib.hid hfirst
  have HBM := Lib.hid (meet_behind hloop tells hi1 hmeet)
  have HTM := Lib.hid (fun k => hloop.third_meet (k := k))
  have HOK := Lib.hid ok
  have HST := Lib.hid st
  have HL := Lib.hid hl
  have HLE := Lib.hid (fun t t' => show (Nt.nats (Nt.run ns c ks t)).length = (Nt.nats (Nt.run ns c ks t')).length from by rw [Nt.nats_length, Nt.nats_length, Nt.run_length, Nt.run_length])
  have hlpos := hloop.pos
  have HR0 : Hid (Nt.run ns c ks 0 = ks) := Lib.hid rfl
  have HRS : Hid (∀ t, Nt.step ns c (Nt.run ns c ks t) = Nt.run ns c ks (t + 1)) := Lib.hid (fun _ => rfl)
  have HSTT := Lib.hid (fun t => Nt.run_st ns st t)
  have HLT := Lib.hid (fun t => (Nt.run_length ns c ks t).trans hl)
  clear hs ht hmeet hfirst hloop tells ok st hl hb
  go_enter Try.func66, Try.ntmps66
  go_wp2_with fail
  refine (l3Ok_any _ _ _ _ _ _ _ _ HS0.out HT0.out).mono ?_
  rintro e w0 ⟨rfl, hq⟩
  rw [ho]
  have HK0 := Lib.hid hq.kept
  have HN := Lib.hid (hq.sl HS0.out)
  have HS : Hid (Sl w0 0 _ (Nt.nats (Nt.run ns c ks 0))) := Lib.hid (hq.sl HT0.out).zero
  have HSTEP := Lib.hid (fun (t : Nat) (w2 : World) (v2 : Value) (hs2 : Sl w2 0 v2 (Nt.nats (Nt.run ns c ks t))) (hj : Kept [] w0 w2) =>
    (l3Step_any ns c (Nt.run ns c ks t) HOK.out (HSTT.out t) (HLT.out t) w2 _ base v2 0 (HN.out.stay hj) hs2).mono fun e w' h => (show ∃ z, e = .returned z ∧ Sl w' 0 z (Nt.nats (Nt.run ns c ks (t + 1))) ∧ Kept [] w2 w' from by
      obtain ⟨z, h1, h2, h3⟩ := h
      exact ⟨z, h1, h2.zero, h3⟩))
  clear hq ho
  generalize Nt.run ns c ks = s at *
  go_wp2_with fail
  refine (HSTEP.out 0 _ _ HS.out (Kept.refl _ _)).mono ?_
  rintro e w1 ⟨z1, rfl, hs1, hk1⟩
  have HS1 := Lib.hid hs1
  have HK1 := Lib.hid hk1
  clear hs1 hk1
  go_wp2_with fail
  refine (HSTEP.out 1 _ _ HS1.out HK1.out).mono ?_
  rintro e w2 ⟨z2, rfl, hs2, hk2⟩
  have HA2 := Lib.hid (HS1.out.stay hk2)
  have HB2 := Lib.hid hs2
  have HK2 := Lib.hid (HK1.out.trans hk2 (by simp))
  clear hs2 hk2 HS1 HK1
  go_wp2_with fail
  go_loopg [8, 9] i0 (fun g p q wr => ∃ i : Nat, 1 ≤ i ∧ i ≤ i0 ∧ i0 - i ≤ g ∧ Sl wr 0 p (Nt.nats (s i)) ∧ Sl wr 0 q (Nt.nats (s (i + i))) ∧ Kept [] w0 wr)
  case atStart => exact ⟨1, Nat.le_refl _, hi1, by omega, HA2.out, HB2.out, HK2.out⟩
  case round =>
    clear HA2 HB2 HK2
    obtain ⟨i, h1, h2, hg, hp, hq, hk⟩ := hrel
    have HP := Lib.hid hp
    have HQ := Lib.hid hq
    have HK := Lib.hid hk
    clear hp hq hk
    by_cases hlt : i < i0
    · have HNE := Lib.hid (HFM.out i h1 hlt)
      go_wp2_with fail
      refine (l3Same_any _ _ (HLE.out _ _) _ _ _ _ _ HP.out HQ.out).mono ?_
      rintro e w3 ⟨rfl, hqt⟩
      rw [dec_nats, decide_eq_false HNE.out]
      have HP3 := Lib.hid (hqt.sl HP.out)
      have HQ3 := Lib.hid (hqt.sl HQ.out)
      have HK3 := Lib.hid (HK.out.trans hqt.kept (by simp))
      clear hqt HP HQ HK
      go_wp2_with fail
      refine (HSTEP.out i _ _ HP3.out HK3.out).mono ?_
      rintro e w4 ⟨z4, rfl, hs4, hk4⟩
      have HP4 := Lib.hid hs4
      have HQ4 := Lib.hid (HQ3.out.stay hk4)
      have HK4 := Lib.hid (HK3.out.trans hk4 (by simp))
      clear hs4 hk4 HP3 HQ3 HK3
      go_wp2_with fail
      refine (HSTEP.out (i + i) _ _ HQ4.out HK4.out).mono ?_
      rintro e w5 ⟨z5, rfl, hs5, hk5⟩
      have HP5 := Lib.hid (HP4.out.stay hk5)
      have HQ5 := Lib.hid hs5
      have HK5 := Lib.hid (HK4.out.trans hk5 (by simp))
      clear hs5 hk5 HP4 HQ4 HK4
      go_wp2_with fail
      refine (HSTEP.out (i + i + 1) _ _ HQ5.out HK5.out).mono ?_
      rintro e w6 ⟨z6, rfl, hs6, hk6⟩
      have HP6 := Lib.hid (HP5.out.stay hk6)
      have HQ6 := Lib.hid hs6
      have HK6 := Lib.hid (HK5.out.trans hk6 (by simp))
      clear hs6 hk6 HP5 HQ5 HK5
      go_wp2_with fail
      go_roundg (i0 - (i + 1))
      case measure => omega
      case rel => exact ⟨i + 1, by omega, by omega, Nat.le_refl _, HP6.out, by rw [show i + 1 + (i + 1) = i + i + 1 + 1 by omega]; exact HQ6.out, HK6.out⟩
    · have hi' : i = i0 := by omega
      subst hi'
      go_wp2_with fail
      refine (l3Same_any _ _ (HLE.out _ _) _ _ _ _ _ HP.out HQ.out).mono ?_
      rintro e w3 ⟨rfl, hqt⟩
      rw [dec_nats, decide_eq_true HM.out]
      have HQ3 := Lib.hid (hqt.sl HQ.out)
      have HK3 := Lib.hid (HK.out.trans hqt.kept (by simp))
      have HT3 := Lib.hid (((HT0.out.stay HK0.out).stay HK3.out).stay ((Kept.refl [] w3).alloc (.cells #[] 3)))
      have HE3 := Lib.hid (Sl.empty3 w3)
      clear hqt HP HQ HK hg hlt
      go_wp2_with (at_builtin; refine app_sl rfl _ _ rfl w3.heap.size _ [] HE3.out rfl _ _ (Nt.nats ks) HT3.out HX.out.1 rfl (by have := HX.out.2; simp; omega) (by simp) ?_; intro z w4 hs4 hk4; have HZ := Lib.hid hs4; have HK4 := Lib.hid (((Kept.refl [] w3).alloc (.cells #[] 3)).own hk4 (fun g' hg' => by simp [Value.ownBlock] at hg'; omega)); clear hs4 hk4)
      have hz0 : Sl w4 0 z (Nt.nats (s 0)) := by rw [HR0.out]; have h := HZ.out.zero; rw [List.nil_append] at h; exact h
      have HS4 := Lib.hid hz0
      have HQ4 := Lib.hid (HQ3.out.stay HK4.out)
      have HK5 := Lib.hid (HK3.out.trans HK4.out (by simp))
      clear hz0 HZ HE3 HT3 HQ3 HK3 HK4
      go_loopw [8, 9, 10] (fun p q n wr => ∃ b : Nat, b ≤ m ∧ n = .int .i64 b ∧ Sl wr 0 p (Nt.nats (s b)) ∧ Sl wr 0 q (Nt.nats (s (i + i + b))) ∧ Kept [] w0 wr) (fun _ _ n _ => m - (intOf n).toNat)
      case atStart => exact ⟨0, Nat.zero_le _, rfl, HS4.out, HQ4.out, HK5.out⟩
      case round =>
        clear HS4 HQ4 HK5
        obtain ⟨b, hbm, rfl, hp, hq, hk⟩ := hrel
        have HP := Lib.hid hp
        have HQ := Lib.hid hq
        have HK := Lib.hid hk
        clear hp hq hk
        by_cases hlt : b < m
        · have HNE : Hid (¬ s b = s (i + i + b)) := Lib.hid (fun e => by have := (HBM.out b).1 e; omega)
          go_wp2_with fail
          refine (l3Same_any _ _ (HLE.out _ _) _ _ _ _ _ HP.out HQ.out).mono ?_
          rintro e w3 ⟨rfl, hqt⟩
          rw [dec_nats, decide_eq_false HNE.out]
          have HP3 := Lib.hid (hqt.sl HP.out)
          have HQ3 := Lib.hid (hqt.sl HQ.out)
          have HK3 := Lib.hid (HK.out.trans hqt.kept (by simp))
          clear hqt HP HQ HK
          go_wp2_with fail
          refine (HSTEP.out b _ _ HP3.out HK3.out).mono ?_
          rintro e w4 ⟨z4, rfl, hs4, hk4⟩
          have HP4 := Lib.hid hs4
          have HQ4 := Lib.hid (HQ3.out.stay hk4)
          have HK4 := Lib.hid (HK3.out.trans hk4 (by simp))
          clear hs4 hk4 HP3 HQ3 HK3
          go_wp2_with fail
          refine (HSTEP.out (i + i + b) _ _ HQ4.out HK4.out).mono ?_
          rintro e w5 ⟨z5, rfl, hs5, hk5⟩
          have HP5 := Lib.hid (HP4.out.stay hk5)
          have HQ5 := Lib.hid hs5
          have HK5 := Lib.hid (HK4.out.trans hk5 (by simp))
          clear hs5 hk5 HP4 HQ4 HK4
          go_wp2_with fail
          go_roundw
          case rel => exact ⟨b + 1, by omega, by go_num, HP5.out, HQ5.out, HK5.out⟩
          case measure => simp [intOf]; omega
        · have hb' : b = m := by omega
          subst hb'
          go_wp2_with fail
          refine (l3Same_any _ _ (HLE.out _ _) _ _ _ _ _ HP.out HQ.out).mono ?_
          rintro e w3 ⟨rfl, hqt⟩
          rw [dec_nats, decide_eq_true ((HBM.out b).2 (Nat.le_refl _))]
          have HP3 := Lib.hid (hqt.sl HP.out)
          have HK3 := Lib.hid (HK.out.trans hqt.kept (by simp))
          clear hqt HP HQ HK hlt
          go_wp2_with fail
          refine (HSTEP.out b _ _ HP3.out HK3.out).mono ?_
          rintro e w4 ⟨z4, rfl, hs4, hk4⟩
          have HP4 := Lib.hid (HP3.out.stay hk4)
          have HQ4 := Lib.hid hs4
          have HK4 := Lib.hid (HK3.out.trans hk4 (by simp))
          clear hs4 hk4 HP3 HK3
          go_wp2_with fail
          go_loopw [9, 11] (fun q n wr => ∃ k : Nat, 1 ≤ k ∧ k ≤ l ∧ n = .int .i64 k ∧ Sl wr 0 q (Nt.nats (s (b + k))) ∧ Kept [] w4 wr) (fun _ n _ => l - (intOf n).toNat)
          case atStart => exact ⟨1, Nat.le_refl _, hlpos, rfl, HQ4.out, Kept.refl _ _⟩
          case round =>
            clear HQ4
            obtain ⟨k, hk1, hkl, rfl, hq, hk⟩ := hrel
            have HQ := Lib.hid hq
            have HKW := Lib.hid hk
            have HP := Lib.hid (HP4.out.stay hk)
            have HK := Lib.hid (HK4.out.trans hk (by simp))
            clear hq hk
            by_cases hlt : k < l
            · have HNE : Hid (¬ s b = s (b + k)) := Lib.hid (fun e => by have := (HTM.out k hk1 hkl).1 e; omega)
              go_wp2_with fail
              refine (l3Same_any _ _ (HLE.out _ _) _ _ _ _ _ HP.out HQ.out).mono ?_
              rintro e w5 ⟨rfl, hqt⟩
              rw [dec_nats, decide_eq_false HNE.out]
              have HQ5 := Lib.hid (hqt.sl HQ.out)
              have HK5 := Lib.hid (HK.out.trans hqt.kept (by simp))
              have HKW5 := Lib.hid (HKW.out.trans hqt.kept (by simp))
              clear hqt HP HQ HK HKW
              go_wp2_with fail
              refine (HSTEP.out (b + k) _ _ HQ5.out HK5.out).mono ?_
              rintro e w6 ⟨z6, rfl, hs6, hk6⟩
              have HQ6 := Lib.hid hs6
              have HKW6 := Lib.hid (HKW5.out.trans hk6 (by simp))
              clear hs6 hk6 HQ5 HK5 HKW5
              go_wp2_with fail
              go_roundw
              case rel => exact ⟨k + 1, by omega, by omega, by go_num, HQ6.out, HKW6.out⟩
              case measure => simp [intOf]; omega
            · have hk' : k = l := by omega
              subst hk'
              go_wp2_with fail
              refine (l3Same_any _ _ (HLE.out _ _) _ _ _ _ _ HP.out HQ.out).mono ?_
              rintro e w5 ⟨rfl, hqt⟩
              rw [dec_nats, decide_eq_true ((HTM.out k hk1 hkl).2 rfl)]
              have HK5 := Lib.hid (HK.out.trans hqt.kept (by simp))
              clear hqt HP HQ HK HKW
              go_wp2_with fail
              go_ret2
              exact ⟨rfl, HK0.out.trans HK5.out (by simp)⟩

set_option maxHeartbeats 1000000 in
set_option maxRecDepth 100000 in
theorem sLoopNo_any (xs : List Int) (kinds : Int) (ys : List Int) (ho : Nt.fireB xs kinds ys = false) (w : World) (v : Value) (base : Nat) (u : Value) (base' : Nat) (hs : Sl w base v xs) (ht : Sl w base' u ys) :
    Calls Try.prog 66 #[v, .int .i64 kinds, u] w fun e w' => e = .returned (.tuple #[.int .i64 (-1), .int .i64 (-1)]) ∧ Kept [] w w' := by
  have HS := Lib.hid hs
  have HT := Lib.hid ht
  obtain ⟨a, cap, rfl, _, hm, _⟩ := hs.any
  obtain ⟨a', cap', rfl, _, hm', _⟩ := ht.any
  clear hs ht
  go_enter Try.func66, Try.ntmps66
  go_wp2_with fail
  refine (l3Ok_any xs kinds ys _ _ _ _ _ HS.out HT.out).mono ?_
  rintro e w1 ⟨rfl, hq⟩
  rw [ho]
  have HK1 := Lib.hid hq.kept
  clear hq
  go_wp2_with fail
  go_ret2
  exact ⟨rfl, HK1.out⟩

theorem sLoop_any {a b : Int} (xs : List Int) (kinds : Int) (ys : List Int) (hL : Nt.LoopIs xs kinds ys a b) (w : World) (v : Value) (base : Nat) (u : Value) (base' : Nat) (hs : Sl w base v xs) (ht : Sl w base' u ys) :
    Calls Try.prog 66 #[v, .int .i64 kinds, u] w fun e w' => e = .returned (.tuple #[.int .i64 a, .int .i64 b]) ∧ Kept [] w w' := by
  rcases hL with ⟨ns, c, ks, m, l, rfl, rfl, rfl, ok, st, hl, hloop, hb, rfl, rfl⟩ | ⟨ho, rfl, rfl⟩
  · exact sLoopOk_any ns c ks ok st hl m l hloop hb w v base u base' hs ht
  · exact sLoopNo_any xs kinds ys ho w v base u base' hs ht
end Go.Proofs.Ytlcbpnbehbgbeaa

namespace Go.Proofs.Ytlcbpnbehbgbeaa
open Go.RowKit

set_option maxHeartbeats 1000000 in
set_option maxRecDepth 100000 in
theorem iEnds_any {a b : Int} (xs : List Int) (kinds : Int) (ys : List Int) (hL : Nt.LoopIs xs kinds ys a b) (w : World) (v : Value) (base : Nat) (u : Value) (base' : Nat) (hs : Sl w base v xs) (ht : Sl w base' u ys) :
    Calls Try.prog 59 #[v, .int .i64 kinds, u] w fun e w' => e = .returned (.int .i64 (Nt.endsOf a b)) ∧ Kept [] w w' := by
  have HL := Lib.hid hL
  have HS := Lib.hid hs
  have HT := Lib.hid ht
  obtain ⟨p, cap, rfl, _, hm, _⟩ := hs.any
  obtain ⟨p', cap', rfl, _, hm', _⟩ := ht.any
  clear hs ht hL
  go_enter Try.func59, Try.ntmps59
  go_wp2_with fail
  refine (iLoop_any xs kinds ys HL.out _ _ _ _ _ HS.out HT.out).mono ?_
  rintro e w1 ⟨rfl, hk⟩
  have HK := Lib.hid hk
  clear hk
  by_cases h1 : b = 1
  · have h1' : (b != 1) = false := by simp [h1]
    have HE : Hid (Nt.endsOf a b = a) := Lib.hid (by unfold Nt.endsOf; rw [if_pos h1])
    clear h1
    go_wp2_with fail
    go_ret
    exact ⟨by rw [HE.out]; rfl, HK.out⟩
  · have h1' : (b != 1) = true := by simp [h1]
    have HE : Hid (Nt.endsOf a b = -1) := Lib.hid (by unfold Nt.endsOf; rw [if_neg h1])
    clear h1
    go_wp2_with fail
    go_ret
    exact ⟨by rw [HE.out]; rfl, HK.out⟩

set_option maxHeartbeats 1000000 in
set_option maxRecDepth 100000 in
theorem sEndsNo_any {a b : Int} (xs : List Int) (kinds : Int) (ys : List Int) (hL : Nt.LoopIs xs kinds ys a b) (hn : a < 0 ∨ 1 < b) (hb : b ≠ 1) (w : World) (v : Value) (base : Nat) (u : Value) (base' : Nat) (hs : Sl w base v xs) (ht : Sl w base' u ys) :
    Calls Try.prog 60 #[v, .int .i64 kinds, u] w fun e w' => e = .returned (.int .i64 (Nt.endsOf a b)) ∧ Kept [] w w' := by
  have HL := Lib.hid hL
  have HS := Lib.hid hs
  have HT := Lib.hid ht
  have HE : Hid (Nt.endsOf a b = -1) := Lib.hid (by unfold Nt.endsOf; rw [if_neg hb])
  obtain ⟨p, cap, rfl, _, hm, _⟩ := hs.any
  obtain ⟨p', cap', rfl, _, hm', _⟩ := ht.any
  clear hs ht hL hb
  go_enter Try.func60, Try.ntmps60
  go_wp2_with fail
  refine (sLoop_any xs kinds ys HL.out _ _ _ _ _ HS.out HT.out).mono ?_
  rintro e w1 ⟨rfl, hk⟩
  have HK := Lib.hid hk
  clear hk
  by_cases ha : a < 0
  · clear hn
    go_wp2_with fail
    go_ret
    exact ⟨by rw [HE.out]; rfl, HK.out⟩
  · have hb1 : 1 < b := by omega
    clear hn
    go_wp2_with fail
    go_ret
    exact ⟨by rw [HE.out]; rfl, HK.out⟩

set_option maxHeartbeats 1000000 in
set_option maxRecDepth 100000 in
theorem sEndsOk_any (ns : List Nat) (c : Nat) (ks : List Nat) (ok : Nt.Ok ns) (st : Nt.St c ks) (hl : ks.length = ns.length) (m : Nat) (hloop : Nt.IsLoop (Nt.run ns c ks) m 1) (hb : m + 1 ≤ c ^ ks.length)
    (w : World) (v : Value) (base : Nat) (u : Value) (base' : Nat) (hs : Sl w base v (Nt.nats ns)) (ht : Sl w base' u (Nt.nats ks)) :
    Calls Try.prog 60 #[v, .int .i64 (c : Int), u] w fun e w' => e = .returned (.int .i64 (m : Int)) ∧ Kept [] w w' := by
  have hsm := Nt.loop_small st.c5 st.few hb
  have HX := Lib.hid (show 0 < (Nt.nats ks).length ∧ (Nt.nats ks).length ≤ 1000 from by rw [Nt.nats_length]; have := st.some; have := st.few; omega)
  obtain ⟨n, hn⟩ : ∃ n, n = ks.length := ⟨_, rfl⟩
  have hp := st.some
  have h6 := st.few
  have HS := Lib.hid hs
  have HT := Lib.hid ht
  have HOK := Lib.hid ok
  have HST := Lib.hid st
  have HL := Lib.hid hl
  have HLP := Lib.hid hloop
  have HB := Lib.hid hb
  have HZ : Hid (∀ k, (Nt.run ns c ks m).getD k 0 = 0) := Lib.hid (fun k => by rw [Nt.loop_rest st hloop, Nt.rest_get])
  have HRL : Hid ((Nt.run ns c ks m).length = n) := Lib.hid (by rw [Nt.run_length, hn])
  rw [← hn] at hp h6
  obtain ⟨p, cap, rfl, _, hm, _⟩ := hs.any
  obtain ⟨p', cap', rfl, _, hm', _⟩ := ht.any
  clear hs ht ok st hl hloop hb hn
  go_enter Try.func60, Try.ntmps60
  go_wp2_with fail
  refine (sLoopOk_any ns c ks HOK.out HST.out HL.out m 1 HLP.out HB.out _ _ _ _ _ HS.out HT.out).mono ?_
  rintro e w1 ⟨rfl, hk⟩
  have HK := Lib.hid hk
  have HS1 := Lib.hid (HS.out.stay hk)
  have HT1 := Lib.hid ((HT.out.stay hk).stay ((Kept.refl [] w1).alloc (.cells #[] 3)))
  have HE := Lib.hid (Sl.empty3 w1)
  clear hk HS HT
  go_wp2_with (at_builtin; refine app_sl rfl _ _ rfl w1.heap.size _ [] HE.out rfl _ _ (Nt.nats ks) HT1.out HX.out.1 rfl (by have := HX.out.2; simp; omega) (by simp) ?_; intro z w2 hs2 hk2; have HZ2 := Lib.hid hs2; have HK2 := Lib.hid (((Kept.refl [] w1).alloc (.cells #[] 3)).own hk2 (fun g' hg' => by simp [Value.ownBlock] at hg'; omega)); clear hs2 hk2)
  have hz0 : Sl w2 w1.heap.size z (Nt.nats (Nt.run ns c ks 0)) := by have h := HZ2.out; rw [List.nil_append] at h; exact h
  have HZ0 := Lib.hid hz0
  clear hz0 HZ2 HT1 HE HX
  go_loopw [9, 10] (fun z i wr => ∃ k : Nat, k ≤ m ∧ i = .int .i64 k ∧ Sl wr w1.heap.size z (Nt.nats (Nt.run ns c ks k)) ∧ Kept [] w1 wr) (fun _ i _ => m - (intOf i).toNat)
  case atStart => exact ⟨0, Nat.zero_le _, rfl, HZ0.out, HK2.out⟩
  case round =>
    clear HZ0 HK2
    obtain ⟨k, hk, rfl, hsl, hkept⟩ := hrel
    have HSL := Lib.hid hsl
    have HKR := Lib.hid hkept
    clear hsl hkept
    by_cases hlt : k < m
    · go_wp2_with fail
      refine (l3Step_any ns c (Nt.run ns c ks k) HOK.out (Nt.run_st ns HST.out k) (by rw [Nt.run_length]; exact HL.out) _ _ _ _ _ (HS1.out.stay HKR.out) HSL.out).mono ?_
      rintro e w3 ⟨z3, rfl, hs3, hk3⟩
      have HS3 := Lib.hid (hs3.mono HKR.out.size)
      have HK3 := Lib.hid (HKR.out.trans hk3 (by simp))
      clear hs3 hk3
      go_wp2_with fail
      go_roundw
      case rel => exact ⟨k + 1, by omega, by go_num, HS3.out, HK3.out⟩
      case measure => simp [intOf]; omega
    · have hk' : k = m := by omega
      subst hk'
      obtain ⟨g, capz, rfl, hg, hc⟩ := HSL.out.row HRL.out hp
      have HC := Lib.hid hc
      clear hc hlt
      go_wp2_with fail
      go_loop [11] (fun i => ∃ j : Nat, j ≤ n ∧ i = .int .i64 j) (fun i => n - (intOf i).toNat)
      case atStart => exact ⟨0, Nat.zero_le _, rfl⟩
      case round =>
        obtain ⟨j, hj, rfl⟩ := hrel
        by_cases hlj : j < n
        · have hcell := HC.out j hlj
          rw [HZ.out j] at hcell
          go_wp2
          go_round
          case rel => exact ⟨j + 1, by omega, by go_num⟩
          case measure => simp [intOf]; omega
        · have hj' : j = n := by omega
          subst hj'
          go_wp2
          go_ret
          exact ⟨rfl, HK.out.trans HKR.out (by simp)⟩

theorem sEnds_any {a b : Int} (xs : List Int) (kinds : Int) (ys : List Int) (hL : Nt.LoopIs xs kinds ys a b) (w : World) (v : Value) (base : Nat) (u : Value) (base' : Nat) (hs : Sl w base v xs) (ht : Sl w base' u ys) :
    Calls Try.prog 60 #[v, .int .i64 kinds, u] w fun e w' => e = .returned (.int .i64 (Nt.endsOf a b)) ∧ Kept [] w w' := by
  by_cases hn : (a < 0 ∨ 1 < b) ∧ b ≠ 1
  · exact sEndsNo_any xs kinds ys hL hn.1 hn.2 w v base u base' hs ht
  · rcases hL with ⟨ns, c, ks, m, l, rfl, rfl, rfl, ok, st, hl, hloop, hb, rfl, rfl⟩ | ⟨ho, rfl, rfl⟩
    · have h1 := hloop.pos
      have e : l = 1 := by omega
      subst e
      exact (sEndsOk_any ns c ks ok st hl m hloop hb w v base u base' hs ht).mono fun e w' h => ⟨by rw [h.1]; rfl, h.2⟩
    · omega
end Go.Proofs.Ytlcbpnbehbgbeaa
