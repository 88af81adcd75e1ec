/-
  Walks: loops found by two runners, for any function that steps; loops of states, by the program.
  Walks: loops of states, by the program; states compared by the model.
  Walks: loops of states, by the model.
  Walks: after how many steps all nodes are at rest, by the program and by the model.
-/
import Derived.Test.YtofgfhfdmkcmcaaFA
import Derived.Deep.LoopGhost
namespace Go.Proofs.Ytofgfhfdmkcmcaa
open Go.RowKit

theorem meet_behind {α : Type} {s : Nat → α} {m l i : Nat} (h : Nt.IsLoop s m l) (t : Nt.Tells s) (hi : 1 ≤ i) (e : s i = s (i + i)) (b : Nat) : s b = s (i + i + b) ↔ m ≤ b := by
  have h1 := (h.runners t hi).1 e.symm
  have h2 : (i + i) % l = 0 := by rw [Nat.add_mod, h1.2]; simp
  have h3 := h.meets t (a := b) (d := i + i) (by omega)
  rw [Nat.add_comm b] at h3
  constructor
  · intro e2
    exact (h3.1 e2.symm).1
  · intro hb
    exact (h3.2 ⟨hb, h2⟩).symm

theorem dec_nats (a b : List Nat) : decide (Nt.nats a = Nt.nats b) = decide (a = b) := by
  by_cases h : a = b
  · subst h; simp
  · rw [decide_eq_false h, decide_eq_false (fun e => h (Nt.nats_inj e))]

theorem Sl.zero {w : World} {base : Nat} {v : Value} {xs : List Int} (h : Sl w base v xs) : Sl w 0 v xs := h.mono (Nat.zero_le _)

set_option maxHeartbeats 2000000 in
set_option maxRecDepth 100000 in
/-- Two runners over a row of things, each of which a function leads to the next one. -/
theorem loopFrom_any (F : Nat) (caps : Array Value) (s : Nat → List Nat) (m l : Nat) (hloop : Nt.IsLoop s m l) (tells : Nt.Tells s) (hb : m + l ≤ 1000000) (w0 : World)
    (hent : ∀ (args : Array Value) (w : World), Sem.run Try.prog (callFunc F args) w = .ok (.enter F args) w)
    (hstep : ∀ t (w : World) (v : Value), Sl w 0 v (Nt.nats (s t)) → Kept [] w0 w → Calls Try.prog F (#[v] ++ caps) w fun e w' => ∃ z, e = .returned z ∧ Sl w' 0 z (Nt.nats (s (t + 1))) ∧ Kept [] w w')
    (v : Value) (base : Nat) (hs : Sl w0 base v (Nt.nats (s 0))) :
    Calls Try.prog 63 #[v, .func (.func F) #[] caps] w0 fun e w' => e = .returned (.tuple #[.int .i64 (m : Int), .int .i64 (l : Int)]) ∧ Kept [] w0 w' := by
  obtain ⟨i0, hi1, hi2, hmeet, hfirst⟩ := hloop.first_meet tells
  have HENT := Lib.hid hent
  have HSTEP := Lib.hid hstep
  have HS := Lib.hid hs.zero
  have HM := Lib.hid hmeet
  have HFM := Lib.hid hfirst
  have HBM := Lib.hid (meet_behind hloop tells hi1 hmeet)
  have HTM := Lib.hid (fun k => hloop.third_meet (k := k))
  have hlpos := hloop.pos
  obtain ⟨a, cap, rfl, _, _, _⟩ := hs.any
  clear hs hent hstep hmeet hfirst hloop tells
  go_enter Try.func63, Try.ntmps63
  go_wp2_with fail
  rw [HENT.out, Oper.upon_enter]
  refine (HSTEP.out 0 _ _ HS.out (Kept.refl _ _)).mono ?_
  rintro e w1 ⟨z1, rfl, hs1, hk1⟩
  have HS1 := Lib.hid hs1
  have HK1 := Lib.hid hk1
  clear hs1 hk1
  go_wp2_with fail
  rw [HENT.out, Oper.upon_enter]
  refine (HSTEP.out 1 _ _ HS1.out HK1.out).mono ?_
  rintro e w2 ⟨z2, rfl, hs2, hk2⟩
  have HA2 := Lib.hid (HS1.out.stay hk2)
  have HB2 := Lib.hid hs2
  have HK2 := Lib.hid (HK1.out.trans hk2 (by simp))
  clear hs2 hk2 HS1 HK1
  go_wp2_with fail
  go_loopg [6, 7] i0 (fun g p q wr => ∃ i : Nat, 1 ≤ i ∧ i ≤ i0 ∧ i0 - i ≤ g ∧ Sl wr 0 p (Nt.nats (s i)) ∧ Sl wr 0 q (Nt.nats (s (i + i))) ∧ Kept [] w0 wr)
  case atStart => exact ⟨1, Nat.le_refl _, hi1, by omega, HA2.out, HB2.out, HK2.out⟩
  case round =>
    clear HA2 HB2 HK2
    obtain ⟨i, h1, h2, hg, hp, hq, hk⟩ := hrel
    have HP := Lib.hid hp
    have HQ := Lib.hid hq
    have HK := Lib.hid hk
    clear hp hq hk
    by_cases hlt : i < i0
    · have HNE := Lib.hid (HFM.out i h1 hlt)
      go_wp2_with fail
      refine (equalInts_any _ _ _ _ _ _ _ HP.out HQ.out).mono ?_
      rintro e w3 ⟨rfl, hqt⟩
      rw [dec_nats, decide_eq_false HNE.out]
      have HP3 := Lib.hid (hqt.sl HP.out)
      have HQ3 := Lib.hid (hqt.sl HQ.out)
      have HK3 := Lib.hid (HK.out.trans hqt.kept (by simp))
      clear hqt HP HQ HK
      go_wp2_with fail
      rw [HENT.out, Oper.upon_enter]
      refine (HSTEP.out i _ _ HP3.out HK3.out).mono ?_
      rintro e w4 ⟨z4, rfl, hs4, hk4⟩
      have HP4 := Lib.hid hs4
      have HQ4 := Lib.hid (HQ3.out.stay hk4)
      have HK4 := Lib.hid (HK3.out.trans hk4 (by simp))
      clear hs4 hk4 HP3 HQ3 HK3
      go_wp2_with fail
      rw [HENT.out, Oper.upon_enter]
      refine (HSTEP.out (i + i) _ _ HQ4.out HK4.out).mono ?_
      rintro e w5 ⟨z5, rfl, hs5, hk5⟩
      have HP5 := Lib.hid (HP4.out.stay hk5)
      have HQ5 := Lib.hid hs5
      have HK5 := Lib.hid (HK4.out.trans hk5 (by simp))
      clear hs5 hk5 HP4 HQ4 HK4
      go_wp2_with fail
      rw [HENT.out, Oper.upon_enter]
      refine (HSTEP.out (i + i + 1) _ _ HQ5.out HK5.out).mono ?_
      rintro e w6 ⟨z6, rfl, hs6, hk6⟩
      have HP6 := Lib.hid (HP5.out.stay hk6)
      have HQ6 := Lib.hid hs6
      have HK6 := Lib.hid (HK5.out.trans hk6 (by simp))
      clear hs6 hk6 HP5 HQ5 HK5
      go_wp2_with fail
      go_roundg (i0 - (i + 1))
      case measure => omega
      case rel => exact ⟨i + 1, by omega, by omega, Nat.le_refl _, HP6.out, by rw [show i + 1 + (i + 1) = i + i + 1 + 1 by omega]; exact HQ6.out, HK6.out⟩
    · have hi' : i = i0 := by omega
      subst hi'
      go_wp2_with fail
      refine (equalInts_any _ _ _ _ _ _ _ HP.out HQ.out).mono ?_
      rintro e w3 ⟨rfl, hqt⟩
      rw [dec_nats, decide_eq_true HM.out]
      have HQ3 := Lib.hid (hqt.sl HQ.out)
      have HK3 := Lib.hid (HK.out.trans hqt.kept (by simp))
      have HS3 := Lib.hid (HS.out.stay HK3.out)
      clear hqt HP HQ HK hg hlt
      go_wp2_with fail
      go_loopw [6, 7, 8] (fun p q n wr => ∃ b : Nat, b ≤ m ∧ n = .int .i64 b ∧ Sl wr 0 p (Nt.nats (s b)) ∧ Sl wr 0 q (Nt.nats (s (i + i + b))) ∧ Kept [] w0 wr) (fun _ _ n _ => m - (intOf n).toNat)
      case atStart => exact ⟨0, Nat.zero_le _, rfl, HS3.out, HQ3.out, HK3.out⟩
      case round =>
        clear HS3 HQ3 HK3
        obtain ⟨b, hbm, rfl, hp, hq, hk⟩ := hrel
        have HP := Lib.hid hp
        have HQ := Lib.hid hq
        have HK := Lib.hid hk
        clear hp hq hk
        by_cases hlt : b < m
        · have HNE : Hid (¬ s b = s (i + i + b)) := Lib.hid (fun e => by have := (HBM.out b).1 e; omega)
          go_wp2_with fail
          refine (equalInts_any _ _ _ _ _ _ _ HP.out HQ.out).mono ?_
          rintro e w3 ⟨rfl, hqt⟩
          rw [dec_nats, decide_eq_false HNE.out]
          have HP3 := Lib.hid (hqt.sl HP.out)
          have HQ3 := Lib.hid (hqt.sl HQ.out)
          have HK3 := Lib.hid (HK.out.trans hqt.kept (by simp))
          clear hqt HP HQ HK
          go_wp2_with fail
          rw [HENT.out, Oper.upon_enter]
          refine (HSTEP.out b _ _ HP3.out HK3.out).mono ?_
          rintro e w4 ⟨z4, rfl, hs4, hk4⟩
          have HP4 := Lib.hid hs4
          have HQ4 := Lib.hid (HQ3.out.stay hk4)
          have HK4 := Lib.hid (HK3.out.trans hk4 (by simp))
          clear hs4 hk4 HP3 HQ3 HK3
          go_wp2_with fail
          rw [HENT.out, Oper.upon_enter]
          refine (HSTEP.out (i + i + b) _ _ HQ4.out HK4.out).mono ?_
          rintro e w5 ⟨z5, rfl, hs5, hk5⟩
          have HP5 := Lib.hid (HP4.out.stay hk5)
          have HQ5 := Lib.hid hs5
          have HK5 := Lib.hid (HK4.out.trans hk5 (by simp))
          clear hs5 hk5 HP4 HQ4 HK4
          go_wp2_with fail
          go_roundw
          case rel => exact ⟨b + 1, by omega, by go_num, HP5.out, HQ5.out, HK5.out⟩
          case measure => simp [intOf]; omega
        · have hb' : b = m := by omega
          subst hb'
          go_wp2_with fail
          refine (equalInts_any _ _ _ _ _ _ _ HP.out HQ.out).mono ?_
          rintro e w3 ⟨rfl, hqt⟩
          rw [dec_nats, decide_eq_true ((HBM.out b).2 (Nat.le_refl _))]
          have HP3 := Lib.hid (hqt.sl HP.out)
          have HK3 := Lib.hid (HK.out.trans hqt.kept (by simp))
          clear hqt HP HQ HK hlt
          go_wp2_with fail
          rw [HENT.out, Oper.upon_enter]
          refine (HSTEP.out b _ _ HP3.out HK3.out).mono ?_
          rintro e w4 ⟨z4, rfl, hs4, hk4⟩
          have HP4 := Lib.hid (HP3.out.stay hk4)
          have HQ4 := Lib.hid hs4
          have HK4 := Lib.hid (HK3.out.trans hk4 (by simp))
          clear hs4 hk4 HP3 HK3
          go_wp2_with fail
          go_loopw [7, 9] (fun q n wr => ∃ k : Nat, 1 ≤ k ∧ k ≤ l ∧ n = .int .i64 k ∧ Sl wr 0 q (Nt.nats (s (b + k))) ∧ Kept [] w4 wr) (fun _ n _ => l - (intOf n).toNat)
          case atStart => exact ⟨1, Nat.le_refl _, hlpos, rfl, HQ4.out, Kept.refl _ _⟩
          case round =>
            clear HQ4
            obtain ⟨k, hk1, hkl, rfl, hq, hk⟩ := hrel
            have HQ := Lib.hid hq
            have HKW := Lib.hid hk
            have HP := Lib.hid (HP4.out.stay hk)
            have HK := Lib.hid (HK4.out.trans hk (by simp))
            clear hq hk
            by_cases hlt : k < l
            · have HNE : Hid (¬ s b = s (b + k)) := Lib.hid (fun e => by have := (HTM.out k hk1 hkl).1 e; omega)
              go_wp2_with fail
              refine (equalInts_any _ _ _ _ _ _ _ HP.out HQ.out).mono ?_
              rintro e w5 ⟨rfl, hqt⟩
              rw [dec_nats, decide_eq_false HNE.out]
              have HQ5 := Lib.hid (hqt.sl HQ.out)
              have HK5 := Lib.hid (HK.out.trans hqt.kept (by simp))
              have HKW5 := Lib.hid (HKW.out.trans hqt.kept (by simp))
              clear hqt HP HQ HK HKW
              go_wp2_with fail
              rw [HENT.out, Oper.upon_enter]
              refine (HSTEP.out (b + k) _ _ HQ5.out HK5.out).mono ?_
              rintro e w6 ⟨z6, rfl, hs6, hk6⟩
              have HQ6 := Lib.hid hs6
              have HKW6 := Lib.hid (HKW5.out.trans hk6 (by simp))
              clear hs6 hk6 HQ5 HK5 HKW5
              go_wp2_with fail
              go_roundw
              case rel => exact ⟨k + 1, by omega, by omega, by go_num, HQ6.out, HKW6.out⟩
              case measure => simp [intOf]; omega
            · have hk' : k = l := by omega
              subst hk'
              go_wp2_with fail
              refine (equalInts_any _ _ _ _ _ _ _ HP.out HQ.out).mono ?_
              rintro e w5 ⟨rfl, hqt⟩
              rw [dec_nats, decide_eq_true ((HTM.out k hk1 hkl).2 rfl)]
              have HK5 := Lib.hid (HK.out.trans hqt.kept (by simp))
              clear hqt HP HQ HK HKW
              go_wp2_with fail
              go_ret2
              exact ⟨rfl, HK5.out⟩
end Go.Proofs.Ytofgfhfdmkcmcaa

namespace Go.Proofs.Ytofgfhfdmkcmcaa
open Go.RowKit

set_option maxHeartbeats 400000 in
set_option maxRecDepth 100000 in
theorem loop1_any (ns : List Nat) (c : Nat) (ks : List Nat) (ok : Nt.Ok ns) (st : Nt.St c ks) (hl : ks.length = ns.length) (w : World) (v : Value) (base : Nat) (u : Value) (base' : Nat) (b1 b2 : Nat)
    (hA : w.cell? ⟨b1, 0, none⟩ = some v) (hK : w.cell? ⟨b2, 0, none⟩ = some (.int .i64 (c : Int))) (hs : Sl w base v (Nt.nats ns)) (ht : Sl w base' u (Nt.nats ks)) :
    Calls Try.prog 64 #[u, .pointer (some ⟨b1, 0, none⟩), .pointer (some ⟨b2, 0, none⟩)] w fun e w' => ∃ z, e = .returned z ∧ Sl w' w.heap.size z (Nt.nats (Nt.step ns c ks)) ∧ Kept [] w w' := by
  have HS := Lib.hid hs
  have HT := Lib.hid ht
  have HOK := Lib.hid ok
  have HST := Lib.hid st
  have HL := Lib.hid hl
  obtain ⟨n, hn⟩ : ∃ n, n = ks.length := ⟨_, rfl⟩
  obtain ⟨g, cap, rfl, _, _⟩ := hs.row (n := n) (by omega) (by have := ok.some; omega)
  obtain ⟨g2, cap2, rfl, _, _⟩ := ht.row (n := n) (by omega) (by have := st.some; omega)
  clear hs ht ok st hl hn
  go_enter Try.func64, Try.ntmps64
  go_wp2_with fail
  refine (firedState_any ns c ks HOK.out HST.out HL.out _ _ _ _ _ HS.out HT.out).mono ?_
  rintro e w1 ⟨z, rfl, hs1, hk1⟩
  have HS1 := Lib.hid hs1
  have HK1 := Lib.hid hk1
  clear hs1 hk1
  go_wp2_with fail
  go_ret
  exact ⟨_, rfl, HS1.out, HK1.out⟩

theorem enter_loop1 (args : Array Value) (w : World) : Sem.run Try.prog (callFunc 64 args) w = .ok (.enter 64 args) w := by kernel_rfl

set_option maxHeartbeats 1000000 in
set_option maxRecDepth 100000 in
theorem iLoopOk_any (ns : List Nat) (c : Nat) (ks : List Nat) (ok : Nt.Ok ns) (st : Nt.St c ks) (hl : ks.length = ns.length) (m l : Nat) (hloop : Nt.IsLoop (Nt.run ns c ks) m l) (hb : m + l ≤ c ^ ks.length)
    (w : World) (v : Value) (base : Nat) (u : Value) (base' : Nat) (hs : Sl w base v (Nt.nats ns)) (ht : Sl w base' u (Nt.nats ks)) :
    Calls Try.prog 29 #[v, .int .i64 (c : Int), u] w fun e w' => e = .returned (.tuple #[.int .i64 (m : Int), .int .i64 (l : Int)]) ∧ Kept [] w w' := by
  have hmf : ∀ (fn : Fn) (first cap : Array Value) (w : World), (Instr.makeFunc fn first cap).run Try.prog w = .ok (.func fn first cap) w := fun _ _ _ _ => rfl
  obtain ⟨hk1, ha, hbb, hsz⟩ := two_boxes w 23 v (c : Int)
  have ho := Nt.fireB_yes ok st hl
  have hsm := Nt.loop_small st.c5 st.few hb
  have HK1 := Lib.hid hk1
  have HA := Lib.hid ha
  have HB := Lib.hid hbb
  have HSZ := Lib.hid hsz
  have HS1 := Lib.hid (hs.stay hk1)
  have HT1 := Lib.hid (ht.stay hk1)
  have HOK := Lib.hid ok
  have HST := Lib.hid st
  have HL := Lib.hid hl
  have HLP := Lib.hid hloop
  obtain ⟨a, cap, rfl, _, hm, _⟩ := hs.any
  obtain ⟨a', cap', rfl, _, hm', _⟩ := ht.any
  clear hs ht hk1 ha hbb hsz ok st hl hloop hb
  go_enter Try.func29, Try.ntmps29
  go_wp2_with (go_at_call 49; refine (firingOk_any _ _ _ _ _ _ _ _ HS1.out HT1.out).mono ?_; rintro e w' ⟨rfl, rfl⟩; rw [ho])
  generalize hw1 : (w.alloc (.cells #[Value.slice a (Nt.nats ns).length cap] 23)).alloc (.cells #[.int .i64 (c : Int)] 3) = w1 at *
  refine (loopFrom_any 64 #[.pointer (some ⟨w.heap.size, 0, none⟩), .pointer (some ⟨w.heap.size + 1, 0, none⟩)] (Nt.run ns c ks) m l HLP.out (Nt.run_tells ns c ks) (by omega) w1 enter_loop1 ?_ _ base' HT1.out).mono ?_
  · intro t' w2 v2 hs2 hj
    have hz := HSZ.out
    have h := loop1_any ns c (Nt.run ns c ks t') HOK.out (Nt.run_st ns HST.out t') (by rw [Nt.run_length]; exact HL.out) w2 _ base v2 0 w.heap.size (w.heap.size + 1)
      ((hj.cell (p := ⟨w.heap.size, 0, none⟩) (by show w.heap.size < w1.heap.size; omega) (by simp)).trans HA.out) ((hj.cell (p := ⟨w.heap.size + 1, 0, none⟩) (by show w.heap.size + 1 < w1.heap.size; omega) (by simp)).trans HB.out) (HS1.out.stay hj) hs2
    refine Calls.mono (by simpa using h) ?_
    rintro e w3 ⟨z, rfl, hs3, hk3⟩
    exact ⟨z, rfl, hs3.zero, hk3⟩
  · rintro e w2 ⟨rfl, hk2⟩
    have HK2 := Lib.hid (HK1.out.trans hk2 (by simp))
    clear hk2
    go_wp2_with fail
    go_ret2
    exact ⟨rfl, HK2.out⟩

set_option maxHeartbeats 1000000 in
set_option maxRecDepth 100000 in
theorem iLoopNo_any (xs : List Int) (kinds : Int) (ys : List Int) (ho : Nt.fireB xs kinds ys = false) (w : World) (v : Value) (base : Nat) (u : Value) (base' : Nat) (hs : Sl w base v xs) (ht : Sl w base' u ys) :
    Calls Try.prog 29 #[v, .int .i64 kinds, u] w fun e w' => e = .returned (.tuple #[.int .i64 (-1), .int .i64 (-1)]) ∧ Kept [] w w' := by
  obtain ⟨hk1, ha, hb, hsz⟩ := two_boxes w 23 v kinds
  have HK1 := Lib.hid hk1
  have HS1 := Lib.hid (hs.stay hk1)
  have HT1 := Lib.hid (ht.stay hk1)
  obtain ⟨a, cap, rfl, _, hm, _⟩ := hs.any
  obtain ⟨a', cap', rfl, _, hm', _⟩ := ht.any
  clear hs ht hk1 ha hb hsz
  go_enter Try.func29, Try.ntmps29
  go_wp2_with (go_at_call 49; refine (firingOk_any xs kinds ys _ _ _ _ _ HS1.out HT1.out).mono ?_; rintro e w' ⟨rfl, rfl⟩; rw [ho])
  go_ret2
  exact ⟨rfl, HK1.out⟩

theorem iLoop_any {a b : Int} (xs : List Int) (kinds : Int) (ys : List Int) (hL : Nt.LoopIs xs kinds ys a b) (w : World) (v : Value) (base : Nat) (u : Value) (base' : Nat) (hs : Sl w base v xs) (ht : Sl w base' u ys) :
    Calls Try.prog 29 #[v, .int .i64 kinds, u] w fun e w' => e = .returned (.tuple #[.int .i64 a, .int .i64 b]) ∧ Kept [] w w' := by
  rcases hL with ⟨ns, c, ks, m, l, rfl, rfl, rfl, ok, st, hl, hloop, hb, rfl, rfl⟩ | ⟨ho, rfl, rfl⟩
  · exact iLoopOk_any ns c ks ok st hl m l hloop hb w v base u base' hs ht
  · exact iLoopNo_any xs kinds ys ho w v base u base' hs ht

end Go.Proofs.Ytofgfhfdmkcmcaa

namespace Go.Proofs.Ytofgfhfdmkcmcaa
open Go.RowKit

end Go.Proofs.Ytofgfhfdmkcmcaa

namespace Go.Proofs.Ytofgfhfdmkcmcaa
open Go.RowKit

end Go.Proofs.Ytofgfhfdmkcmcaa
