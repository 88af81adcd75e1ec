/-
  Walks: runs, by the program and by the model.
-/
import Derived.Test.YtahjplaidkibpaaF4
import Derived.RangeFuncBox
namespace Go.Proofs.Ytahjplaidkibpaa
open Go.RowKit

set_option maxHeartbeats 400000 in
theorem fireRun1_any (ns : List Nat) (c : Nat) (ks : List Nat) (ok : Nt.Ok ns) (st : Nt.St c ks) (hl : ks.length = ns.length) (w : World) (v : Value) (base : Nat) (u : Value) (base' : Nat) (b1 b2 : Nat)
    (hA : w.cell? ⟨b1, 0, none⟩ = some v) (hK : w.cell? ⟨b2, 0, none⟩ = some (.int .i64 (c : Int))) (hs : Sl w base v (Nt.nats ns)) (ht : Sl w base' u (Nt.nats ks)) :
    Calls Try.prog 50 #[u, .pointer (some ⟨b1, 0, none⟩), .pointer (some ⟨b2, 0, none⟩)] w fun e w' => ∃ z, e = .returned z ∧ Sl w' w.heap.size z (Nt.nats (Nt.step ns c ks)) ∧ Kept [] w w' := by
  have HS := Lib.hid hs
  have HT := Lib.hid ht
  have HOK := Lib.hid ok
  have HST := Lib.hid st
  have HL := Lib.hid hl
  obtain ⟨n, hn⟩ : ∃ n, n = ks.length := ⟨_, rfl⟩
  obtain ⟨g, cap, rfl, _, _⟩ := hs.row (n := n) (by omega) (by have := ok.some; omega)
  obtain ⟨g2, cap2, rfl, _, _⟩ := ht.row (n := n) (by omega) (by have := st.some; omega)
  clear hs ht ok st hl hn
  go_enter Try.func50, Try.ntmps50
  go_wp2_with fail
  refine (firedState_any ns c ks HOK.out HST.out HL.out _ _ _ _ _ HS.out HT.out).mono ?_
  rintro e w1 ⟨z, rfl, hs1, hk1⟩
  have HS1 := Lib.hid hs1
  have HK1 := Lib.hid hk1
  clear hs1 hk1
  go_wp2_with fail
  go_ret
  exact ⟨_, rfl, HS1.out, HK1.out⟩

/-- Two boxes: a slice and a number. -/
theorem two_boxes (w : World) (t : TypeId) (v : Value) (kinds : Int) :
    Kept [] w ((w.alloc (.cells #[v] t)).alloc (.cells #[.int .i64 kinds] 3)) ∧
    ((w.alloc (.cells #[v] t)).alloc (.cells #[.int .i64 kinds] 3)).cell? ⟨w.heap.size, 0, none⟩ = some v ∧
    ((w.alloc (.cells #[v] t)).alloc (.cells #[.int .i64 kinds] 3)).cell? ⟨w.heap.size + 1, 0, none⟩ = some (.int .i64 kinds) ∧
    ((w.alloc (.cells #[v] t)).alloc (.cells #[.int .i64 kinds] 3)).heap.size = w.heap.size + 2 := by
  refine ⟨((Kept.refl _ _).alloc _).alloc _, ((Boxed.new w t v).alloc _).cell, ?_, by simp⟩
  have h := (Boxed.new (w.alloc (.cells #[v] t)) 3 (.int .i64 kinds)).cell
  have e : (w.alloc (.cells #[v] t)).heap.size = w.heap.size + 1 := by simp
  rw [e] at h
  exact h

theorem enter_run1 (args : Array Value) (w : World) : Sem.run Try.prog (callFunc 50 args) w = .ok (.enter 50 args) w := by kernel_rfl

set_option maxHeartbeats 1000000 in
theorem iFireRun_any (xs : List Int) (kinds : Int) (ys : List Int) (steps : Int) (w : World) (v : Value) (base : Nat) (u : Value) (base' : Nat) (hs : Sl w base v xs) (ht : Sl w base' u ys) :
    Calls Try.prog 21 #[v, .int .i64 kinds, u, .int .i64 steps] w fun e w' => ∃ z, e = .returned z ∧ Sl w' w.heap.size z (Nt.runOf xs kinds ys steps) ∧ Kept [] w w' := by
  have hmf : ∀ (fn : Fn) (first cap : Array Value) (w : World), (Instr.makeFunc fn first cap).run Try.prog w = .ok (.func fn first cap) w := fun _ _ _ _ => rfl
  obtain ⟨hk1, ha, hb, hsz⟩ := two_boxes w 23 v kinds
  have HK1 := Lib.hid hk1
  have HA := Lib.hid ha
  have HB := Lib.hid hb
  have HSZ := Lib.hid hsz
  have HS1 := Lib.hid (hs.stay hk1)
  have HT1 := Lib.hid (ht.stay hk1)
  obtain ⟨a, cap, rfl, _, hm, _⟩ := hs.any
  obtain ⟨a', cap', rfl, _, hm', _⟩ := ht.any
  clear hs ht hk1 ha hb hsz
  cases ho : Nt.fireB xs kinds ys
  · have HF := Lib.hid (Nt.runOf_no1 (steps := steps) ho)
    go_enter Try.func21, Try.ntmps21
    go_wp2_with (go_at_call 36; refine (firingOk_any xs kinds ys _ _ _ _ _ HS1.out HT1.out).mono ?_; rintro e w' ⟨rfl, rfl⟩; rw [ho])
    go_ret
    exact ⟨_, rfl, by rw [HF.out]; exact Sl.nil _ _, HK1.out⟩
  · cases h2 : Nt.stepsB steps
    · have HF := Lib.hid (Nt.runOf_no2 (xs := xs) (kinds := kinds) (ys := ys) h2)
      go_enter Try.func21, Try.ntmps21
      go_wp2_with (first | (go_at_call 36; refine (firingOk_any xs kinds ys _ _ _ _ _ HS1.out HT1.out).mono ?_; rintro e w' ⟨rfl, rfl⟩; rw [ho]) | (go_at_call 48; refine (runOk_any steps _).mono ?_; rintro e w' ⟨rfl, rfl⟩; rw [h2]))
      go_ret
      exact ⟨_, rfl, by rw [HF.out]; exact Sl.nil _ _, HK1.out⟩
    · obtain ⟨ns, c, ks, rfl, rfl, rfl, ok, st, hl⟩ := Nt.fireB_ok ho
      obtain ⟨t, rfl, ht60⟩ := Nt.stepsB_ok h2
      have HF := Lib.hid (Nt.runOf_ok ok st hl ht60)
      have HOK := Lib.hid ok
      have HST := Lib.hid st
      have HL := Lib.hid hl
      clear ok st hl
      go_enter Try.func21, Try.ntmps21
      go_wp2_with (first | (go_at_call 36; refine (firingOk_any _ _ _ _ _ _ _ _ HS1.out HT1.out).mono ?_; rintro e w' ⟨rfl, rfl⟩; rw [ho]) | (go_at_call 48; refine (runOk_any _ _).mono ?_; rintro e w' ⟨rfl, rfl⟩; rw [h2]))
      generalize hw1 : (w.alloc (.cells #[Value.slice a (Nt.nats ns).length cap] 23)).alloc (.cells #[.int .i64 (c : Int)] 3) = w1 at *
      have h6 := HST.out.few
      have hp := HST.out.some
      refine (foldedSteps_any 50 #[.pointer (some ⟨w.heap.size, 0, none⟩), .pointer (some ⟨w.heap.size + 1, 0, none⟩)] (Nt.run ns c ks) ks.length t ht60 hp h6 (Nt.run_length ns c ks) (fun _ wr => Kept [] w1 wr) [] w1.heap.size enter_run1 ?_ (fun _ _ _ _ h k => h.trans k (by simp)) (by simp) w1 _ base' (Nat.le_refl _) HT1.out (Kept.refl _ _)).mono ?_
      · intro t' _ w2 v2 base2 hs2 hj _
        have hz := HSZ.out
        have h := fireRun1_any ns c (Nt.run ns c ks t') HOK.out (Nt.run_st ns HST.out t') (by rw [Nt.run_length]; exact HL.out) w2 _ base v2 base2 w.heap.size (w.heap.size + 1)
          ((hj.cell (p := ⟨w.heap.size, 0, none⟩) (by show w.heap.size < w1.heap.size; omega) (by simp)).trans HA.out) ((hj.cell (p := ⟨w.heap.size + 1, 0, none⟩) (by show w.heap.size + 1 < w1.heap.size; omega) (by simp)).trans HB.out) (HS1.out.stay hj) hs2
        refine Calls.mono (by simpa using h) ?_
        rintro e w3 ⟨z, rfl, hs3, hk3⟩
        exact ⟨z, rfl, hs3, hj.trans hk3 (by simp), hk3⟩
      · rintro e w2 ⟨z, rfl, hs2, _, hk2⟩
        have HS2 := Lib.hid (hs2.mono HK1.out.size)
        have HK2 := Lib.hid (HK1.out.trans hk2 (by simp))
        clear hs2 hk2
        go_wp2_with fail
        go_ret
        exact ⟨_, rfl, by rw [HF.out]; exact HS2.out, HK2.out⟩

set_option maxHeartbeats 1000000 in
theorem sFireRun_any (xs : List Int) (kinds : Int) (ys : List Int) (steps : Int) (w : World) (v : Value) (base : Nat) (u : Value) (base' : Nat) (hs : Sl w base v xs) (ht : Sl w base' u ys) :
    Calls Try.prog 22 #[v, .int .i64 kinds, u, .int .i64 steps] w fun e w' => ∃ z, e = .returned z ∧ Sl w' w.heap.size z (Nt.runOf xs kinds ys steps) ∧ Kept [] w w' := by
  have HS := Lib.hid hs
  have HT := Lib.hid ht
  obtain ⟨a, cap, rfl, _, hm, _⟩ := hs.any
  obtain ⟨a', cap', rfl, _, hm', _⟩ := ht.any
  clear hs ht
  go_enter Try.func22, Try.ntmps22
  go_wp2_with fail
  refine (l3Ok_any xs kinds ys _ _ _ _ _ HS.out HT.out).mono ?_
  rintro e w1 ⟨rfl, hq⟩
  have HK1 := Lib.hid hq.kept
  have HS1 := Lib.hid (hq.sl HS.out)
  have HT1 := Lib.hid (hq.sl HT.out)
  clear hq HS HT
  cases ho : Nt.fireB xs kinds ys
  · have HF := Lib.hid (Nt.runOf_no1 (steps := steps) ho)
    go_wp2_with fail
    go_ret
    exact ⟨_, rfl, by rw [HF.out]; exact (Sl.empty3 w1).mono HK1.out.size, HK1.out.alloc _⟩
  · cases h2 : Nt.stepsB steps
    · have HF := Lib.hid (Nt.runOf_no2 (xs := xs) (kinds := kinds) (ys := ys) h2)
      go_wp2_with (go_at_call 51; refine (l1In_any steps 0 60 _).mono ?_; rintro e w' ⟨rfl, rfl⟩; rw [show decide (0 ≤ steps ∧ steps ≤ 60) = false from h2])
      go_ret
      exact ⟨_, rfl, by rw [HF.out]; exact (Sl.empty3 w1).mono HK1.out.size, HK1.out.alloc _⟩
    · obtain ⟨ns, c, ks, rfl, rfl, rfl, ok, st, hl⟩ := Nt.fireB_ok ho
      obtain ⟨t, rfl, ht60⟩ := Nt.stepsB_ok h2
      have HF := Lib.hid (Nt.runOf_ok ok st hl ht60)
      have HOK := Lib.hid ok
      have HST := Lib.hid st
      have HL := Lib.hid hl
      have HX := Lib.hid (show 0 < (Nt.nats ks).length ∧ (Nt.nats ks).length ≤ 1000 from by rw [Nt.nats_length]; have := st.some; have := st.few; omega)
      have HE := Lib.hid (Sl.empty3 w1)
      have HT2 := Lib.hid (HT1.out.stay ((Kept.refl [] w1).alloc (.cells #[] 3)))
      clear ok st hl ho
      go_wp2_with (first
        | (go_at_call 51; refine (l1In_any _ 0 60 _).mono ?_; rintro e w' ⟨rfl, rfl⟩; rw [show decide (0 ≤ (t : Int) ∧ (t : Int) ≤ 60) = true from h2])
        | (at_builtin; refine app_sl rfl _ _ rfl w1.heap.size _ [] HE.out rfl _ _ (Nt.nats ks) HT2.out HX.out.1 rfl (by have := HX.out.2; simp; omega) (by simp) ?_; intro z w2 hs2 hk2; have HZ := Lib.hid hs2; have HK2 := Lib.hid (((Kept.refl [] w1).alloc (.cells #[] 3)).own hk2 (fun g' hg' => by simp [Value.ownBlock] at hg'; omega)); clear hs2 hk2))
      clear h2 HE HT2
      have hz0 : Sl w2 w1.heap.size z (Nt.nats (Nt.run ns c ks 0)) := by have h := HZ.out; rw [List.nil_append] at h; exact h
      have HZ0 := Lib.hid hz0
      clear hz0 HZ
      go_loopw [9, 10] (fun z i wr => ∃ k : Nat, k ≤ t ∧ i = .int .i64 k ∧ Sl wr w1.heap.size z (Nt.nats (Nt.run ns c ks k)) ∧ Kept [] w1 wr) (fun _ i _ => t - (intOf i).toNat)
      case atStart => exact ⟨0, Nat.zero_le _, rfl, HZ0.out, HK2.out⟩
      case round =>
        clear HZ0 HK2
        obtain ⟨k, hk, rfl, hsl, hkept⟩ := hrel
        have HSL := Lib.hid hsl
        have HK := Lib.hid hkept
        clear hsl hkept
        by_cases hlt : k < t
        · go_wp2_with fail
          refine (l3Step_any ns c (Nt.run ns c ks k) HOK.out (Nt.run_st ns HST.out k) (by rw [Nt.run_length]; exact HL.out) _ _ _ _ _ (HS1.out.stay HK.out) HSL.out).mono ?_
          rintro e w3 ⟨z3, rfl, hs3, hk3⟩
          have HS3 := Lib.hid (hs3.mono HK.out.size)
          have HK3 := Lib.hid (HK.out.trans hk3 (by simp))
          clear hs3 hk3
          go_wp2_with fail
          go_roundw
          case rel => exact ⟨k + 1, by omega, by go_num, HS3.out, HK3.out⟩
          case measure => simp [intOf]; omega
        · have hk' : k = t := by omega
          subst hk'
          go_wp2_with fail
          go_ret
          exact ⟨_, rfl, by rw [HF.out]; exact HSL.out.mono HK1.out.size, HK1.out.trans HK.out (by simp)⟩
end Go.Proofs.Ytahjplaidkibpaa
