/-
  Walks: loops of states, by the program; states compared by the model.
-/
import Derived.Test.YtahjplaidkibpaaF9
namespace Go.Proofs.Ytahjplaidkibpaa
open Go.RowKit

set_option maxHeartbeats 400000 in
theorem loop1_any (ns : List Nat) (c : Nat) (ks : List Nat) (ok : Nt.Ok ns) (st : Nt.St c ks) (hl : ks.length = ns.length) (w : World) (v : Value) (base : Nat) (u : Value) (base' : Nat) (b1 b2 : Nat)
    (hA : w.cell? ⟨b1, 0, none⟩ = some v) (hK : w.cell? ⟨b2, 0, none⟩ = some (.int .i64 (c : Int))) (hs : Sl w base v (Nt.nats ns)) (ht : Sl w base' u (Nt.nats ks)) :
    Calls Try.prog 55 #[u, .pointer (some ⟨b1, 0, none⟩), .pointer (some ⟨b2, 0, none⟩)] w fun e w' => ∃ z, e = .returned z ∧ Sl w' w.heap.size z (Nt.nats (Nt.step ns c ks)) ∧ Kept [] w w' := by
  have HS := Lib.hid hs
  have HT := Lib.hid ht
  have HOK := Lib.hid ok
  have HST := Lib.hid st
  have HL := Lib.hid hl
  obtain ⟨n, hn⟩ : ∃ n, n = ks.length := ⟨_, rfl⟩
  obtain ⟨g, cap, rfl, _, _⟩ := hs.row (n := n) (by omega) (by have := ok.some; omega)
  obtain ⟨g2, cap2, rfl, _, _⟩ := ht.row (n := n) (by omega) (by have := st.some; omega)
  clear hs ht ok st hl hn
  go_enter Try.func55, Try.ntmps55
  go_wp2_with fail
  refine (firedState_any ns c ks HOK.out HST.out HL.out _ _ _ _ _ HS.out HT.out).mono ?_
  rintro e w1 ⟨z, rfl, hs1, hk1⟩
  have HS1 := Lib.hid hs1
  have HK1 := Lib.hid hk1
  clear hs1 hk1
  go_wp2_with fail
  go_ret
  exact ⟨_, rfl, HS1.out, HK1.out⟩

theorem enter_loop1 (args : Array Value) (w : World) : Sem.run Try.prog (callFunc 55 args) w = .ok (.enter 55 args) w := by kernel_rfl

set_option maxHeartbeats 1000000 in
theorem iLoopOk_any (ns : List Nat) (c : Nat) (ks : List Nat) (ok : Nt.Ok ns) (st : Nt.St c ks) (hl : ks.length = ns.length) (m l : Nat) (hloop : Nt.IsLoop (Nt.run ns c ks) m l) (hb : m + l ≤ c ^ ks.length)
    (w : World) (v : Value) (base : Nat) (u : Value) (base' : Nat) (hs : Sl w base v (Nt.nats ns)) (ht : Sl w base' u (Nt.nats ks)) :
    Calls Try.prog 27 #[v, .int .i64 (c : Int), u] w fun e w' => e = .returned (.tuple #[.int .i64 (m : Int), .int .i64 (l : Int)]) ∧ Kept [] w w' := by
  have hmf : ∀ (fn : Fn) (first cap : Array Value) (w : World), (Instr.makeFunc fn first cap).run Try.prog w = .ok (.func fn first cap) w := fun _ _ _ _ => rfl
  obtain ⟨hk1, ha, hbb, hsz⟩ := two_boxes w 23 v (c : Int)
  have ho := Nt.fireB_yes ok st hl
  have hsm := Nt.loop_small st.c5 st.few hb
  have HK1 := Lib.hid hk1
  have HA := Lib.hid ha
  have HB := Lib.hid hbb
  have HSZ := Lib.hid hsz
  have HS1 := Lib.hid (hs.stay hk1)
  have HT1 := Lib.hid (ht.stay hk1)
  have HOK := Lib.hid ok
  have HST := Lib.hid st
  have HL := Lib.hid hl
  have HLP := Lib.hid hloop
  obtain ⟨a, cap, rfl, _, hm, _⟩ := hs.any
  obtain ⟨a', cap', rfl, _, hm', _⟩ := ht.any
  clear hs ht hk1 ha hbb hsz ok st hl hloop hb
  go_enter Try.func27, Try.ntmps27
  go_wp2_with (go_at_call 36; refine (firingOk_any _ _ _ _ _ _ _ _ HS1.out HT1.out).mono ?_; rintro e w' ⟨rfl, rfl⟩; rw [ho])
  generalize hw1 : (w.alloc (.cells #[Value.slice a (Nt.nats ns).length cap] 23)).alloc (.cells #[.int .i64 (c : Int)] 3) = w1 at *
  refine (loopFrom_any 55 #[.pointer (some ⟨w.heap.size, 0, none⟩), .pointer (some ⟨w.heap.size + 1, 0, none⟩)] (Nt.run ns c ks) m l HLP.out (Nt.run_tells ns c ks) (by omega) w1 enter_loop1 ?_ _ base' HT1.out).mono ?_
  · intro t' w2 v2 hs2 hj
    have hz := HSZ.out
    have h := loop1_any ns c (Nt.run ns c ks t') HOK.out (Nt.run_st ns HST.out t') (by rw [Nt.run_length]; exact HL.out) w2 _ base v2 0 w.heap.size (w.heap.size + 1)
      ((hj.cell (p := ⟨w.heap.size, 0, none⟩) (by show w.heap.size < w1.heap.size; omega) (by simp)).trans HA.out) ((hj.cell (p := ⟨w.heap.size + 1, 0, none⟩) (by show w.heap.size + 1 < w1.heap.size; omega) (by simp)).trans HB.out) (HS1.out.stay hj) hs2
    refine Calls.mono (by simpa using h) ?_
    rintro e w3 ⟨z, rfl, hs3, hk3⟩
    exact ⟨z, rfl, hs3.zero, hk3⟩
  · rintro e w2 ⟨rfl, hk2⟩
    have HK2 := Lib.hid (HK1.out.trans hk2 (by simp))
    clear hk2
    go_wp2_with fail
    go_ret2
    exact ⟨rfl, HK2.out⟩

set_option maxHeartbeats 1000000 in
theorem iLoopNo_any (xs : List Int) (kinds : Int) (ys : List Int) (ho : Nt.fireB xs kinds ys = false) (w : World) (v : Value) (base : Nat) (u : Value) (base' : Nat) (hs : Sl w base v xs) (ht : Sl w base' u ys) :
    Calls Try.prog 27 #[v, .int .i64 kinds, u] w fun e w' => e = .returned (.tuple #[.int .i64 (-1), .int .i64 (-1)]) ∧ Kept [] w w' := by
  obtain ⟨hk1, ha, hb, hsz⟩ := two_boxes w 23 v kinds
  have HK1 := Lib.hid hk1
  have HS1 := Lib.hid (hs.stay hk1)
  have HT1 := Lib.hid (ht.stay hk1)
  obtain ⟨a, cap, rfl, _, hm, _⟩ := hs.any
  obtain ⟨a', cap', rfl, _, hm', _⟩ := ht.any
  clear hs ht hk1 ha hb hsz
  go_enter Try.func27, Try.ntmps27
  go_wp2_with (go_at_call 36; refine (firingOk_any xs kinds ys _ _ _ _ _ HS1.out HT1.out).mono ?_; rintro e w' ⟨rfl, rfl⟩; rw [ho])
  go_ret2
  exact ⟨rfl, HK1.out⟩

theorem iLoop_any {a b : Int} (xs : List Int) (kinds : Int) (ys : List Int) (hL : Nt.LoopIs xs kinds ys a b) (w : World) (v : Value) (base : Nat) (u : Value) (base' : Nat) (hs : Sl w base v xs) (ht : Sl w base' u ys) :
    Calls Try.prog 27 #[v, .int .i64 kinds, u] w fun e w' => e = .returned (.tuple #[.int .i64 a, .int .i64 b]) ∧ Kept [] w w' := by
  rcases hL with ⟨ns, c, ks, m, l, rfl, rfl, rfl, ok, st, hl, hloop, hb, rfl, rfl⟩ | ⟨ho, rfl, rfl⟩
  · exact iLoopOk_any ns c ks ok st hl m l hloop hb w v base u base' hs ht
  · exact iLoopNo_any xs kinds ys ho w v base u base' hs ht

set_option maxHeartbeats 1000000 in
theorem l3Same_any (xs ys : List Int) (hl : xs.length = ys.length) (w : World) (v : Value) (base : Nat) (u : Value) (base' : Nat) (hs : Sl w base v xs) (ht : Sl w base' u ys) :
    Calls Try.prog 56 #[v, u] w fun e w' => e = .returned (.bool (decide (xs = ys))) ∧ Qt w w' := by
  obtain ⟨a, cap, rfl, _, hm, hc⟩ := hs.any
  obtain ⟨b, cap', rfl, _, hm', hc'⟩ := ht.any
  have HC := Lib.hid hc
  have HD := Lib.hid hc'
  have HL := Lib.hid hl
  clear hc hc' hs ht hl
  go_enter Try.func56, Try.ntmps56
  go_wp2
  go_loopw [5] (fun n wr => ∃ k : Nat, k ≤ xs.length ∧ n = .int .i64 k ∧ sameTo xs ys k ∧ Qt w wr) (fun n _ => xs.length - (intOf n).toNat)
  case atStart => exact ⟨0, Nat.zero_le _, rfl, fun j hj => absurd hj (by omega), Qt.refl _⟩
  case round =>
    obtain ⟨k, hk, rfl, hsame, hq⟩ := hrel
    have HQ := Lib.hid hq
    have HS := Lib.hid hsame
    clear hsame
    by_cases hlt : k < xs.length
    · have hlt' : k < ys.length := by have := HL.out; omega
      obtain ⟨g, rfl, _, _, h1, _⟩ := HC.out k hlt
      obtain ⟨g', rfl, _, _, h2, _⟩ := HD.out k hlt'
      have c1 := (hq.cell _).trans h1
      have c2 := (hq.cell _).trans h2
      clear hq h1 h2
      generalize hx : xs.getD k 0 = x at *
      generalize hy : ys.getD k 0 = y at *
      have HX := Lib.hid hx
      have HY := Lib.hid hy
      clear hx hy
      by_cases e : x = y
      · have he : (x != y) = false := by simp [e]
        have HE := Lib.hid e
        clear e
        go_wp2_with fail
        go_quiet (fail)
        go_wp2
        go_roundw
        case rel => exact ⟨k + 1, by omega, by go_num, sameTo_succ HS.out (by rw [HX.out, HY.out, HE.out]), HQ.out.draw _⟩
        case measure => simp [intOf]; omega
      · have he : (x != y) = true := by simp [e]
        have HE := Lib.hid e
        clear e
        go_wp2_with fail
        go_quiet (fail)
        go_wp2
        go_ret
        exact ⟨by rw [dec_not (fun h => HE.out (by rw [← HX.out, ← HY.out, h]))]; rfl, HQ.out.draw _⟩
    · have hk' : k = xs.length := by omega
      subst hk'
      clear hq
      go_wp2
      go_ret
      exact ⟨by rw [dec_of (sameTo_all HS.out HL.out)]; rfl, HQ.out⟩
end Go.Proofs.Ytahjplaidkibpaa
