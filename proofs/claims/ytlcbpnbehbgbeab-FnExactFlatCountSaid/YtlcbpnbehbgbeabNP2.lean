/-
  Walks: counts of states, by the program.
-/
import Derived.Test.YtlcbpnbehbgbeabNP
import Derived.Test.YtlcbpnbehbgbeabXP
namespace Go.Proofs.Ytlcbpnbehbgbeab
open Go.RowKit

/-- Three boxes: a slice, a number, a slice. -/
theorem boxes3c (w : World) (t1 t2 t3 : TypeId) (v1 v2 v3 : Value) :
    Kept [] w (((w.alloc (.cells #[v1] t1)).alloc (.cells #[v2] t2)).alloc (.cells #[v3] t3)) ∧
    (((w.alloc (.cells #[v1] t1)).alloc (.cells #[v2] t2)).alloc (.cells #[v3] t3)).cell? ⟨w.heap.size, 0, none⟩ = some v1 ∧
    (((w.alloc (.cells #[v1] t1)).alloc (.cells #[v2] t2)).alloc (.cells #[v3] t3)).cell? ⟨w.heap.size + 1, 0, none⟩ = some v2 ∧
    (((w.alloc (.cells #[v1] t1)).alloc (.cells #[v2] t2)).alloc (.cells #[v3] t3)).cell? ⟨w.heap.size + 1 + 1, 0, none⟩ = some v3 ∧
    (((w.alloc (.cells #[v1] t1)).alloc (.cells #[v2] t2)).alloc (.cells #[v3] t3)).heap.size = w.heap.size + 3 := by
  have k1 : Kept [] w ((w.alloc (.cells #[v1] t1)).alloc (.cells #[v2] t2)) := ((Kept.refl _ _).alloc _).alloc _
  have a1 : ((w.alloc (.cells #[v1] t1)).alloc (.cells #[v2] t2)).cell? ⟨w.heap.size, 0, none⟩ = some v1 := ((Boxed.new w t1 v1).alloc _).cell
  have e1 : (w.alloc (.cells #[v1] t1)).heap.size = w.heap.size + 1 := by simp
  have b1 := (Boxed.new (w.alloc (.cells #[v1] t1)) t2 v2).cell
  rw [e1] at b1
  have s1 : ((w.alloc (.cells #[v1] t1)).alloc (.cells #[v2] t2)).heap.size = w.heap.size + 1 + 1 := by simp
  have h := (Boxed.new ((w.alloc (.cells #[v1] t1)).alloc (.cells #[v2] t2)) t3 v3).cell
  have hk : Kept [] ((w.alloc (.cells #[v1] t1)).alloc (.cells #[v2] t2)) (((w.alloc (.cells #[v1] t1)).alloc (.cells #[v2] t2)).alloc (.cells #[v3] t3)) := (Kept.refl _ _).alloc _
  rw [s1] at h
  exact ⟨k1.alloc _, (hk.cell (p := ⟨w.heap.size, 0, none⟩) (by show w.heap.size < ((w.alloc (.cells #[v1] t1)).alloc (.cells #[v2] t2)).heap.size; omega) (by simp)).trans a1, (hk.cell (p := ⟨w.heap.size + 1, 0, none⟩) (by show w.heap.size + 1 < ((w.alloc (.cells #[v1] t1)).alloc (.cells #[v2] t2)).heap.size; omega) (by simp)).trans b1, h, by simp⟩

theorem boxes2c (w : World) (t1 t2 : TypeId) (v1 v2 : Value) :
    Kept [] w ((w.alloc (.cells #[v1] t1)).alloc (.cells #[v2] t2)) ∧
    ((w.alloc (.cells #[v1] t1)).alloc (.cells #[v2] t2)).cell? ⟨w.heap.size, 0, none⟩ = some v1 ∧
    ((w.alloc (.cells #[v1] t1)).alloc (.cells #[v2] t2)).cell? ⟨w.heap.size + 1, 0, none⟩ = some v2 ∧
    ((w.alloc (.cells #[v1] t1)).alloc (.cells #[v2] t2)).heap.size = w.heap.size + 2 := by
  have a1 : ((w.alloc (.cells #[v1] t1)).alloc (.cells #[v2] t2)).cell? ⟨w.heap.size, 0, none⟩ = some v1 := ((Boxed.new w t1 v1).alloc _).cell
  have e1 : (w.alloc (.cells #[v1] t1)).heap.size = w.heap.size + 1 := by simp
  have b1 := (Boxed.new (w.alloc (.cells #[v1] t1)) t2 v2).cell
  rw [e1] at b1
  exact ⟨((Kept.refl _ _).alloc _).alloc _, a1, b1, by simp⟩

/-- A cell that lay there before is as it was. -/
theorem Kept.cell_at {a b : World} {g : Nat} {v : Value} (h : Kept [] a b) (hc : a.cell? ⟨g, 0, none⟩ = some v) (hg : g < a.heap.size) : b.cell? ⟨g, 0, none⟩ = some v :=
  (h.cell (p := ⟨g, 0, none⟩) hg (by simp)).trans hc

/-! BeforeCount. -/

set_option maxHeartbeats 1000000 in
set_option maxRecDepth 100000 in
theorem die1_any (ns : List Nat) (c m : Nat) (ok : Nt.Ok ns) (h3 : 3 ≤ c) (h5 : c ≤ 5) (w : World) (b1 b2 : Nat) (v1 v : Value) (base1 base : Nat)
    (h1 : w.cell? ⟨b1, 0, none⟩ = some v1) (h2 : w.cell? ⟨b2, 0, none⟩ = some (.int .i64 (c : Int))) (hs : Sl w base1 v1 (Nt.nats ns)) (hj : Sl w base v (Nt.nats (Nt.stN ns c m))) :
    Calls Try.prog 20 #[v, .pointer (some ⟨b1, 0, none⟩), .pointer (some ⟨b2, 0, none⟩)] w fun e w' => e = .returned (.bool (Nt.dieP ns c m)) ∧ Kept [] w w' := by
  obtain ⟨ra, rb, hL⟩ := Nt.loopIs_ex (Nt.nats ns) (c : Int) (Nt.nats (Nt.stN ns c m))
  have HD := Lib.hid (Nt.dieP_ends ok h3 h5 hL)
  have HC := Lib.hid (iEnds_any (Nt.nats ns) (c : Int) (Nt.nats (Nt.stN ns c m)) hL w v1 _ v _ hs hj)
  obtain ⟨a1, cap1, rfl, _, _, _⟩ := hs.any
  obtain ⟨a, cap, rfl, _, _, _⟩ := hj.any
  clear hs hj ok hL
  generalize Nt.endsOf ra rb = r at *
  go_enter Try.func20, Try.ntmps20
  go_wp2_with fail
  refine HC.out.mono ?_
  rintro e w2 ⟨rfl, hk2⟩
  have HK2 := Lib.hid hk2
  clear hk2
  go_wp2_with fail
  go_ret
  exact ⟨by rw [← HD.out]; rfl, HK2.out⟩

theorem enter_die1 (args : Array Value) (w : World) : Sem.run Try.prog (callFunc 20 args) w = .ok (.enter 20 args) w := by kernel_rfl

set_option maxHeartbeats 1000000 in
set_option maxRecDepth 100000 in
theorem iDie_any (xs : List Int) (kinds : Int) (w : World) (v : Value) (base : Nat) (hs : Sl w base v xs) :
    Calls Try.prog 8 #[v, .int .i64 kinds] w fun e w' => e = .returned (.int .i64 (Nt.dieOf xs kinds)) ∧ Kept [] w w' := by
  have hmf : ∀ (fn : Fn) (first cap : Array Value) (w : World), (Instr.makeFunc fn first cap).run Try.prog w = .ok (.func fn first cap) w := fun _ _ _ _ => rfl
  obtain ⟨hk1, ha, hb, hsz⟩ := boxes2c w 22 3 v (.int .i64 kinds)
  have hs1 := hs.stay hk1
  have HS1 := Lib.hid hs1
  have HK1 := Lib.hid hk1
  cases ho : Nt.ccB xs kinds
  · have HF := Lib.hid (Nt.dieOf_no ho)
    obtain ⟨a, cap, rfl, _, hm, _⟩ := hs.any
    clear hs hs1 hk1 ha hb hsz
    go_enter Try.func8, Try.ntmps8
    go_wp2_with (go_at_call 18; refine (countingOk_any xs kinds _ _ _ HS1.out).mono ?_; rintro e w' ⟨rfl, rfl⟩; rw [ho])
    go_ret
    exact ⟨by rw [HF.out]; rfl, HK1.out⟩
  · obtain ⟨ns, c, rfl, rfl, ok, h4, h3, h5⟩ := Nt.ccB_ok ho
    have HF := Lib.hid (Nt.dieOf_ok ok h4 h3 h5)
    have HC := Lib.hid (countStates_any 20 #[.pointer (some ⟨w.heap.size, 0, none⟩), .pointer (some ⟨w.heap.size + 1, 0, none⟩)] (Nt.dieP ns c) ns c _ (Nt.nats_length ns) ok h4 h3 h5 _ enter_die1
      (fun m hm w' v' hj hk => by
        have h := die1_any ns c m ok h3 h5 w' w.heap.size (w.heap.size + 1) v v' _ 0 (hk.cell_at ha (by rw [hsz]; omega)) (hk.cell_at hb (by rw [hsz]; omega)) (hs1.stay hk) hj
        exact Calls.mono (by simpa using h) (fun _ _ h => h)))
    obtain ⟨a, cap, rfl, _, hm, _⟩ := hs.any
    clear hs hs1 hk1 ha hb hsz ok h4 h3 h5
    go_enter Try.func8, Try.ntmps8
    go_wp2_with (go_at_call 18; refine (countingOk_any _ _ _ _ _ HS1.out).mono ?_; rintro e w' ⟨rfl, rfl⟩; rw [ho])
    refine HC.out.mono ?_
    rintro e w2 ⟨rfl, hk2⟩
    have HK2 := Lib.hid (HK1.out.trans hk2 (by simp))
    clear hk2
    go_wp2_with fail
    go_ret
    exact ⟨by rw [HF.out]; rfl, HK2.out⟩

/-! LoopCount. -/

set_option maxHeartbeats 1000000 in
set_option maxRecDepth 100000 in
theorem lp1_any (ns : List Nat) (c m : Nat) (ok : Nt.Ok ns) (h3 : 3 ≤ c) (h5 : c ≤ 5) (w : World) (b1 b2 : Nat) (v1 v : Value) (base1 base : Nat)
    (h1 : w.cell? ⟨b1, 0, none⟩ = some v1) (h2 : w.cell? ⟨b2, 0, none⟩ = some (.int .i64 (c : Int))) (hs : Sl w base1 v1 (Nt.nats ns)) (hj : Sl w base v (Nt.nats (Nt.stN ns c m))) :
    Calls Try.prog 23 #[v, .pointer (some ⟨b1, 0, none⟩), .pointer (some ⟨b2, 0, none⟩)] w fun e w' => e = .returned (.bool (Nt.lpP ns c m)) ∧ Kept [] w w' := by
  obtain ⟨ra, rb, hL⟩ := Nt.loopIs_ex (Nt.nats ns) (c : Int) (Nt.nats (Nt.stN ns c m))
  have HD := Lib.hid (Nt.lpP_loop ok h3 h5 hL)
  have HC := Lib.hid (iLoop_any (Nt.nats ns) (c : Int) (Nt.nats (Nt.stN ns c m)) hL w v1 _ v _ hs hj)
  obtain ⟨a1, cap1, rfl, _, _, _⟩ := hs.any
  obtain ⟨a, cap, rfl, _, _, _⟩ := hj.any
  clear hs hj ok hL
  generalize ra = r at *
  go_enter Try.func23, Try.ntmps23
  go_wp2_with fail
  refine HC.out.mono ?_
  rintro e w2 ⟨rfl, hk2⟩
  have HK2 := Lib.hid hk2
  clear hk2
  go_wp2_with fail
  go_ret
  exact ⟨by rw [← HD.out]; rfl, HK2.out⟩

theorem enter_lp1 (args : Array Value) (w : World) : Sem.run Try.prog (callFunc 23 args) w = .ok (.enter 23 args) w := by kernel_rfl

set_option maxHeartbeats 1000000 in
set_option maxRecDepth 100000 in
theorem iLp_any (xs : List Int) (kinds : Int) (w : World) (v : Value) (base : Nat) (hs : Sl w base v xs) :
    Calls Try.prog 11 #[v, .int .i64 kinds] w fun e w' => e = .returned (.int .i64 (Nt.lpOf xs kinds)) ∧ Kept [] w w' := by
  have hmf : ∀ (fn : Fn) (first cap : Array Value) (w : World), (Instr.makeFunc fn first cap).run Try.prog w = .ok (.func fn first cap) w := fun _ _ _ _ => rfl
  obtain ⟨hk1, ha, hb, hsz⟩ := boxes2c w 22 3 v (.int .i64 kinds)
  have hs1 := hs.stay hk1
  have HS1 := Lib.hid hs1
  have HK1 := Lib.hid hk1
  cases ho : Nt.ccB xs kinds
  · have HF := Lib.hid (Nt.lpOf_no ho)
    obtain ⟨a, cap, rfl, _, hm, _⟩ := hs.any
    clear hs hs1 hk1 ha hb hsz
    go_enter Try.func11, Try.ntmps11
    go_wp2_with (go_at_call 18; refine (countingOk_any xs kinds _ _ _ HS1.out).mono ?_; rintro e w' ⟨rfl, rfl⟩; rw [ho])
    go_ret
    exact ⟨by rw [HF.out]; rfl, HK1.out⟩
  · obtain ⟨ns, c, rfl, rfl, ok, h4, h3, h5⟩ := Nt.ccB_ok ho
    have HF := Lib.hid (Nt.lpOf_ok ok h4 h3 h5)
    have HC := Lib.hid (countStates_any 23 #[.pointer (some ⟨w.heap.size, 0, none⟩), .pointer (some ⟨w.heap.size + 1, 0, none⟩)] (Nt.lpP ns c) ns c _ (Nt.nats_length ns) ok h4 h3 h5 _ enter_lp1
      (fun m hm w' v' hj hk => by
        have h := lp1_any ns c m ok h3 h5 w' w.heap.size (w.heap.size + 1) v v' _ 0 (hk.cell_at ha (by rw [hsz]; omega)) (hk.cell_at hb (by rw [hsz]; omega)) (hs1.stay hk) hj
        exact Calls.mono (by simpa using h) (fun _ _ h => h)))
    obtain ⟨a, cap, rfl, _, hm, _⟩ := hs.any
    clear hs hs1 hk1 ha hb hsz ok h4 h3 h5
    go_enter Try.func11, Try.ntmps11
    go_wp2_with (go_at_call 18; refine (countingOk_any _ _ _ _ _ HS1.out).mono ?_; rintro e w' ⟨rfl, rfl⟩; rw [ho])
    refine HC.out.mono ?_
    rintro e w2 ⟨rfl, hk2⟩
    have HK2 := Lib.hid (HK1.out.trans hk2 (by simp))
    clear hk2
    go_wp2_with fail
    go_ret
    exact ⟨by rw [HF.out]; rfl, HK2.out⟩

/-! FlatCount. -/

set_option maxHeartbeats 1000000 in
set_option maxRecDepth 100000 in
theorem fl1_any (ns : List Nat) (m : Nat) (ok : Nt.Ok ns) (w : World) (b1 : Nat) (v1 v : Value) (base1 base : Nat)
    (h1 : w.cell? ⟨b1, 0, none⟩ = some v1) (hs : Sl w base1 v1 (Nt.nats ns)) (hj : Sl w base v (Nt.nats (Nt.stN ns 3 m))) :
    Calls Try.prog 26 #[v, .pointer (some ⟨b1, 0, none⟩)] w fun e w' => e = .returned (.bool (Nt.flP ns m)) ∧ Kept [] w w' := by
  have HD : Hid (Nt.flatOf (Nt.nats ns) (Nt.nats (Nt.stN ns 3 m)) = Nt.flP ns m) := Lib.hid (Nt.flatOf_ok ok (Nt.stN_st ok (by omega) (by omega) m) (Nt.stN_length ns 3 m))
  have HC := Lib.hid (iFlat_any (Nt.nats ns) (Nt.nats (Nt.stN ns 3 m)) w v1 _ v _ hs hj)
  obtain ⟨a1, cap1, rfl, _, _, _⟩ := hs.any
  obtain ⟨a, cap, rfl, _, _, _⟩ := hj.any
  clear hs hj ok
  generalize Nt.flatOf (Nt.nats ns) (Nt.nats (Nt.stN ns 3 m)) = r at *
  go_enter Try.func26, Try.ntmps26
  go_wp2_with fail
  refine HC.out.mono ?_
  rintro e w2 ⟨rfl, hk2⟩
  have HK2 := Lib.hid hk2
  clear hk2
  go_wp2_with fail
  go_ret
  exact ⟨by rw [← HD.out]; rfl, HK2.out⟩

theorem enter_fl1 (args : Array Value) (w : World) : Sem.run Try.prog (callFunc 26 args) w = .ok (.enter 26 args) w := by kernel_rfl

set_option maxHeartbeats 1000000 in
set_option maxRecDepth 100000 in
theorem iFl_any (xs : List Int) (w : World) (v : Value) (base : Nat) (hs : Sl w base v xs) :
    Calls Try.prog 13 #[v] w fun e w' => e = .returned (.int .i64 (Nt.flOf xs)) ∧ Kept [] w w' := by
  have hmf : ∀ (fn : Fn) (first cap : Array Value) (w : World), (Instr.makeFunc fn first cap).run Try.prog w = .ok (.func fn first cap) w := fun _ _ _ _ => rfl
  have hk1 : Kept [] w (w.alloc (.cells #[v] 22)) := (Kept.refl _ _).alloc _
  have ha : (w.alloc (.cells #[v] 22)).cell? ⟨w.heap.size, 0, none⟩ = some v := (Boxed.new w _ v).cell
  have hsz : (w.alloc (.cells #[v] 22)).heap.size = w.heap.size + 1 := by simp
  have hs1 := hs.stay hk1
  have HS1 := Lib.hid hs1
  have HK1 := Lib.hid hk1
  cases ho : Nt.ccB xs 3
  · have HF := Lib.hid (Nt.flOf_no ho)
    obtain ⟨a, cap, rfl, _, hm, _⟩ := hs.any
    clear hs hs1 hk1 ha hsz
    go_enter Try.func13, Try.ntmps13
    go_wp2_with (go_at_call 18; refine (countingOk_any xs 3 _ _ _ HS1.out).mono ?_; rintro e w' ⟨rfl, rfl⟩; rw [ho])
    go_ret
    exact ⟨by rw [HF.out]; rfl, HK1.out⟩
  · obtain ⟨ns, c, rfl, hc, ok, h4, h3, h5⟩ := Nt.ccB_ok ho
    have HF := Lib.hid (Nt.flOf_ok ok h4)
    have HC := Lib.hid (countStates_any 26 #[.pointer (some ⟨w.heap.size, 0, none⟩)] (Nt.flP ns) ns 3 _ (Nt.nats_length ns) ok h4 (by omega) (by omega) _ enter_fl1
      (fun m hm w' v' hj hk => by
        have h := fl1_any ns m ok w' w.heap.size v v' _ 0 (hk.cell_at ha (by rw [hsz]; omega)) (hs1.stay hk) hj
        exact Calls.mono (by simpa using h) (fun _ _ h => h)))
    obtain ⟨a, cap, rfl, _, hm, _⟩ := hs.any
    clear hs hs1 hk1 ha hsz ok h4 h3 h5 hc
    go_enter Try.func13, Try.ntmps13
    go_wp2_with (go_at_call 18; refine (countingOk_any _ _ _ _ _ HS1.out).mono ?_; rintro e w' ⟨rfl, rfl⟩; rw [ho])
    refine HC.out.mono ?_
    rintro e w2 ⟨rfl, hk2⟩
    have HK2 := Lib.hid (HK1.out.trans hk2 (by simp))
    clear hk2
    go_wp2_with fail
    go_ret
    exact ⟨by rw [HF.out]; rfl, HK2.out⟩
end Go.Proofs.Ytlcbpnbehbgbeab
