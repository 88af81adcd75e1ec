/-
  Walks: counts of states, by the program.
-/
import Derived.Test.YtlcbpnbehbgbeaaNP
import Derived.Test.YtlcbpnbehbgbeaaXP
namespace Go.Proofs.Ytlcbpnbehbgbeaa
open Go.RowKit

/-- Three boxes: a slice, a number, a slice. -/
theorem boxes3c (w : World) (t1 t2 t3 : TypeId) (v1 v2 v3 : Value) :
    Kept [] w (((w.alloc (.cells #[v1] t1)).alloc (.cells #[v2] t2)).alloc (.cells #[v3] t3)) ∧
    (((w.alloc (.cells #[v1] t1)).alloc (.cells #[v2] t2)).alloc (.cells #[v3] t3)).cell? ⟨w.heap.size, 0, none⟩ = some v1 ∧
    (((w.alloc (.cells #[v1] t1)).alloc (.cells #[v2] t2)).alloc (.cells #[v3] t3)).cell? ⟨w.heap.size + 1, 0, none⟩ = some v2 ∧
    (((w.alloc (.cells #[v1] t1)).alloc (.cells #[v2] t2)).alloc (.cells #[v3] t3)).cell? ⟨w.heap.size + 1 + 1, 0, none⟩ = some v3 ∧
    (((w.alloc (.cells #[v1] t1)).alloc (.cells #[v2] t2)).alloc (.cells #[v3] t3)).heap.size = w.heap.size + 3 := by
  have k1 : Kept [] w ((w.alloc (.cells #[v1] t1)).alloc (.cells #[v2] t2)) := ((Kept.refl _ _).alloc _).alloc _
  have a1 : ((w.alloc (.cells #[v1] t1)).alloc (.cells #[v2] t2)).cell? ⟨w.heap.size, 0, none⟩ = some v1 := ((Boxed.new w t1 v1).alloc _).cell
  have e1 : (w.alloc (.cells #[v1] t1)).heap.size = w.heap.size + 1 := by simp
  have b1 := (Boxed.new (w.alloc (.cells #[v1] t1)) t2 v2).cell
  rw [e1] at b1
  have s1 : ((w.alloc (.cells #[v1] t1)).alloc (.cells #[v2] t2)).heap.size = w.heap.size + 1 + 1 := by simp
  have h := (Boxed.new ((w.alloc (.cells #[v1] t1)).alloc (.cells #[v2] t2)) t3 v3).cell
  have hk : Kept [] ((w.alloc (.cells #[v1] t1)).alloc (.cells #[v2] t2)) (((w.alloc (.cells #[v1] t1)).alloc (.cells #[v2] t2)).alloc (.cells #[v3] t3)) := (Kept.refl _ _).alloc _
  rw [s1] at h
  exact ⟨k1.alloc _, (hk.cell (p := ⟨w.heap.size, 0, none⟩) (by show w.heap.size < ((w.alloc (.cells #[v1] t1)).alloc (.cells #[v2] t2)).heap.size; omega) (by simp)).trans a1, (hk.cell (p := ⟨w.heap.size + 1, 0, none⟩) (by show w.heap.size + 1 < ((w.alloc (.cells #[v1] t1)).alloc (.cells #[v2] t2)).heap.size; omega) (by simp)).trans b1, h, by simp⟩

theorem boxes2c (w : World) (t1 t2 : TypeId) (v1 v2 : Value) :
    Kept [] w ((w.alloc (.cells #[v1] t1)).alloc (.cells #[v2] t2)) ∧
    ((w.alloc (.cells #[v1] t1)).alloc (.cells #[v2] t2)).cell? ⟨w.heap.size, 0, none⟩ = some v1 ∧
    ((w.alloc (.cells #[v1] t1)).alloc (.cells #[v2] t2)).cell? ⟨w.heap.size + 1, 0, none⟩ = some v2 ∧
    ((w.alloc (.cells #[v1] t1)).alloc (.cells #[v2] t2)).heap.size = w.heap.size + 2 := by
  have a1 : ((w.alloc (.cells #[v1] t1)).alloc (.cells #[v2] t2)).cell? ⟨w.heap.size, 0, none⟩ = some v1 := ((Boxed.new w t1 v1).alloc _).cell
  have e1 : (w.alloc (.cells #[v1] t1)).heap.size = w.heap.size + 1 := by simp
  have b1 := (Boxed.new (w.alloc (.cells #[v1] t1)) t2 v2).cell
  rw [e1] at b1
  exact ⟨((Kept.refl _ _).alloc _).alloc _, a1, b1, by simp⟩

/-- A cell that lay there before is as it was. -/
theorem Kept.cell_at {a b : World} {g : Nat} {v : Value} (h : Kept [] a b) (hc : a.cell? ⟨g, 0, none⟩ = some v) (hg : g < a.heap.size) : b.cell? ⟨g, 0, none⟩ = some v :=
  (h.cell (p := ⟨g, 0, none⟩) hg (by simp)).trans hc

/-! BeforeCount. -/

set_option maxHeartbeats 1000000 in
set_option maxRecDepth 100000 in
theorem bef1_any (ns : List Nat) (c : Nat) (ks js : List Nat) (ok : Nt.Ok ns) (st : Nt.St c js) (hl : js.length = ns.length) (w : World) (b1 b2 b3 : Nat) (v1 v3 v : Value) (base1 base3 base : Nat)
    (h1 : w.cell? ⟨b1, 0, none⟩ = some v1) (h2 : w.cell? ⟨b2, 0, none⟩ = some (.int .i64 (c : Int))) (h3 : w.cell? ⟨b3, 0, none⟩ = some v3) (hb : b1 < w.heap.size ∧ b2 < w.heap.size ∧ b3 < w.heap.size)
    (hs : Sl w base1 v1 (Nt.nats ns)) (ht : Sl w base3 v3 (Nt.nats ks)) (hj : Sl w base v (Nt.nats js)) :
    Calls Try.prog 44 #[v, .pointer (some ⟨b1, 0, none⟩), .pointer (some ⟨b2, 0, none⟩), .pointer (some ⟨b3, 0, none⟩)] w fun e w' => e = .returned (.bool (decide (Nt.step ns c js = ks))) ∧ Kept [] w w' := by
  have HFI := Lib.hid (fun k => firedState_any ns c js ok st hl (w.drewN k) v1 _ v _ (((Qt.refl w).draw k).sl hs) (((Qt.refl w).draw k).sl hj))
  have HT := Lib.hid ht
  have H3 := Lib.hid h3
  obtain ⟨a1, cap1, rfl, _, _, _⟩ := hs.any
  obtain ⟨a3, cap3, rfl, _, _, _⟩ := ht.any
  obtain ⟨a, cap, rfl, _, _, _⟩ := hj.any
  have HDN := Lib.hid (dec_nats (Nt.step ns c js) ks)
  have H123 : w.drew.cell? ⟨b1, 0, none⟩ = some (.slice a1 (Nt.nats ns).length cap1) ∧ w.drew.cell? ⟨b2, 0, none⟩ = some (.int .i64 (c : Int)) ∧ w.drew.cell? ⟨b3, 0, none⟩ = some (.slice a3 (Nt.nats ks).length cap3) := ⟨h1, h2, h3⟩
  have HH := Lib.hid H123
  have HB := Lib.hid hb
  have HT2w := Lib.hid (fun (w2 : World) (hk : Kept [] w.drew w2) => (((Qt.refl w).draw 1).sl ht).stay hk)
  clear hs ht hj ok st hl h1 h2 h3 H123 hb
  generalize Nt.step ns c js = x at *
  go_enter Try.func44, Try.ntmps44
  go_wp2_with fail
  go_region_held3 (fun w' => w'.cell? ⟨b1, 0, none⟩ = some (.slice a1 (Nt.nats ns).length cap1) ∧ w'.cell? ⟨b2, 0, none⟩ = some (.int .i64 (c : Int)) ∧ w'.cell? ⟨b3, 0, none⟩ = some (.slice a3 (Nt.nats ks).length cap3))
    (first | exact HH.out | exact hS2 | exact hS3 | go_keep)
    (first
      | (go_simp; go_at_call 46; refine (HFI.out 1).mono ?_; rintro e w2 ⟨z, rfl, hs2, hk2⟩; have HS2 := Lib.hid hs2; have HK2 : Hid (Kept [] w w2) := Lib.hid (((Kept.refl [] w).drew).trans hk2 (by simp)); have HT2 := Lib.hid (HT2w.out w2 hk2); have hS2 := And.intro (hk2.cell_at HH.out.1 HB.out.1) (And.intro (hk2.cell_at HH.out.2.1 HB.out.2.1) (hk2.cell_at HH.out.2.2 HB.out.2.2)); clear hs2 hk2)
      | (go_simp; go_at_call 45; refine (equalInts_any _ _ _ _ _ _ _ HS2.out HT2.out).mono ?_; rintro e w3 ⟨rfl, hq3⟩; have HQ3 := Lib.hid hq3; have hS3 := And.intro ((hq3.cell _).trans hS2.1) (And.intro ((hq3.cell _).trans hS2.2.1) ((hq3.cell _).trans hS2.2.2)); clear hq3))
  go_wp2
  go_ret
  exact ⟨by rw [HDN.out]; rfl, HK2.out.trans HQ3.out.kept (by simp)⟩

theorem enter_bef1 (args : Array Value) (w : World) : Sem.run Try.prog (callFunc 44 args) w = .ok (.enter 44 args) w := by kernel_rfl

set_option maxHeartbeats 1000000 in
set_option maxRecDepth 100000 in
theorem iBef_any (xs : List Int) (kinds : Int) (ys : List Int) (w : World) (v : Value) (base : Nat) (u : Value) (base' : Nat) (hs : Sl w base v xs) (ht : Sl w base' u ys) :
    Calls Try.prog 12 #[v, .int .i64 kinds, u] w fun e w' => e = .returned (.int .i64 (Nt.befOf xs kinds ys)) ∧ Kept [] w w' := by
  have hmf : ∀ (fn : Fn) (first cap : Array Value) (w : World), (Instr.makeFunc fn first cap).run Try.prog w = .ok (.func fn first cap) w := fun _ _ _ _ => rfl
  obtain ⟨hk1, ha, hb, hd, hsz⟩ := boxes3c w 23 3 23 v (.int .i64 kinds) u
  have hs1 := hs.stay hk1
  have ht1 := ht.stay hk1
  have HS1 := Lib.hid hs1
  have HT1 := Lib.hid ht1
  have HK1 := Lib.hid hk1
  cases ho : Nt.ccB xs kinds
  · have HF := Lib.hid (Nt.befOf_no1 (ys := ys) ho)
    obtain ⟨a, cap, rfl, _, hm, _⟩ := hs.any
    obtain ⟨a', cap', rfl, _, hm', _⟩ := ht.any
    clear hs ht hs1 ht1 hk1 ha hb hd hsz
    go_enter Try.func12, Try.ntmps12
    go_wp2_with (go_at_call 41; refine (countingOk_any xs kinds _ _ _ HS1.out).mono ?_; rintro e w' ⟨rfl, rfl⟩; rw [ho])
    go_ret
    exact ⟨by rw [HF.out]; rfl, HK1.out⟩
  · cases h2 : Nt.fireB xs kinds ys
    · have HF := Lib.hid (Nt.befOf_no2 h2)
      obtain ⟨a, cap, rfl, _, hm, _⟩ := hs.any
      obtain ⟨a', cap', rfl, _, hm', _⟩ := ht.any
      clear hs ht hs1 ht1 hk1 ha hb hd hsz
      go_enter Try.func12, Try.ntmps12
      go_wp2_with (first | (go_at_call 41; refine (countingOk_any xs kinds _ _ _ HS1.out).mono ?_; rintro e w' ⟨rfl, rfl⟩; rw [ho]) | (go_at_call 42; refine (firingOk_any xs kinds ys _ _ _ _ _ HS1.out HT1.out).mono ?_; rintro e w' ⟨rfl, rfl⟩; rw [h2]))
      go_ret
      exact ⟨by rw [HF.out]; rfl, HK1.out⟩
    · obtain ⟨ns, c, rfl, rfl, ok, h4, h3, h5⟩ := Nt.ccB_ok ho
      obtain ⟨ns', c', ks, e1, e2, rfl, _, st, hl⟩ := Nt.fireB_ok h2
      have e3 := Nt.nats_inj e1
      subst e3
      have e4 : c = c' := by omega
      subst e4
      have HF := Lib.hid (Nt.befOf_ok ok h4 st hl)
      have HC := Lib.hid (countStates_any 44 #[.pointer (some ⟨w.heap.size, 0, none⟩), .pointer (some ⟨w.heap.size + 1, 0, none⟩), .pointer (some ⟨w.heap.size + 1 + 1, 0, none⟩)] (Nt.befP ns c ks) ns c _ (Nt.nats_length ns) ok h4 h3 h5 _ enter_bef1
        (fun m hm w' v' hj hk => by
          have hbp : Nt.befP ns c ks m = decide (Nt.step ns c (Nt.stN ns c m) = ks) := rfl
          rw [hbp]
          have h := bef1_any ns c ks (Nt.stN ns c m) ok (Nt.stN_st ok h3 h5 m) (Nt.stN_length ns c m) w' w.heap.size (w.heap.size + 1) (w.heap.size + 1 + 1) v u v' _ _ 0 (hk.cell_at ha (by rw [hsz]; omega)) (hk.cell_at hb (by rw [hsz]; omega)) (hk.cell_at hd (by rw [hsz]; omega)) (by have := hk.size; rw [hsz] at this; omega) (hs1.stay hk) (ht1.stay hk) hj
          exact Calls.mono (by simpa using h) (fun _ _ h => h)))
      obtain ⟨a, cap, rfl, _, hm, _⟩ := hs.any
      obtain ⟨a', cap', rfl, _, hm', _⟩ := ht.any
      clear hs ht hs1 ht1 hk1 ha hb hd hsz ok st hl h4 h3 h5 e1 e2
      go_enter Try.func12, Try.ntmps12
      go_wp2_with (first | (go_at_call 41; refine (countingOk_any _ _ _ _ _ HS1.out).mono ?_; rintro e w' ⟨rfl, rfl⟩; rw [ho]) | (go_at_call 42; refine (firingOk_any _ _ _ _ _ _ _ _ HS1.out HT1.out).mono ?_; rintro e w' ⟨rfl, rfl⟩; rw [h2]))
      refine HC.out.mono ?_
      rintro e w2 ⟨rfl, hk2⟩
      have HK2 := Lib.hid (HK1.out.trans hk2 (by simp))
      clear hk2
      go_wp2_with fail
      go_ret
      exact ⟨by rw [HF.out]; rfl, HK2.out⟩

/-! DyingCount. -/

set_option maxHeartbeats 1000000 in
set_option maxRecDepth 100000 in
theorem die1_any (ns : List Nat) (c m : Nat) (ok : Nt.Ok ns) (h3 : 3 ≤ c) (h5 : c ≤ 5) (w : World) (b1 b2 : Nat) (v1 v : Value) (base1 base : Nat)
    (h1 : w.cell? ⟨b1, 0, none⟩ = some v1) (h2 : w.cell? ⟨b2, 0, none⟩ = some (.int .i64 (c : Int))) (hs : Sl w base1 v1 (Nt.nats ns)) (hj : Sl w base v (Nt.nats (Nt.stN ns c m))) :
    Calls Try.prog 58 #[v, .pointer (some ⟨b1, 0, none⟩), .pointer (some ⟨b2, 0, none⟩)] w fun e w' => e = .returned (.bool (Nt.dieP ns c m)) ∧ Kept [] w w' := by
  obtain ⟨ra, rb, hL⟩ := Nt.loopIs_ex (Nt.nats ns) (c : Int) (Nt.nats (Nt.stN ns c m))
  have HD := Lib.hid (Nt.dieP_ends ok h3 h5 hL)
  have HC := Lib.hid (iEnds_any (Nt.nats ns) (c : Int) (Nt.nats (Nt.stN ns c m)) hL w v1 _ v _ hs hj)
  obtain ⟨a1, cap1, rfl, _, _, _⟩ := hs.any
  obtain ⟨a, cap, rfl, _, _, _⟩ := hj.any
  clear hs hj ok hL
  generalize Nt.endsOf ra rb = r at *
  go_enter Try.func58, Try.ntmps58
  go_wp2_with fail
  refine HC.out.mono ?_
  rintro e w2 ⟨rfl, hk2⟩
  have HK2 := Lib.hid hk2
  clear hk2
  go_wp2_with fail
  go_ret
  exact ⟨by rw [← HD.out]; rfl, HK2.out⟩

theorem enter_die1 (args : Array Value) (w : World) : Sem.run Try.prog (callFunc 58 args) w = .ok (.enter 58 args) w := by kernel_rfl

set_option maxHeartbeats 1000000 in
set_option maxRecDepth 100000 in
theorem iDie_any (xs : List Int) (kinds : Int) (w : World) (v : Value) (base : Nat) (hs : Sl w base v xs) :
    Calls Try.prog 22 #[v, .int .i64 kinds] w fun e w' => e = .returned (.int .i64 (Nt.dieOf xs kinds)) ∧ Kept [] w w' := by
  have hmf : ∀ (fn : Fn) (first cap : Array Value) (w : World), (Instr.makeFunc fn first cap).run Try.prog w = .ok (.func fn first cap) w := fun _ _ _ _ => rfl
  obtain ⟨hk1, ha, hb, hsz⟩ := boxes2c w 23 3 v (.int .i64 kinds)
  have hs1 := hs.stay hk1
  have HS1 := Lib.hid hs1
  have HK1 := Lib.hid hk1
  cases ho : Nt.ccB xs kinds
  · have HF := Lib.hid (Nt.dieOf_no ho)
    obtain ⟨a, cap, rfl, _, hm, _⟩ := hs.any
    clear hs hs1 hk1 ha hb hsz
    go_enter Try.func22, Try.ntmps22
    go_wp2_with (go_at_call 41; refine (countingOk_any xs kinds _ _ _ HS1.out).mono ?_; rintro e w' ⟨rfl, rfl⟩; rw [ho])
    go_ret
    exact ⟨by rw [HF.out]; rfl, HK1.out⟩
  · obtain ⟨ns, c, rfl, rfl, ok, h4, h3, h5⟩ := Nt.ccB_ok ho
    have HF := Lib.hid (Nt.dieOf_ok ok h4 h3 h5)
    have HC := Lib.hid (countStates_any 58 #[.pointer (some ⟨w.heap.size, 0, none⟩), .pointer (some ⟨w.heap.size + 1, 0, none⟩)] (Nt.dieP ns c) ns c _ (Nt.nats_length ns) ok h4 h3 h5 _ enter_die1
      (fun m hm w' v' hj hk => by
        have h := die1_any ns c m ok h3 h5 w' w.heap.size (w.heap.size + 1) v v' _ 0 (hk.cell_at ha (by rw [hsz]; omega)) (hk.cell_at hb (by rw [hsz]; omega)) (hs1.stay hk) hj
        exact Calls.mono (by simpa using h) (fun _ _ h => h)))
    obtain ⟨a, cap, rfl, _, hm, _⟩ := hs.any
    clear hs hs1 hk1 ha hb hsz ok h4 h3 h5
    go_enter Try.func22, Try.ntmps22
    go_wp2_with (go_at_call 41; refine (countingOk_any _ _ _ _ _ HS1.out).mono ?_; rintro e w' ⟨rfl, rfl⟩; rw [ho])
    refine HC.out.mono ?_
    rintro e w2 ⟨rfl, hk2⟩
    have HK2 := Lib.hid (HK1.out.trans hk2 (by simp))
    clear hk2
    go_wp2_with fail
    go_ret
    exact ⟨by rw [HF.out]; rfl, HK2.out⟩

/-! LoopCount. -/

set_option maxHeartbeats 1000000 in
set_option maxRecDepth 100000 in
theorem lp1_any (ns : List Nat) (c m : Nat) (ok : Nt.Ok ns) (h3 : 3 ≤ c) (h5 : c ≤ 5) (w : World) (b1 b2 : Nat) (v1 v : Value) (base1 base : Nat)
    (h1 : w.cell? ⟨b1, 0, none⟩ = some v1) (h2 : w.cell? ⟨b2, 0, none⟩ = some (.int .i64 (c : Int))) (hs : Sl w base1 v1 (Nt.nats ns)) (hj : Sl w base v (Nt.nats (Nt.stN ns c m))) :
    Calls Try.prog 64 #[v, .pointer (some ⟨b1, 0, none⟩), .pointer (some ⟨b2, 0, none⟩)] w fun e w' => e = .returned (.bool (Nt.lpP ns c m)) ∧ Kept [] w w' := by
  obtain ⟨ra, rb, hL⟩ := Nt.loopIs_ex (Nt.nats ns) (c : Int) (Nt.nats (Nt.stN ns c m))
  have HD := Lib.hid (Nt.lpP_loop ok h3 h5 hL)
  have HC := Lib.hid (iLoop_any (Nt.nats ns) (c : Int) (Nt.nats (Nt.stN ns c m)) hL w v1 _ v _ hs hj)
  obtain ⟨a1, cap1, rfl, _, _, _⟩ := hs.any
  obtain ⟨a, cap, rfl, _, _, _⟩ := hj.any
  clear hs hj ok hL
  generalize ra = r at *
  go_enter Try.func64, Try.ntmps64
  go_wp2_with fail
  refine HC.out.mono ?_
  rintro e w2 ⟨rfl, hk2⟩
  have HK2 := Lib.hid hk2
  clear hk2
  go_wp2_with fail
  go_ret
  exact ⟨by rw [← HD.out]; rfl, HK2.out⟩

theorem enter_lp1 (args : Array Value) (w : World) : Sem.run Try.prog (callFunc 64 args) w = .ok (.enter 64 args) w := by kernel_rfl

set_option maxHeartbeats 1000000 in
set_option maxRecDepth 100000 in
theorem iLp_any (xs : List Int) (kinds : Int) (w : World) (v : Value) (base : Nat) (hs : Sl w base v xs) :
    Calls Try.prog 27 #[v, .int .i64 kinds] w fun e w' => e = .returned (.int .i64 (Nt.lpOf xs kinds)) ∧ Kept [] w w' := by
  have hmf : ∀ (fn : Fn) (first cap : Array Value) (w : World), (Instr.makeFunc fn first cap).run Try.prog w = .ok (.func fn first cap) w := fun _ _ _ _ => rfl
  obtain ⟨hk1, ha, hb, hsz⟩ := boxes2c w 23 3 v (.int .i64 kinds)
  have hs1 := hs.stay hk1
  have HS1 := Lib.hid hs1
  have HK1 := Lib.hid hk1
  cases ho : Nt.ccB xs kinds
  · have HF := Lib.hid (Nt.lpOf_no ho)
    obtain ⟨a, cap, rfl, _, hm, _⟩ := hs.any
    clear hs hs1 hk1 ha hb hsz
    go_enter Try.func27, Try.ntmps27
    go_wp2_with (go_at_call 41; refine (countingOk_any xs kinds _ _ _ HS1.out).mono ?_; rintro e w' ⟨rfl, rfl⟩; rw [ho])
    go_ret
    exact ⟨by rw [HF.out]; rfl, HK1.out⟩
  · obtain ⟨ns, c, rfl, rfl, ok, h4, h3, h5⟩ := Nt.ccB_ok ho
    have HF := Lib.hid (Nt.lpOf_ok ok h4 h3 h5)
    have HC := Lib.hid (countStates_any 64 #[.pointer (some ⟨w.heap.size, 0, none⟩), .pointer (some ⟨w.heap.size + 1, 0, none⟩)] (Nt.lpP ns c) ns c _ (Nt.nats_length ns) ok h4 h3 h5 _ enter_lp1
      (fun m hm w' v' hj hk => by
        have h := lp1_any ns c m ok h3 h5 w' w.heap.size (w.heap.size + 1) v v' _ 0 (hk.cell_at ha (by rw [hsz]; omega)) (hk.cell_at hb (by rw [hsz]; omega)) (hs1.stay hk) hj
        exact Calls.mono (by simpa using h) (fun _ _ h => h)))
    obtain ⟨a, cap, rfl, _, hm, _⟩ := hs.any
    clear hs hs1 hk1 ha hb hsz ok h4 h3 h5
    go_enter Try.func27, Try.ntmps27
    go_wp2_with (go_at_call 41; refine (countingOk_any _ _ _ _ _ HS1.out).mono ?_; rintro e w' ⟨rfl, rfl⟩; rw [ho])
    refine HC.out.mono ?_
    rintro e w2 ⟨rfl, hk2⟩
    have HK2 := Lib.hid (HK1.out.trans hk2 (by simp))
    clear hk2
    go_wp2_with fail
    go_ret
    exact ⟨by rw [HF.out]; rfl, HK2.out⟩

/-! FlatCount. -/

set_option maxHeartbeats 1000000 in
set_option maxRecDepth 100000 in
theorem fl1_any (ns : List Nat) (m : Nat) (ok : Nt.Ok ns) (w : World) (b1 : Nat) (v1 v : Value) (base1 base : Nat)
    (h1 : w.cell? ⟨b1, 0, none⟩ = some v1) (hs : Sl w base1 v1 (Nt.nats ns)) (hj : Sl w base v (Nt.nats (Nt.stN ns 3 m))) :
    Calls Try.prog 61 #[v, .pointer (some ⟨b1, 0, none⟩)] w fun e w' => e = .returned (.bool (Nt.flP ns m)) ∧ Kept [] w w' := by
  have HD : Hid (Nt.flatOf (Nt.nats ns) (Nt.nats (Nt.stN ns 3 m)) = Nt.flP ns m) := Lib.hid (Nt.flatOf_ok ok (Nt.stN_st ok (by omega) (by omega) m) (Nt.stN_length ns 3 m))
  have HC := Lib.hid (iFlat_any (Nt.nats ns) (Nt.nats (Nt.stN ns 3 m)) w v1 _ v _ hs hj)
  obtain ⟨a1, cap1, rfl, _, _, _⟩ := hs.any
  obtain ⟨a, cap, rfl, _, _, _⟩ := hj.any
  clear hs hj ok
  generalize Nt.flatOf (Nt.nats ns) (Nt.nats (Nt.stN ns 3 m)) = r at *
  go_enter Try.func61, Try.ntmps61
  go_wp2_with fail
  refine HC.out.mono ?_
  rintro e w2 ⟨rfl, hk2⟩
  have HK2 := Lib.hid hk2
  clear hk2
  go_wp2_with fail
  go_ret
  exact ⟨by rw [← HD.out]; rfl, HK2.out⟩

theorem enter_fl1 (args : Array Value) (w : World) : Sem.run Try.prog (callFunc 61 args) w = .ok (.enter 61 args) w := by kernel_rfl

set_option maxHeartbeats 1000000 in
set_option maxRecDepth 100000 in
theorem iFl_any (xs : List Int) (w : World) (v : Value) (base : Nat) (hs : Sl w base v xs) :
    Calls Try.prog 24 #[v] w fun e w' => e = .returned (.int .i64 (Nt.flOf xs)) ∧ Kept [] w w' := by
  have hmf : ∀ (fn : Fn) (first cap : Array Value) (w : World), (Instr.makeFunc fn first cap).run Try.prog w = .ok (.func fn first cap) w := fun _ _ _ _ => rfl
  have hk1 : Kept [] w (w.alloc (.cells #[v] 23)) := (Kept.refl _ _).alloc _
  have ha : (w.alloc (.cells #[v] 23)).cell? ⟨w.heap.size, 0, none⟩ = some v := (Boxed.new w _ v).cell
  have hsz : (w.alloc (.cells #[v] 23)).heap.size = w.heap.size + 1 := by simp
  have hs1 := hs.stay hk1
  have HS1 := Lib.hid hs1
  have HK1 := Lib.hid hk1
  cases ho : Nt.ccB xs 3
  · have HF := Lib.hid (Nt.flOf_no ho)
    obtain ⟨a, cap, rfl, _, hm, _⟩ := hs.any
    clear hs hs1 hk1 ha hsz
    go_enter Try.func24, Try.ntmps24
    go_wp2_with (go_at_call 41; refine (countingOk_any xs 3 _ _ _ HS1.out).mono ?_; rintro e w' ⟨rfl, rfl⟩; rw [ho])
    go_ret
    exact ⟨by rw [HF.out]; rfl, HK1.out⟩
  · obtain ⟨ns, c, rfl, hc, ok, h4, h3, h5⟩ := Nt.ccB_ok ho
    have HF := Lib.hid (Nt.flOf_ok ok h4)
    have HC := Lib.hid (countStates_any 61 #[.pointer (some ⟨w.heap.size, 0, none⟩)] (Nt.flP ns) ns 3 _ (Nt.nats_length ns) ok h4 (by omega) (by omega) _ enter_fl1
      (fun m hm w' v' hj hk => by
        have h := fl1_any ns m ok w' w.heap.size v v' _ 0 (hk.cell_at ha (by rw [hsz]; omega)) (hs1.stay hk) hj
        exact Calls.mono (by simpa using h) (fun _ _ h => h)))
    obtain ⟨a, cap, rfl, _, hm, _⟩ := hs.any
    clear hs hs1 hk1 ha hsz ok h4 h3 h5 hc
    go_enter Try.func24, Try.ntmps24
    go_wp2_with (go_at_call 41; refine (countingOk_any _ _ _ _ _ HS1.out).mono ?_; rintro e w' ⟨rfl, rfl⟩; rw [ho])
    refine HC.out.mono ?_
    rintro e w2 ⟨rfl, hk2⟩
    have HK2 := Lib.hid (HK1.out.trans hk2 (by simp))
    clear hk2
    go_wp2_with fail
    go_ret
    exact ⟨by rw [HF.out]; rfl, HK2.out⟩
end Go.Proofs.Ytlcbpnbehbgbeaa
