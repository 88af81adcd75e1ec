/-
  Walks: which nodes fire; whether kinds and a state are those of a net; copies of slices, and slices compared.
  Walks: a state after a step, by the program and by the model.
  Walks: a state after a step, by the model.
  Walks: steps folded, for any function that steps; runs, by the program and by the model.
  Walks: runs, by the program and by the model.
-/
import Derived.Test.YtaacehdfpoiljaaDoorNA
import Derived.Test.YtaacehdfpoiljaaDoorKA
import Derived.Test.YtaacehdfpoiljaaDoorPA
import Derived.Lib.SliceRun
import Derived.RangeFuncBox
namespace Go.Proofs.YtaacehdfpoiljaaDoor
open Go.RowKit

set_option maxHeartbeats 1000000 in
set_option maxRecDepth 100000 in
theorem firingOk_any (xs : List Int) (kinds : Int) (ys : List Int) (w : World) (v : Value) (base : Nat) (u : Value) (base' : Nat) (hs : Sl w base v xs) (ht : Sl w base' u ys) :
    Calls Tryd.prog 55 #[v, .int .i64 kinds, u] w fun e w' => e = .returned (.bool (Nt.fireB xs kinds ys)) ∧ w = w' := by
  have HS := Lib.hid hs
  have HT := Lib.hid ht
  obtain ⟨a, cap, rfl, _, hm, _⟩ := hs.any
  obtain ⟨a', cap', rfl, _, hm', _⟩ := ht.any
  clear hs ht
  cases h1 : Nt.okB xs
  · have HF := Lib.hid (Nt.fireB_no1 (kinds := kinds) (ys := ys) h1)
    go_enter Tryd.func55, Tryd.ntmps55
    go_wp2_with (go_at_call 56; refine (iNetOk_any xs _ _ base HS.out).mono ?_; rintro e w' ⟨rfl, rfl⟩; rw [h1])
    go_ret
    exact ⟨by rw [HF.out]; rfl, rfl⟩
  · cases h2 : Nt.stB kinds ys
    · have HF := Lib.hid (Nt.fireB_no2 (xs := xs) h2)
      go_enter Tryd.func55, Tryd.ntmps55
      go_wp2_with (first | (go_at_call 56; refine (iNetOk_any xs _ _ base HS.out).mono ?_; rintro e w' ⟨rfl, rfl⟩; rw [h1]) | (go_at_call 88; refine (iStateOk_any kinds ys _ _ base' HT.out).mono ?_; rintro e w' ⟨rfl, rfl⟩; rw [h2]))
      go_ret
      exact ⟨by rw [HF.out]; rfl, rfl⟩
    · by_cases h3 : ys.length = xs.length
      · have HF := Lib.hid (Nt.fireB_all h1 h2 h3)
        have h0 : ((ys.length : Int) == (xs.length : Int)) = true := by simp [h3]
        clear h3
        go_enter Tryd.func55, Tryd.ntmps55
        go_wp2_with (first | (go_at_call 56; refine (iNetOk_any xs _ _ base HS.out).mono ?_; rintro e w' ⟨rfl, rfl⟩; rw [h1]) | (go_at_call 88; refine (iStateOk_any kinds ys _ _ base' HT.out).mono ?_; rintro e w' ⟨rfl, rfl⟩; rw [h2]))
        go_ret
        exact ⟨by rw [HF.out]; rfl, rfl⟩
      · have HF := Lib.hid (Nt.fireB_no3 (kinds := kinds) h3)
        have h0 : ((ys.length : Int) == (xs.length : Int)) = false := by simp; omega
        clear h3
        go_enter Tryd.func55, Tryd.ntmps55
        go_wp2_with (first | (go_at_call 56; refine (iNetOk_any xs _ _ base HS.out).mono ?_; rintro e w' ⟨rfl, rfl⟩; rw [h1]) | (go_at_call 88; refine (iStateOk_any kinds ys _ _ base' HT.out).mono ?_; rintro e w' ⟨rfl, rfl⟩; rw [h2]))
        go_ret
        exact ⟨by rw [HF.out]; rfl, rfl⟩

set_option maxHeartbeats 1000000 in
set_option maxRecDepth 100000 in
theorem l3Ok_any (xs : List Int) (kinds : Int) (ys : List Int) (w : World) (v : Value) (base : Nat) (u : Value) (base' : Nat) (hs : Sl w base v xs) (ht : Sl w base' u ys) :
    Calls Tryd.prog 87 #[v, .int .i64 kinds, u] w fun e w' => e = .returned (.bool (Nt.fireB xs kinds ys)) ∧ Qt w w' := by
  have HS := Lib.hid hs
  have HT := Lib.hid ht
  obtain ⟨a, cap, rfl, _, hm, _⟩ := hs.any
  obtain ⟨a', cap', rfl, _, hm', _⟩ := ht.any
  clear hs ht
  go_enter Tryd.func87, Tryd.ntmps87
  go_wp2_with fail
  refine (sNetOk_any xs _ _ base HS.out).mono ?_
  rintro e w1 ⟨rfl, hq⟩
  have HQ := Lib.hid hq
  have HT1 := Lib.hid (hq.sl HT.out)
  clear hq
  cases h1 : Nt.okB xs
  · have HF := Lib.hid (Nt.fireB_no1 (kinds := kinds) (ys := ys) h1)
    go_wp2_with fail
    go_ret
    exact ⟨by rw [HF.out]; rfl, HQ.out⟩
  · go_wp2_with fail
    refine (sStateOk_any kinds ys _ _ base' HT1.out).mono ?_
    rintro e w' ⟨rfl, rfl⟩
    cases h2 : Nt.stB kinds ys
    · have HF := Lib.hid (Nt.fireB_no2 (xs := xs) h2)
      go_wp2_with fail
      go_ret
      exact ⟨by rw [HF.out]; rfl, HQ.out⟩
    · by_cases h3 : ys.length = xs.length
      · have HF := Lib.hid (Nt.fireB_all h1 h2 h3)
        have h0 : ((ys.length : Int) == (xs.length : Int)) = true := by simp [h3]
        clear h3
        go_wp2_with fail
        go_ret
        exact ⟨by rw [HF.out]; rfl, HQ.out⟩
      · have HF := Lib.hid (Nt.fireB_no3 (kinds := kinds) h3)
        have h0 : ((ys.length : Int) == (xs.length : Int)) = false := by simp; omega
        clear h3
        go_wp2_with fail
        go_ret
        exact ⟨by rw [HF.out]; rfl, HQ.out⟩

end Go.Proofs.YtaacehdfpoiljaaDoor

namespace Go.Proofs.YtaacehdfpoiljaaDoor
open Go.RowKit

end Go.Proofs.YtaacehdfpoiljaaDoor

namespace Go.Proofs.YtaacehdfpoiljaaDoor
open Go.RowKit

theorem step_take (ns : List Nat) (c : Nat) (ks : List Nat) (k : Nat) (h : k < ks.length) : Nt.nats ((Nt.step ns c ks).take (k + 1)) = Nt.nats ((Nt.step ns c ks).take k) ++ [(((Nt.step ns c ks).getD k 0 : Nat) : Int)] :=
  Nt.take_more _ _ (by rw [Nt.step_length]; exact h)

end Go.Proofs.YtaacehdfpoiljaaDoor

namespace Go.Proofs.YtaacehdfpoiljaaDoor
open Go.RowKit

end Go.Proofs.YtaacehdfpoiljaaDoor

namespace Go.Proofs.YtaacehdfpoiljaaDoor
open Go.RowKit

/-- Two boxes: a slice and a number. -/
theorem two_boxes (w : World) (t : TypeId) (v : Value) (kinds : Int) :
    Kept [] w ((w.alloc (.cells #[v] t)).alloc (.cells #[.int .i64 kinds] 3)) ∧
    ((w.alloc (.cells #[v] t)).alloc (.cells #[.int .i64 kinds] 3)).cell? ⟨w.heap.size, 0, none⟩ = some v ∧
    ((w.alloc (.cells #[v] t)).alloc (.cells #[.int .i64 kinds] 3)).cell? ⟨w.heap.size + 1, 0, none⟩ = some (.int .i64 kinds) ∧
    ((w.alloc (.cells #[v] t)).alloc (.cells #[.int .i64 kinds] 3)).heap.size = w.heap.size + 2 := by
  refine ⟨((Kept.refl _ _).alloc _).alloc _, ((Boxed.new w t v).alloc _).cell, ?_, by simp⟩
  have h := (Boxed.new (w.alloc (.cells #[v] t)) 3 (.int .i64 kinds)).cell
  have e : (w.alloc (.cells #[v] t)).heap.size = w.heap.size + 1 := by simp
  rw [e] at h
  exact h

end Go.Proofs.YtaacehdfpoiljaaDoor
