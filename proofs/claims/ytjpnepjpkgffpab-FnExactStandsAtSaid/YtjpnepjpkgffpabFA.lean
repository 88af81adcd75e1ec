/-
  Walks: which nodes fire; whether kinds and a state are those of a net; copies of slices, and slices compared.
  Walks: a state after a step, by the program and by the model.
  Walks: a state after a step, by the model.
  Walks: steps folded, for any function that steps; runs, by the program and by the model.
  Walks: runs, by the program and by the model.
-/
import Derived.Test.YtjpnepjpkgffpabNA
import Derived.Test.YtjpnepjpkgffpabKA
import Derived.Test.YtjpnepjpkgffpabPA
import Derived.Lib.SliceRun
import Derived.RangeFuncBox
namespace Go.Proofs.Ytjpnepjpkgffpab
open Go.RowKit

set_option maxHeartbeats 1000000 in
set_option maxRecDepth 100000 in
theorem firingOk_any (xs : List Int) (kinds : Int) (ys : List Int) (w : World) (v : Value) (base : Nat) (u : Value) (base' : Nat) (hs : Sl w base v xs) (ht : Sl w base' u ys) :
    Calls Try.prog 42 #[v, .int .i64 kinds, u] w fun e w' => e = .returned (.bool (Nt.fireB xs kinds ys)) ∧ w = w' := by
  have HS := Lib.hid hs
  have HT := Lib.hid ht
  obtain ⟨a, cap, rfl, _, hm, _⟩ := hs.any
  obtain ⟨a', cap', rfl, _, hm', _⟩ := ht.any
  clear hs ht
  cases h1 : Nt.okB xs
  · have HF := Lib.hid (Nt.fireB_no1 (kinds := kinds) (ys := ys) h1)
    go_enter Try.func42, Try.ntmps42
    go_wp2_with (go_at_call 51; refine (iNetOk_any xs _ _ base HS.out).mono ?_; rintro e w' ⟨rfl, rfl⟩; rw [h1])
    go_ret
    exact ⟨by rw [HF.out]; rfl, rfl⟩
  · cases h2 : Nt.stB kinds ys
    · have HF := Lib.hid (Nt.fireB_no2 (xs := xs) h2)
      go_enter Try.func42, Try.ntmps42
      go_wp2_with (first | (go_at_call 51; refine (iNetOk_any xs _ _ base HS.out).mono ?_; rintro e w' ⟨rfl, rfl⟩; rw [h1]) | (go_at_call 56; refine (iStateOk_any kinds ys _ _ base' HT.out).mono ?_; rintro e w' ⟨rfl, rfl⟩; rw [h2]))
      go_ret
      exact ⟨by rw [HF.out]; rfl, rfl⟩
    · by_cases h3 : ys.length = xs.length
      · have HF := Lib.hid (Nt.fireB_all h1 h2 h3)
        have h0 : ((ys.length : Int) == (xs.length : Int)) = true := by simp [h3]
        clear h3
        go_enter Try.func42, Try.ntmps42
        go_wp2_with (first | (go_at_call 51; refine (iNetOk_any xs _ _ base HS.out).mono ?_; rintro e w' ⟨rfl, rfl⟩; rw [h1]) | (go_at_call 56; refine (iStateOk_any kinds ys _ _ base' HT.out).mono ?_; rintro e w' ⟨rfl, rfl⟩; rw [h2]))
        go_ret
        exact ⟨by rw [HF.out]; rfl, rfl⟩
      · have HF := Lib.hid (Nt.fireB_no3 (kinds := kinds) h3)
        have h0 : ((ys.length : Int) == (xs.length : Int)) = false := by simp; omega
        clear h3
        go_enter Try.func42, Try.ntmps42
        go_wp2_with (first | (go_at_call 51; refine (iNetOk_any xs _ _ base HS.out).mono ?_; rintro e w' ⟨rfl, rfl⟩; rw [h1]) | (go_at_call 56; refine (iStateOk_any kinds ys _ _ base' HT.out).mono ?_; rintro e w' ⟨rfl, rfl⟩; rw [h2]))
        go_ret
        exact ⟨by rw [HF.out]; rfl, rfl⟩

set_option maxHeartbeats 1000000 in
set_option maxRecDepth 100000 in
theorem l3Ok_any (xs : List Int) (kinds : Int) (ys : List Int) (w : World) (v : Value) (base : Nat) (u : Value) (base' : Nat) (hs : Sl w base v xs) (ht : Sl w base' u ys) :
    Calls Try.prog 24 #[v, .int .i64 kinds, u] w fun e w' => e = .returned (.bool (Nt.fireB xs kinds ys)) ∧ Qt w w' := by
  have HS := Lib.hid hs
  have HT := Lib.hid ht
  obtain ⟨a, cap, rfl, _, hm, _⟩ := hs.any
  obtain ⟨a', cap', rfl, _, hm', _⟩ := ht.any
  clear hs ht
  go_enter Try.func24, Try.ntmps24
  go_wp2_with fail
  refine (sNetOk_any xs _ _ base HS.out).mono ?_
  rintro e w1 ⟨rfl, hq⟩
  have HQ := Lib.hid hq
  have HT1 := Lib.hid (hq.sl HT.out)
  clear hq
  cases h1 : Nt.okB xs
  · have HF := Lib.hid (Nt.fireB_no1 (kinds := kinds) (ys := ys) h1)
    go_wp2_with fail
    go_ret
    exact ⟨by rw [HF.out]; rfl, HQ.out⟩
  · go_wp2_with fail
    refine (sStateOk_any kinds ys _ _ base' HT1.out).mono ?_
    rintro e w' ⟨rfl, rfl⟩
    cases h2 : Nt.stB kinds ys
    · have HF := Lib.hid (Nt.fireB_no2 (xs := xs) h2)
      go_wp2_with fail
      go_ret
      exact ⟨by rw [HF.out]; rfl, HQ.out⟩
    · by_cases h3 : ys.length = xs.length
      · have HF := Lib.hid (Nt.fireB_all h1 h2 h3)
        have h0 : ((ys.length : Int) == (xs.length : Int)) = true := by simp [h3]
        clear h3
        go_wp2_with fail
        go_ret
        exact ⟨by rw [HF.out]; rfl, HQ.out⟩
      · have HF := Lib.hid (Nt.fireB_no3 (kinds := kinds) h3)
        have h0 : ((ys.length : Int) == (xs.length : Int)) = false := by simp; omega
        clear h3
        go_wp2_with fail
        go_ret
        exact ⟨by rw [HF.out]; rfl, HQ.out⟩

set_option maxHeartbeats 1000000 in
set_option maxRecDepth 100000 in
theorem cloneInts_any (xs : List Int) (hp : 0 < xs.length) (hl : xs.length ≤ 1000) (w : World) (v : Value) (base : Nat) (hs : Sl w base v xs) :
    Calls Try.prog 58 #[v] w fun e w' => ∃ z, e = .returned z ∧ Sl w' w.heap.size z xs ∧ Kept [] w w' := by
  have qT : ∀ (w : World) (a : Option Addr) (n c n' c' : Nat), (binOp .eql 22 (.slice a n c) (.slice none n' c')).run Try.prog w = .ok (.bool a.isNone) w := fun w a n c n' c' => Lib.run_eql_slice_nil w _ _ a n c n' c' Try.underlying22
  have HE := Lib.hid (Sl.empty3 w)
  have HX := Lib.hid (hs.stay ((Kept.refl [] w).alloc (.cells #[] 3)))
  obtain ⟨n, hn⟩ : ∃ n, n = xs.length := ⟨_, rfl⟩
  obtain ⟨g, cap, rfl, _, _⟩ := hs.shape hn.symm (by omega)
  have HN := Lib.hid hn
  have HP := Lib.hid hp
  have HL := Lib.hid hl
  clear hs hn hp hl
  go_enter Try.func58, Try.ntmps58
  go_wp2_with (at_builtin; refine app_sl rfl _ _ rfl w.heap.size _ [] HE.out rfl _ _ xs HX.out HP.out rfl (by have := HL.out; simp; omega) (by simp) ?_; intro z w1 hs1 hk1; have HZ := Lib.hid hs1; have HK := Lib.hid (((Kept.refl [] w).alloc (.cells #[] 3)).own hk1 (fun g' hg' => by simp [Value.ownBlock] at hg'; omega)); clear hs1 hk1)
  go_ret
  exact ⟨_, rfl, by have h := HZ.out; rw [List.nil_append] at h; exact h, HK.out⟩

set_option maxHeartbeats 1000000 in
set_option maxRecDepth 100000 in
theorem equalInts_any (xs ys : List Int) (w : World) (v : Value) (base : Nat) (u : Value) (base' : Nat) (hs : Sl w base v xs) (ht : Sl w base' u ys) :
    Calls Try.prog 57 #[v, u] w fun e w' => e = .returned (.bool (decide (xs = ys))) ∧ Qt w w' := by
  obtain ⟨a, cap, rfl, _, hm, hc⟩ := hs.any
  obtain ⟨b, cap', rfl, _, hm', hc'⟩ := ht.any
  have HC := Lib.hid hc
  have HD := Lib.hid hc'
  clear hc hc' hs ht
  by_cases hl : xs.length = ys.length
  · have h0 : ((xs.length : Int) != (ys.length : Int)) = false := by simp [hl]
    have HL := Lib.hid hl
    clear hl
    go_enter Try.func57, Try.ntmps57
    go_wp2
    go_loopw [13] (fun n wr => ∃ k : Nat, k ≤ xs.length ∧ n = .int .i64 k ∧ sameTo xs ys k ∧ Qt w wr) (fun n _ => xs.length - (intOf n).toNat)
    case atStart => exact ⟨0, Nat.zero_le _, rfl, fun j hj => absurd hj (by omega), Qt.refl _⟩
    case round =>
      obtain ⟨k, hk, rfl, hsame, hq⟩ := hrel
      have HQ := Lib.hid hq
      have HS := Lib.hid hsame
      clear hsame
      by_cases hlt : k < xs.length
      · have hlt' : k < ys.length := by have := HL.out; omega
        obtain ⟨g, rfl, _, _, h1, _⟩ := HC.out k hlt
        obtain ⟨g', rfl, _, _, h2, _⟩ := HD.out k hlt'
        have c1 := (hq.cell _).trans h1
        have c2 := (hq.cell _).trans h2
        clear hq h1 h2
        generalize hx : xs.getD k 0 = x at *
        generalize hy : ys.getD k 0 = y at *
        have HX := Lib.hid hx
        have HY := Lib.hid hy
        clear hx hy
        by_cases e : x = y
        · have he : (x != y) = false := by simp [e]
          have HE := Lib.hid e
          clear e
          go_wp2_with fail
          go_quiet (fail)
          go_wp2
          go_roundw
          case rel => exact ⟨k + 1, by omega, by go_num, sameTo_succ HS.out (by rw [HX.out, HY.out, HE.out]), HQ.out.draw _⟩
          case measure => simp [intOf]; omega
        · have he : (x != y) = true := by simp [e]
          have HE := Lib.hid e
          clear e
          go_wp2_with fail
          go_quiet (fail)
          go_wp2
          go_ret
          exact ⟨by rw [dec_not (fun h => HE.out (by rw [← HX.out, ← HY.out, h]))]; rfl, HQ.out.draw _⟩
      · have hk' : k = xs.length := by omega
        subst hk'
        clear hq
        go_wp2
        go_ret
        exact ⟨by rw [dec_of (sameTo_all HS.out HL.out)]; rfl, HQ.out⟩
  · have h0 : ((xs.length : Int) != (ys.length : Int)) = true := by simp; omega
    have HL := Lib.hid hl
    clear hl
    go_enter Try.func57, Try.ntmps57
    go_wp2
    go_ret
    exact ⟨by rw [dec_not (fun h => HL.out (by rw [h]))]; rfl, Qt.refl _⟩
end Go.Proofs.Ytjpnepjpkgffpab

namespace Go.Proofs.Ytjpnepjpkgffpab
open Go.RowKit

end Go.Proofs.Ytjpnepjpkgffpab

namespace Go.Proofs.Ytjpnepjpkgffpab
open Go.RowKit

theorem step_take (ns : List Nat) (c : Nat) (ks : List Nat) (k : Nat) (h : k < ks.length) : Nt.nats ((Nt.step ns c ks).take (k + 1)) = Nt.nats ((Nt.step ns c ks).take k) ++ [(((Nt.step ns c ks).getD k 0 : Nat) : Int)] :=
  Nt.take_more _ _ (by rw [Nt.step_length]; exact h)

end Go.Proofs.Ytjpnepjpkgffpab

namespace Go.Proofs.Ytjpnepjpkgffpab
open Go.RowKit

end Go.Proofs.Ytjpnepjpkgffpab

namespace Go.Proofs.Ytjpnepjpkgffpab
open Go.RowKit

/-- Two boxes: a slice and a number. -/
theorem two_boxes (w : World) (t : TypeId) (v : Value) (kinds : Int) :
    Kept [] w ((w.alloc (.cells #[v] t)).alloc (.cells #[.int .i64 kinds] 3)) ∧
    ((w.alloc (.cells #[v] t)).alloc (.cells #[.int .i64 kinds] 3)).cell? ⟨w.heap.size, 0, none⟩ = some v ∧
    ((w.alloc (.cells #[v] t)).alloc (.cells #[.int .i64 kinds] 3)).cell? ⟨w.heap.size + 1, 0, none⟩ = some (.int .i64 kinds) ∧
    ((w.alloc (.cells #[v] t)).alloc (.cells #[.int .i64 kinds] 3)).heap.size = w.heap.size + 2 := by
  refine ⟨((Kept.refl _ _).alloc _).alloc _, ((Boxed.new w t v).alloc _).cell, ?_, by simp⟩
  have h := (Boxed.new (w.alloc (.cells #[v] t)) 3 (.int .i64 kinds)).cell
  have e : (w.alloc (.cells #[v] t)).heap.size = w.heap.size + 1 := by simp
  rw [e] at h
  exact h

end Go.Proofs.Ytjpnepjpkgffpab
