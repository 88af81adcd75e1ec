/-
  Walks: which nodes fire; whether kinds and a state are those of a net; copies of slices, and slices compared.
  Walks: a state after a step, by the program and by the model.
  Walks: a state after a step, by the model.
  Walks: steps folded, for any function that steps; runs, by the program and by the model.
  Walks: runs, by the program and by the model.
-/
import Derived.Test.YtdpkacpeednnoabNA
import Derived.Test.YtdpkacpeednnoabKA
import Derived.Test.YtdpkacpeednnoabPA
import Derived.Lib.SliceRun
import Derived.RangeFuncBox
namespace Go.Proofs.Ytdpkacpeednnoab
open Go.RowKit

set_option maxHeartbeats 1000000 in
set_option maxRecDepth 100000 in
theorem cloneInts_any (xs : List Int) (hp : 0 < xs.length) (hl : xs.length ≤ 1000) (w : World) (v : Value) (base : Nat) (hs : Sl w base v xs) :
    Calls Try.prog 44 #[v] w fun e w' => ∃ z, e = .returned z ∧ Sl w' w.heap.size z xs ∧ Kept [] w w' := by
  have qT : ∀ (w : World) (a : Option Addr) (n c n' c' : Nat), (binOp .eql 22 (.slice a n c) (.slice none n' c')).run Try.prog w = .ok (.bool a.isNone) w := fun w a n c n' c' => Lib.run_eql_slice_nil w _ _ a n c n' c' Try.underlying22
  have HE := Lib.hid (Sl.empty3 w)
  have HX := Lib.hid (hs.stay ((Kept.refl [] w).alloc (.cells #[] 3)))
  obtain ⟨n, hn⟩ : ∃ n, n = xs.length := ⟨_, rfl⟩
  obtain ⟨g, cap, rfl, _, _⟩ := hs.shape hn.symm (by omega)
  have HN := Lib.hid hn
  have HP := Lib.hid hp
  have HL := Lib.hid hl
  clear hs hn hp hl
  go_enter Try.func44, Try.ntmps44
  go_wp2_with (at_builtin; refine app_sl rfl _ _ rfl w.heap.size _ [] HE.out rfl _ _ xs HX.out HP.out rfl (by have := HL.out; simp; omega) (by simp) ?_; intro z w1 hs1 hk1; have HZ := Lib.hid hs1; have HK := Lib.hid (((Kept.refl [] w).alloc (.cells #[] 3)).own hk1 (fun g' hg' => by simp [Value.ownBlock] at hg'; omega)); clear hs1 hk1)
  go_ret
  exact ⟨_, rfl, by have h := HZ.out; rw [List.nil_append] at h; exact h, HK.out⟩

end Go.Proofs.Ytdpkacpeednnoab

namespace Go.Proofs.Ytdpkacpeednnoab
open Go.RowKit

end Go.Proofs.Ytdpkacpeednnoab

namespace Go.Proofs.Ytdpkacpeednnoab
open Go.RowKit

theorem step_take (ns : List Nat) (c : Nat) (ks : List Nat) (k : Nat) (h : k < ks.length) : Nt.nats ((Nt.step ns c ks).take (k + 1)) = Nt.nats ((Nt.step ns c ks).take k) ++ [(((Nt.step ns c ks).getD k 0 : Nat) : Int)] :=
  Nt.take_more _ _ (by rw [Nt.step_length]; exact h)

end Go.Proofs.Ytdpkacpeednnoab

namespace Go.Proofs.Ytdpkacpeednnoab
open Go.RowKit

set_option maxHeartbeats 2000000 in
set_option maxRecDepth 100000 in
/-- A function that steps from each state of a row of states to the next one is folded; what it is handed lies in blocks behind B. -/
theorem foldedStepsB_any (F : Nat) (caps : Array Value) (s : Nat → List Nat) (n T : Nat) (hT : T ≤ 60) (hn1 : 0 < n) (hn6 : n ≤ 6) (hlen : ∀ t, (s t).length = n) (J : Nat → World → Prop) (rows : List Nat) (B : Nat)
    (hent : ∀ (args : Array Value) (w : World), Sem.run Try.prog (callFunc F args) w = .ok (.enter F args) w)
    (hstep : ∀ t, t < T → ∀ (w : World) (v : Value) (base : Nat), B ≤ base → Sl w base v (Nt.nats (s t)) → J t w → B ≤ w.heap.size →
      Calls Try.prog F (#[v] ++ caps) w fun e w' => ∃ z, e = .returned z ∧ Sl w' w.heap.size z (Nt.nats (s (t + 1))) ∧ J (t + 1) w' ∧ Kept rows w w')
    (hstay : ∀ t w w', B ≤ w.heap.size → J t w → Kept [] w w' → J t w') (hrows : ∀ r, r ∈ rows → r < B)
    (w : World) (v : Value) (base : Nat) (hB : B ≤ w.heap.size) (hs : Sl w base v (Nt.nats (s 0))) (hJ : J 0 w) :
    Calls Try.prog 39 #[v, .int .i64 (T : Int), .func (.func F) #[] caps] w fun e w' => ∃ z, e = .returned z ∧ Sl w' w.heap.size z (Nt.nats (s T)) ∧ J T w' ∧ Kept rows w w' := by
  have HSTEP := Lib.hid hstep
  have HENT := Lib.hid hent
  have HROWS := Lib.hid hrows
  have HX := Lib.hid (show 0 < (Nt.nats (s 0)).length ∧ (Nt.nats (s 0)).length ≤ 1000 from by rw [Nt.nats_length, hlen]; omega)
  have HS := Lib.hid hs
  have HJ := Lib.hid (fun w' => hstay 0 w w' hB hJ)
  obtain ⟨a, cap, rfl, _, _, _⟩ := hs.any
  clear hent hstep hstay hrows hs hJ hlen
  go_enter Try.func39, Try.ntmps39
  go_wp2_with fail
  refine (cloneInts_any (Nt.nats (s 0)) HX.out.1 HX.out.2 _ _ _ HS.out).mono ?_
  rintro e w1 ⟨z, rfl, hs1, hk1⟩
  have HS1 := Lib.hid hs1
  have HK1 := Lib.hid (hk1.to_below)
  have HJ1 := Lib.hid (HJ.out w1 hk1)
  clear hs1 hk1 HJ HX HS
  go_wp2_with fail
  go_loopw [7, 11] (fun u i wr => ∃ t : Nat, t ≤ T ∧ i = .int .i64 t ∧ Sl wr w.heap.size u (Nt.nats (s t)) ∧ J t wr ∧ Kept rows w wr) (fun _ i _ => T - (intOf i).toNat)
  case atStart => exact ⟨0, Nat.zero_le _, rfl, HS1.out, HJ1.out, ⟨HK1.out.os, HK1.out.tape, HK1.out.output, HK1.out.size, fun k hk _ => HK1.out.block k hk⟩⟩
  case round =>
    clear HS1 HK1 HJ1
    obtain ⟨t, ht, rfl, hsl, hj, hkept⟩ := hrel
    have HSL := Lib.hid hsl
    have HJT := Lib.hid hj
    have HK := Lib.hid hkept
    clear hsl hj hkept
    by_cases hlt : t < T
    · go_wp2_with fail
      rw [HENT.out, Oper.upon_enter]
      refine (HSTEP.out t hlt _ _ _ hB HSL.out HJT.out (Nat.le_trans hB HK.out.size)).mono ?_
      rintro e w2 ⟨z2, rfl, hs2, hj2, hk2⟩
      have HS2 := Lib.hid (hs2.mono HK.out.size)
      have HJ2 := Lib.hid hj2
      have HK2 := Lib.hid (HK.out.trans hk2 (fun x hx => .inl hx))
      clear hs2 hj2 hk2
      go_wp2_with fail
      go_roundw
      case rel => exact ⟨t + 1, by omega, by go_num, HS2.out, HJ2.out, HK2.out⟩
      case measure => simp [intOf]; omega
    · have ht' : t = T := by omega
      subst ht'
      go_wp2_with fail
      go_ret
      exact ⟨_, rfl, HSL.out, HJT.out, HK.out⟩

/-- A function that steps from each state of a row of states to the next one is folded. -/
theorem foldedSteps_any (F : Nat) (caps : Array Value) (s : Nat → List Nat) (n T : Nat) (hT : T ≤ 60) (hn1 : 0 < n) (hn6 : n ≤ 6) (hlen : ∀ t, (s t).length = n) (J : Nat → World → Prop) (rows : List Nat) (B : Nat)
    (hent : ∀ (args : Array Value) (w : World), Sem.run Try.prog (callFunc F args) w = .ok (.enter F args) w)
    (hstep : ∀ t, t < T → ∀ (w : World) (v : Value) (base : Nat), Sl w base v (Nt.nats (s t)) → J t w → B ≤ w.heap.size →
      Calls Try.prog F (#[v] ++ caps) w fun e w' => ∃ z, e = .returned z ∧ Sl w' w.heap.size z (Nt.nats (s (t + 1))) ∧ J (t + 1) w' ∧ Kept rows w w')
    (hstay : ∀ t w w', B ≤ w.heap.size → J t w → Kept [] w w' → J t w') (hrows : ∀ r, r ∈ rows → r < B)
    (w : World) (v : Value) (base : Nat) (hB : B ≤ w.heap.size) (hs : Sl w base v (Nt.nats (s 0))) (hJ : J 0 w) :
    Calls Try.prog 39 #[v, .int .i64 (T : Int), .func (.func F) #[] caps] w fun e w' => ∃ z, e = .returned z ∧ Sl w' w.heap.size z (Nt.nats (s T)) ∧ J T w' ∧ Kept rows w w' :=
  foldedStepsB_any F caps s n T hT hn1 hn6 hlen J rows B hent (fun t ht w v base _ => hstep t ht w v base) hstay hrows w v base hB hs hJ
end Go.Proofs.Ytdpkacpeednnoab

namespace Go.Proofs.Ytdpkacpeednnoab
open Go.RowKit

/-- Two boxes: a slice and a number. -/
theorem two_boxes (w : World) (t : TypeId) (v : Value) (kinds : Int) :
    Kept [] w ((w.alloc (.cells #[v] t)).alloc (.cells #[.int .i64 kinds] 3)) ∧
    ((w.alloc (.cells #[v] t)).alloc (.cells #[.int .i64 kinds] 3)).cell? ⟨w.heap.size, 0, none⟩ = some v ∧
    ((w.alloc (.cells #[v] t)).alloc (.cells #[.int .i64 kinds] 3)).cell? ⟨w.heap.size + 1, 0, none⟩ = some (.int .i64 kinds) ∧
    ((w.alloc (.cells #[v] t)).alloc (.cells #[.int .i64 kinds] 3)).heap.size = w.heap.size + 2 := by
  refine ⟨((Kept.refl _ _).alloc _).alloc _, ((Boxed.new w t v).alloc _).cell, ?_, by simp⟩
  have h := (Boxed.new (w.alloc (.cells #[v] t)) 3 (.int .i64 kinds)).cell
  have e : (w.alloc (.cells #[v] t)).heap.size = w.heap.size + 1 := by simp
  rw [e] at h
  exact h

end Go.Proofs.Ytdpkacpeednnoab
