/-
  Walks: turns of a state, stillness, runs of turns and their loops, by the program.
  Walks: how often nodes turn, by the program.
-/
import Derived.Test.YtdpkacpeednnoaaFC
import Derived.Test.YtdpkacpeednnoaaTA
import Derived.Test.YtdpkacpeednnoaaFB
namespace Go.Proofs.Ytdpkacpeednnoaa
open Go.RowKit

/-- Whether a set has a node among the first ones with a kind. -/
def hasK (s q : Nat) (ks : List Nat) (j : Nat) : Bool := (List.range j).any fun i => s.testBit i && decide (ks.getD i 0 = q)
theorem hasK_succ (s q : Nat) (ks : List Nat) (j : Nat) : hasK s q ks (j + 1) = (hasK s q ks j || (s.testBit j && decide (ks.getD j 0 = q))) := by
  unfold hasK
  rw [List.range_succ, List.any_append]
  simp
theorem hasK_all {s q : Nat} {ks : List Nat} {j n : Nat} (h : j < n) (e : (s.testBit j && decide (ks.getD j 0 = q)) = true) : hasK s q ks n = true := by
  unfold hasK
  rw [List.any_eq_true]
  exact ⟨j, List.mem_range.2 h, e⟩

theorem turningOk_any (xs : List Int) (ys : List Int) (w : World) (v : Value) (base : Nat) (u : Value) (base' : Nat) (hs : Sl w base v xs) (ht : Sl w base' u ys) :
    Calls Try.prog 56 #[v, u] w fun e w' => e = .returned (.bool (Nt.fireB xs 3 ys)) ∧ w = w' := by
  have HS := Lib.hid hs
  have HT := Lib.hid ht
  obtain ⟨a, cap, rfl, _, hm, _⟩ := hs.any
  obtain ⟨a', cap', rfl, _, hm', _⟩ := ht.any
  clear hs ht
  go_enter Try.func56, Try.ntmps56
  go_wp2_with (go_at_call 70; refine (firingOk_any xs 3 ys _ _ _ _ _ HS.out HT.out).mono ?_; rintro e w' ⟨rfl, rfl⟩)
  go_ret
  exact ⟨rfl, rfl⟩

set_option maxHeartbeats 1000000 in
set_option maxRecDepth 100000 in
theorem setHasKind_any (s q : Nat) (ks : List Nat) (n : Nat) (hn : ks.length = n) (hp : 0 < n) (h6 : n ≤ 6) (w : World) (v : Value) (base : Nat) (hs : Sl w base v (Nt.nats ks)) :
    Calls Try.prog 72 #[.int .i64 (s : Int), v, .int .i64 (q : Int)] w fun e w' => e = .returned (.bool (hasK s q ks n)) ∧ w = w' := by
  obtain ⟨g, cap, rfl, hg, hc⟩ := hs.row hn hp
  have HC := Lib.hid hc
  have HS := Lib.hid (fun j => hasK_succ s q ks j)
  have HA := Lib.hid (fun j (h : j < n) => hasK_all (s := s) (q := q) (ks := ks) h)
  clear hs hc hn
  go_enter Try.func72, Try.ntmps72
  go_wp2
  go_loop [11] (fun i => ∃ k : Nat, k ≤ n ∧ i = .int .i64 k ∧ hasK s q ks k = false) (fun i => n - (intOf i).toNat)
  case atStart => exact ⟨0, Nat.zero_le _, rfl, rfl⟩
  case round =>
    obtain ⟨k, hk, rfl, hf⟩ := hrel
    by_cases hlt : k < n
    · have hcell := HC.out k hlt
      have hsu := HS.out k
      rw [hf, Bool.false_or] at hsu
      have hall := HA.out k hlt
      clear hf
      generalize ks.getD k 0 = x at *
      by_cases hx : x = q
      · have d1 : ((x : Int) == (q : Int)) = true := by simp [hx]
        cases hb : s.testBit k
        · have HF : Hid (hasK s q ks (k + 1) = false) := Lib.hid (by rw [hsu, hb]; rfl)
          clear hsu hall hx
          go_wp2_with (go_at_call 77; refine (hasNode_nat s k _ (by omega)).mono ?_; rintro e w' ⟨rfl, rfl⟩; rw [hb])
          go_round
          case rel => exact ⟨k + 1, by omega, by go_num, HF.out⟩
          case measure => simp [intOf]; omega
        · have HF : Hid (hasK s q ks n = true) := Lib.hid (hall (by rw [hb]; simp [hx]))
          clear hsu hall hx
          go_wp2_with (go_at_call 77; refine (hasNode_nat s k _ (by omega)).mono ?_; rintro e w' ⟨rfl, rfl⟩; rw [hb])
          go_ret
          exact ⟨by rw [HF.out]; rfl, rfl⟩
      · have d1 : ((x : Int) == (q : Int)) = false := by simp; omega
        have HF : Hid (hasK s q ks (k + 1) = false) := Lib.hid (by rw [hsu]; simp [hx])
        clear hsu hall hx
        go_wp2
        go_round
        case rel => exact ⟨k + 1, by omega, by go_num, HF.out⟩
        case measure => simp [intOf]; omega
    · have hk' : k = n := by omega
      subst hk'
      have HF := Lib.hid hf
      clear hf
      go_wp2
      go_ret
      exact ⟨by rw [HF.out]; rfl, rfl⟩

set_option maxHeartbeats 2000000 in
set_option maxRecDepth 100000 in
theorem turnedState_any (ns : List Nat) (ks : List Nat) (_ok : Nt.Ok ns) (st : Nt.St 3 ks) (hl : ks.length = ns.length) (w : World) (v : Value) (base : Nat) (u : Value) (base' : Nat)
    (hs : Sl w base v (Nt.nats ns)) (ht : Sl w base' u (Nt.nats ks)) :
    Calls Try.prog 57 #[v, u] w fun e w' => ∃ z, e = .returned z ∧ Sl w' w.heap.size z (Nt.nats (Nt.turn ns ks)) ∧ Kept [] w w' := by
  have HT := Lib.hid ht
  obtain ⟨n, hn⟩ : ∃ n, n = ks.length := ⟨_, rfl⟩
  have hp := st.some
  have h6 := st.few
  have HLT := Lib.hid (fun k (hk : k < n) => st.lt k (by omega))
  have HSG := Lib.hid (fun k (hk : k < n) => Nt.turn_get ns ks (k := k) (by omega))
  have HPE : Hid (∀ k, Nt.pullB ns ks k = hasK (ns.getD k 0) ((ks.getD k 0 + 1) % 3) ks n) := Lib.hid (fun k => by rw [hn]; rfl)
  have HLN := Lib.hid (Nt.turn_length ns ks)
  rw [← hn] at hp h6
  obtain ⟨g1, cap1, rfl, hg1, hc1⟩ := hs.row (n := n) (by omega) hp
  obtain ⟨g, cap, rfl, hg, hc⟩ := ht.row hn.symm hp
  have HC := Lib.hid hc
  have HC1 := Lib.hid hc1
  have HN := Lib.hid hn
  have HX := Lib.hid (show 0 < (Nt.nats ks).length ∧ (Nt.nats ks).length ≤ 1000 from by rw [Nt.nats_length]; omega)
  clear hs ht st hl hc hc1 hn
  go_enter Try.func57, Try.ntmps57
  go_wp2_with fail
  refine (cloneInts_any (Nt.nats ks) HX.out.1 HX.out.2 _ _ _ HT.out).mono ?_
  rintro e w1 ⟨z, rfl, hs1, hk1⟩
  obtain ⟨gz, capz, rfl, hgz1, hgz⟩ := hs1.shape (n := n) (by rw [Nt.nats_length, HN.out]) hp
  have HZ1 : Hid (Sl w1 w.heap.size (.slice (some ⟨gz, 0, none⟩) n capz) (Nt.nats (Nt.mix (Nt.turn ns ks) ks 0))) := Lib.hid (by rw [Nt.mix_zero]; exact hs1)
  have HK1 := Lib.hid hk1
  clear hs1 hk1 HX
  go_wp2_with fail
  go_loopw [13] (fun i wr => ∃ k : Nat, k ≤ n ∧ i = .int .i64 k ∧ Sl wr w.heap.size (.slice (some ⟨gz, 0, none⟩) n capz) (Nt.nats (Nt.mix (Nt.turn ns ks) ks k)) ∧ Kept [] w wr) (fun i _ => n - (intOf i).toNat)
  case atStart => exact ⟨0, Nat.zero_le _, rfl, HZ1.out, HK1.out⟩
  case round =>
    clear HZ1 HK1
    obtain ⟨k, hk, rfl, hsl, hkept⟩ := hrel
    have HSL := Lib.hid hsl
    have HK := Lib.hid hkept
    by_cases hlt : k < n
    · have hkl : k < ks.length := by rw [← HN.out]; exact hlt
      have hck := (hkept.cell (p := ⟨g, k, none⟩) hg (by simp)).trans (HC.out k hlt)
      have hck1 := (hkept.cell (p := ⟨g1, k, none⟩) hg1 (by simp)).trans (HC1.out k hlt)
      have HML : Hid ((Nt.nats (Nt.mix (Nt.turn ns ks) ks k)).length = n) := Lib.hid (by rw [Nt.nats_length, Nt.mix_length HLN.out, ← HN.out])
      have HTW := Lib.hid (HT.out.stay hkept)
      obtain ⟨hcell, hfr⟩ := hsl.at k (by rw [HML.out]; exact hlt)
      have HSET := Lib.hid (Nt.mix_set HLN.out hkl)
      have HKEEP := Lib.hid (Nt.mix_keep HLN.out hkl)
      have HG := Lib.hid (HSG.out k hlt)
      have hx := HLT.out k hlt
      have hpe := HPE.out k
      clear hsl hkept hkl
      generalize (Nt.nats (Nt.mix (Nt.turn ns ks) ks k)).getD k 0 = z at *
      generalize Nt.pullB ns ks k = b at *
      generalize (Nt.turn ns ks).getD k 0 = y at *
      generalize ks.getD k 0 = x at *
      generalize ns.getD k 0 = r at *
      obtain ⟨q, hq⟩ : ∃ q, q = (x + 1) % 3 := ⟨_, rfl⟩
      have HQ := Lib.hid hq
      rw [← hq] at hpe
      have HPB := Lib.hid hpe.symm
      clear hq hpe
      cases b
      · have HY : Hid (y = x) := Lib.hid (by rw [HG.out]; rfl)
        clear HG HSET
        go_wp2_with (first | (go_at_call 67; refine (nextKind_any 3 x (by omega) (by omega) _).mono ?_; rintro e w' ⟨rfl, rfl⟩; rw [← HQ.out]) | (go_at_call 72; refine (setHasKind_any r q ks n HN.out.symm hp h6 _ _ _ HTW.out).mono ?_; rintro e w' ⟨rfl, rfl⟩; rw [HPB.out]))
        go_roundw
        case rel => exact ⟨k + 1, by omega, by go_num, by rw [← HKEEP.out HY.out]; exact HSL.out, HK.out⟩
        case measure => simp [intOf]; omega
      · have HY : Hid (y = q) := Lib.hid (by rw [HG.out, HQ.out]; rfl)
        clear HG HKEEP
        go_wp2_with (first | (go_at_call 67; refine (nextKind_any 3 x (by omega) (by omega) _).mono ?_; rintro e w' ⟨rfl, rfl⟩; rw [← HQ.out]) | (go_at_call 72; refine (setHasKind_any r q ks n HN.out.symm hp h6 _ _ _ HTW.out).mono ?_; rintro e w' ⟨rfl, rfl⟩; rw [HPB.out]))
        go_roundw
        case rel => exact ⟨k + 1, by omega, by go_num, by rw [← HSET.out, Nt.nats_set, HY.out]; exact HSL.out.set HML.out.symm k _, HK.out.setCell (.inr hgz1) _⟩
        case measure => simp [intOf]; omega
    · have hk' : k = n := by omega
      subst hk'
      clear hsl hkept
      go_wp2
      go_ret
      exact ⟨_, rfl, by have h := HSL.out; rw [HN.out, Nt.mix_end HLN.out, ← HN.out] at h; exact h, HK.out⟩

set_option maxHeartbeats 1000000 in
set_option maxRecDepth 100000 in
theorem iTurnStep_any (xs : List Int) (ys : List Int) (w : World) (v : Value) (base : Nat) (u : Value) (base' : Nat) (hs : Sl w base v xs) (ht : Sl w base' u ys) :
    Calls Try.prog 23 #[v, u] w fun e w' => ∃ z, e = .returned z ∧ Sl w' w.heap.size z (Nt.turnOf xs ys) ∧ Kept [] w w' := by
  have HS := Lib.hid hs
  have HT := Lib.hid ht
  obtain ⟨a, cap, rfl, _, hm, _⟩ := hs.any
  obtain ⟨a', cap', rfl, _, hm', _⟩ := ht.any
  clear hs ht
  cases ho : Nt.fireB xs 3 ys
  · have HF := Lib.hid (Nt.turnOf_no ho)
    go_enter Try.func23, Try.ntmps23
    go_wp2_with (go_at_call 56; refine (turningOk_any xs ys _ _ _ _ _ HS.out HT.out).mono ?_; rintro e w' ⟨rfl, rfl⟩; rw [ho])
    go_ret
    exact ⟨_, rfl, by rw [HF.out]; exact Sl.nil _ _, Kept.refl _ _⟩
  · obtain ⟨ns, ks, rfl, rfl, ok, st, hl⟩ := Nt.fireB3_ok ho
    have HF := Lib.hid (Nt.turnOf_ok ok st hl)
    have HO := Lib.hid (And.intro ok (And.intro st hl))
    clear ok st hl
    go_enter Try.func23, Try.ntmps23
    go_wp2_with (go_at_call 56; refine (turningOk_any _ _ _ _ _ _ _ HS.out HT.out).mono ?_; rintro e w' ⟨rfl, rfl⟩; rw [ho])
    refine (turnedState_any ns ks HO.out.1 HO.out.2.1 HO.out.2.2 _ _ _ _ _ HS.out HT.out).mono ?_
    rintro e w1 ⟨z, rfl, hs1, hk1⟩
    have HS1 := Lib.hid hs1
    have HK1 := Lib.hid hk1
    clear hs1 hk1
    go_wp2_with fail
    go_ret
    exact ⟨_, rfl, by rw [HF.out]; exact HS1.out, HK1.out⟩

/-- One box: a slice. -/
theorem one_box (w : World) (t : TypeId) (v : Value) :
    Kept [] w (w.alloc (.cells #[v] t)) ∧ (w.alloc (.cells #[v] t)).cell? ⟨w.heap.size, 0, none⟩ = some v ∧ (w.alloc (.cells #[v] t)).heap.size = w.heap.size + 1 :=
  ⟨(Kept.refl _ _).alloc _, (Boxed.new w t v).cell, by simp⟩

end Go.Proofs.Ytdpkacpeednnoaa

namespace Go.Proofs.Ytdpkacpeednnoaa
open Go.RowKit

/-- Counts and what is added in the round from state to state. -/
def addD (cs ks js : List Nat) : List Nat := (List.range cs.length).map fun k => cs.getD k 0 + (js.getD k 0 + 3 - ks.getD k 0) % 3
theorem addD_length (cs ks js : List Nat) : (addD cs ks js).length = cs.length := by simp [addD]
theorem addD_get (cs ks js : List Nat) {k : Nat} (h : k < cs.length) : (addD cs ks js).getD k 0 = cs.getD k 0 + (js.getD k 0 + 3 - ks.getD k 0) % 3 := by
  unfold addD
  rw [List.getD_eq_getElem?_getD, List.getElem?_map, List.getElem?_range h]
  rfl
theorem addD_turned {ns ks : List Nat} (st : Nt.St 3 ks) (t : Nat) : addD (Nt.turnedL ns ks t) (Nt.turns ns ks t) (Nt.turn ns (Nt.turns ns ks t)) = Nt.turnedL ns ks (t + 1) := by
  apply Nt.ext_getD
  · rw [addD_length, Nt.turnedL_length, Nt.turnedL_length]
  · intro k hk
    rw [addD_length] at hk
    have hk2 : k < ks.length := by rw [Nt.turnedL_length] at hk; exact hk
    rw [addD_get _ _ _ hk, Nt.turnedL_next st t hk2]
    have h1 := (Nt.turns_st ns st t).lt k (by rw [Nt.turns_length]; exact hk2)
    have h2 := Nt.turn_get ns (Nt.turns ns ks t) (k := k) (by rw [Nt.turns_length]; exact hk2)
    rw [show Nt.turns ns ks (t + 1) = Nt.turn ns (Nt.turns ns ks t) from rfl, h2]
    congr 1
    generalize (Nt.turns ns ks t).getD k 0 = x at *
    unfold Nt.turnK
    cases Nt.pullB ns (Nt.turns ns ks t) k
    · simp
    · rw [if_pos rfl, if_pos (by omega)]; omega
theorem sub_mod3 (x y : Nat) (hx : x < 3) (hy : y < 3) : ((y : Int) - (x : Int) + 3).tmod 3 = (((y + 3 - x) % 3 : Nat) : Int) := by
  rw [show (y : Int) - (x : Int) + 3 = ((y + 3 - x : Nat) : Int) by omega]
  exact tmod_nat _ 3

theorem turnedL_few (ns ks : List Nat) (t : Nat) (ht : t ≤ 60) (k : Nat) (hk : k < ks.length) : (Nt.turnedL ns ks t).getD k 0 ≤ 1000 := by
  rw [Nt.turnedL_get _ _ _ hk]
  have := Nt.turned_le ns ks k t
  omega

end Go.Proofs.Ytdpkacpeednnoaa
