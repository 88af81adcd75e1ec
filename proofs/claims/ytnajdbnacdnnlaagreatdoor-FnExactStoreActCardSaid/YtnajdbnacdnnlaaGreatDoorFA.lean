/-
  Walks: which nodes fire; whether kinds and a state are those of a net; copies of slices, and slices compared.
  Walks: a state after a step, by the program and by the model.
  Walks: a state after a step, by the model.
  Walks: steps folded, for any function that steps; runs, by the program and by the model.
  Walks: runs, by the program and by the model.
-/
import Derived.Test.YtnajdbnacdnnlaaGreatDoorNA
import Derived.Test.YtnajdbnacdnnlaaGreatDoorKA
import Derived.Test.YtnajdbnacdnnlaaGreatDoorPA
import Derived.Lib.SliceRun
import Derived.RangeFuncBox
namespace Go.Proofs.YtnajdbnacdnnlaaGreatDoor
open Go.RowKit

set_option maxHeartbeats 1000000 in
set_option maxRecDepth 100000 in
theorem firingSet_any (c : Nat) (ks : List Nat) (hst : Nt.St c ks) (w : World) (v : Value) (base : Nat) (hs : Sl w base v (Nt.nats ks)) :
    Calls Tryz.prog 222 #[v] w fun e w' => e = .returned (.int .i64 ((Nt.fires ks : Nat) : Int)) ∧ w = w' := by
  obtain ⟨n, hn⟩ : ∃ n, n = ks.length := ⟨_, rfl⟩
  have hp := hst.some
  have h6 := hst.few
  have HF : Hid (Nt.fires ks = Nt.firesTo ks n) := Lib.hid (by rw [hn]; rfl)
  have HSM := Lib.hid (fun k (hk : k ≤ n) => Nt.firesTo_small (ks := ks) h6 (k := k) (by omega))
  have HLT := Lib.hid (fun k (hk : k < n) => hst.lt k (by omega))
  have hc5 := hst.c5
  rw [← hn] at hp h6
  obtain ⟨g, cap, rfl, hg, hc⟩ := hs.row hn.symm hp
  have HC := Lib.hid hc
  clear hs hc hn hst
  go_enter Tryz.func222, Tryz.ntmps222
  go_wp2
  go_loop [3, 8] (fun a i => ∃ k : Nat, k ≤ n ∧ i = .int .i64 k ∧ a = .int .i64 ((Nt.firesTo ks k : Nat) : Int)) (fun _ i => n - (intOf i).toNat)
  case atStart => exact ⟨0, Nat.zero_le _, rfl, rfl⟩
  case round =>
    obtain ⟨k, hk, rfl, rfl⟩ := hrel
    by_cases hlt : k < n
    · have hcell := HC.out k hlt
      have hx := HLT.out k hlt
      have hb1 := HSM.out k hk
      have HN : Hid (Nt.firesTo ks (k + 1) = if ks.getD k 0 = 1 then Nt.firesTo ks k ||| 2 ^ k else Nt.firesTo ks k) := Lib.hid rfl
      have HE := Lib.hid (or_shl (Nt.firesTo ks k) k hb1 (by omega))
      generalize Nt.firesTo ks k = s at *
      generalize ks.getD k 0 = x at *
      by_cases h1 : x = 1
      · subst h1
        go_wp2
        go_round
        case rel => exact ⟨k + 1, by omega, by go_num, by rw [HN.out, if_pos rfl, ← HE.out]⟩
        case measure => simp [intOf]; omega
      · have h1' : ((x : Int) == 1) = false := by simp; omega
        have HNO := Lib.hid h1
        clear h1
        go_wp2
        go_round
        case rel => exact ⟨k + 1, by omega, by go_num, by rw [HN.out, if_neg HNO.out]⟩
        case measure => simp [intOf]; omega
    · have hk' : k = n := by omega
      subst hk'
      go_wp2
      go_ret
      exact ⟨by rw [HF.out]; rfl, rfl⟩

set_option maxHeartbeats 1000000 in
set_option maxRecDepth 100000 in
theorem firingOk_any (xs : List Int) (kinds : Int) (ys : List Int) (w : World) (v : Value) (base : Nat) (u : Value) (base' : Nat) (hs : Sl w base v xs) (ht : Sl w base' u ys) :
    Calls Tryz.prog 136 #[v, .int .i64 kinds, u] w fun e w' => e = .returned (.bool (Nt.fireB xs kinds ys)) ∧ w = w' := by
  have HS := Lib.hid hs
  have HT := Lib.hid ht
  obtain ⟨a, cap, rfl, _, hm, _⟩ := hs.any
  obtain ⟨a', cap', rfl, _, hm', _⟩ := ht.any
  clear hs ht
  cases h1 : Nt.okB xs
  · have HF := Lib.hid (Nt.fireB_no1 (kinds := kinds) (ys := ys) h1)
    go_enter Tryz.func136, Tryz.ntmps136
    go_wp2_with (go_at_call 73; refine (iNetOk_any xs _ _ base HS.out).mono ?_; rintro e w' ⟨rfl, rfl⟩; rw [h1])
    go_ret
    exact ⟨by rw [HF.out]; rfl, rfl⟩
  · cases h2 : Nt.stB kinds ys
    · have HF := Lib.hid (Nt.fireB_no2 (xs := xs) h2)
      go_enter Tryz.func136, Tryz.ntmps136
      go_wp2_with (first | (go_at_call 73; refine (iNetOk_any xs _ _ base HS.out).mono ?_; rintro e w' ⟨rfl, rfl⟩; rw [h1]) | (go_at_call 177; refine (iStateOk_any kinds ys _ _ base' HT.out).mono ?_; rintro e w' ⟨rfl, rfl⟩; rw [h2]))
      go_ret
      exact ⟨by rw [HF.out]; rfl, rfl⟩
    · by_cases h3 : ys.length = xs.length
      · have HF := Lib.hid (Nt.fireB_all h1 h2 h3)
        have h0 : ((ys.length : Int) == (xs.length : Int)) = true := by simp [h3]
        clear h3
        go_enter Tryz.func136, Tryz.ntmps136
        go_wp2_with (first | (go_at_call 73; refine (iNetOk_any xs _ _ base HS.out).mono ?_; rintro e w' ⟨rfl, rfl⟩; rw [h1]) | (go_at_call 177; refine (iStateOk_any kinds ys _ _ base' HT.out).mono ?_; rintro e w' ⟨rfl, rfl⟩; rw [h2]))
        go_ret
        exact ⟨by rw [HF.out]; rfl, rfl⟩
      · have HF := Lib.hid (Nt.fireB_no3 (kinds := kinds) h3)
        have h0 : ((ys.length : Int) == (xs.length : Int)) = false := by simp; omega
        clear h3
        go_enter Tryz.func136, Tryz.ntmps136
        go_wp2_with (first | (go_at_call 73; refine (iNetOk_any xs _ _ base HS.out).mono ?_; rintro e w' ⟨rfl, rfl⟩; rw [h1]) | (go_at_call 177; refine (iStateOk_any kinds ys _ _ base' HT.out).mono ?_; rintro e w' ⟨rfl, rfl⟩; rw [h2]))
        go_ret
        exact ⟨by rw [HF.out]; rfl, rfl⟩

set_option maxHeartbeats 1000000 in
set_option maxRecDepth 100000 in
theorem l3Ok_any (xs : List Int) (kinds : Int) (ys : List Int) (w : World) (v : Value) (base : Nat) (u : Value) (base' : Nat) (hs : Sl w base v xs) (ht : Sl w base' u ys) :
    Calls Tryz.prog 113 #[v, .int .i64 kinds, u] w fun e w' => e = .returned (.bool (Nt.fireB xs kinds ys)) ∧ Qt w w' := by
  have HS := Lib.hid hs
  have HT := Lib.hid ht
  obtain ⟨a, cap, rfl, _, hm, _⟩ := hs.any
  obtain ⟨a', cap', rfl, _, hm', _⟩ := ht.any
  clear hs ht
  go_enter Tryz.func113, Tryz.ntmps113
  go_wp2_with fail
  refine (sNetOk_any xs _ _ base HS.out).mono ?_
  rintro e w1 ⟨rfl, hq⟩
  have HQ := Lib.hid hq
  have HT1 := Lib.hid (hq.sl HT.out)
  clear hq
  cases h1 : Nt.okB xs
  · have HF := Lib.hid (Nt.fireB_no1 (kinds := kinds) (ys := ys) h1)
    go_wp2_with fail
    go_ret
    exact ⟨by rw [HF.out]; rfl, HQ.out⟩
  · go_wp2_with fail
    refine (sStateOk_any kinds ys _ _ base' HT1.out).mono ?_
    rintro e w' ⟨rfl, rfl⟩
    cases h2 : Nt.stB kinds ys
    · have HF := Lib.hid (Nt.fireB_no2 (xs := xs) h2)
      go_wp2_with fail
      go_ret
      exact ⟨by rw [HF.out]; rfl, HQ.out⟩
    · by_cases h3 : ys.length = xs.length
      · have HF := Lib.hid (Nt.fireB_all h1 h2 h3)
        have h0 : ((ys.length : Int) == (xs.length : Int)) = true := by simp [h3]
        clear h3
        go_wp2_with fail
        go_ret
        exact ⟨by rw [HF.out]; rfl, HQ.out⟩
      · have HF := Lib.hid (Nt.fireB_no3 (kinds := kinds) h3)
        have h0 : ((ys.length : Int) == (xs.length : Int)) = false := by simp; omega
        clear h3
        go_wp2_with fail
        go_ret
        exact ⟨by rw [HF.out]; rfl, HQ.out⟩

set_option maxHeartbeats 400000 in
set_option maxRecDepth 100000 in
theorem runOk_any (n : Int) (w : World) :
    Calls Tryz.prog 251 #[.int .i64 n] w fun e w' => e = .returned (.bool (Nt.stepsB n)) ∧ w = w' := by
  by_cases a : 0 ≤ n <;> by_cases b : n ≤ 60
  all_goals
    go_enter Tryz.func251, Tryz.ntmps251
    go_wp2
    go_ret
    exact ⟨by simp [Nt.stepsB, a, b], rfl⟩

set_option maxHeartbeats 1000000 in
set_option maxRecDepth 100000 in
theorem cloneInts_any (xs : List Int) (hp : 0 < xs.length) (hl : xs.length ≤ 1000) (w : World) (v : Value) (base : Nat) (hs : Sl w base v xs) :
    Calls Tryz.prog 167 #[v] w fun e w' => ∃ z, e = .returned z ∧ Sl w' w.heap.size z xs ∧ Kept [] w w' := by
  have qT : ∀ (w : World) (a : Option Addr) (n c n' c' : Nat), (binOp .eql 28 (.slice a n c) (.slice none n' c')).run Tryz.prog w = .ok (.bool a.isNone) w := fun w a n c n' c' => Lib.run_eql_slice_nil w _ _ a n c n' c' Tryz.underlying28
  have HE := Lib.hid (Sl.empty3 w)
  have HX := Lib.hid (hs.stay ((Kept.refl [] w).alloc (.cells #[] 3)))
  obtain ⟨n, hn⟩ : ∃ n, n = xs.length := ⟨_, rfl⟩
  obtain ⟨g, cap, rfl, _, _⟩ := hs.shape hn.symm (by omega)
  have HN := Lib.hid hn
  have HP := Lib.hid hp
  have HL := Lib.hid hl
  clear hs hn hp hl
  go_enter Tryz.func167, Tryz.ntmps167
  go_wp2_with (at_builtin; refine app_sl rfl _ _ rfl w.heap.size _ [] HE.out rfl _ _ xs HX.out HP.out rfl (by have := HL.out; simp; omega) (by simp) ?_; intro z w1 hs1 hk1; have HZ := Lib.hid hs1; have HK := Lib.hid (((Kept.refl [] w).alloc (.cells #[] 3)).own hk1 (fun g' hg' => by simp [Value.ownBlock] at hg'; omega)); clear hs1 hk1)
  go_ret
  exact ⟨_, rfl, by have h := HZ.out; rw [List.nil_append] at h; exact h, HK.out⟩

set_option maxHeartbeats 1000000 in
set_option maxRecDepth 100000 in
theorem equalInts_any (xs ys : List Int) (w : World) (v : Value) (base : Nat) (u : Value) (base' : Nat) (hs : Sl w base v xs) (ht : Sl w base' u ys) :
    Calls Tryz.prog 186 #[v, u] w fun e w' => e = .returned (.bool (decide (xs = ys))) ∧ Qt w w' := by
  obtain ⟨a, cap, rfl, _, hm, hc⟩ := hs.any
  obtain ⟨b, cap', rfl, _, hm', hc'⟩ := ht.any
  have HC := Lib.hid hc
  have HD := Lib.hid hc'
  clear hc hc' hs ht
  by_cases hl : xs.length = ys.length
  · have h0 : ((xs.length : Int) != (ys.length : Int)) = false := by simp [hl]
    have HL := Lib.hid hl
    clear hl
    go_enter Tryz.func186, Tryz.ntmps186
    go_wp2
    go_loopw [13] (fun n wr => ∃ k : Nat, k ≤ xs.length ∧ n = .int .i64 k ∧ sameTo xs ys k ∧ Qt w wr) (fun n _ => xs.length - (intOf n).toNat)
    case atStart => exact ⟨0, Nat.zero_le _, rfl, fun j hj => absurd hj (by omega), Qt.refl _⟩
    case round =>
      obtain ⟨k, hk, rfl, hsame, hq⟩ := hrel
      have HQ := Lib.hid hq
      have HS := Lib.hid hsame
      clear hsame
      by_cases hlt : k < xs.length
      · have hlt' : k < ys.length := by have := HL.out; omega
        obtain ⟨g, rfl, _, _, h1, _⟩ := HC.out k hlt
        obtain ⟨g', rfl, _, _, h2, _⟩ := HD.out k hlt'
        have c1 := (hq.cell _).trans h1
        have c2 := (hq.cell _).trans h2
        clear hq h1 h2
        generalize hx : xs.getD k 0 = x at *
        generalize hy : ys.getD k 0 = y at *
        have HX := Lib.hid hx
        have HY := Lib.hid hy
        clear hx hy
        by_cases e : x = y
        · have he : (x != y) = false := by simp [e]
          have HE := Lib.hid e
          clear e
          go_wp2_with fail
          go_quiet (fail)
          go_wp2
          go_roundw
          case rel => exact ⟨k + 1, by omega, by go_num, sameTo_succ HS.out (by rw [HX.out, HY.out, HE.out]), HQ.out.draw _⟩
          case measure => simp [intOf]; omega
        · have he : (x != y) = true := by simp [e]
          have HE := Lib.hid e
          clear e
          go_wp2_with fail
          go_quiet (fail)
          go_wp2
          go_ret
          exact ⟨by rw [dec_not (fun h => HE.out (by rw [← HX.out, ← HY.out, h]))]; rfl, HQ.out.draw _⟩
      · have hk' : k = xs.length := by omega
        subst hk'
        clear hq
        go_wp2
        go_ret
        exact ⟨by rw [dec_of (sameTo_all HS.out HL.out)]; rfl, HQ.out⟩
  · have h0 : ((xs.length : Int) != (ys.length : Int)) = true := by simp; omega
    have HL := Lib.hid hl
    clear hl
    go_enter Tryz.func186, Tryz.ntmps186
    go_wp2
    go_ret
    exact ⟨by rw [dec_not (fun h => HL.out (by rw [h]))]; rfl, Qt.refl _⟩
end Go.Proofs.YtnajdbnacdnnlaaGreatDoor

namespace Go.Proofs.YtnajdbnacdnnlaaGreatDoor
open Go.RowKit

set_option maxHeartbeats 2000000 in
set_option maxRecDepth 100000 in
theorem firedState_any (ns : List Nat) (c : Nat) (ks : List Nat) (ok : Nt.Ok ns) (st : Nt.St c ks) (hl : ks.length = ns.length) (w : World) (v : Value) (base : Nat) (u : Value) (base' : Nat)
    (hs : Sl w base v (Nt.nats ns)) (ht : Sl w base' u (Nt.nats ks)) :
    Calls Tryz.prog 185 #[v, .int .i64 (c : Int), u] w fun e w' => ∃ z, e = .returned z ∧ Sl w' w.heap.size z (Nt.nats (Nt.step ns c ks)) ∧ Kept [] w w' := by
  have HS := Lib.hid hs
  have HT := Lib.hid ht
  have HOK := Lib.hid ok
  have HST := Lib.hid st
  obtain ⟨n, hn⟩ : ∃ n, n = ks.length := ⟨_, rfl⟩
  have hp := st.some
  have h6 := st.few
  have h3 := st.c3
  have h5 := st.c5
  have HLT := Lib.hid (fun k (hk : k < n) => st.lt k (by omega))
  have HNB := Lib.hid (fun k (hk : k < n) => Nt.near_fires ok hl (k := k) (by omega))
  have HSG := Lib.hid (fun k (hk : k < n) => Nt.step_get ns c ks (k := k) (by omega))
  have HLN := Lib.hid (Nt.step_length ns c ks)
  rw [← hn] at hp h6
  obtain ⟨g1, cap1, rfl, _, _⟩ := hs.row (n := n) (by omega) hp
  obtain ⟨g, cap, rfl, hg, hc⟩ := ht.row hn.symm hp
  have HC := Lib.hid hc
  have HN := Lib.hid hn
  have HX := Lib.hid (show 0 < (Nt.nats ks).length ∧ (Nt.nats ks).length ≤ 1000 from by rw [Nt.nats_length]; omega)
  clear hs ht ok st hl hc hn
  go_enter Tryz.func185, Tryz.ntmps185
  go_wp2_with fail
  refine (firingSet_any c ks HST.out _ _ _ HT.out).mono ?_
  rintro e w' ⟨rfl, rfl⟩
  go_wp2_with fail
  refine (nearSet_any ns HOK.out (Nt.fires ks) _ _ _ HS.out).mono ?_
  rintro e w' ⟨rfl, rfl⟩
  generalize Nt.near ns (Nt.fires ks) = s at *
  go_wp2_with fail
  refine (cloneInts_any (Nt.nats ks) HX.out.1 HX.out.2 _ _ _ HT.out).mono ?_
  rintro e w1 ⟨z, rfl, hs1, hk1⟩
  obtain ⟨gz, capz, rfl, hgz1, hgz⟩ := hs1.shape (n := n) (by rw [Nt.nats_length, HN.out]) hp
  have HZ1 : Hid (Sl w1 w.heap.size (.slice (some ⟨gz, 0, none⟩) n capz) (Nt.nats (Nt.mix (Nt.step ns c ks) ks 0))) := Lib.hid (by rw [Nt.mix_zero]; exact hs1)
  have HK1 := Lib.hid hk1
  clear hs1 hk1 HX
  go_wp2_with fail
  go_loopw [19] (fun i wr => ∃ k : Nat, k ≤ n ∧ i = .int .i64 k ∧ Sl wr w.heap.size (.slice (some ⟨gz, 0, none⟩) n capz) (Nt.nats (Nt.mix (Nt.step ns c ks) ks k)) ∧ Kept [] w wr) (fun i _ => n - (intOf i).toNat)
  case atStart => exact ⟨0, Nat.zero_le _, rfl, HZ1.out, HK1.out⟩
  case round =>
    clear HZ1 HK1
    obtain ⟨k, hk, rfl, hsl, hkept⟩ := hrel
    have HSL := Lib.hid hsl
    have HK := Lib.hid hkept
    by_cases hlt : k < n
    · have hkl : k < ks.length := by rw [← HN.out]; exact hlt
      have hck := (hkept.cell (p := ⟨g, k, none⟩) hg (by simp)).trans (HC.out k hlt)
      have HML : Hid ((Nt.nats (Nt.mix (Nt.step ns c ks) ks k)).length = n) := Lib.hid (by rw [Nt.nats_length, Nt.mix_length HLN.out, ← HN.out])
      obtain ⟨hcell, hfr⟩ := hsl.at k (by rw [HML.out]; exact hlt)
      have HSET := Lib.hid (Nt.mix_set HLN.out hkl)
      have HKEEP := Lib.hid (Nt.mix_keep HLN.out hkl)
      have HG := Lib.hid (HSG.out k hlt)
      have hx := HLT.out k hlt
      have hnb := HNB.out k hlt
      clear hsl hkept hkl
      generalize (Nt.nats (Nt.mix (Nt.step ns c ks) ks k)).getD k 0 = z at *
      generalize Nt.litB ns ks k = b at *
      generalize (Nt.step ns c ks).getD k 0 = y at *
      generalize ks.getD k 0 = x at *
      by_cases h0 : 0 < x
      · have HY : Hid (y = (x + 1) % c) := Lib.hid (by rw [HG.out]; unfold Nt.fireK; rw [if_pos h0])
        clear HG hnb HKEEP
        go_wp2_with (go_at_call 223; refine (nextKind_any c x h3 (by omega) _).mono ?_; rintro e w' ⟨rfl, rfl⟩; rw [← HY.out])
        go_roundw
        case rel => exact ⟨k + 1, by omega, by go_num, by rw [← HSET.out, Nt.nats_set]; exact HSL.out.set HML.out.symm k _, HK.out.setCell (.inr hgz1) _⟩
        case measure => simp [intOf]; omega
      · have hx0 : x = 0 := by omega
        subst hx0
        clear h0
        cases b
        · have HY : Hid (y = 0) := Lib.hid (by rw [HG.out]; rfl)
          clear HG HSET
          go_wp2_with (go_at_call 171; refine (hasNode_nat s k _ (by omega)).mono ?_; rintro e w' ⟨rfl, rfl⟩; rw [hnb])
          go_roundw
          case rel => exact ⟨k + 1, by omega, by go_num, by rw [← HKEEP.out HY.out]; exact HSL.out, HK.out⟩
          case measure => simp [intOf]; omega
        · have HY : Hid (y = (0 + 1) % c) := Lib.hid (by rw [HG.out, Nat.mod_eq_of_lt (by omega)]; rfl)
          clear HG HKEEP
          go_wp2_with (first | (go_at_call 171; refine (hasNode_nat s k _ (by omega)).mono ?_; rintro e w' ⟨rfl, rfl⟩; rw [hnb]) | (go_at_call 223; refine (nextKind_any c 0 h3 (by omega) _).mono ?_; rintro e w' ⟨rfl, rfl⟩; rw [← HY.out]))
          go_roundw
          case rel => exact ⟨k + 1, by omega, by go_num, by rw [← HSET.out, Nt.nats_set]; exact HSL.out.set HML.out.symm k _, HK.out.setCell (.inr hgz1) _⟩
          case measure => simp [intOf]; omega
    · have hk' : k = n := by omega
      subst hk'
      clear hsl hkept
      go_wp2
      go_ret
      exact ⟨_, rfl, by have h := HSL.out; rw [HN.out, Nt.mix_end HLN.out, ← HN.out] at h; exact h, HK.out⟩

end Go.Proofs.YtnajdbnacdnnlaaGreatDoor

namespace Go.Proofs.YtnajdbnacdnnlaaGreatDoor
open Go.RowKit

theorem step_take (ns : List Nat) (c : Nat) (ks : List Nat) (k : Nat) (h : k < ks.length) : Nt.nats ((Nt.step ns c ks).take (k + 1)) = Nt.nats ((Nt.step ns c ks).take k) ++ [(((Nt.step ns c ks).getD k 0 : Nat) : Int)] :=
  Nt.take_more _ _ (by rw [Nt.step_length]; exact h)

set_option maxHeartbeats 2000000 in
set_option maxRecDepth 100000 in
theorem l3Step_any (ns : List Nat) (c : Nat) (ks : List Nat) (ok : Nt.Ok ns) (st : Nt.St c ks) (hl : ks.length = ns.length) (w : World) (v : Value) (base : Nat) (u : Value) (base' : Nat)
    (hs : Sl w base v (Nt.nats ns)) (ht : Sl w base' u (Nt.nats ks)) :
    Calls Tryz.prog 172 #[v, .int .i64 (c : Int), u] w fun e w' => ∃ z, e = .returned z ∧ Sl w' w.heap.size z (Nt.nats (Nt.step ns c ks)) ∧ Kept [] w w' := by
  obtain ⟨n, hn⟩ : ∃ n, n = ks.length := ⟨_, rfl⟩
  have hp := st.some
  have h6 := st.few
  have h3 := st.c3
  have h5 := st.c5
  have HSM := Lib.hid (fun k (hk : k ≤ n) => Nt.firesTo_small (ks := ks) h6 (k := k) (by omega))
  have HLT := Lib.hid (fun k (hk : k < n) => st.lt k (by omega))
  have HGL := Lib.hid (fun k => ok.get_lt k)
  have HSG := Lib.hid (fun k (hk : k < n) => Nt.step_get ns c ks (k := k) (by omega))
  have HTK := Lib.hid (fun k (hk : k < n) => step_take ns c ks k (by omega))
  have HLN := Lib.hid (Nt.step_length ns c ks)
  have HFT : Hid (Nt.firesTo ks n = Nt.fires ks) := Lib.hid (by rw [hn]; rfl)
  rw [← hn] at hp h6
  obtain ⟨g1, cap1, rfl, hg1, hc1⟩ := hs.row (n := n) (by omega) hp
  obtain ⟨g, cap, rfl, hg, hc⟩ := ht.row hn.symm hp
  have HC1 := Lib.hid hc1
  have HC := Lib.hid hc
  have HN := Lib.hid hn
  clear hs ht ok st hl hc hc1 hn
  go_enter Tryz.func172, Tryz.ntmps172
  go_wp2
  go_loop [7, 8] (fun a i => ∃ k : Nat, k ≤ n ∧ i = .int .i64 k ∧ a = .int .i64 ((Nt.firesTo ks k : Nat) : Int)) (fun _ i => n - (intOf i).toNat)
  case atStart => exact ⟨0, Nat.zero_le _, rfl, rfl⟩
  case round =>
    obtain ⟨k, hk, rfl, rfl⟩ := hrel
    by_cases hlt : k < n
    · have hcell := HC.out k hlt
      have hx := HLT.out k hlt
      have hb1 := HSM.out k hk
      have HF : Hid (Nt.firesTo ks (k + 1) = if ks.getD k 0 = 1 then Nt.firesTo ks k ||| 2 ^ k else Nt.firesTo ks k) := Lib.hid rfl
      have HE := Lib.hid (or_shl (Nt.firesTo ks k) k hb1 (by omega))
      generalize Nt.firesTo ks k = s at *
      generalize ks.getD k 0 = x at *
      by_cases h1 : x = 1
      · subst h1
        go_wp2
        go_round
        case rel => exact ⟨k + 1, by omega, by go_num, by rw [HF.out, if_pos rfl, ← HE.out]⟩
        case measure => simp [intOf]; omega
      · have h1' : ((x : Int) == 1) = false := by simp; omega
        have HNO := Lib.hid h1
        clear h1
        go_wp2
        go_round
        case rel => exact ⟨k + 1, by omega, by go_num, by rw [HF.out, if_neg HNO.out]⟩
        case measure => simp [intOf]; omega
    · have hk' : k = n := by omega
      subst hk'
      rw [HFT.out]
      have hb64 : Nt.fires ks < 64 := by rw [← HFT.out]; exact HSM.out k (Nat.le_refl _)
      have HLIT : Hid (∀ j, Nt.litB ns ks j = decide ((ns.getD j 0 &&& Nt.fires ks) ≠ 0)) := Lib.hid (fun _ => rfl)
      generalize Nt.fires ks = s at *
      clear HFT HSM hlt hk
      go_wp2
      go_loopw [9, 10] (fun u i wr => ∃ j : Nat, j ≤ k ∧ i = .int .i64 j ∧ Sl wr w.heap.size u (Nt.nats ((Nt.step ns c ks).take j)) ∧ Kept [] w wr) (fun _ i _ => k - (intOf i).toNat)
      case atStart => exact ⟨0, Nat.zero_le _, rfl, Sl.empty3 w, (Kept.refl _ _).alloc _⟩
      case round =>
        obtain ⟨j, hj, rfl, hsl, hkept⟩ := hrel
        have HSL := Lib.hid hsl
        have HK := Lib.hid hkept
        have hsz := hkept.size
        by_cases hlt : j < k
        · have hck := (hkept.cell (p := ⟨g, j, none⟩) hg (by simp)).trans (HC.out j hlt)
          have hck1 := (hkept.cell (p := ⟨g1, j, none⟩) hg1 (by simp)).trans (HC1.out j hlt)
          have HT := Lib.hid (HTK.out j hlt)
          have HG := Lib.hid (HSG.out j hlt)
          have hx := HLT.out j hlt
          have hgl := HGL.out j
          have hlit := HLIT.out j
          have HL : Hid ((Nt.nats ((Nt.step ns c ks).take j)).length ≤ 1000000) := Lib.hid (by rw [Nt.nats_length, List.length_take]; omega)
          have hand := bits_and_nat (ns.getD j 0) s (by omega) (by omega)
          clear hsl hkept
          generalize (Nt.step ns c ks).getD j 0 = y at *
          generalize Nt.litB ns ks j = b at *
          generalize ks.getD j 0 = x at *
          generalize ns.getD j 0 = r at *
          by_cases h0 : 0 < x
          · have HY : Hid (y = (x + 1) % c) := Lib.hid (by rw [HG.out]; unfold Nt.fireK; rw [if_pos h0])
            have f1 := succ_mod x c
            have hc0 : ¬ c = 0 := by omega
            rw [HY.out] at HT
            clear HG hand hlit
            generalize (x + 1) % c = q at *
            go_wp2_with (at_builtin; refine app_int _ rfl _ _ rfl w.heap.size _ _ HSL.out rfl rfl HL.out (by omega) ?_; intro u' w1 hs1 hk1; have HS1 := Lib.hid hs1; have HK1 := Lib.hid hk1; clear hs1 hk1)
            go_roundw
            case rel => exact ⟨j + 1, by omega, by go_num, HS1.out.val rfl HT.out, HK.out.own HK1.out (fun g hg => (HSL.out.block hg).1)⟩
            case measure => simp [intOf]; omega
          · have hx0 : x = 0 := by omega
            subst hx0
            clear h0
            cases b
            · have HY : Hid (y = 0) := Lib.hid (by rw [HG.out]; rfl)
              have hz : ((((r &&& s) : Nat) : Int) != 0) = false := by
                have := hlit.symm
                rw [decide_eq_false_iff_not] at this
                simp; omega
              rw [HY.out] at HT
              clear HG hlit
              generalize r &&& s = q at *
              go_wp2_with (at_builtin; refine app_int _ rfl _ _ rfl w.heap.size _ _ HSL.out rfl rfl HL.out (by omega) ?_; intro u' w1 hs1 hk1; have HS1 := Lib.hid hs1; have HK1 := Lib.hid hk1; clear hs1 hk1)
              go_roundw
              case rel => exact ⟨j + 1, by omega, by go_num, HS1.out.val rfl HT.out, HK.out.own HK1.out (fun g hg => (HSL.out.block hg).1)⟩
              case measure => simp [intOf]; omega
            · have HY : Hid (y = 1) := Lib.hid (by rw [HG.out]; rfl)
              have hz : ((((r &&& s) : Nat) : Int) != 0) = true := by
                have := hlit.symm
                rw [decide_eq_true_eq] at this
                simp; omega
              rw [HY.out] at HT
              clear HG hlit
              generalize r &&& s = q at *
              go_wp2_with (at_builtin; refine app_int _ rfl _ _ rfl w.heap.size _ _ HSL.out rfl rfl HL.out (by omega) ?_; intro u' w1 hs1 hk1; have HS1 := Lib.hid hs1; have HK1 := Lib.hid hk1; clear hs1 hk1)
              go_roundw
              case rel => exact ⟨j + 1, by omega, by go_num, HS1.out.val rfl HT.out, HK.out.own HK1.out (fun g hg => (HSL.out.block hg).1)⟩
              case measure => simp [intOf]; omega
        · have hk' : j = k := by omega
          subst hk'
          clear hsl hkept
          go_wp2
          go_ret
          exact ⟨_, rfl, by have h := HSL.out; rw [List.take_of_length_le (by rw [HLN.out, HN.out]; exact Nat.le_refl _)] at h; exact h, HK.out⟩

end Go.Proofs.YtnajdbnacdnnlaaGreatDoor

namespace Go.Proofs.YtnajdbnacdnnlaaGreatDoor
open Go.RowKit

set_option maxHeartbeats 2000000 in
set_option maxRecDepth 100000 in
/-- A function that steps from each state of a row of states to the next one is folded; what it is handed lies in blocks behind B. -/
theorem foldedStepsB_any (F : Nat) (caps : Array Value) (s : Nat → List Nat) (n T : Nat) (hT : T ≤ 60) (hn1 : 0 < n) (hn6 : n ≤ 6) (hlen : ∀ t, (s t).length = n) (J : Nat → World → Prop) (rows : List Nat) (B : Nat)
    (hent : ∀ (args : Array Value) (w : World), Sem.run Tryz.prog (callFunc F args) w = .ok (.enter F args) w)
    (hstep : ∀ t, t < T → ∀ (w : World) (v : Value) (base : Nat), B ≤ base → Sl w base v (Nt.nats (s t)) → J t w → B ≤ w.heap.size →
      Calls Tryz.prog F (#[v] ++ caps) w fun e w' => ∃ z, e = .returned z ∧ Sl w' w.heap.size z (Nt.nats (s (t + 1))) ∧ J (t + 1) w' ∧ Kept rows w w')
    (hstay : ∀ t w w', B ≤ w.heap.size → J t w → Kept [] w w' → J t w') (hrows : ∀ r, r ∈ rows → r < B)
    (w : World) (v : Value) (base : Nat) (hB : B ≤ w.heap.size) (hs : Sl w base v (Nt.nats (s 0))) (hJ : J 0 w) :
    Calls Tryz.prog 252 #[v, .int .i64 (T : Int), .func (.func F) #[] caps] w fun e w' => ∃ z, e = .returned z ∧ Sl w' w.heap.size z (Nt.nats (s T)) ∧ J T w' ∧ Kept rows w w' := by
  have HSTEP := Lib.hid hstep
  have HENT := Lib.hid hent
  have HROWS := Lib.hid hrows
  have HX := Lib.hid (show 0 < (Nt.nats (s 0)).length ∧ (Nt.nats (s 0)).length ≤ 1000 from by rw [Nt.nats_length, hlen]; omega)
  have HS := Lib.hid hs
  have HJ := Lib.hid (fun w' => hstay 0 w w' hB hJ)
  obtain ⟨a, cap, rfl, _, _, _⟩ := hs.any
  clear hent hstep hstay hrows hs hJ hlen
  go_enter Tryz.func252, Tryz.ntmps252
  go_wp2_with fail
  refine (cloneInts_any (Nt.nats (s 0)) HX.out.1 HX.out.2 _ _ _ HS.out).mono ?_
  rintro e w1 ⟨z, rfl, hs1, hk1⟩
  have HS1 := Lib.hid hs1
  have HK1 := Lib.hid (hk1.to_below)
  have HJ1 := Lib.hid (HJ.out w1 hk1)
  clear hs1 hk1 HJ HX HS
  go_wp2_with fail
  go_loopw [7, 11] (fun u i wr => ∃ t : Nat, t ≤ T ∧ i = .int .i64 t ∧ Sl wr w.heap.size u (Nt.nats (s t)) ∧ J t wr ∧ Kept rows w wr) (fun _ i _ => T - (intOf i).toNat)
  case atStart => exact ⟨0, Nat.zero_le _, rfl, HS1.out, HJ1.out, ⟨HK1.out.os, HK1.out.tape, HK1.out.output, HK1.out.size, fun k hk _ => HK1.out.block k hk⟩⟩
  case round =>
    clear HS1 HK1 HJ1
    obtain ⟨t, ht, rfl, hsl, hj, hkept⟩ := hrel
    have HSL := Lib.hid hsl
    have HJT := Lib.hid hj
    have HK := Lib.hid hkept
    clear hsl hj hkept
    by_cases hlt : t < T
    · go_wp2_with fail
      rw [HENT.out, Oper.upon_enter]
      refine (HSTEP.out t hlt _ _ _ hB HSL.out HJT.out (Nat.le_trans hB HK.out.size)).mono ?_
      rintro e w2 ⟨z2, rfl, hs2, hj2, hk2⟩
      have HS2 := Lib.hid (hs2.mono HK.out.size)
      have HJ2 := Lib.hid hj2
      have HK2 := Lib.hid (HK.out.trans hk2 (fun x hx => .inl hx))
      clear hs2 hj2 hk2
      go_wp2_with fail
      go_roundw
      case rel => exact ⟨t + 1, by omega, by go_num, HS2.out, HJ2.out, HK2.out⟩
      case measure => simp [intOf]; omega
    · have ht' : t = T := by omega
      subst ht'
      go_wp2_with fail
      go_ret
      exact ⟨_, rfl, HSL.out, HJT.out, HK.out⟩

/-- A function that steps from each state of a row of states to the next one is folded. -/
theorem foldedSteps_any (F : Nat) (caps : Array Value) (s : Nat → List Nat) (n T : Nat) (hT : T ≤ 60) (hn1 : 0 < n) (hn6 : n ≤ 6) (hlen : ∀ t, (s t).length = n) (J : Nat → World → Prop) (rows : List Nat) (B : Nat)
    (hent : ∀ (args : Array Value) (w : World), Sem.run Tryz.prog (callFunc F args) w = .ok (.enter F args) w)
    (hstep : ∀ t, t < T → ∀ (w : World) (v : Value) (base : Nat), Sl w base v (Nt.nats (s t)) → J t w → B ≤ w.heap.size →
      Calls Tryz.prog F (#[v] ++ caps) w fun e w' => ∃ z, e = .returned z ∧ Sl w' w.heap.size z (Nt.nats (s (t + 1))) ∧ J (t + 1) w' ∧ Kept rows w w')
    (hstay : ∀ t w w', B ≤ w.heap.size → J t w → Kept [] w w' → J t w') (hrows : ∀ r, r ∈ rows → r < B)
    (w : World) (v : Value) (base : Nat) (hB : B ≤ w.heap.size) (hs : Sl w base v (Nt.nats (s 0))) (hJ : J 0 w) :
    Calls Tryz.prog 252 #[v, .int .i64 (T : Int), .func (.func F) #[] caps] w fun e w' => ∃ z, e = .returned z ∧ Sl w' w.heap.size z (Nt.nats (s T)) ∧ J T w' ∧ Kept rows w w' :=
  foldedStepsB_any F caps s n T hT hn1 hn6 hlen J rows B hent (fun t ht w v base _ => hstep t ht w v base) hstay hrows w v base hB hs hJ
end Go.Proofs.YtnajdbnacdnnlaaGreatDoor

namespace Go.Proofs.YtnajdbnacdnnlaaGreatDoor
open Go.RowKit

/-- Two boxes: a slice and a number. -/
theorem two_boxes (w : World) (t : TypeId) (v : Value) (kinds : Int) :
    Kept [] w ((w.alloc (.cells #[v] t)).alloc (.cells #[.int .i64 kinds] 3)) ∧
    ((w.alloc (.cells #[v] t)).alloc (.cells #[.int .i64 kinds] 3)).cell? ⟨w.heap.size, 0, none⟩ = some v ∧
    ((w.alloc (.cells #[v] t)).alloc (.cells #[.int .i64 kinds] 3)).cell? ⟨w.heap.size + 1, 0, none⟩ = some (.int .i64 kinds) ∧
    ((w.alloc (.cells #[v] t)).alloc (.cells #[.int .i64 kinds] 3)).heap.size = w.heap.size + 2 := by
  refine ⟨((Kept.refl _ _).alloc _).alloc _, ((Boxed.new w t v).alloc _).cell, ?_, by simp⟩
  have h := (Boxed.new (w.alloc (.cells #[v] t)) 3 (.int .i64 kinds)).cell
  have e : (w.alloc (.cells #[v] t)).heap.size = w.heap.size + 1 := by simp
  rw [e] at h
  exact h

end Go.Proofs.YtnajdbnacdnnlaaGreatDoor
