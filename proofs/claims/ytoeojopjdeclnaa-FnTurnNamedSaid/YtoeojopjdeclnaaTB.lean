/-
  Walks: turns of a state, and runs of turns, by the model.
  Walks: how often nodes turn, by the model.
  Walks: loops of turns, by the model.
-/
import Derived.Test.YtoeojopjdeclnaaFC
import Derived.Test.YtoeojopjdeclnaaTA
namespace Go.Proofs.Ytoeojopjdeclnaa
open Go.RowKit

/-- Whether a neighbour among the first ones pulls. -/
def pullTo (net ks : List Nat) (k j : Nat) : Bool := (List.range j).any fun i => (net.getD k 0).testBit i && decide (ks.getD i 0 = (ks.getD k 0 + 1) % 3)
theorem pullTo_succ (net ks : List Nat) (k j : Nat) : pullTo net ks k (j + 1) = (pullTo net ks k j || ((net.getD k 0).testBit j && decide (ks.getD j 0 = (ks.getD k 0 + 1) % 3))) := by
  unfold pullTo
  rw [List.range_succ, List.any_append]
  simp
theorem turn_take (ns ks : List Nat) (k : Nat) (h : k < ks.length) : Nt.nats ((Nt.turn ns ks).take (k + 1)) = Nt.nats ((Nt.turn ns ks).take k) ++ [(((Nt.turn ns ks).getD k 0 : Nat) : Int)] :=
  Nt.take_more _ _ (by rw [Nt.turn_length]; exact h)
theorem succ_mod3 (x : Nat) : ((x : Int) + 1).tmod 3 = (((x + 1) % 3 : Nat) : Int) := succ_mod x 3

set_option maxHeartbeats 2000000 in
theorem l5Step_any (ns : List Nat) (ks : List Nat) (ok : Nt.Ok ns) (st : Nt.St 3 ks) (hl : ks.length = ns.length) (w : World) (v : Value) (base : Nat) (u : Value) (base' : Nat)
    (hs : Sl w base v (Nt.nats ns)) (ht : Sl w base' u (Nt.nats ks)) :
    Calls Try.prog 36 #[v, u] w fun e w' => ∃ z, e = .returned z ∧ Sl w' w.heap.size z (Nt.nats (Nt.turn ns ks)) ∧ Kept [] w w' := by
  obtain ⟨n, hn⟩ : ∃ n, n = ks.length := ⟨_, rfl⟩
  have hp := st.some
  have h6 := st.few
  have HLT := Lib.hid (fun k (hk : k < n) => st.lt k (by omega))
  have HGL := Lib.hid (fun k => ok.get_lt k)
  have HSG := Lib.hid (fun k (hk : k < n) => Nt.turn_get ns ks (k := k) (by omega))
  have HTK := Lib.hid (fun k (hk : k < n) => turn_take ns ks k (by omega))
  have HLN := Lib.hid (Nt.turn_length ns ks)
  have HPE : Hid (∀ k, pullTo ns ks k n = Nt.pullB ns ks k) := Lib.hid (fun k => by rw [hn]; rfl)
  rw [← hn] at hp h6
  obtain ⟨g1, cap1, rfl, hg1, hc1⟩ := hs.row (n := n) (by omega) hp
  obtain ⟨g, cap, rfl, hg, hc⟩ := ht.row hn.symm hp
  have HC1 := Lib.hid hc1
  have HC := Lib.hid hc
  have HN := Lib.hid hn
  clear hs ht ok st hl hc hc1 hn
  go_enter Try.func36, Try.ntmps36
  go_wp2
  go_loopw [5, 6] (fun u i wr => ∃ k : Nat, k ≤ n ∧ i = .int .i64 k ∧ Sl wr w.heap.size u (Nt.nats ((Nt.turn ns ks).take k)) ∧ Kept [] w wr) (fun _ i _ => n - (intOf i).toNat)
  case atStart => exact ⟨0, Nat.zero_le _, rfl, Sl.empty3 w, (Kept.refl _ _).alloc _⟩
  case round =>
    obtain ⟨k, hk, rfl, hsl, hkept⟩ := hrel
    have HSL := Lib.hid hsl
    have HK := Lib.hid hkept
    have hsz := hkept.size
    by_cases hlt : k < n
    · have hck := (hkept.cell (p := ⟨g, k, none⟩) hg (by simp)).trans (HC.out k hlt)
      have HCK := Lib.hid (fun j (hj : j < n) => (hkept.cell (p := ⟨g, j, none⟩) hg (by simp)).trans (HC.out j hj))
      have hck1 := (hkept.cell (p := ⟨g1, k, none⟩) hg1 (by simp)).trans (HC1.out k hlt)
      have HT := Lib.hid (HTK.out k hlt)
      have HG := Lib.hid (HSG.out k hlt)
      have hx := HLT.out k hlt
      have hgl := HGL.out k
      have HL : Hid ((Nt.nats ((Nt.turn ns ks).take k)).length ≤ 1000000) := Lib.hid (by rw [Nt.nats_length, List.length_take]; omega)
      have HPS := Lib.hid (fun j => pullTo_succ ns ks k j)
      have HP0 : Hid (pullTo ns ks k 0 = false) := Lib.hid rfl
      have HPN := Lib.hid (HPE.out k)
      clear hsl hkept
      generalize (Nt.turn ns ks).getD k 0 = y at *
      generalize hxx : ks.getD k 0 = x at *
      generalize ns.getD k 0 = r at *
      have HXX := Lib.hid hxx
      clear hxx
      have f1 := succ_mod3 x
      obtain ⟨q, hq⟩ : ∃ q, q = (x + 1) % 3 := ⟨_, rfl⟩
      have hq3 : q < 3 := by omega
      rw [← hq] at f1
      have HQ : Hid ((x + 1) % 3 = q) := Lib.hid hq.symm
      clear hq
      go_wp2_with fail
      go_loop [8, 9] (fun m i => ∃ j : Nat, j ≤ n ∧ i = .int .i64 j ∧ m = .int .i64 (((if pullTo ns ks k j then q else x : Nat) : Nat) : Int)) (fun _ i => n - (intOf i).toNat)
      case atStart => exact ⟨0, Nat.zero_le _, rfl, by rw [HP0.out]; rfl⟩
      case round =>
        obtain ⟨j, hj, rfl, rfl⟩ := hrel
        by_cases hlj : j < n
        · have hcj := HCK.out j hlj
          have hpj := HPS.out j
          have hxj := HLT.out j hlj
          rw [HQ.out] at hpj
          generalize pullTo ns ks k j = b at *
          generalize hb' : pullTo ns ks k (j + 1) = b' at *
          have HBB := Lib.hid hb'
          clear hb'
          have p1 := shr_nonneg r j
          have e1 := shr_bit r j
          cases hbit : r.testBit j
          · rw [hbit] at e1 hpj
            simp only [Bool.false_eq_true, if_false] at e1
            have HB : Hid (b' = b) := Lib.hid (by rw [hpj]; simp)
            clear hpj
            generalize hm : (if b = true then q else x) = m at *
            have HM := Lib.hid hm
            clear hm
            go_wp2
            go_round
            case rel => exact ⟨j + 1, by omega, by go_num, by rw [HBB.out, HB.out, HM.out]⟩
            case measure => simp [intOf]; omega
          · rw [hbit] at e1 hpj
            simp only [if_true] at e1
            generalize ks.getD j 0 = s at *
            by_cases hs : s = q
            · have HB : Hid (b' = true) := Lib.hid (by rw [hpj]; simp [hs])
              have d1 : ((s : Int) == (q : Int)) = true := by simp [hs]
              clear hpj hs
              go_wp2
              go_round
              case rel => exact ⟨j + 1, by omega, by go_num, by rw [HBB.out, HB.out]; rfl⟩
              case measure => simp [intOf]; omega
            · have HB : Hid (b' = b) := Lib.hid (by rw [hpj]; simp [hs])
              have d1 : ((s : Int) == (q : Int)) = false := by simp; omega
              clear hpj hs
              go_wp2
              go_round
              case rel => exact ⟨j + 1, by omega, by go_num, by rw [HBB.out, HB.out]⟩
              case measure => simp [intOf]; omega
        · have hj' : j = n := by omega
          subst hj'
          have HY : Hid ((((if pullTo ns ks k j then q else x : Nat) : Nat) : Int) = (y : Int)) := Lib.hid (by
            rw [HG.out, HPN.out]
            unfold Nt.turnK
            rw [HQ.out])
          generalize (((if pullTo ns ks k j then q else x : Nat) : Nat) : Int) = m at *
          go_wp2_with (at_builtin; refine app_int _ rfl _ _ rfl w.heap.size _ _ HSL.out rfl rfl HL.out (by omega) ?_; intro u' w1 hs1 hk1; have HS1 := Lib.hid hs1; have HK1 := Lib.hid hk1; clear hs1 hk1)
          go_roundw
          case rel => exact ⟨k + 1, by omega, by go_num, HS1.out.val HY.out HT.out, HK.out.own HK1.out (fun g hg => (HSL.out.block hg).1)⟩
          case measure => simp [intOf]; omega
    · have hk' : k = n := by omega
      subst hk'
      clear hsl hkept
      go_wp2
      go_ret
      exact ⟨_, rfl, by have h := HSL.out; rw [List.take_of_length_le (by rw [HLN.out, HN.out]; exact Nat.le_refl _)] at h; exact h, HK.out⟩

set_option maxHeartbeats 1000000 in
theorem sTurnStep_any (xs : List Int) (ys : List Int) (w : World) (v : Value) (base : Nat) (u : Value) (base' : Nat) (hs : Sl w base v xs) (ht : Sl w base' u ys) :
    Calls Try.prog 13 #[v, u] w fun e w' => ∃ z, e = .returned z ∧ Sl w' w.heap.size z (Nt.turnOf xs ys) ∧ Kept [] w w' := by
  have HS := Lib.hid hs
  have HT := Lib.hid ht
  obtain ⟨a, cap, rfl, _, hm, _⟩ := hs.any
  obtain ⟨a', cap', rfl, _, hm', _⟩ := ht.any
  clear hs ht
  go_enter Try.func13, Try.ntmps13
  go_wp2_with fail
  refine (l3Ok_any xs 3 ys _ _ _ _ _ HS.out HT.out).mono ?_
  rintro e w1 ⟨rfl, hq⟩
  have HK1 := Lib.hid hq.kept
  have HS1 := Lib.hid (hq.sl HS.out)
  have HT1 := Lib.hid (hq.sl HT.out)
  clear hq HS HT
  cases ho : Nt.fireB xs 3 ys
  · have HF := Lib.hid (Nt.turnOf_no ho)
    go_wp2_with fail
    go_ret
    exact ⟨_, rfl, by rw [HF.out]; exact (Sl.empty3 w1).mono HK1.out.size, HK1.out.alloc _⟩
  · obtain ⟨ns, ks, rfl, rfl, ok, st, hl⟩ := Nt.fireB3_ok ho
    have HF := Lib.hid (Nt.turnOf_ok ok st hl)
    have HO := Lib.hid (And.intro ok (And.intro st hl))
    clear ok st hl ho
    go_wp2_with fail
    refine (l5Step_any ns ks HO.out.1 HO.out.2.1 HO.out.2.2 _ _ _ _ _ HS1.out HT1.out).mono ?_
    rintro e w2 ⟨z, rfl, hs2, hk2⟩
    have HS2 := Lib.hid (hs2.mono HK1.out.size)
    have HK2 := Lib.hid (HK1.out.trans hk2 (by simp))
    clear hs2 hk2
    go_wp2_with fail
    go_ret
    exact ⟨_, rfl, by rw [HF.out]; exact HS2.out, HK2.out⟩

set_option maxHeartbeats 1000000 in
theorem sTurnRun_any (xs : List Int) (ys : List Int) (steps : Int) (w : World) (v : Value) (base : Nat) (u : Value) (base' : Nat) (hs : Sl w base v xs) (ht : Sl w base' u ys) :
    Calls Try.prog 18 #[v, u, .int .i64 steps] w fun e w' => ∃ z, e = .returned z ∧ Sl w' w.heap.size z (Nt.trunOf xs ys steps) ∧ Kept [] w w' := by
  have HS := Lib.hid hs
  have HT := Lib.hid ht
  obtain ⟨a, cap, rfl, _, hm, _⟩ := hs.any
  obtain ⟨a', cap', rfl, _, hm', _⟩ := ht.any
  clear hs ht
  go_enter Try.func18, Try.ntmps18
  go_wp2_with fail
  refine (l3Ok_any xs 3 ys _ _ _ _ _ HS.out HT.out).mono ?_
  rintro e w1 ⟨rfl, hq⟩
  have HK1 := Lib.hid hq.kept
  have HS1 := Lib.hid (hq.sl HS.out)
  have HT1 := Lib.hid (hq.sl HT.out)
  clear hq HS HT
  cases ho : Nt.fireB xs 3 ys
  · have HF := Lib.hid (Nt.trunOf_no1 (steps := steps) ho)
    go_wp2_with fail
    go_ret
    exact ⟨_, rfl, by rw [HF.out]; exact (Sl.empty3 w1).mono HK1.out.size, HK1.out.alloc _⟩
  · cases h2 : Nt.stepsB steps
    · have HF := Lib.hid (Nt.trunOf_no2 (xs := xs) (ys := ys) h2)
      go_wp2_with (go_at_call 46; refine (l1In_any steps 0 60 _).mono ?_; rintro e w' ⟨rfl, rfl⟩; rw [show decide (0 ≤ steps ∧ steps ≤ 60) = false from h2])
      go_ret
      exact ⟨_, rfl, by rw [HF.out]; exact (Sl.empty3 w1).mono HK1.out.size, HK1.out.alloc _⟩
    · obtain ⟨ns, ks, rfl, rfl, ok, st, hl⟩ := Nt.fireB3_ok ho
      obtain ⟨t, rfl, ht60⟩ := Nt.stepsB_ok h2
      have HF := Lib.hid (Nt.trunOf_ok ok st hl ht60)
      have HOK := Lib.hid ok
      have HST := Lib.hid st
      have HL := Lib.hid hl
      have HX := Lib.hid (show 0 < (Nt.nats ks).length ∧ (Nt.nats ks).length ≤ 1000 from by rw [Nt.nats_length]; have := st.some; have := st.few; omega)
      have HE := Lib.hid (Sl.empty3 w1)
      have HT2 := Lib.hid (HT1.out.stay ((Kept.refl [] w1).alloc (.cells #[] 3)))
      clear ok st hl ho
      go_wp2_with (first
        | (go_at_call 46; refine (l1In_any _ 0 60 _).mono ?_; rintro e w' ⟨rfl, rfl⟩; rw [show decide (0 ≤ (t : Int) ∧ (t : Int) ≤ 60) = true from h2])
        | (at_builtin; refine app_sl rfl _ _ rfl w1.heap.size _ [] HE.out rfl _ _ (Nt.nats ks) HT2.out HX.out.1 rfl (by have := HX.out.2; simp; omega) (by simp) ?_; intro z w2 hs2 hk2; have HZ := Lib.hid hs2; have HK2 := Lib.hid (((Kept.refl [] w1).alloc (.cells #[] 3)).own hk2 (fun g' hg' => by simp [Value.ownBlock] at hg'; omega)); clear hs2 hk2))
      clear h2 HE HT2
      have hz0 : Sl w2 w1.heap.size z (Nt.nats (Nt.turns ns ks 0)) := by have h := HZ.out; rw [List.nil_append] at h; exact h
      have HZ0 := Lib.hid hz0
      clear hz0 HZ
      go_loopw [7, 8] (fun z i wr => ∃ k : Nat, k ≤ t ∧ i = .int .i64 k ∧ Sl wr w1.heap.size z (Nt.nats (Nt.turns ns ks k)) ∧ Kept [] w1 wr) (fun _ i _ => t - (intOf i).toNat)
      case atStart => exact ⟨0, Nat.zero_le _, rfl, HZ0.out, HK2.out⟩
      case round =>
        clear HZ0 HK2
        obtain ⟨k, hk, rfl, hsl, hkept⟩ := hrel
        have HSL := Lib.hid hsl
        have HK := Lib.hid hkept
        clear hsl hkept
        by_cases hlt : k < t
        · go_wp2_with fail
          refine (l5Step_any ns (Nt.turns ns ks k) HOK.out (Nt.turns_st ns HST.out k) (by rw [Nt.turns_length]; exact HL.out) _ _ _ _ _ (HS1.out.stay HK.out) HSL.out).mono ?_
          rintro e w3 ⟨z3, rfl, hs3, hk3⟩
          have HS3 := Lib.hid (hs3.mono HK.out.size)
          have HK3 := Lib.hid (HK.out.trans hk3 (by simp))
          clear hs3 hk3
          go_wp2_with fail
          go_roundw
          case rel => exact ⟨k + 1, by omega, by go_num, HS3.out, HK3.out⟩
          case measure => simp [intOf]; omega
        · have hk' : k = t := by omega
          subst hk'
          go_wp2_with fail
          go_ret
          exact ⟨_, rfl, by rw [HF.out]; exact HSL.out.mono HK1.out.size, HK1.out.trans HK.out (by simp)⟩

set_option maxHeartbeats 1000000 in
theorem sStill_any (xs : List Int) (ys : List Int) (w : World) (v : Value) (base : Nat) (u : Value) (base' : Nat) (hs : Sl w base v xs) (ht : Sl w base' u ys) :
    Calls Try.prog 24 #[v, u] w fun e w' => e = .returned (.bool (Nt.stillOf xs ys)) ∧ Kept [] w w' := by
  have HS := Lib.hid hs
  have HT := Lib.hid ht
  obtain ⟨a, cap, rfl, _, hm, _⟩ := hs.any
  obtain ⟨a', cap', rfl, _, hm', _⟩ := ht.any
  clear hs ht
  go_enter Try.func24, Try.ntmps24
  go_wp2_with fail
  refine (l3Ok_any xs 3 ys _ _ _ _ _ HS.out HT.out).mono ?_
  rintro e w1 ⟨rfl, hq⟩
  have HK1 := Lib.hid hq.kept
  have HS1 := Lib.hid (hq.sl HS.out)
  have HT1 := Lib.hid (hq.sl HT.out)
  clear hq HS HT
  cases ho : Nt.fireB xs 3 ys
  · have HF := Lib.hid (Nt.stillOf_no ho)
    go_wp2_with fail
    go_ret
    exact ⟨by rw [HF.out]; rfl, HK1.out⟩
  · obtain ⟨ns, ks, rfl, rfl, ok, st, hl⟩ := Nt.fireB3_ok ho
    have HF := Lib.hid (Nt.stillOf_ok ok st hl)
    have HO := Lib.hid (And.intro ok (And.intro st hl))
    have HLE : Hid ((Nt.nats (Nt.turn ns ks)).length = (Nt.nats ks).length) := Lib.hid (by rw [Nt.nats_length, Nt.nats_length, Nt.turn_length])
    clear ok st hl ho
    go_wp2_with fail
    refine (l5Step_any ns ks HO.out.1 HO.out.2.1 HO.out.2.2 _ _ _ _ _ HS1.out HT1.out).mono ?_
    rintro e w2 ⟨z, rfl, hs2, hk2⟩
    have HS2 := Lib.hid hs2
    have HT2 := Lib.hid (HT1.out.stay hk2)
    have HK2 := Lib.hid (HK1.out.trans hk2 (by simp))
    clear hs2 hk2
    go_wp2_with fail
    refine (l3Same_any _ _ HLE.out _ _ _ _ _ HS2.out HT2.out).mono ?_
    rintro e w3 ⟨rfl, hq⟩
    rw [dec_nats]
    have HK3 := Lib.hid (HK2.out.trans hq.kept (by simp))
    clear hq
    go_wp2_with fail
    go_ret
    exact ⟨by rw [HF.out] <;> rfl, HK3.out⟩
end Go.Proofs.Ytoeojopjdeclnaa

namespace Go.Proofs.Ytoeojopjdeclnaa
open Go.RowKit

theorem turnedL_small (ns ks : List Nat) (t : Nat) (ht : t ≤ 60) (k : Nat) (hk : k < ks.length) : (Nt.turnedL ns ks t).getD k 0 ≤ 1000 := by
  rw [Nt.turnedL_get _ _ _ hk]
  have := Nt.turned_le ns ks k t
  omega

set_option maxHeartbeats 2000000 in
theorem sTurnedRow_any (xs : List Int) (ys : List Int) (steps : Int) (w : World) (v : Value) (base : Nat) (u : Value) (base' : Nat) (hs : Sl w base v xs) (ht : Sl w base' u ys) :
    Calls Try.prog 21 #[v, u, .int .i64 steps] w fun e w' => ∃ z, e = .returned z ∧ Sl w' w.heap.size z (Nt.tturnedOf xs ys steps) ∧ Kept [] w w' := by
  have HS := Lib.hid hs
  have HT := Lib.hid ht
  obtain ⟨a, cap, rfl, _, hm, _⟩ := hs.any
  obtain ⟨a', cap', rfl, _, hm', _⟩ := ht.any
  clear hs ht
  go_enter Try.func21, Try.ntmps21
  go_wp2_with fail
  refine (l3Ok_any xs 3 ys _ _ _ _ _ HS.out HT.out).mono ?_
  rintro e w1 ⟨rfl, hq⟩
  have HK1 := Lib.hid hq.kept
  have HS1 := Lib.hid (hq.sl HS.out)
  have HT1 := Lib.hid (hq.sl HT.out)
  clear hq HS HT
  cases ho : Nt.fireB xs 3 ys
  · have HF := Lib.hid (Nt.tturnedOf_no1 (steps := steps) ho)
    go_wp2_with fail
    go_ret
    exact ⟨_, rfl, by rw [HF.out]; exact (Sl.empty3 w1).mono HK1.out.size, HK1.out.alloc _⟩
  · cases h2 : Nt.stepsB steps
    · have HF := Lib.hid (Nt.tturnedOf_no2 (xs := xs) (ys := ys) h2)
      go_wp2_with (go_at_call 46; refine (l1In_any steps 0 60 _).mono ?_; rintro e w' ⟨rfl, rfl⟩; rw [show decide (0 ≤ steps ∧ steps ≤ 60) = false from h2])
      go_ret
      exact ⟨_, rfl, by rw [HF.out]; exact (Sl.empty3 w1).mono HK1.out.size, HK1.out.alloc _⟩
    · obtain ⟨ns, ks, rfl, rfl, ok, st, hl⟩ := Nt.fireB3_ok ho
      obtain ⟨t, rfl, ht60⟩ := Nt.stepsB_ok h2
      have HF := Lib.hid (Nt.tturnedOf_ok ok st hl ht60)
      have HOK := Lib.hid ok
      have HST := Lib.hid st
      have HL := Lib.hid hl
      have h6 := st.few
      have hp := st.some
      obtain ⟨n, hn⟩ : ∃ n, n = ks.length := ⟨_, rfl⟩
      have HN := Lib.hid hn
      rw [← hn] at h6 hp
      have hln : (Nt.nats ns).length = n := by rw [Nt.nats_length]; omega
      rw [hln] at HS1 ⊢
      have HX := Lib.hid (show 0 < (Nt.nats ks).length ∧ (Nt.nats ks).length ≤ 1000 from by rw [Nt.nats_length]; omega)
      clear ok st hl ho hm hm' hln hn
      go_wp2_with (first
        | (go_at_call 46; refine (l1In_any _ 0 60 _).mono ?_; rintro e w' ⟨rfl, rfl⟩; rw [show decide (0 ≤ (t : Int) ∧ (t : Int) ≤ 60) = true from h2])
        | (at_make; refine make_int _ n rfl _ _ rfl rfl rfl ?_ ?_))
      · omega
      · intro w2 hs2 hk2 hlt2
        have hs2' : Sl w2 w1.heap.size (.slice (some ⟨w1.heap.size, 0, none⟩) n n) (Nt.nats (Nt.turnedL ns ks 0)) := by rw [Nt.turnedL_zero, nats_zeros, ← HN.out]; exact hs2
        have HLT2 : Hid (w1.heap.size < w2.heap.size) := Lib.hid hlt2
        have HR2 := Lib.hid hs2'
        have HK2 := Lib.hid hk2
        have HT2 := Lib.hid ((HT1.out.stay hk2).stay ((Kept.refl [] w2).alloc (.cells #[] 3)))
        have HE := Lib.hid (Sl.empty3 w2)
        clear hs2 hs2' hk2 hlt2 h2
        go_wp2_with (at_builtin; refine app_sl rfl _ _ rfl w2.heap.size _ [] HE.out rfl _ _ (Nt.nats ks) HT2.out HX.out.1 rfl (by have := HX.out.2; simp; omega) (by simp) ?_; intro z w3 hs3 hk3; have HZ := Lib.hid hs3; have HK3 := Lib.hid (((Kept.refl [] w2).alloc (.cells #[] 3)).own hk3 (fun g' hg' => by simp [Value.ownBlock] at hg'; omega)); clear hs3 hk3)
        have hz0 : Sl w3 w2.heap.size z (Nt.nats (Nt.turns ns ks 0)) := by have h := HZ.out; rw [List.nil_append] at h; exact h
        have HZ0 := Lib.hid hz0
        have HR3 := Lib.hid (HR2.out.stay HK3.out)
        have HK3' := Lib.hid (HK2.out.trans HK3.out (by simp))
        clear hz0 HZ HE HT2 HX
        go_loopw [8, 9] (fun z i wr => ∃ k : Nat, k ≤ t ∧ i = .int .i64 k ∧ Sl wr w2.heap.size z (Nt.nats (Nt.turns ns ks k)) ∧ Sl wr w1.heap.size (.slice (some ⟨w1.heap.size, 0, none⟩) n n) (Nt.nats (Nt.turnedL ns ks k)) ∧ Kept [] w1 wr ∧ w2.heap.size ≤ wr.heap.size) (fun _ i _ => t - (intOf i).toNat)
        case atStart => exact ⟨0, Nat.zero_le _, rfl, HZ0.out, HR3.out, HK3'.out, HK3.out.size⟩
        case round =>
          clear HZ0 HK3 HK3' HR3 HR2 HK2
          obtain ⟨k, hk, rfl, hsl, hfl, hkept, hsz⟩ := hrel
          have HSL := Lib.hid hsl
          have HFL := Lib.hid hfl
          have HK := Lib.hid hkept
          have HSZ := Lib.hid hsz
          clear hsl hfl hkept hsz
          by_cases hlt : k < t
          · go_wp2_with fail
            refine (l5Step_any ns (Nt.turns ns ks k) HOK.out (Nt.turns_st ns HST.out k) (by rw [Nt.turns_length]; exact HL.out) _ _ _ _ _ (HS1.out.stay HK.out) HSL.out).mono ?_
            rintro e w4 ⟨z4, rfl, hs4, hk4⟩
            have hs4' : Sl w4 wr.heap.size z4 (Nt.nats (Nt.turns ns ks (k + 1))) := hs4
            have HZ4 := Lib.hid hs4'
            have HR4 := Lib.hid (HFL.out.stay hk4)
            have HP4 := Lib.hid (HSL.out.stay hk4)
            have HPL : Hid ((Nt.turns ns ks k).length = n) := Lib.hid (by rw [Nt.turns_length]; exact HN.out.symm)
            obtain ⟨gp, capp, rfl, hgp, hcp⟩ := HP4.out.row HPL.out hp
            have hnep : ¬ gp = w1.heap.size := by have h1 := (HSL.out.block (g := gp) rfl).1; have h3 := HLT2.out; omega
            have HNEP := Lib.hid hnep
            have HCP := Lib.hid hcp
            have HK4 := Lib.hid (HK.out.trans hk4 (by simp))
            have HSZ4 := Lib.hid (Nat.le_trans HSZ.out hk4.size)
            have HGE := Lib.hid (fun g hg => (hs4'.block (g := g) hg).1)
            have HRL : Hid ((Nt.turns ns ks (k + 1)).length = n) := Lib.hid (by rw [Nt.turns_length]; exact HN.out.symm)
            obtain ⟨g4, cap4, rfl, hg4, hc4⟩ := hs4'.row HRL.out hp
            have hne4 : ¬ g4 = w1.heap.size := by have h1 := HGE.out g4 rfl; have h2 := HSZ.out; have h3 := HLT2.out; omega
            have HNE := Lib.hid hne4
            have HC4 := Lib.hid hc4
            have HCL := Lib.hid (Nt.turnedL_length ns ks k)
            have HLN : Hid ((Nt.turnedL ns ks (k + 1)).length = (Nt.turnedL ns ks k).length) := Lib.hid (by rw [Nt.turnedL_length, Nt.turnedL_length])
            have HR4' : Hid (Sl w4 w1.heap.size (.slice (some ⟨w1.heap.size, 0, none⟩) n n) (Nt.nats (Nt.mix (Nt.turnedL ns ks (k + 1)) (Nt.turnedL ns ks k) 0))) := Lib.hid (by rw [Nt.mix_zero]; exact HR4.out)
            clear hs4 hs4' hk4 hc4 hne4 HR4 hcp hnep HP4
            go_wp2_with fail
            go_loopw [11] (fun i wi => ∃ j : Nat, j ≤ n ∧ i = .int .i64 j ∧ Sl wi w1.heap.size (.slice (some ⟨w1.heap.size, 0, none⟩) n n) (Nt.nats (Nt.mix (Nt.turnedL ns ks (k + 1)) (Nt.turnedL ns ks k) j)) ∧ Kept [w1.heap.size] w4 wi) (fun i _ => n - (intOf i).toNat)
            case atStart => exact ⟨0, Nat.zero_le _, rfl, HR4'.out, Kept.refl _ _⟩
            case round =>
              clear HR4'
              obtain ⟨j, hj, rfl, hri, hki⟩ := hrel
              have HRI := Lib.hid hri
              have HKI := Lib.hid hki
              by_cases hlj : j < n
              · have hjl : j < (Nt.turnedL ns ks k).length := by rw [HCL.out, ← HN.out]; exact hlj
                have hck := (hki.cell (p := ⟨g4, j, none⟩) hg4 (by simp; exact HNE.out)).trans (HC4.out j hlj)
                have hcq := (hki.cell (p := ⟨gp, j, none⟩) hgp (by simp; exact HNEP.out)).trans (HCP.out j hlj)
                have HML : Hid ((Nt.nats (Nt.mix (Nt.turnedL ns ks (k + 1)) (Nt.turnedL ns ks k) j)).length = n) := Lib.hid (by rw [Nt.nats_length, Nt.mix_length HLN.out, HCL.out, ← HN.out])
                have HSET := Lib.hid (Nt.mix_set HLN.out hjl)
                have HKEEP := Lib.hid (Nt.mix_keep HLN.out hjl)
                have HG := Lib.hid (Nt.turnedL_next (net := ns) HST.out k (k := j) (by rw [← HN.out]; exact hlj))
                have HMG := Lib.hid (Nt.mix_get HLN.out hjl)
                have hcs := turnedL_small ns ks k (by omega) j (by rw [← HN.out]; exact hlj)
                clear hri hki hjl
                generalize (Nt.turnedL ns ks (k + 1)).getD j 0 = y at *
                generalize (Nt.turns ns ks (k + 1)).getD j 0 = x at *
                generalize (Nt.turns ns ks k).getD j 0 = x0 at *
                generalize (Nt.turnedL ns ks k).getD j 0 = z at *
                by_cases h1 : x = x0
                · have h1' : ((x : Int) != (x0 : Int)) = false := by simp [h1]
                  have HY : Hid (y = z) := Lib.hid (by rw [HG.out, if_neg (by simp [h1])]; rfl)
                  clear h1 HG HSET
                  go_wp2_with fail
                  go_quiet (fail)
                  go_wp2
                  go_roundw
                  case rel => exact ⟨j + 1, by omega, by go_num, by rw [← HKEEP.out HY.out]; exact ((Qt.refl _).draw nq).sl HRI.out, HKI.out.trans ((Qt.refl _).draw nq).kept (by simp)⟩
                  case measure => simp [intOf]; omega
                · have h1' : ((x : Int) != (x0 : Int)) = true := by simp; omega
                  have HY : Hid (((y : Nat) : Int) = (z : Int) + 1) := Lib.hid (by rw [HG.out, if_pos h1]; rfl)
                  clear h1 HG HKEEP
                  go_wp2_with fail
                  go_quiet (fail)
                  have HRQ := Lib.hid (((Qt.refl _).draw nq).sl HRI.out)
                  have HKQ := Lib.hid (HKI.out.trans ((Qt.refl _).draw nq).kept (by simp))
                  obtain ⟨hcell, hfr⟩ := HRQ.out.at j (by rw [HML.out]; exact hlj)
                  rw [Nt.nats_get, HMG.out] at hcell
                  generalize wr.drewN nq = wd at *
                  clear hck hcq
                  go_wp2
                  go_roundw
                  case rel => exact ⟨j + 1, by omega, by go_num, by rw [← HSET.out, Nt.nats_set, HY.out]; exact HRQ.out.set HML.out.symm j _, HKQ.out.setCell (.inl (by simp)) _⟩
                  case measure => simp [intOf]; omega
              · have hj' : j = n := by omega
                subst hj'
                clear hri hki
                go_wp2_with fail
                go_roundw
                case rel =>
                  refine ⟨k + 1, by omega, by go_num, ?_, ?_, HK4.out.trans HKI.out (fun x hx => by right; simp at hx; omega), Nat.le_trans HSZ4.out HKI.out.size⟩
                  · exact (HZ4.out.kept HKI.out (fun g hg hm => by simp [Value.ownBlock] at hg hm; have := HNE.out; omega)).mono HSZ.out
                  · have h := HRI.out
                    rw [show j = (Nt.turnedL ns ks k).length by rw [HCL.out]; exact HN.out, Nt.mix_end HLN.out] at h
                    rw [show j = (Nt.turnedL ns ks k).length by rw [HCL.out]; exact HN.out]
                    exact h
                case measure => simp [intOf]; omega
          · have hk' : k = t := by omega
            subst hk'
            go_wp2_with fail
            go_ret
            exact ⟨_, rfl, by rw [HF.out]; exact HFL.out.mono HK1.out.size, HK1.out.trans HK.out (by simp)⟩
end Go.Proofs.Ytoeojopjdeclnaa

namespace Go.Proofs.Ytoeojopjdeclnaa
open Go.RowKit

set_option maxHeartbeats 2000000 in
theorem sTLoopOk_any (ns : List Nat) (ks : List Nat) (ok : Nt.Ok ns) (st : Nt.St 3 ks) (hl : ks.length = ns.length) (m l : Nat) (hloop : Nt.IsLoop (Nt.turns ns ks) m l) (hb : m + l ≤ 3 ^ ks.length)
    (w : World) (v : Value) (base : Nat) (u : Value) (base' : Nat) (hs : Sl w base v (Nt.nats ns)) (ht : Sl w base' u (Nt.nats ks)) :
    Calls Try.prog 27 #[v, u] w fun e w' => e = .returned (.tuple #[.int .i64 (m : Int), .int .i64 (l : Int)]) ∧ Kept [] w w' := by
  have ho := Nt.fireB3_yes ok st hl
  have hsm := Nt.loop_small st.c5 st.few hb
  have tells := Nt.turns_tells ns ks
  obtain ⟨i0, hi1, hi2, hmeet, hfirst⟩ := hloop.first_meet tells
  have HX := Lib.hid (show 0 < (Nt.nats ks).length ∧ (Nt.nats ks).length ≤ 1000 from by rw [Nt.nats_length]; have := st.some; have := st.few; omega)
  have HS0 := Lib.hid hs
  have HT0 := Lib.hid ht
  obtain ⟨a, cap, rfl, _, hm, _⟩ := hs.any
  obtain ⟨a', cap', rfl, _, hm', _⟩ := ht.any
  have HM := Lib.hid hmeet
  have HFM := Lib.hid hfirst
  have HBM := Lib.hid (meet_behind hloop tells hi1 hmeet)
  have HTM := Lib.hid (fun k => hloop.third_meet (k := k))
  have HOK := Lib.hid ok
  have HST := Lib.hid st
  have HL := Lib.hid hl
  have HLE := Lib.hid (fun t t' => show (Nt.nats (Nt.turns ns ks t)).length = (Nt.nats (Nt.turns ns ks t')).length from by rw [Nt.nats_length, Nt.nats_length, Nt.turns_length, Nt.turns_length])
  have hlpos := hloop.pos
  have HR0 : Hid (Nt.turns ns ks 0 = ks) := Lib.hid rfl
  have HRS : Hid (∀ t, Nt.turn ns (Nt.turns ns ks t) = Nt.turns ns ks (t + 1)) := Lib.hid (fun _ => rfl)
  have HSTT := Lib.hid (fun t => Nt.turns_st ns st t)
  have HLT := Lib.hid (fun t => (Nt.turns_length ns ks t).trans hl)
  clear hs ht hmeet hfirst hloop tells ok st hl hb
  go_enter Try.func27, Try.ntmps27
  go_wp2_with fail
  refine (l3Ok_any _ 3 _ _ _ _ _ _ HS0.out HT0.out).mono ?_
  rintro e w0 ⟨rfl, hq⟩
  rw [ho]
  have HK0 := Lib.hid hq.kept
  have HN := Lib.hid (hq.sl HS0.out)
  have HS : Hid (Sl w0 0 _ (Nt.nats (Nt.turns ns ks 0))) := Lib.hid (hq.sl HT0.out).zero
  have HSTEP := Lib.hid (fun (t : Nat) (w2 : World) (v2 : Value) (hs2 : Sl w2 0 v2 (Nt.nats (Nt.turns ns ks t))) (hj : Kept [] w0 w2) =>
    (l5Step_any ns (Nt.turns ns ks t) HOK.out (HSTT.out t) (HLT.out t) w2 _ base v2 0 (HN.out.stay hj) hs2).mono fun e w' h => (show ∃ z, e = .returned z ∧ Sl w' 0 z (Nt.nats (Nt.turns ns ks (t + 1))) ∧ Kept [] w2 w' from by
      obtain ⟨z, h1, h2, h3⟩ := h
      exact ⟨z, h1, h2.zero, h3⟩))
  clear hq ho
  generalize Nt.turns ns ks = s at *
  go_wp2_with fail
  refine (HSTEP.out 0 _ _ HS.out (Kept.refl _ _)).mono ?_
  rintro e w1 ⟨z1, rfl, hs1, hk1⟩
  have HS1 := Lib.hid hs1
  have HK1 := Lib.hid hk1
  clear hs1 hk1
  go_wp2_with fail
  refine (HSTEP.out 1 _ _ HS1.out HK1.out).mono ?_
  rintro e w2 ⟨z2, rfl, hs2, hk2⟩
  have HA2 := Lib.hid (HS1.out.stay hk2)
  have HB2 := Lib.hid hs2
  have HK2 := Lib.hid (HK1.out.trans hk2 (by simp))
  clear hs2 hk2 HS1 HK1
  go_wp2_with fail
  go_loopg [6, 7] i0 (fun g p q wr => ∃ i : Nat, 1 ≤ i ∧ i ≤ i0 ∧ i0 - i ≤ g ∧ Sl wr 0 p (Nt.nats (s i)) ∧ Sl wr 0 q (Nt.nats (s (i + i))) ∧ Kept [] w0 wr)
  case atStart => exact ⟨1, Nat.le_refl _, hi1, by omega, HA2.out, HB2.out, HK2.out⟩
  case round =>
    clear HA2 HB2 HK2
    obtain ⟨i, h1, h2, hg, hp, hq, hk⟩ := hrel
    have HP := Lib.hid hp
    have HQ := Lib.hid hq
    have HK := Lib.hid hk
    clear hp hq hk
    by_cases hlt : i < i0
    · have HNE := Lib.hid (HFM.out i h1 hlt)
      go_wp2_with fail
      refine (l3Same_any _ _ (HLE.out _ _) _ _ _ _ _ HP.out HQ.out).mono ?_
      rintro e w3 ⟨rfl, hqt⟩
      rw [dec_nats, decide_eq_false HNE.out]
      have HP3 := Lib.hid (hqt.sl HP.out)
      have HQ3 := Lib.hid (hqt.sl HQ.out)
      have HK3 := Lib.hid (HK.out.trans hqt.kept (by simp))
      clear hqt HP HQ HK
      go_wp2_with fail
      refine (HSTEP.out i _ _ HP3.out HK3.out).mono ?_
      rintro e w4 ⟨z4, rfl, hs4, hk4⟩
      have HP4 := Lib.hid hs4
      have HQ4 := Lib.hid (HQ3.out.stay hk4)
      have HK4 := Lib.hid (HK3.out.trans hk4 (by simp))
      clear hs4 hk4 HP3 HQ3 HK3
      go_wp2_with fail
      refine (HSTEP.out (i + i) _ _ HQ4.out HK4.out).mono ?_
      rintro e w5 ⟨z5, rfl, hs5, hk5⟩
      have HP5 := Lib.hid (HP4.out.stay hk5)
      have HQ5 := Lib.hid hs5
      have HK5 := Lib.hid (HK4.out.trans hk5 (by simp))
      clear hs5 hk5 HP4 HQ4 HK4
      go_wp2_with fail
      refine (HSTEP.out (i + i + 1) _ _ HQ5.out HK5.out).mono ?_
      rintro e w6 ⟨z6, rfl, hs6, hk6⟩
      have HP6 := Lib.hid (HP5.out.stay hk6)
      have HQ6 := Lib.hid hs6
      have HK6 := Lib.hid (HK5.out.trans hk6 (by simp))
      clear hs6 hk6 HP5 HQ5 HK5
      go_wp2_with fail
      go_roundg (i0 - (i + 1))
      case measure => omega
      case rel => exact ⟨i + 1, by omega, by omega, Nat.le_refl _, HP6.out, by rw [show i + 1 + (i + 1) = i + i + 1 + 1 by omega]; exact HQ6.out, HK6.out⟩
    · have hi' : i = i0 := by omega
      subst hi'
      go_wp2_with fail
      refine (l3Same_any _ _ (HLE.out _ _) _ _ _ _ _ HP.out HQ.out).mono ?_
      rintro e w3 ⟨rfl, hqt⟩
      rw [dec_nats, decide_eq_true HM.out]
      have HQ3 := Lib.hid (hqt.sl HQ.out)
      have HK3 := Lib.hid (HK.out.trans hqt.kept (by simp))
      have HT3 := Lib.hid (((HT0.out.stay HK0.out).stay HK3.out).stay ((Kept.refl [] w3).alloc (.cells #[] 3)))
      have HE3 := Lib.hid (Sl.empty3 w3)
      clear hqt HP HQ HK hg hlt
      go_wp2_with (at_builtin; refine app_sl rfl _ _ rfl w3.heap.size _ [] HE3.out rfl _ _ (Nt.nats ks) HT3.out HX.out.1 rfl (by have := HX.out.2; simp; omega) (by simp) ?_; intro z w4 hs4 hk4; have HZ := Lib.hid hs4; have HK4 := Lib.hid (((Kept.refl [] w3).alloc (.cells #[] 3)).own hk4 (fun g' hg' => by simp [Value.ownBlock] at hg'; omega)); clear hs4 hk4)
      have hz0 : Sl w4 0 z (Nt.nats (s 0)) := by rw [HR0.out]; have h := HZ.out.zero; rw [List.nil_append] at h; exact h
      have HS4 := Lib.hid hz0
      have HQ4 := Lib.hid (HQ3.out.stay HK4.out)
      have HK5 := Lib.hid (HK3.out.trans HK4.out (by simp))
      clear hz0 HZ HE3 HT3 HQ3 HK3 HK4
      go_loopw [6, 7, 8] (fun p q n wr => ∃ b : Nat, b ≤ m ∧ n = .int .i64 b ∧ Sl wr 0 p (Nt.nats (s b)) ∧ Sl wr 0 q (Nt.nats (s (i + i + b))) ∧ Kept [] w0 wr) (fun _ _ n _ => m - (intOf n).toNat)
      case atStart => exact ⟨0, Nat.zero_le _, rfl, HS4.out, HQ4.out, HK5.out⟩
      case round =>
        clear HS4 HQ4 HK5
        obtain ⟨b, hbm, rfl, hp, hq, hk⟩ := hrel
        have HP := Lib.hid hp
        have HQ := Lib.hid hq
        have HK := Lib.hid hk
        clear hp hq hk
        by_cases hlt : b < m
        · have HNE : Hid (¬ s b = s (i + i + b)) := Lib.hid (fun e => by have := (HBM.out b).1 e; omega)
          go_wp2_with fail
          refine (l3Same_any _ _ (HLE.out _ _) _ _ _ _ _ HP.out HQ.out).mono ?_
          rintro e w3 ⟨rfl, hqt⟩
          rw [dec_nats, decide_eq_false HNE.out]
          have HP3 := Lib.hid (hqt.sl HP.out)
          have HQ3 := Lib.hid (hqt.sl HQ.out)
          have HK3 := Lib.hid (HK.out.trans hqt.kept (by simp))
          clear hqt HP HQ HK
          go_wp2_with fail
          refine (HSTEP.out b _ _ HP3.out HK3.out).mono ?_
          rintro e w4 ⟨z4, rfl, hs4, hk4⟩
          have HP4 := Lib.hid hs4
          have HQ4 := Lib.hid (HQ3.out.stay hk4)
          have HK4 := Lib.hid (HK3.out.trans hk4 (by simp))
          clear hs4 hk4 HP3 HQ3 HK3
          go_wp2_with fail
          refine (HSTEP.out (i + i + b) _ _ HQ4.out HK4.out).mono ?_
          rintro e w5 ⟨z5, rfl, hs5, hk5⟩
          have HP5 := Lib.hid (HP4.out.stay hk5)
          have HQ5 := Lib.hid hs5
          have HK5 := Lib.hid (HK4.out.trans hk5 (by simp))
          clear hs5 hk5 HP4 HQ4 HK4
          go_wp2_with fail
          go_roundw
          case rel => exact ⟨b + 1, by omega, by go_num, HP5.out, HQ5.out, HK5.out⟩
          case measure => simp [intOf]; omega
        · have hb' : b = m := by omega
          subst hb'
          go_wp2_with fail
          refine (l3Same_any _ _ (HLE.out _ _) _ _ _ _ _ HP.out HQ.out).mono ?_
          rintro e w3 ⟨rfl, hqt⟩
          rw [dec_nats, decide_eq_true ((HBM.out b).2 (Nat.le_refl _))]
          have HP3 := Lib.hid (hqt.sl HP.out)
          have HK3 := Lib.hid (HK.out.trans hqt.kept (by simp))
          clear hqt HP HQ HK hlt
          go_wp2_with fail
          refine (HSTEP.out b _ _ HP3.out HK3.out).mono ?_
          rintro e w4 ⟨z4, rfl, hs4, hk4⟩
          have HP4 := Lib.hid (HP3.out.stay hk4)
          have HQ4 := Lib.hid hs4
          have HK4 := Lib.hid (HK3.out.trans hk4 (by simp))
          clear hs4 hk4 HP3 HK3
          go_wp2_with fail
          go_loopw [7, 9] (fun q n wr => ∃ k : Nat, 1 ≤ k ∧ k ≤ l ∧ n = .int .i64 k ∧ Sl wr 0 q (Nt.nats (s (b + k))) ∧ Kept [] w4 wr) (fun _ n _ => l - (intOf n).toNat)
          case atStart => exact ⟨1, Nat.le_refl _, hlpos, rfl, HQ4.out, Kept.refl _ _⟩
          case round =>
            clear HQ4
            obtain ⟨k, hk1, hkl, rfl, hq, hk⟩ := hrel
            have HQ := Lib.hid hq
            have HKW := Lib.hid hk
            have HP := Lib.hid (HP4.out.stay hk)
            have HK := Lib.hid (HK4.out.trans hk (by simp))
            clear hq hk
            by_cases hlt : k < l
            · have HNE : Hid (¬ s b = s (b + k)) := Lib.hid (fun e => by have := (HTM.out k hk1 hkl).1 e; omega)
              go_wp2_with fail
              refine (l3Same_any _ _ (HLE.out _ _) _ _ _ _ _ HP.out HQ.out).mono ?_
              rintro e w5 ⟨rfl, hqt⟩
              rw [dec_nats, decide_eq_false HNE.out]
              have HQ5 := Lib.hid (hqt.sl HQ.out)
              have HK5 := Lib.hid (HK.out.trans hqt.kept (by simp))
              have HKW5 := Lib.hid (HKW.out.trans hqt.kept (by simp))
              clear hqt HP HQ HK HKW
              go_wp2_with fail
              refine (HSTEP.out (b + k) _ _ HQ5.out HK5.out).mono ?_
              rintro e w6 ⟨z6, rfl, hs6, hk6⟩
              have HQ6 := Lib.hid hs6
              have HKW6 := Lib.hid (HKW5.out.trans hk6 (by simp))
              clear hs6 hk6 HQ5 HK5 HKW5
              go_wp2_with fail
              go_roundw
              case rel => exact ⟨k + 1, by omega, by omega, by go_num, HQ6.out, HKW6.out⟩
              case measure => simp [intOf]; omega
            · have hk' : k = l := by omega
              subst hk'
              go_wp2_with fail
              refine (l3Same_any _ _ (HLE.out _ _) _ _ _ _ _ HP.out HQ.out).mono ?_
              rintro e w5 ⟨rfl, hqt⟩
              rw [dec_nats, decide_eq_true ((HTM.out k hk1 hkl).2 rfl)]
              have HK5 := Lib.hid (HK.out.trans hqt.kept (by simp))
              clear hqt HP HQ HK HKW
              go_wp2_with fail
              go_ret2
              exact ⟨rfl, HK0.out.trans HK5.out (by simp)⟩

set_option maxHeartbeats 1000000 in
theorem sTLoopNo_any (xs : List Int) (ys : List Int) (ho : Nt.fireB xs 3 ys = false) (w : World) (v : Value) (base : Nat) (u : Value) (base' : Nat) (hs : Sl w base v xs) (ht : Sl w base' u ys) :
    Calls Try.prog 27 #[v, u] w fun e w' => e = .returned (.tuple #[.int .i64 (-1), .int .i64 (-1)]) ∧ Kept [] w w' := by
  have HS := Lib.hid hs
  have HT := Lib.hid ht
  obtain ⟨a, cap, rfl, _, hm, _⟩ := hs.any
  obtain ⟨a', cap', rfl, _, hm', _⟩ := ht.any
  clear hs ht
  go_enter Try.func27, Try.ntmps27
  go_wp2_with fail
  refine (l3Ok_any xs 3 ys _ _ _ _ _ HS.out HT.out).mono ?_
  rintro e w1 ⟨rfl, hq⟩
  rw [ho]
  have HK1 := Lib.hid hq.kept
  clear hq
  go_wp2_with fail
  go_ret2
  exact ⟨rfl, HK1.out⟩

theorem sTLoop_any {a b : Int} (xs : List Int) (ys : List Int) (hL : Nt.TLoopIs xs ys a b) (w : World) (v : Value) (base : Nat) (u : Value) (base' : Nat) (hs : Sl w base v xs) (ht : Sl w base' u ys) :
    Calls Try.prog 27 #[v, u] w fun e w' => e = .returned (.tuple #[.int .i64 a, .int .i64 b]) ∧ Kept [] w w' := by
  rcases hL with ⟨ns, ks, m, l, rfl, rfl, ok, st, hl, hloop, hb, rfl, rfl⟩ | ⟨ho, rfl, rfl⟩
  · exact sTLoopOk_any ns ks ok st hl m l hloop hb w v base u base' hs ht
  · exact sTLoopNo_any xs ys ho w v base u base' hs ht
end Go.Proofs.Ytoeojopjdeclnaa
