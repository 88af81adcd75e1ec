/-
  Rows of numbers and pairs of neighbours as texts, by the program.
-/
import Derived.Test.YtnajdbnacdnnlaaGreatDoorSJ
import Derived.Test.YtnajdbnacdnnlaaGreatDoorPurePT
import Derived.Test.YtnajdbnacdnnlaaGreatDoorKA
namespace Go.Proofs.YtnajdbnacdnnlaaGreatDoor
open Go.RowKit

set_option maxHeartbeats 2000000 in
set_option maxRecDepth 100000 in
theorem joinedNumbers_any (xs : List Int) (n : Nat) (hn : xs.length = n) (h1000 : n ≤ 1000) (T : Nat → List Nat) {sep : ByteArray} {J : List (List Nat) → List Nat} (hJ : JoinAs sep J) (hJL : (J ((List.range n).map T)).length ≤ 1000000000)
    (w : World) (v : Value) (base : Nat) (hs : Sl w base v xs)
    (hI : ∀ k, k < n → ∀ W, Kept [] w W → Calls Tryz.prog 70 #[.int .i64 (xs.getD k 0)] W fun e w' => ∃ z, e = .returned (.string z) ∧ tx z = T k ∧ Kept [] W w') :
    Calls Tryz.prog 144 #[v, .string sep] w fun e w' => ∃ z, e = .returned (.string z) ∧ tx z = J ((List.range n).map T) ∧ Kept [] w w' := by
  have HI := Lib.hid hI
  have HJ := Lib.hid hJ
  have HJL := Lib.hid hJL
  obtain ⟨a, cap, rfl, _, hm, hc⟩ := hs.any
  rw [hn] at hc hm ⊢
  have HC := Lib.hid hc
  clear hs hI hJ hJL hc hn
  go_enter Tryz.func144, Tryz.ntmps144
  go_wp2_with (at_make; refine make_text _ n rfl _ _ rfl rfl rfl (by omega) ?_; intro w2 hs2 hk2 _; have HT2 := Lib.hid hs2; have HK2 := Lib.hid hk2; clear hs2 hk2)
  go_loopw [13] (fun i wr => ∃ (k : Nat) (ps : List ByteArray), k ≤ n ∧ i = .int .i64 k ∧ Ts wr w.heap.size (.slice (some ⟨w.heap.size, 0, none⟩) n n) ps ∧ ps.length = n ∧ (∀ j, j < k → tx (atT ps j) = T j) ∧ Kept [] w wr) (fun i _ => n - (intOf i).toNat)
  case atStart => exact ⟨0, _, Nat.zero_le _, rfl, HT2.out, by simp, fun j hj => absurd hj (by omega), HK2.out⟩
  case round =>
    clear HT2 HK2
    obtain ⟨k, ps, hk, rfl, hts, hpl, hpt, hkept⟩ := hrel
    have HTS := Lib.hid hts
    have HPL := Lib.hid hpl
    have HPT := Lib.hid hpt
    have HK := Lib.hid hkept
    by_cases hlt : k < n
    · obtain ⟨g, rfl, _, hg, c1, _⟩ := HC.out k hlt
      have k1 := (hkept.cell (p := ⟨g, k, none⟩) hg (by simp)).trans c1
      have HI1 := Lib.hid (HI.out k hlt)
      generalize xs.getD k 0 = x at *
      clear hts hpl hpt hkept c1
      go_wp2_with fail
      refine (HI1.out _ HK.out).mono ?_
      rintro e w3 ⟨z, rfl, hz, hk3⟩
      have HZ := Lib.hid hz
      have HK3 := Lib.hid (HK.out.trans hk3 (by simp))
      have HTS3 := Lib.hid (HTS.out.stay hk3)
      obtain ⟨q1, q2⟩ := HTS3.out.at k (by rw [HPL.out]; exact hlt)
      have HNX : Hid (∀ j, j < k + 1 → tx (atT (ps.set k z) j) = T j) := Lib.hid (fun j hj => by
        rw [atT_set (by rw [HPL.out]; exact hlt)]
        by_cases e : j = k
        · rw [if_pos e, e]; exact HZ.out
        · rw [if_neg e]; exact HPT.out j (by omega))
      clear hz hk3 k1
      go_wp2
      go_roundw
      case rel => exact ⟨k + 1, ps.set k z, by omega, by go_num, HTS3.out.set HPL.out.symm k z, by rw [List.length_set]; exact HPL.out, HNX.out, HK3.out.setCell (.inr (Nat.le_refl _)) _⟩
      case measure => simp [intOf]; omega
    · have hk' : n = k := by omega
      subst hk'
      have HM : Hid (ps.map tx = (List.range n).map T) := Lib.hid (hts.tx_all hpl hpt)
      clear hts hpl hpt hkept
      go_wp2_with fail
      refine (joinG_any HJ.out ps n HPL.out (by omega) (by rw [HM.out]; exact HJL.out) _ _ _ _ HTS.out).mono ?_
      rintro e w7 ⟨z, rfl, hz, hk7⟩
      have HZ := Lib.hid hz
      have HK7 := Lib.hid (HK.out.trans hk7 (by simp))
      clear hz hk7
      go_wp2
      go_ret
      exact ⟨_, rfl, by rw [HZ.out, HM.out], HK7.out⟩

/-- The same of small numbers. -/
theorem itoaS_any (n : Nat) (hn : n < 100) (w : World) :
    Calls Tryz.prog 70 #[.int .i64 (n : Int)] w fun e w' => ∃ z, e = .returned (.string z) ∧ tx z = Nt.digs n ∧ Kept [] w w' :=
  (itoa_any n hn w).mono fun _ _ h => by obtain ⟨z, h1, h2, rfl⟩ := h; exact ⟨z, h1, h2, Kept.refl _ _⟩
theorem flat_kind {ks : List Nat} (h : ∀ k, k < ks.length → ks.getD k 0 < 10) : ((List.range ks.length).map fun k => Nt.digs (ks.getD k 0)).flatten = Nt.kindT ks := by
  have e : ((List.range ks.length).map fun k => Nt.digs (ks.getD k 0)) = ks.map fun x => [48 + x] := by
    apply List.ext_getElem (by simp)
    intro i h1 h2
    have hi : i < ks.length := by simpa using h1
    have h3 := h i hi
    rw [List.getD_eq_getElem?_getD, List.getElem?_eq_getElem hi, Option.getD_some] at h3
    simp only [List.getElem_map, List.getElem_range]
    rw [List.getD_eq_getElem?_getD, List.getElem?_eq_getElem hi, Option.getD_some, Nt.digs_small h3]
  rw [e]
  unfold Nt.kindT
  induction ks with
  | nil => rfl
  | cons x r ih =>
    rw [List.map_cons, List.flatten_cons, List.map_cons]
    have h2 : ∀ k, k < r.length → r.getD k 0 < 10 := fun k hk => by simpa using h (k + 1) (by simpa using hk)
    have e2 : ((List.range r.length).map fun k => Nt.digs (r.getD k 0)) = r.map fun x => [48 + x] := by
      apply List.ext_getElem (by simp)
      intro i h1 h3
      have hi : i < r.length := by simpa using h1
      have h4 := h2 i hi
      rw [List.getD_eq_getElem?_getD, List.getElem?_eq_getElem hi, Option.getD_some] at h4
      simp only [List.getElem_map, List.getElem_range]
      rw [List.getD_eq_getElem?_getD, List.getElem?_eq_getElem hi, Option.getD_some, Nt.digs_small h4]
    rw [ih h2 e2]; rfl
/-- Digits one behind the other. -/
theorem kinds_any (ks : List Nat) (hl : ks.length ≤ 1000) (h : ∀ k, k < ks.length → ks.getD k 0 < 10) (w : World) (v : Value) (base : Nat) (hs : Sl w base v (Nt.nats ks)) :
    Calls Tryz.prog 144 #[v, .string ⟨#[]⟩] w fun e w' => ∃ z, e = .returned (.string z) ∧ tx z = Nt.kindT ks ∧ Kept [] w w' := by
  have hm : ∀ p ∈ (List.range ks.length).map (fun k => Nt.digs (ks.getD k 0)), p.length ≤ 1 := by
    intro p hp
    obtain ⟨k, hk, rfl⟩ := List.mem_map.1 hp
    rw [Nt.digs_small (h k (List.mem_range.1 hk))]; simp
  have h1 := joinedNumbers_any (Nt.nats ks) ks.length (Nt.nats_length ks) hl (fun k => Nt.digs (ks.getD k 0)) joinAs0 (by
    have := flat_length hm
    rw [List.length_map, List.length_range] at this
    omega) w v base hs (fun k hk W _ => by rw [Nt.nats_get]; exact itoaS_any _ (by have := h k hk; omega) W)
  rw [flat_kind h] at h1
  exact h1

set_option maxHeartbeats 4000000 in
set_option maxRecDepth 100000 in
theorem pairsText_any (ns : List Nat) (ok : Nt.Ok ns) (w : World) (v : Value) (base : Nat) (hs : Sl w base v (Nt.nats ns)) :
    Calls Tryz.prog 143 #[v] w fun e w' => ∃ z, e = .returned (.string z) ∧ tx z = Nt.wireT ns ∧ Kept [] w w' := by
  obtain ⟨n, hn⟩ : ∃ n, n = ns.length := ⟨_, rfl⟩
  have hp : 0 < n := by rw [hn]; exact ok.some
  have h6 : n ≤ 6 := by rw [hn]; exact ok.few
  obtain ⟨g1, q1, rfl, hg1, hc1⟩ := hs.row (n := n) (by rw [hn]) hp
  have HC1 := Lib.hid hc1
  have HWS := Lib.hid (fun k => Nt.wsTo_first ns k)
  have HWE : Hid (∀ k, Nt.wsTo ns k n = Nt.wiresL ns (k + 1)) := Lib.hid (fun k => by rw [hn]; exact Nt.wsTo_end ns k)
  have HWY := Lib.hid (fun k j => @Nt.wsTo_yes ns k j)
  have HWN := Lib.hid (fun k j => @Nt.wsTo_no ns k j)
  have HWL : Hid (∀ k j, k ≤ 6 → j ≤ 6 → (Nt.wsTo ns k j).length ≤ 42) := Lib.hid (fun k j hk hj => by
    have h2 := Nt.wiresL_length ns k
    have h3 := Nt.rowW_length ns k j
    have : k * ns.length ≤ 6 * 6 := Nat.mul_le_mul hk (by omega)
    unfold Nt.wsTo
    rw [List.length_append]
    omega)
  have HWA : Hid (Nt.wireT ns = if Nt.wiresL ns n = [] then [46] else Nt.join 44 (Nt.wiresL ns n)) := Lib.hid (by rw [hn]; rfl)
  have HJL : Hid ((Nt.join 44 (Nt.wiresL ns n)).length ≤ 200) := Lib.hid (by
    have h := Nt.wjoin_small ns (by omega) (k := n - 1) (j := n) (by omega) (by omega)
    rw [HWE.out, show n - 1 + 1 = n by omega] at h
    exact h)
  have HT0 := Lib.hid (Ts.empty w)
  have HA0 := Lib.hid ((Kept.refl [] w).alloc (.cells #[] 9))
  clear hs hc1 hn ok
  go_enter Tryz.func143, Tryz.ntmps143
  go_wp2
  go_loopw [3, 10] (fun u i wr => ∃ (k : Nat) (ps : List ByteArray), k ≤ n ∧ i = .int .i64 k ∧ Ts wr w.heap.size u ps ∧ ps.map tx = Nt.wiresL ns k ∧ Kept [] w wr) (fun _ i _ => n - (intOf i).toNat)
  case atStart => exact ⟨0, [], Nat.zero_le _, rfl, HT0.out, rfl, HA0.out⟩
  case round =>
    clear HT0 HA0
    obtain ⟨k, ps, hk, rfl, hts, hpm, hkept⟩ := hrel
    have HTS := Lib.hid hts
    have HPM := Lib.hid hpm
    have HK := Lib.hid hkept
    by_cases hlt : k < n
    · have ck := (hkept.cell (p := ⟨g1, k, none⟩) hg1 (by simp)).trans (HC1.out k hlt)
      have HNY := Lib.hid (fun j (hj : k < j) => HWY.out k j hj)
      have HNN := Lib.hid (fun j (hj : k < j) => HWN.out k j hj)
      generalize ns.getD k 0 = r at *
      have HLT := Lib.hid hlt
      clear hts hpm hkept
      obtain ⟨wo, hwo⟩ : ∃ wo : World, wo = wr := ⟨_, rfl⟩
      subst hwo
      go_wp2_with fail
      go_loopw [3, 6] (fun u i wr => ∃ (j : Nat) (ps : List ByteArray), k + 1 ≤ j ∧ j ≤ n ∧ i = .int .i64 j ∧ Ts wr w.heap.size u ps ∧ ps.map tx = Nt.wsTo ns k j ∧ Kept [] w wr) (fun _ i _ => n - (intOf i).toNat)
      case atStart => exact ⟨k + 1, ps, Nat.le_refl _, by omega, by go_num, HTS.out, by rw [HWS.out]; exact HPM.out, HK.out⟩
      case round =>
        clear HTS HPM HK
        obtain ⟨j, ps, hkj, hj, rfl, hts, hpm, hkept⟩ := hrel
        have HTS := Lib.hid hts
        have HPM := Lib.hid hpm
        have HK := Lib.hid hkept
        obtain ⟨ua, ucap, rfl, _, _, _⟩ := hts.any
        by_cases hlj : j < n
        · have HPL : Hid (ps.length ≤ 42) := Lib.hid (by rw [← List.length_map tx, hpm]; exact HWL.out k j (by omega) (by omega))
          have hpl : ps.length ≤ 42 := HPL.out
          clear hts hpm hkept
          go_wp2_with fail
          refine (hasNode_nat r j _ (by omega)).mono ?_
          rintro e w' ⟨rfl, rfl⟩
          cases hb : r.testBit j
          · have HE := Lib.hid (HNN.out j (by omega) hb)
            clear hb
            go_wp2
            go_roundw
            case rel => exact ⟨j + 1, ps, by omega, by omega, by go_num, HTS.out, by rw [HE.out]; exact HPM.out, HK.out⟩
            case measure => simp [intOf]; omega
          · have HE := Lib.hid (HNY.out j (by omega) hb)
            have hlit := Sl.lit wr (Nt.nats [k, j]) (by simp [Nt.nats])
            have hkl : Kept [] wr (wr.alloc (.cells (ints (Nt.nats [k, j])).toArray 3)) := (Kept.refl [] wr).alloc _
            have HLIT := Lib.hid hlit
            have HTS1 := Lib.hid (HTS.out.stay hkl)
            have HK1 := Lib.hid (HK.out.trans hkl (by simp))
            clear hb hlit hkl
            go_wp2_with fail
            refine (kinds_any [k, j] (by simp) (fun i hi => by
              have : i = 0 ∨ i = 1 := by simp at hi; omega
              rcases this with rfl | rfl
              · simp; omega
              · simp; omega) _ _ _ HLIT.out).mono ?_
            rintro e w5 ⟨z, rfl, hz, hk5⟩
            have HZ : Hid (tx z = [48 + k, 48 + j]) := Lib.hid hz
            have HTS5 := Lib.hid (HTS1.out.stay hk5)
            have HK5 := Lib.hid (HK1.out.trans hk5 (by simp))
            have hsz := HK5.out.size
            clear hz hk5
            go_wp2_with (at_builtin; refine app_text _ rfl _ _ rfl w.heap.size _ _ HTS5.out rfl rfl (by omega) hsz ?_; intro u9 w9 hs9 hk9; have HS9 := Lib.hid hs9; have HK9 := Lib.hid (HK5.out.own hk9 (fun g hg => (HTS5.out.block hg).1)); clear hs9 hk9)
            go_roundw
            case rel => exact ⟨j + 1, _, by omega, by omega, by go_num, HS9.out, by rw [HE.out, List.map_append, HPM.out, List.map_singleton, HZ.out], HK9.out⟩
            case measure => simp [intOf]; omega
        · have hj' : n = j := by omega
          subst hj'
          clear hts hpm hkept
          go_wp2
          go_roundw
          case rel => exact ⟨k + 1, ps, by have := HLT.out; omega, by go_num, HTS.out, by rw [← HWE.out]; exact HPM.out, HK.out⟩
          case measure => simp [intOf]; omega
    · have hk' : n = k := by omega
      subst hk'
      obtain ⟨L, hL⟩ : ∃ L, ps.length = L := ⟨_, rfl⟩
      obtain ⟨ua, ucap, rfl, _, _, hcu⟩ := hts.any
      rw [hL] at hcu HTS ⊢
      by_cases h0 : L = 0
      · have hps : ps = [] := List.eq_nil_of_length_eq_zero (by omega)
        have HW : Hid (tx ⟨#[46]⟩ = Nt.wireT ns) := Lib.hid (by rw [HWA.out, if_pos (by rw [← hpm, hps]; rfl)]; rfl)
        subst h0
        clear hts hpm hkept hps hL hcu
        go_wp2
        go_ret
        exact ⟨_, rfl, HW.out, HK.out⟩
      · obtain ⟨gu, rfl, _⟩ := hcu 0 (by omega)
        have hne0 : ((L : Int) == 0) = false := beq_eq_false_iff_ne.2 (by omega)
        have HW : Hid (Nt.join 44 (ps.map tx) = Nt.wireT ns) := Lib.hid (by rw [HWA.out, if_neg (fun e => h0 (by rw [← hL, ← List.length_map tx, hpm, e]; rfl)), hpm])
        have HL42 : Hid (L ≤ 42) := Lib.hid (by
          have h := HWL.out (n - 1) n (by omega) (by omega)
          rw [HWE.out, show n - 1 + 1 = n by omega, ← hpm, List.length_map] at h
          omega)
        have HJ2 : Hid ((Nt.join 44 (ps.map tx)).length ≤ 1000000000) := Lib.hid (by rw [hpm]; exact Nat.le_trans HJL.out (by omega))
        have HLL := Lib.hid hL
        clear hts hpm hkept hL hcu h0
        go_wp2_with fail
        refine (joinG_any joinAs44 ps L HLL.out (by have := HL42.out; omega) HJ2.out _ _ _ _ HTS.out).mono ?_
        rintro e w7 ⟨z, rfl, hz, hk7⟩
        have HZ := Lib.hid hz
        have HK7 := Lib.hid (HK.out.trans hk7 (by simp))
        clear hz hk7
        go_wp2
        go_ret
        exact ⟨_, rfl, by rw [HZ.out, HW.out], HK7.out⟩
end Go.Proofs.YtnajdbnacdnnlaaGreatDoor
