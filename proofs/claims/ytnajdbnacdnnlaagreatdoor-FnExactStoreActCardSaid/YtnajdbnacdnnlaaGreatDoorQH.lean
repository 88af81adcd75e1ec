/-
  Numbers, digits and nets read of texts, by the program.
  Texts of places, and places read of texts, by the program.
-/
import Derived.Test.YtnajdbnacdnnlaaGreatDoorQG
import Derived.Test.YtnajdbnacdnnlaaGreatDoorQE
import Derived.Test.YtnajdbnacdnnlaaGreatDoorINZ
import Derived.Test.YtnajdbnacdnnlaaGreatDoorNA
import Derived.Test.YtnajdbnacdnnlaaGreatDoorPJ
import Derived.Test.YtnajdbnacdnnlaaGreatDoorNB
import Derived.Test.YtnajdbnacdnnlaaGreatDoorQD
import Derived.Test.YtnajdbnacdnnlaaGreatDoorPV3
import Derived.Test.YtnajdbnacdnnlaaGreatDoorQC
namespace Go.Proofs.YtnajdbnacdnnlaaGreatDoor
open Go.RowKit

set_option maxHeartbeats 1000000 in
set_option maxRecDepth 100000 in
theorem numberIn_any (s : ByteArray) (hs : s.size ≤ 2000000) (w : World) (he : ErrW w) :
    Calls Tryz.prog 83 #[.string s] w fun e w' => ∃ v : Int, e = .returned (.int .i64 v) ∧ Nt.NumOf (tx s) v ∧ Kept [] w w' := by
  have HE := Lib.hid he
  have HS := Lib.hid hs
  clear he hs
  go_enter Tryz.func83, Tryz.ntmps83
  go_wp2_with fail
  refine (atoiN_any s HS.out _ HE.out).mono ?_
  rintro e w1 ⟨v, ev, rfl, hev, hn, hk⟩
  have HN := Lib.hid hn
  have HK := Lib.hid hk
  clear hn hk
  rcases hev with rfl | ⟨t, p, rfl⟩
  all_goals
    go_wp2
    go_ret
    exact ⟨_, rfl, HN.out, HK.out⟩

set_option maxHeartbeats 1000000 in
set_option maxRecDepth 100000 in
theorem addWireZ_any (ns : List Nat) (a b : Nat) (ha : a < ns.length) (hb : b < ns.length) (h6 : ns.length ≤ 6) (hx : ns.getD a 0 < 64) (hy : (ns.set a (ns.getD a 0 ||| 2 ^ b)).getD b 0 < 64) (w : World) (v : Value) (base : Nat) (hs : Sl w base v (Nt.nats ns)) :
    Calls Tryz.prog 141 #[v, .int .i64 a, .int .i64 b] w fun e w' => e = .returned (.tuple #[]) ∧ Sl w' base v (Nt.nats (Nt.wire ns a b)) ∧ Kept v.ownBlock.toList w w' := by
  obtain ⟨g, cap, rfl, hg, hgs⟩ := hs.shape (Nt.nats_length ns) (by omega)
  obtain ⟨ca, fa⟩ := hs.at a (by rw [Nt.nats_length]; exact ha)
  rw [Nt.nats_get] at ca
  have HS := Lib.hid hs
  generalize hxe : ns.getD a 0 = x at *
  generalize hye : (ns.set a (x ||| 2 ^ b)).getD b 0 = y at *
  have HX := Lib.hid hxe
  have HYB := Lib.hid hye
  clear hs hxe hye
  have e1 := or_shl x b hx (by omega)
  have e2 := or_shl y a hy (by omega)
  have hs1 : Sl (w.setCell ⟨g, a, none⟩ (.int .i64 ((x ||| 2 ^ b : Nat) : Int))).drew base (.slice (some ⟨g, 0, none⟩) ns.length cap) (Nt.nats (ns.set a (x ||| 2 ^ b))) := by
    have h := HS.out.set (Nt.nats_length ns).symm a ((x ||| 2 ^ b : Nat) : Int)
    rw [Nt.nats_set]
    exact h
  have hk1 : Kept [g] w (w.setCell ⟨g, a, none⟩ (.int .i64 ((x ||| 2 ^ b : Nat) : Int))).drew := ((Kept.refl _ _).setCell (.inl (by simp)) _).drew
  have HS1 := Lib.hid hs1
  have HK1 := Lib.hid hk1
  clear hs1 hk1
  go_enter Tryz.func141, Tryz.ntmps141
  go_wp2
  go_region
  clear e1
  generalize (w.setCell ⟨g, a, none⟩ (.int .i64 ((x ||| 2 ^ b : Nat) : Int))).drew = w1 at *
  obtain ⟨cb1, fb1⟩ := HS1.out.at b (by rw [Nt.nats_length]; simpa using hb)
  rw [Nt.nats_get, HYB.out] at cb1
  clear ca fa
  go_wp2
  go_region
  go_end0
  refine ⟨rfl, ?_, (HK1.out.setCell (.inl (by simp)) _).drew⟩
  have h := HS1.out.set (by rw [Nt.nats_length, List.length_set]) b ((y ||| 2 ^ a : Nat) : Int)
  unfold Nt.wire
  rw [HX.out, HYB.out, Nt.nats_set]
  exact h

set_option maxHeartbeats 2000000 in
set_option maxRecDepth 100000 in
theorem readDigits_any (s : ByteArray) (hs : s.size ≤ 1100000) (w : World) :
    Calls Tryz.prog 84 #[.string s] w fun e w' => ∃ u, e = .returned u ∧ Sl w' w.heap.size u (Nt.offs48 (tx s)) ∧ Kept [] w w' := by
  have HOL : Hid ((Nt.offs48 (tx s)).length = s.size) := Lib.hid (by rw [Nt.offs48_length, tx_length])
  go_enter Tryz.func84, Tryz.ntmps84
  go_wp2_with (at_make; refine make_int _ s.size rfl _ _ rfl rfl rfl (by omega) ?_; intro w2 hs2 hk2 _; have HS2 := Lib.hid hs2; have HK2 := Lib.hid hk2; clear hs2 hk2)
  go_loopw [10] (fun i wr => ∃ (k : Nat) (xs : List Int), k ≤ s.size ∧ i = .int .i64 k ∧ Sl wr w.heap.size (.slice (some ⟨w.heap.size, 0, none⟩) s.size s.size) xs ∧ xs.length = s.size ∧ (∀ j, j < k → xs.getD j 0 = (((tx s).getD j 0 : Nat) : Int) - 48) ∧ Kept [] w wr) (fun i _ => s.size - (intOf i).toNat)
  case atStart => exact ⟨0, _, Nat.zero_le _, rfl, HS2.out, by simp, fun j hj => absurd hj (by omega), HK2.out⟩
  case round =>
    clear HS2 HK2
    obtain ⟨k, xs, hk, rfl, hsl, hxl, hxt, hkept⟩ := hrel
    have HSL := Lib.hid hsl
    have HXL := Lib.hid hxl
    have HXT := Lib.hid hxt
    have HK := Lib.hid hkept
    by_cases hlt : k < s.size
    · obtain ⟨q1, q2⟩ := hsl.at k (by rw [hxl]; exact hlt)
      obtain ⟨bb, hbb⟩ : ∃ bb, s[k].toNat = bb := ⟨_, rfl⟩
      have hb256 : bb < 256 := by rw [← hbb]; exact s[k].toNat_lt
      have HX : Hid ((tx s).getD k 0 = bb) := Lib.hid (by rw [tx_get hlt, hbb])
      have q0 : -9223372036854775808 ≤ (bb : Int) ∧ (bb : Int) ≤ 9223372036854775807 := by omega
      have q5 : -9223372036854775808 ≤ (bb : Int) - 48 ∧ (bb : Int) - 48 ≤ 9223372036854775807 := by omega
      have v1 : IntKind.i64.wrap ((bb : Int) - 48) = (bb : Int) - 48 := IntWalk.i64_in _ q5
      have v2 : IntKind.i64.wrap (bb : Int) = (bb : Int) := IntWalk.i64_in _ q0
      have v3 : wrap64 ((bb : Int) - 48) = (bb : Int) - 48 := IntWalk.wrap64_in _ q5
      have v4 : wrap64 (bb : Int) = (bb : Int) := IntWalk.wrap64_in _ q0
      have HNX : Hid (∀ j, j < k + 1 → (xs.set k ((bb : Int) - 48)).getD j 0 = (((tx s).getD j 0 : Nat) : Int) - 48) := Lib.hid (fun j hj => by
        rw [List.getD_eq_getElem?_getD, List.getElem?_set]
        by_cases e : k = j
        · subst e; rw [HX.out]; simp [HXL.out, hlt]
        · rw [if_neg e, ← List.getD_eq_getElem?_getD]; exact HXT.out j (by omega))
      clear q0 q5 hb256 hsl hxl hxt hkept
      go_wp2
      go_roundw
      case rel => exact ⟨k + 1, _, by omega, by go_num, HSL.out.set HXL.out.symm k ((bb : Int) - 48), by rw [List.length_set]; exact HXL.out, HNX.out, HK.out.setCell (.inr (Nat.le_refl _)) _⟩
      case measure => simp [intOf]; omega
    · have hk' : s.size = k := by omega
      have HALL : Hid (xs = Nt.offs48 (tx s)) := Lib.hid (by
        apply List.ext_getElem (by rw [hxl, HOL.out])
        intro i h1 h2
        have h3 := hxt i (by omega)
        rw [List.getD_eq_getElem?_getD, List.getElem?_eq_getElem h1, Option.getD_some] at h3
        have h4 : i < (tx s).length := by rw [tx_length]; omega
        rw [h3, List.getD_eq_getElem?_getD, List.getElem?_eq_getElem h4, Option.getD_some]
        simp [Nt.offs48])
      clear hsl hxl hxt hkept hk'
      go_wp2
      go_ret
      exact ⟨_, rfl, by rw [← HALL.out]; exact HSL.out, HK.out⟩

theorem lay_step {many : Nat} {ms0 : List Nat} {ps : List (List Nat)} {k : Nat} (hk : k < ps.length) {p : List Nat} (hp : ps.getD k [] = p) :
    Nt.layP many ms0 (ps.take (k + 1)) = if p.length = 2 ∧ (48 ≤ p.getD 0 0 ∧ p.getD 0 0 < 48 + many) ∧ (48 ≤ p.getD 1 0 ∧ p.getD 1 0 < 48 + many) then Nt.wire (Nt.layP many ms0 (ps.take k)) (p.getD 0 0 - 48) (p.getD 1 0 - 48) else Nt.layP many ms0 (ps.take k) := by
  rw [List.take_succ_eq_append_getElem hk, Nt.layP_snoc]
  have e : ps[k] = p := by rw [← hp, List.getD_eq_getElem?_getD, List.getElem?_eq_getElem hk]; rfl
  rw [e]
theorem lay_small {many : Nat} (h6 : many ≤ 6) : ∀ (ps : List (List Nat)) (ms : List Nat), ms.length = many → (∀ j, j < many → ms.getD j 0 < 64) → ∀ j, j < many → (Nt.layP many ms ps).getD j 0 < 64
  | [], _, _, h => h
  | p :: ps, ms, hl, h => by
    unfold Nt.layP
    by_cases hp : p.length = 2 ∧ (48 ≤ p.getD 0 0 ∧ p.getD 0 0 < 48 + many) ∧ (48 ≤ p.getD 1 0 ∧ p.getD 1 0 < 48 + many)
    · rw [if_pos hp]
      exact lay_small h6 ps _ (by rw [Nt.wire_length]; exact hl) (Nt.wire_small hl h (by omega) (by omega))
    · rw [if_neg hp]
      exact lay_small h6 ps _ hl h
theorem set_small {ms : List Nat} {n a b : Nat} (hl : ms.length = n) (h : ∀ j, j < n → ms.getD j 0 < 64) (ha : a < n) (hb : b < n) (h6 : n ≤ 6) : (ms.set a (ms.getD a 0 ||| 2 ^ b)).getD b 0 < 64 := by
  rw [List.getD_eq_getElem?_getD, List.getElem?_set]
  by_cases e : a = b
  · subst e
    rw [if_pos rfl, if_pos (by omega), Option.getD_some]
    have h1 := h a ha
    have h2 : (2 : Nat) ^ a < 2 ^ 6 := Nat.pow_lt_pow_right (by omega) (by omega)
    exact Nat.or_lt_two_pow (n := 6) h1 h2
  · rw [if_neg e, ← List.getD_eq_getElem?_getD]
    exact h b hb

theorem two_of {l : List Nat} (h : l.length = 2) : ∃ x y, l = [x, y] := match l, h with
  | [x, y], _ => ⟨x, y, rfl⟩

set_option maxHeartbeats 4000000 in
set_option maxRecDepth 100000 in
theorem readNet_any (s1 s2 : ByteArray) (h1 : s1.size ≤ 1100000) (h2 : s2.size ≤ 1100000) (w : World) (he : ErrW w) :
    Calls Tryz.prog 82 #[.string s1, .string s2] w fun e w' => ∃ (v : Value) (many : Int), e = .returned v ∧ Nt.NumOf (tx s1) many ∧
      Sl w' w.heap.size v (if 1 ≤ many ∧ many ≤ 6 then Nt.nats (Nt.layP many.toNat (List.replicate many.toNat 0) (Nt.cut 44 (tx s2))) else []) ∧ Kept [] w w' := by
  have HE := Lib.hid he
  have HS1 := Lib.hid h1
  have HS2 := Lib.hid h2
  clear he h1 h2
  go_enter Tryz.func82, Tryz.ntmps82
  go_wp2_with fail
  refine (numberIn_any s1 (by have := HS1.out; omega) _ HE.out).mono ?_
  rintro e w1 ⟨many, rfl, hn, hk1⟩
  have HN := Lib.hid hn
  have HK1 := Lib.hid hk1
  have HE1 := Lib.hid (HE.out.stay hk1)
  clear hn hk1
  go_wp2_with fail
  refine (nodesOk_any many _).mono ?_
  rintro e w' ⟨rfl, rfl⟩
  by_cases hm : 1 ≤ many ∧ many ≤ 6
  · obtain ⟨m, rfl⟩ := Int.eq_ofNat_of_zero_le (show 0 ≤ many by omega)
    have hm1 : 1 ≤ m := by omega
    have hm6 : m ≤ 6 := by omega
    have HIF := Lib.hid hm
    rw [show decide (1 ≤ (m : Int) ∧ (m : Int) ≤ 6) = true from dec_of hm]
    clear hm
    go_wp2_with (first
      | (at_make; refine make_int _ m rfl _ _ rfl rfl rfl (by omega) ?_; intro w2 hs2 hk2 hz2; have HZ2 := Lib.hid hz2; have HM2 := Lib.hid hs2; have HK2 := Lib.hid hk2; have HE2 := Lib.hid (HE1.out.stay hk2); clear hs2 hk2 hz2))
    refine (split_any s2 (by have := HS2.out; omega) _ HE2.out).mono ?_
    rintro e w3 ⟨g, n, ps, rfl, hps, hpl, hpm, hk3⟩
    have HG := Lib.hid (hps.block (g := g) rfl).2
    have HCELL : Hid (∀ k, k < n → w3.cell? ⟨g, k, none⟩ = some (.string (atT ps k))) := Lib.hid (fun k hk => (hps.at k (by rw [hpl]; exact hk)).1)
    have HCL : Hid ((Nt.cut 44 (tx s2)).length = n) := Lib.hid (by rw [← hpm, List.length_map, hpl])
    have HPART : Hid (∀ k, k < n → (Nt.cut 44 (tx s2)).getD k [] = tx (atT ps k) ∧ (atT ps k).size ≤ 1100000) := Lib.hid (fun k hk => by
      have hk' : k < ps.length := by rw [hpl]; exact hk
      have e : (Nt.cut 44 (tx s2)).getD k [] = tx (atT ps k) := by
        rw [← hpm, List.getD_eq_getElem?_getD, List.getElem?_map, List.getElem?_eq_getElem hk', atT_get hk']; rfl
      refine ⟨e, ?_⟩
      have hmem : tx (atT ps k) ∈ Nt.cut 44 (tx s2) := by
        rw [← hpm, atT_get hk']
        exact List.mem_map.2 ⟨_, List.getElem_mem hk', rfl⟩
      have h := cut_part 44 (tx s2) _ hmem
      rw [tx_length, tx_length] at h
      exact Nat.le_trans h HS2.out)
    have HNB : Hid (n ≤ 1100001) := Lib.hid (by
      have h1 := Nt.cut_length 44 (tx s2)
      rw [HCL.out, tx_length] at h1
      have := HS2.out
      omega)
    have hnb := HNB.out
    have HSM : Hid (∀ k j, j < m → (Nt.layP m (List.replicate m 0) ((Nt.cut 44 (tx s2)).take k)).getD j 0 < 64) := Lib.hid (fun k j hj => lay_small hm6 _ _ (by simp) (fun i hi => by simp [List.getD_eq_getElem?_getD, hi]) j hj)
    have HLN : Hid (∀ k, (Nt.layP m (List.replicate m 0) ((Nt.cut 44 (tx s2)).take k)).length = m) := Lib.hid (fun k => by rw [Nt.layP_length]; simp)
    have HST : Hid (∀ k, k < n → ∀ p, (Nt.cut 44 (tx s2)).getD k [] = p → Nt.layP m (List.replicate m 0) ((Nt.cut 44 (tx s2)).take (k + 1)) = if p.length = 2 ∧ (48 ≤ p.getD 0 0 ∧ p.getD 0 0 < 48 + m) ∧ (48 ≤ p.getD 1 0 ∧ p.getD 1 0 < 48 + m) then Nt.wire (Nt.layP m (List.replicate m 0) ((Nt.cut 44 (tx s2)).take k)) (p.getD 0 0 - 48) (p.getD 1 0 - 48) else Nt.layP m (List.replicate m 0) ((Nt.cut 44 (tx s2)).take k)) := Lib.hid (fun k hk p hp => lay_step (by rw [HCL.out]; exact hk) hp)
    have HEND : Hid (Nt.layP m (List.replicate m 0) ((Nt.cut 44 (tx s2)).take n) = Nt.layP m (List.replicate m 0) (Nt.cut 44 (tx s2))) := Lib.hid (by rw [← HCL.out, List.take_length])
    have HM3 : Hid (Sl w3 w1.heap.size (.slice (some ⟨w1.heap.size, 0, none⟩) m m) (Nt.nats (Nt.layP m (List.replicate m 0) ((Nt.cut 44 (tx s2)).take 0)))) := Lib.hid (by
      have h := HM2.out.stay hk3
      show Sl w3 w1.heap.size (.slice (some ⟨w1.heap.size, 0, none⟩) m m) (Nt.nats (List.replicate m 0))
      have e : Nt.nats (List.replicate m 0) = List.replicate m 0 := by simp [Nt.nats]
      rw [e]
      exact h)
    have HK3 := Lib.hid (HK2.out.trans hk3 (by simp))
    have HGN : Hid (¬ g ∈ [w1.heap.size]) := Lib.hid (by
      have h1 := (hps.block (g := g) rfl).1
      have h2 := HZ2.out
      simp; omega)
    have HW13 := Lib.hid ((HK1.out).size)
    clear hps hpl hpm hk3 HM2 HK2 HE2
    go_wp2_with fail
    go_loopw [20] (fun i wr => ∃ (k : Nat), k ≤ n ∧ i = .int .i64 k ∧ Sl wr w1.heap.size (.slice (some ⟨w1.heap.size, 0, none⟩) m m) (Nt.nats (Nt.layP m (List.replicate m 0) ((Nt.cut 44 (tx s2)).take k))) ∧ Kept [w1.heap.size] w3 wr) (fun i _ => n - (intOf i).toNat)
    case atStart => exact ⟨0, Nat.zero_le _, rfl, HM3.out, Kept.refl _ _⟩
    case round =>
      clear HM3
      obtain ⟨k, hk, rfl, hsl, hkept⟩ := hrel
      have HSL := Lib.hid hsl
      have HK := Lib.hid hkept
      by_cases hlt : k < n
      · have ck := (hkept.cell (p := ⟨g, k, none⟩) HG.out HGN.out).trans (HCELL.out k hlt)
        obtain ⟨hp, hpz⟩ := HPART.out k hlt
        have HPZ := Lib.hid hpz
        have HST1 := Lib.hid (HST.out k hlt _ hp)
        have HSMk := Lib.hid (fun j hj => HSM.out k j hj)
        have HLNk := Lib.hid (HLN.out k)
        generalize Nt.layP m (List.replicate m 0) ((Nt.cut 44 (tx s2)).take k) = ms at *
        generalize hm2 : Nt.layP m (List.replicate m 0) ((Nt.cut 44 (tx s2)).take (k + 1)) = ms2 at *
        have HM2E := Lib.hid hm2
        clear hm2
        generalize atT ps k = part at *
        clear hp hpz hsl hkept
        go_wp2_with fail
        refine (readDigits_any part HPZ.out _).mono ?_
        rintro e w5 ⟨u, rfl, hu, hk5⟩
        have HU := Lib.hid hu
        have HSL5 := Lib.hid (HSL.out.stay hk5)
        have HK5 := Lib.hid (HK.out.trans hk5 (by simp))
        by_cases h2 : part.size = 2
        · obtain ⟨x, y, hxy⟩ : ∃ x y, tx part = [x, y] := by
            have h := tx_length part
            rw [h2] at h
            exact two_of h
          have e1 : Nt.offs48 (tx part) = [(x : Int) - 48, (y : Int) - 48] := by rw [hxy]; rfl
          rw [e1] at HU hu
          rw [hxy] at HST1
          obtain ⟨gu, cu, rfl, _, _⟩ := hu.shape (n := 2) rfl (by omega)
          obtain ⟨X, hX⟩ : ∃ X, X = (x : Int) - 48 := ⟨_, rfl⟩
          obtain ⟨Y, hY⟩ : ∃ Y, Y = (y : Int) - 48 := ⟨_, rfl⟩
          rw [← hX, ← hY] at HU
          have p0 : w5.cell? ⟨gu, 0, none⟩ = some (.int .i64 X) := (HU.out.at 0 (by simp)).1
          have p1 : w5.cell? ⟨gu, 1, none⟩ = some (.int .i64 Y) := (HU.out.at 1 (by simp)).1
          have HX := Lib.hid hX
          have HY := Lib.hid hY
          clear hu hk5 ck e1 hxy h2 hX hY
          by_cases hA : 0 ≤ X ∧ X < (m : Int)
          · by_cases hB : 0 ≤ Y ∧ Y < (m : Int)
            · obtain ⟨a, rfl⟩ := Int.eq_ofNat_of_zero_le hA.1
              obtain ⟨b, rfl⟩ := Int.eq_ofNat_of_zero_le hB.1
              have HMS : Hid (ms2 = Nt.wire ms a b) := Lib.hid (by
                have h1 := HX.out
                have h2 := HY.out
                rw [HST1.out, if_pos ⟨rfl, ⟨by simp; omega, by simp; omega⟩, ⟨by simp; omega, by simp; omega⟩⟩]
                have e1 : [x, y].getD 0 0 - 48 = a := by simp; omega
                have e2 : [x, y].getD 1 0 - 48 = b := by simp; omega
                rw [e1, e2])
              have HAB : Hid (a < m ∧ b < m) := Lib.hid ⟨by omega, by omega⟩
              rw [show ((a : Nat) : Int) = (a : Int) from rfl] at p0
              have dA : decide (0 ≤ (a : Int) ∧ (a : Int) < (m : Int)) = true := dec_of hA
              have dB : decide (0 ≤ (b : Int) ∧ (b : Int) < (m : Int)) = true := dec_of hB
              clear hA hB
              go_wp2_with fail
              refine (isNodeZ_any m (a : Int) _).mono ?_
              rintro e w' ⟨rfl, rfl⟩
              rw [dA]
              go_wp2_with fail
              refine (isNodeZ_any m (b : Int) _).mono ?_
              rintro e w' ⟨rfl, rfl⟩
              rw [dB]
              go_wp2_with fail
              go_region_law (go_simp; go_at_call 141; refine (addWireZ_any ms a b (by rw [HLNk.out]; exact HAB.out.1) (by rw [HLNk.out]; exact HAB.out.2) (by rw [HLNk.out]; omega) (HSMk.out a HAB.out.1) (set_small HLNk.out HSMk.out HAB.out.1 HAB.out.2 hm6) _ _ _ (HSL5.out.stay (by repeat (first | exact Kept.refl _ _ | apply Kept.alloc | apply Kept.drew)))).mono ?_; rintro e w6 ⟨rfl, hs6, hk6⟩; have HS6 := Lib.hid hs6; have HK6 : Hid (Kept [w1.heap.size] w3 w6) := Lib.hid (HK5.out.drew.trans hk6 (fun q hq => .inl hq)); clear hs6 hk6)
              all_goals
                go_wp2
                first
                  | (refine ⟨⟨k + 1, by omega, by go_num, ?_, HK6.out⟩, ?_⟩
                     · rw [HM2E.out, HMS.out]; exact HS6.out
                     · simp [intOf]; omega)
                  | (go_roundw
                     case rel => exact ⟨k + 1, by omega, by go_num, by rw [HM2E.out, HMS.out]; exact HS6.out, HK6.out⟩
                     case measure => simp [intOf]; omega)
            · have HMS : Hid (ms2 = ms) := Lib.hid (by
                rw [HST1.out, if_neg]
                rintro ⟨_, _, h3, h4⟩
                have h2 := HY.out
                simp at h3 h4
                omega)
              have dA : decide (0 ≤ X ∧ X < (m : Int)) = true := dec_of hA
              have dB : decide (0 ≤ Y ∧ Y < (m : Int)) = false := dec_not hB
              clear hA hB
              go_wp2_with fail
              refine (isNodeZ_any m X _).mono ?_
              rintro e w' ⟨rfl, rfl⟩
              rw [dA]
              go_wp2_with fail
              refine (isNodeZ_any m Y _).mono ?_
              rintro e w' ⟨rfl, rfl⟩
              rw [dB]
              go_wp2
              go_roundw
              case rel => exact ⟨k + 1, by omega, by go_num, by rw [HM2E.out, HMS.out]; exact HSL5.out, HK5.out⟩
              case measure => simp [intOf]; omega
          · have HMS : Hid (ms2 = ms) := Lib.hid (by
              rw [HST1.out, if_neg]
              rintro ⟨_, ⟨h3, h4⟩, _⟩
              have h2 := HX.out
              simp at h3 h4
              omega)
            have dA : decide (0 ≤ X ∧ X < (m : Int)) = false := dec_not hA
            clear hA
            go_wp2_with fail
            refine (isNodeZ_any m X _).mono ?_
            rintro e w' ⟨rfl, rfl⟩
            rw [dA]
            go_wp2
            go_roundw
            case rel => exact ⟨k + 1, by omega, by go_num, by rw [HM2E.out, HMS.out]; exact HSL5.out, HK5.out⟩
            case measure => simp [intOf]; omega
        · have HMS : Hid (ms2 = ms) := Lib.hid (by
            rw [HST1.out, if_neg]
            rintro ⟨h3, _⟩
            rw [tx_length] at h3
            exact h2 h3)
          have HOL : Hid ((Nt.offs48 (tx part)).length = part.size) := Lib.hid (by rw [Nt.offs48_length, tx_length])
          obtain ⟨L, hL⟩ : ∃ L, (Nt.offs48 (tx part)).length = L := ⟨_, rfl⟩
          obtain ⟨au, cu, rfl, _, _, _⟩ := hu.any
          rw [hL] at HU HOL ⊢
          have d1 : ((L : Int) == 2) = false := beq_eq_false_iff_ne.2 (by have := HOL.out; omega)
          clear hu hk5 ck h2 hL
          go_wp2
          go_roundw
          case rel => exact ⟨k + 1, by omega, by go_num, by rw [HM2E.out, HMS.out]; exact HSL5.out, HK5.out⟩
          case measure => simp [intOf]; omega
      · have hk' : n = k := by omega
        subst hk'
        have HF : Hid (Sl wr w1.heap.size (.slice (some ⟨w1.heap.size, 0, none⟩) m m) (Nt.nats (Nt.layP m (List.replicate m 0) (Nt.cut 44 (tx s2))))) := Lib.hid (by rw [← HEND.out]; exact hsl)
        clear hsl hkept
        go_wp2
        go_ret
        exact ⟨_, _, rfl, HN.out, by rw [if_pos HIF.out, Int.toNat_natCast]; exact HF.out.mono HW13.out, HK1.out.trans (HK3.out.trans HK.out (fun q hq => .inr (by simp at hq; omega))) (by simp)⟩
  · have HIF := Lib.hid hm
    rw [show decide (1 ≤ many ∧ many ≤ 6) = false from dec_not hm]
    clear hm
    go_wp2_with fail
    go_ret
    exact ⟨_, many, rfl, HN.out, by rw [if_neg HIF.out]; exact Sl.nil _ _, HK1.out⟩
end Go.Proofs.YtnajdbnacdnnlaaGreatDoor

namespace Go.Proofs.YtnajdbnacdnnlaaGreatDoor
open Go.RowKit

theorem opAt_lq {l : List Oper} {i : Nat} {o : Oper} (h : l[i]? = some o) : l.toArray[i]? = some o := by simpa using h
theorem Ts.lit (w : World) (xs : List ByteArray) (hl : xs.length ≤ 1000) : Ts (w.alloc (.cells (tcells xs).toArray 9)) w.heap.size (.slice (some ⟨w.heap.size, 0, none⟩) xs.length xs.length) xs := by
  have := World.ownsRow_lit (base := w.heap.size) (e := 9) (size := 1) w (tcells xs).toArray xs.length (Nat.le_refl _) (by simp only [maxLen]; omega) (by simp [tcells])
  unfold Ts
  exact this

theorem wireT_small {ns : List Nat} (h1 : 1 ≤ ns.length) (h6 : ns.length ≤ 6) : (Nt.wireT ns).length ≤ 300 := by
  have h := Nt.wjoin_small ns h6 (k := ns.length - 1) (j := ns.length) (by omega) (by omega)
  have e := Nt.wsTo_end ns (ns.length - 1)
  rw [show ns.length - 1 + 1 = ns.length by omega] at e
  rw [e] at h
  rw [Nt.wireT_of]
  split
  · simp
  · omega
theorem placeT_small {q : Nt.Pl} (hq : Nt.POk q) : q.t.length ≤ 500 := by
  have h1 := wireT_small hq.ok.some hq.ok.few
  have h2 := digs99 (n := q.ns.length) (by have := hq.ok.few; omega)
  have h3 := digs99 (n := q.c) (by have := hq.st.c5; omega)
  have h4 : (Nt.kindT q.ks).length ≤ 6 := by unfold Nt.kindT; rw [List.length_map]; exact hq.st.few
  unfold Nt.Pl.t
  rw [Nt.placeT_is]
  simp only [List.length_append, List.length_cons, List.length_nil]
  omega
theorem ptxt_small (p : Nt.Pi) : (Nt.ptxt p).length ≤ 500 := by
  cases h : Nt.plB p
  · rw [Nt.ptxt_no h]; simp
  · obtain ⟨q, rfl, hq⟩ := Nt.plB_ok h
    rw [Nt.ptxt_ok hq]; exact placeT_small hq

set_option maxHeartbeats 4000000 in
set_option maxRecDepth 100000 in
theorem iPlaceText_any (p : Nt.Pi) (w : World) (x : Value) (base : Nat) (h : Pv w base x p) :
    Calls Tryz.prog 85 #[x] w fun e w' => ∃ z, e = .returned (.string z) ∧ tx z = Nt.ptxt p ∧ Kept [] w w' := by
  have HPV := Lib.hid h
  obtain ⟨v, u, rfl, h1, h2⟩ := h
  have hk0 : Kept [] w (w.alloc (.cells #[v, .int .i64 p.c, u] 30)) := (Kept.refl [] w).alloc _
  have hb0 := Bk.new w 30 #[v, .int .i64 p.c, u]
  have H1 := Lib.hid (h1.stay hk0)
  have H2 := Lib.hid (h2.stay hk0)
  have HPW := Lib.hid (HPV.out.stay hk0)
  obtain ⟨a, cap, rfl, _, _, _⟩ := h1.any
  obtain ⟨b, cap2, rfl, _, _, _⟩ := h2.any
  have HB := Lib.hid hb0
  have HK0 := Lib.hid hk0
  obtain ⟨c0, c1, c2⟩ := hb0.three
  clear h1 h2 hb0 hk0 HPV
  go_enter Tryz.func85, Tryz.ntmps85
  go_wp2_with fail
  generalize (w.alloc (.cells #[.slice a p.ns.length cap, .int .i64 p.c, .slice b p.ks.length cap2] 30)) = W0 at *
  refine (iPlaceOk_any p _ _ _ HPW.out).mono ?_
  rintro e w1 ⟨rfl, hk1⟩
  have HB1 := Lib.hid (HB.out.stay hk1)
  have HK1 := Lib.hid (HK0.out.trans hk1 (by simp))
  have H11 := Lib.hid (H1.out.stay hk1)
  have H12 := Lib.hid (H2.out.stay hk1)
  clear hk1 c0 c1 c2 HB HK0 H1 H2 HPW
  cases ho : Nt.plB p
  · have HF := Lib.hid (Nt.ptxt_no ho)
    go_wp2
    go_ret
    exact ⟨_, rfl, by rw [HF.out]; rfl, HK1.out⟩
  · obtain ⟨q, rfl, hq⟩ := Nt.plB_ok ho
    have HF := Lib.hid (Nt.ptxt_ok hq)
    obtain ⟨ns, c, ks⟩ := q
    have hnn : (Nt.Pl.i ⟨ns, c, ks⟩).ns = Nt.nats ns := rfl
    have hkk : (Nt.Pl.i ⟨ns, c, ks⟩).ks = Nt.nats ks := rfl
    have hcc : (Nt.Pl.i ⟨ns, c, ks⟩).c = (c : Int) := rfl
    rw [hnn] at H11
    rw [hkk] at H12
    rw [hnn, hkk, hcc] at HB1
    obtain ⟨n, hn⟩ : ∃ n, n = ns.length := ⟨_, rfl⟩
    have hkl : ks.length = n := by rw [hn]; exact hq.len
    have h6 : n ≤ 6 := by rw [hn]; exact hq.ok.few
    have h5 : c ≤ 5 := hq.st.c5
    have hst : Nt.St c ks := hq.st
    have hn1 : 1 ≤ ns.length := hq.ok.some
    rw [Nt.nats_length, ← hn] at H11 HB1
    rw [Nt.nats_length, hkl] at H12 HB1
    have HIN : Hid (∀ W, Kept [] w1 W → Calls Tryz.prog 70 #[.int .i64 (n : Int)] W fun e w' => e = .returned (.string (itoaZ n)) ∧ Kept [] W w' ∧ Kept [] w1 w') := Lib.hid (fun W k => (itoaZ_any n (by omega) W).mono (by rintro e w' ⟨rfl, rfl⟩; exact ⟨rfl, Kept.refl _ _, k⟩))
    have HIC : Hid (∀ W, Kept [] w1 W → Calls Tryz.prog 70 #[.int .i64 (c : Int)] W fun e w' => e = .returned (.string (itoaZ c)) ∧ Kept [] W w' ∧ Kept [] w1 w') := Lib.hid (fun W k => (itoaZ_any c (by omega) W).mono (by rintro e w' ⟨rfl, rfl⟩; exact ⟨rfl, Kept.refl _ _, k⟩))
    have HPT : Hid (∀ W, Kept [] w1 W → Calls Tryz.prog 143 #[.slice a n cap] W fun e w' => ∃ z, e = .returned (.string z) ∧ Hid (tx z = Nt.wireT ns) ∧ Kept [] W w' ∧ Kept [] w1 w') := Lib.hid (fun W k => (pairsText_any ns hq.ok W _ _ (H11.out.stay k)).mono (by rintro e w' ⟨z, rfl, hz, hk⟩; exact ⟨z, rfl, Lib.hid hz, hk, k.trans hk (by simp)⟩))
    have HJN : Hid (∀ W, Kept [] w1 W → Calls Tryz.prog 144 #[.slice b n cap2, .string ⟨#[]⟩] W fun e w' => ∃ z, e = .returned (.string z) ∧ Hid (tx z = Nt.kindT ks) ∧ Kept [] W w' ∧ Kept [] w1 w') := Lib.hid (fun W k => (kinds_any ks (by omega) (fun j hj => by have := hst.lt j hj; omega) W _ _ (H12.out.stay k)).mono (by rintro e w' ⟨z, rfl, hz, hk⟩; exact ⟨z, rfl, Lib.hid hz, hk, k.trans hk (by simp)⟩))
    have HSB : Hid (∀ w', Kept [] w1 w' → w'.cell? ⟨w.heap.size, 0, none⟩ = some (.slice a n cap) ∧ w'.cell? ⟨w.heap.size, 1, none⟩ = some (.int .i64 (c : Int)) ∧ w'.cell? ⟨w.heap.size, 2, none⟩ = some (.slice b n cap2)) := Lib.hid (fun w' k => (HB1.out.stay k).three)
    have HDN := Lib.hid (tx_itoaZ (show n < 100 by omega))
    have HDC := Lib.hid (tx_itoaZ (show c < 100 by omega))
    have HW200 : Hid ((Nt.wireT ns).length ≤ 300) := Lib.hid (wireT_small hn1 (by omega))
    have HPL : Hid (Nt.Pl.t ⟨ns, c, ks⟩ = Nt.join 32 [Nt.digs n, Nt.wireT ns, Nt.digs c, Nt.kindT ks]) := Lib.hid (by rw [hn]; rfl)
    have HPS : Hid ((Nt.Pl.t ⟨ns, c, ks⟩).length ≤ 1000) := Lib.hid (Nat.le_trans (placeT_small hq) (by omega))
    clear hst hn1 hq ho hnn hkk hcc hkl h6 h5 hn H11 H12
    generalize itoaZ n = zn at *
    generalize itoaZ c = zc at *
    go_wp2_with fail
    have K1x : Hid (Kept [] w1 w1.drew) := Lib.hid ((Kept.refl [] w1).drew)
    refine wp_region_held_drew (S := (fun w' => w'.cell? ⟨w.heap.size, 0, none⟩ = some (.slice a n cap) ∧ w'.cell? ⟨w.heap.size, 1, none⟩ = some (.int .i64 (c : Int)) ∧ w'.cell? ⟨w.heap.size, 2, none⟩ = some (.slice b n cap2))) (by kernel_rfl) (HSB.out _ K1x.out) (fun hHeld => ?_)
    generalize w1.drew = X1 at *
    refine wpAnyH_take (i := 0) (v := ?_) (opAt_lq rfl) (by kernel_rfl) (by kernel_rfl) (by kernel_rfl) (fun _ _ _ h => h) (Or.inl ⟨by rfl, ?_⟩) (by assumption) ?_
    rotate_left
    · intro w9 hSw
      (try dsimp only at hSw)
      go_simp
      try with_reducible rfl
    try simp only [Act.put, List.setIfInBounds_toArray, List.set_cons_zero, List.set_cons_succ]
    refine wpAnyH_take (i := 1) (v := ?_) (opAt_lq rfl) (by kernel_rfl) (by kernel_rfl) (by kernel_rfl) (fun _ _ _ h => h) (Or.inl ⟨by rfl, ?_⟩) (by assumption) ?_
    rotate_left
    · intro w9 hSw
      (try dsimp only at hSw)
      go_simp
      try with_reducible rfl
    try simp only [Act.put, List.setIfInBounds_toArray, List.set_cons_zero, List.set_cons_succ]
    refine wpAnyH_take (i := 2) (v := ?_) (opAt_lq rfl) (by kernel_rfl) (by kernel_rfl) (by kernel_rfl) (fun _ _ _ h => h) (Or.inl ⟨by rfl, ?_⟩) (by assumption) ?_
    rotate_left
    · intro w9 hSw
      (try dsimp only at hSw)
      go_simp
      try with_reducible rfl
    try simp only [Act.put, List.setIfInBounds_toArray, List.set_cons_zero, List.set_cons_succ]
    refine wpAnyH_take (i := 4) (v := ?_) (opAt_lq rfl) (by kernel_rfl) (by kernel_rfl) (by kernel_rfl) (fun _ _ _ h => h) (Or.inl ⟨by rfl, ?_⟩) (by assumption) ?_
    rotate_left
    · intro w9 hSw
      (try dsimp only at hSw)
      go_simp
      try with_reducible rfl
    try simp only [Act.put, List.setIfInBounds_toArray, List.set_cons_zero, List.set_cons_succ]
    refine wpAnyH_take (i := 5) (v := ?_) (opAt_lq rfl) (by kernel_rfl) (by kernel_rfl) (by kernel_rfl) (fun _ _ _ h => h) (Or.inl ⟨by rfl, ?_⟩) (by assumption) ?_
    rotate_left
    · intro w9 hSw
      (try dsimp only at hSw)
      go_simp
      try with_reducible rfl
    try simp only [Act.put, List.setIfInBounds_toArray, List.set_cons_zero, List.set_cons_succ]
    refine wpAnyH_take (i := 7) (v := ?_) (opAt_lq rfl) (by kernel_rfl) (by kernel_rfl) (by kernel_rfl) (fun _ _ _ h => h) (Or.inl ⟨by rfl, ?_⟩) (by assumption) ?_
    rotate_left
    · intro w9 hSw
      (try dsimp only at hSw)
      go_simp
      try with_reducible rfl
    try simp only [Act.put, List.setIfInBounds_toArray, List.set_cons_zero, List.set_cons_succ]
    refine wpAnyH_take (i := 8) (v := ?_) (opAt_lq rfl) (by kernel_rfl) (by kernel_rfl) (by kernel_rfl) (fun _ _ _ h => h) (Or.inl ⟨by rfl, ?_⟩) (by assumption) ?_
    rotate_left
    · intro w9 hSw
      (try dsimp only at hSw)
      go_simp
      try with_reducible rfl
    try simp only [Act.put, List.setIfInBounds_toArray, List.set_cons_zero, List.set_cons_succ]
    refine wpAnyH_take (i := 10) (v := ?_) (opAt_lq rfl) (by kernel_rfl) (by kernel_rfl) (by kernel_rfl) (fun _ _ _ h => h) (Or.inl ⟨by rfl, ?_⟩) (by assumption) ?_
    rotate_left
    · intro w9 hSw
      (try dsimp only at hSw)
      go_simp
      try with_reducible rfl
    try simp only [Act.put, List.setIfInBounds_toArray, List.set_cons_zero, List.set_cons_succ]
    refine wpAnyH_take (i := 11) (v := ?_) (opAt_lq rfl) (by kernel_rfl) (by kernel_rfl) (by kernel_rfl) (fun _ _ _ h => h) (Or.inl ⟨by rfl, ?_⟩) (by assumption) ?_
    rotate_left
    · intro w9 hSw
      (try dsimp only at hSw)
      go_simp
      try with_reducible rfl
    try simp only [Act.put, List.setIfInBounds_toArray, List.set_cons_zero, List.set_cons_succ]
    refine wpAnyH_ready (rs := [3]) (by kernel_rfl) (by simp) ?_
    refine (AllReadyH.cons (opAt_lq rfl) (fun K hK => ?_) AllReadyH.nil)
    go_simp
    go_at_call 70
    refine (HIN.out _ K1x.out).mono ?_
    rintro e X2 ⟨rfl, hk, hk0⟩
    refine hK.out _ _ (HSB.out _ hk0) (fun hHeld => ?_)
    clear hK K
    try simp only [Act.put, List.setIfInBounds_toArray, List.set_cons_zero, List.set_cons_succ]
    have K2x := Lib.hid hk0
    have HZ1 := Lib.hid (Kept.size (rows := []) hk)
    clear hk hk0
    refine wpAnyH_ready (rs := [6]) (by kernel_rfl) (by simp) ?_
    refine (AllReadyH.cons (opAt_lq rfl) (fun K hK => ?_) AllReadyH.nil)
    go_simp
    go_at_call 143
    refine (HPT.out _ K2x.out).mono ?_
    rintro e X3 ⟨zp, rfl, HZP, hk, hk0⟩
    refine hK.out _ _ (HSB.out _ hk0) (fun hHeld => ?_)
    clear hK K
    try simp only [Act.put, List.setIfInBounds_toArray, List.set_cons_zero, List.set_cons_succ]
    have K3x := Lib.hid hk0
    have HZ2 := Lib.hid (Kept.size (rows := []) hk)
    clear hk hk0
    refine wpAnyH_ready (rs := [9]) (by kernel_rfl) (by simp) ?_
    refine (AllReadyH.cons (opAt_lq rfl) (fun K hK => ?_) AllReadyH.nil)
    go_simp
    go_at_call 70
    refine (HIC.out _ K3x.out).mono ?_
    rintro e X4 ⟨rfl, hk, hk0⟩
    refine hK.out _ _ (HSB.out _ hk0) (fun hHeld => ?_)
    clear hK K
    try simp only [Act.put, List.setIfInBounds_toArray, List.set_cons_zero, List.set_cons_succ]
    have K4x := Lib.hid hk0
    have HZ3 := Lib.hid (Kept.size (rows := []) hk)
    clear hk hk0
    refine wpAnyH_ready (rs := [12]) (by kernel_rfl) (by simp) ?_
    refine (AllReadyH.cons (opAt_lq rfl) (fun K hK => ?_) AllReadyH.nil)
    go_simp
    go_at_call 144
    refine (HJN.out _ K4x.out).mono ?_
    rintro e X5 ⟨zk, rfl, HZK, hk, hk0⟩
    refine hK.out _ _ (HSB.out _ hk0) (fun hHeld => ?_)
    clear hK K
    try simp only [Act.put, List.setIfInBounds_toArray, List.set_cons_zero, List.set_cons_succ]
    have K5x := Lib.hid hk0
    have HZ4 := Lib.hid (Kept.size (rows := []) hk)
    clear hk hk0
    refine wpAnyH_ready (rs := [13]) (by kernel_rfl) (by simp) ?_
    refine (AllReadyH.cons (opAt_lq rfl) (fun K hK => ?_) AllReadyH.nil)
    go_simp
    have hka : Kept [] X5 (X5.alloc (.cells #[.string zn, .string zp, .string zc, .string zk] 9)) := (Kept.refl _ _).alloc _
    have HTS : Hid (Ts (X5.alloc (.cells #[.string zn, .string zp, .string zc, .string zk] 9)) X5.heap.size (.slice (some ⟨X5.heap.size, 0, none⟩) 4 4) [zn, zp, zc, zk]) := Lib.hid (Ts.lit X5 [zn, zp, zc, zk] (by simp))
    refine hK.out _ _ (HSB.out _ (K5x.out.trans hka (by simp))) (fun hHeld => ?_)
    clear hK K
    try simp only [Act.put, List.setIfInBounds_toArray, List.set_cons_zero, List.set_cons_succ]
    have K6x := Lib.hid (K5x.out.trans hka (by simp))
    generalize X5.alloc (.cells #[.string zn, .string zp, .string zc, .string zk] 9) = X6 at *
    generalize X5.heap.size = gl at *
    clear hka
    refine wpAnyH_take (i := 14) (v := ?_) (opAt_lq rfl) (by kernel_rfl) (by kernel_rfl) (by kernel_rfl) (fun _ _ _ h => h) (Or.inl ⟨by rfl, ?_⟩) (by assumption) ?_
    rotate_left
    · intro w9 hSw
      (try dsimp only at hSw)
      go_simp
      try with_reducible rfl
    try simp only [Act.put, List.setIfInBounds_toArray, List.set_cons_zero, List.set_cons_succ]
    refine wpAnyH_done (by kernel_rfl) ?_ _
    go_wp2_with fail
    have HM : Hid ([zn, zp, zc, zk].map tx = [Nt.digs n, Nt.wireT ns, Nt.digs c, Nt.kindT ks]) := Lib.hid (by simp [HDN.out, HDC.out, HZP.out, HZK.out])
    refine (joinG_any joinAs32 [zn, zp, zc, zk] 4 rfl (by omega) (by rw [HM.out, ← HPL.out]; exact Nat.le_trans HPS.out (by omega)) _ _ _ _ HTS.out).mono ?_
    rintro e w7 ⟨z, rfl, hz, hk7⟩
    have HZ := Lib.hid hz
    have HK7 := Lib.hid ((HK1.out.trans K6x.out (by simp)).trans hk7 (by simp))
    clear hz hk7
    go_wp2
    go_ret
    exact ⟨_, rfl, by rw [HZ.out, HM.out, HF.out, HPL.out], HK7.out⟩

/-- A place that is read: it lies in two blocks, one behind the other; or there is none. -/
def RdPl (w : World) (base : Nat) (y : Value) (t : List Nat) : Prop :=
  (Nt.readPB t = false ∧ y = .agg #[.slice none 0 0, .int .i64 0, .slice none 0 0] ∧ Nt.readPI t = Nt.Pi.zero) ∨
    (Nt.readPB t = true ∧ ∃ g1 q1 g2 q2, y = .agg #[.slice (some ⟨g1, 0, none⟩) (Nt.readPI t).ns.length q1, .int .i64 (Nt.readPI t).c, .slice (some ⟨g2, 0, none⟩) (Nt.readPI t).ks.length q2] ∧
      Sl w base (.slice (some ⟨g1, 0, none⟩) (Nt.readPI t).ns.length q1) (Nt.readPI t).ns ∧ Sl w base (.slice (some ⟨g2, 0, none⟩) (Nt.readPI t).ks.length q2) (Nt.readPI t).ks ∧ g1 < g2)
theorem RdPl.pv {w : World} {base : Nat} {y : Value} {t : List Nat} (h : RdPl w base y t) : Pv w base y (Nt.readPI t) := by
  rcases h with ⟨_, rfl, h2⟩ | ⟨_, g1, q1, g2, q2, rfl, h1, h2, _⟩
  · rw [h2]; exact Pv.zero w base
  · exact ⟨_, _, rfl, h1, h2⟩
theorem readP_four {t : List Nat} (h : ¬ (Nt.cut 32 t).length = 4) : Nt.readPB t = false ∧ Nt.readPI t = Nt.Pi.zero := by
  cases e : Nt.readP t with
  | none => exact ⟨(Nt.readPI_none e).2, (Nt.readPI_none e).1⟩
  | some q => have := (Nt.readP_words e).2; rw [this] at h; exact absurd rfl h
theorem readP_miss {t : List Nat} (h : Nt.readPB t = false) : Nt.readPI t = Nt.Pi.zero := by
  cases e : Nt.readP t with
  | none => exact (Nt.readPI_none e).1
  | some q => rw [(Nt.readPI_some e).2] at h; cases h
theorem readP_ne {t : List Nat} (h : Nt.readPB t = true) : 0 < (Nt.readPI t).ns.length ∧ 0 < (Nt.readPI t).ks.length := by
  cases e : Nt.readP t with
  | none => rw [(Nt.readPI_none e).2] at h; cases h
  | some q =>
    rw [(Nt.readPI_some e).1]
    have hq := (Nt.readP_some.1 e).1
    show 0 < (Nt.nats q.ns).length ∧ 0 < (Nt.nats q.ks).length
    rw [Nt.nats_length, Nt.nats_length]
    exact ⟨hq.ok.some, by rw [hq.len]; exact hq.ok.some⟩
/-- A place's block, laid by the program in some order among the calls. -/
def Laid (wc w1 : World) (t : List Nat) (u5 : Value) : Prop := ∃ (bp : Nat) (a1 a2 : Option Addr) (n1 c1 n2 c2 : Nat) (P : Nt.Pi), u5 = .pointer (some ⟨bp, 0, none⟩) ∧ Bk wc bp 30 #[.slice a1 n1 c1, .int .i64 P.c, .slice a2 n2 c2] ∧
  Sl wc w1.heap.size (.slice a1 n1 c1) P.ns ∧ Sl wc w1.heap.size (.slice a2 n2 c2) P.ks ∧ (∀ g1, (Value.slice a1 n1 c1).ownBlock = some g1 → ∀ g2, (Value.slice a2 n2 c2).ownBlock = some g2 → g1 < g2) ∧ (∀ q, Nt.readP t = some q → P = q.i) ∧ Kept [] w1 wc

set_option maxHeartbeats 8000000 in
set_option maxRecDepth 100000 in
theorem iReadPlaceA_any (s : ByteArray) (hs : s.size ≤ 1100000) (w : World) (he : ErrW w) :
    Calls Tryz.prog 31 #[.string s] w fun e w' => ∃ y, e = .returned (.tuple #[y, .bool (Nt.readPB (tx s))]) ∧ RdPl w' w.heap.size y (tx s) ∧ Kept [] w w' := by
  have HR0 := Lib.hid (Bk.new w 30 #[.slice none 0 0, .int .i64 0, .slice none 0 0])
  have HK0 : Hid (Kept [] w (w.alloc (.cells #[.slice none 0 0, .int .i64 0, .slice none 0 0] 30))) := Lib.hid ((Kept.refl [] w).alloc _)
  have HE := Lib.hid (he.stay HK0.out)
  have HS := Lib.hid hs
  have hs2 : s.size ≤ 2000000 := by omega
  clear hs he
  go_enter Tryz.func31, Tryz.ntmps31
  go_wp2_with fail
  generalize w.alloc (.cells #[.slice none 0 0, .int .i64 0, .slice none 0 0] 30) = W0 at *
  refine (split32_any s hs2 _ HE.out).mono ?_
  rintro e w1 ⟨gw, L, ps, rfl, hps, hpl, hpm, hk1⟩
  obtain ⟨hcl, hcp⟩ := cut_at hpm
  rw [hpl] at hcl hcp
  have HCL := Lib.hid hcl
  have HCP := Lib.hid hcp
  have HG := Lib.hid (hps.block (g := gw) rfl).2
  have HC : Hid (∀ k, k < L → w1.cell? ⟨gw, k, none⟩ = some (.string (atT ps k))) := Lib.hid (fun k hk => (hps.at k (by rw [hpl]; exact hk)).1)
  have HR1 := Lib.hid (HR0.out.stay hk1)
  have HK1 := Lib.hid (HK0.out.trans hk1 (by simp))
  have HE1 := Lib.hid (HE.out.stay hk1)
  clear hps hpm hk1 hcl hcp hpl HR0 HK0 HE hs2
  by_cases h4 : L = 4
  · subst h4
    obtain ⟨e0, z0⟩ := HCP.out 0 (by omega)
    obtain ⟨e1, z1⟩ := HCP.out 1 (by omega)
    obtain ⟨e2, z2⟩ := HCP.out 2 (by omega)
    obtain ⟨e3, z3⟩ := HCP.out 3 (by omega)
    have HSB : Hid (∀ w', Kept [] w1 w' → w'.cell? ⟨gw, 0, none⟩ = some (.string (atT ps 0)) ∧ w'.cell? ⟨gw, 1, none⟩ = some (.string (atT ps 1)) ∧ w'.cell? ⟨gw, 2, none⟩ = some (.string (atT ps 2)) ∧ w'.cell? ⟨gw, 3, none⟩ = some (.string (atT ps 3))) := Lib.hid (fun w' k => ⟨(k.cell (p := ⟨gw, 0, none⟩) HG.out (by simp)).trans (HC.out 0 (by omega)), (k.cell (p := ⟨gw, 1, none⟩) HG.out (by simp)).trans (HC.out 1 (by omega)), (k.cell (p := ⟨gw, 2, none⟩) HG.out (by simp)).trans (HC.out 2 (by omega)), (k.cell (p := ⟨gw, 3, none⟩) HG.out (by simp)).trans (HC.out 3 (by omega))⟩)
    have HNET : Hid (∀ W, Kept [] w1 W → Calls Tryz.prog 82 #[.string (atT ps 0), .string (atT ps 1)] W fun e w' => ∃ (a1 : Option Addr) (n1 c1 : Nat) (many : Int), e = .returned (.slice a1 n1 c1) ∧ Hid (Nt.NumOf ((Nt.cut 32 (tx s)).getD 0 []) many) ∧ Hid (Sl w' W.heap.size (.slice a1 n1 c1) (Nt.candP many 0 (Nt.cut 32 (tx s))).ns) ∧ Kept [] W w' ∧ Kept [] w1 w') := Lib.hid (fun W k => (readNet_any _ _ (by have := HS.out; omega) (by have := HS.out; omega) W (HE1.out.stay k)).mono (by
      rintro e w' ⟨v, many, rfl, hn, hsl, hk⟩
      rw [e0] at hn
      rw [e1] at hsl
      obtain ⟨a1, c1, rfl, _, _, _⟩ := hsl.any
      exact ⟨a1, _, c1, many, rfl, Lib.hid hn, Lib.hid hsl, hk, k.trans hk (by simp)⟩))
    have HNUM : Hid (∀ W, Kept [] w1 W → Calls Tryz.prog 83 #[.string (atT ps 2)] W fun e w' => ∃ (c : Int), e = .returned (.int .i64 c) ∧ Hid (Nt.NumOf ((Nt.cut 32 (tx s)).getD 2 []) c) ∧ Kept [] W w' ∧ Kept [] w1 w') := Lib.hid (fun W k => (numberIn_any _ (by have := HS.out; omega) W (HE1.out.stay k)).mono (by
      rintro e w' ⟨c, rfl, hn, hk⟩
      rw [e2] at hn
      exact ⟨c, rfl, Lib.hid hn, hk, k.trans hk (by simp)⟩))
    have HDIG : Hid (∀ W, Kept [] w1 W → Calls Tryz.prog 84 #[.string (atT ps 3)] W fun e w' => ∃ (a2 : Option Addr) (n2 c2 : Nat), e = .returned (.slice a2 n2 c2) ∧ Hid (Sl w' W.heap.size (.slice a2 n2 c2) (Nt.candP 0 0 (Nt.cut 32 (tx s))).ks) ∧ Kept [] W w' ∧ Kept [] w1 w') := Lib.hid (fun W k => (readDigits_any _ (by have := HS.out; omega) W).mono (by
      rintro e w' ⟨u, rfl, hsl, hk⟩
      rw [e3] at hsl
      obtain ⟨a2, c2, rfl, _, _, _⟩ := hsl.any
      exact ⟨a2, _, c2, rfl, Lib.hid hsl, hk, k.trans hk (by simp)⟩))
    have HCAND : Hid (∀ many c : Int, Nt.NumOf ((Nt.cut 32 (tx s)).getD 0 []) many → Nt.NumOf ((Nt.cut 32 (tx s)).getD 2 []) c → ∀ q, Nt.readP (tx s) = some q → Nt.candP many c (Nt.cut 32 (tx s)) = q.i) := Lib.hid (fun many c h1 h2 q h => Nt.readP_cand2 h1 h2 h)
    obtain ⟨x0, x1, x2, x3⟩ := HSB.out w1 (Kept.refl _ _)
    clear e0 e1 e2 e3 z0 z1 z2 z3 HC
    generalize atT ps 0 = A0 at *
    generalize atT ps 1 = A1 at *
    generalize atT ps 2 = A2 at *
    generalize atT ps 3 = A3 at *
    go_wp2_with fail
    go_cut [5] from 12 to 27 (fun u5 wc => Laid wc w1 (tx s) u5)
    case first =>
      clear x0 x1 x2 x3
      have K1x : Hid (Kept [] w1 w1.drew) := Lib.hid ((Kept.refl [] w1).drew)
      refine wp_region_held_drew (S := (fun w' => w'.cell? ⟨gw, 0, none⟩ = some (.string A0) ∧ w'.cell? ⟨gw, 1, none⟩ = some (.string A1) ∧ w'.cell? ⟨gw, 2, none⟩ = some (.string A2) ∧ w'.cell? ⟨gw, 3, none⟩ = some (.string A3))) (by kernel_rfl) (HSB.out _ K1x.out) (fun hHeld => ?_)
      generalize w1.drew = X1 at *
      refine wpAnyH_take (i := 0) (v := ?_) (opAt_lq rfl) (by kernel_rfl) (by kernel_rfl) (by kernel_rfl) (fun _ _ _ h => h) (Or.inl ⟨by rfl, ?_⟩) (by assumption) ?_
      rotate_left
      · intro w9 hSw
        (try dsimp only at hSw)
        go_simp
        try with_reducible rfl
      try simp only [Act.put, List.setIfInBounds_toArray, List.set_cons_zero, List.set_cons_succ]
      refine wpAnyH_take (i := 1) (v := ?_) (opAt_lq rfl) (by kernel_rfl) (by kernel_rfl) (by kernel_rfl) (fun _ _ _ h => h) (Or.inl ⟨by rfl, ?_⟩) (by assumption) ?_
      rotate_left
      · intro w9 hSw
        (try dsimp only at hSw)
        go_simp
        try with_reducible rfl
      try simp only [Act.put, List.setIfInBounds_toArray, List.set_cons_zero, List.set_cons_succ]
      refine wpAnyH_take (i := 2) (v := ?_) (opAt_lq rfl) (by kernel_rfl) (by kernel_rfl) (by kernel_rfl) (fun _ _ _ h => h) (Or.inl ⟨by rfl, ?_⟩) (by assumption) ?_
      rotate_left
      · intro w9 hSw
        (try dsimp only at hSw)
        go_simp
        try with_reducible rfl
      try simp only [Act.put, List.setIfInBounds_toArray, List.set_cons_zero, List.set_cons_succ]
      refine wpAnyH_take (i := 3) (v := ?_) (opAt_lq rfl) (by kernel_rfl) (by kernel_rfl) (by kernel_rfl) (fun _ _ _ h => h) (Or.inl ⟨by rfl, ?_⟩) (by assumption) ?_
      rotate_left
      · intro w9 hSw
        (try dsimp only at hSw)
        go_simp
        try with_reducible rfl
      try simp only [Act.put, List.setIfInBounds_toArray, List.set_cons_zero, List.set_cons_succ]
      refine wpAnyH_take (i := 4) (v := ?_) (opAt_lq rfl) (by kernel_rfl) (by kernel_rfl) (by kernel_rfl) (fun _ _ _ h => h) (Or.inl ⟨by rfl, ?_⟩) (by assumption) ?_
      rotate_left
      · intro w9 hSw
        (try dsimp only at hSw)
        go_simp
        try with_reducible rfl
      try simp only [Act.put, List.setIfInBounds_toArray, List.set_cons_zero, List.set_cons_succ]
      refine wpAnyH_take (i := 5) (v := ?_) (opAt_lq rfl) (by kernel_rfl) (by kernel_rfl) (by kernel_rfl) (fun _ _ _ h => h) (Or.inl ⟨by rfl, ?_⟩) (by assumption) ?_
      rotate_left
      · intro w9 hSw
        (try dsimp only at hSw)
        go_simp
        try with_reducible rfl
      try simp only [Act.put, List.setIfInBounds_toArray, List.set_cons_zero, List.set_cons_succ]
      refine wpAnyH_take (i := 7) (v := ?_) (opAt_lq rfl) (by kernel_rfl) (by kernel_rfl) (by kernel_rfl) (fun _ _ _ h => h) (Or.inl ⟨by rfl, ?_⟩) (by assumption) ?_
      rotate_left
      · intro w9 hSw
        (try dsimp only at hSw)
        go_simp
        try with_reducible rfl
      try simp only [Act.put, List.setIfInBounds_toArray, List.set_cons_zero, List.set_cons_succ]
      refine wpAnyH_take (i := 8) (v := ?_) (opAt_lq rfl) (by kernel_rfl) (by kernel_rfl) (by kernel_rfl) (fun _ _ _ h => h) (Or.inl ⟨by rfl, ?_⟩) (by assumption) ?_
      rotate_left
      · intro w9 hSw
        (try dsimp only at hSw)
        go_simp
        try with_reducible rfl
      try simp only [Act.put, List.setIfInBounds_toArray, List.set_cons_zero, List.set_cons_succ]
      refine wpAnyH_take (i := 9) (v := ?_) (opAt_lq rfl) (by kernel_rfl) (by kernel_rfl) (by kernel_rfl) (fun _ _ _ h => h) (Or.inl ⟨by rfl, ?_⟩) (by assumption) ?_
      rotate_left
      · intro w9 hSw
        (try dsimp only at hSw)
        go_simp
        try with_reducible rfl
      try simp only [Act.put, List.setIfInBounds_toArray, List.set_cons_zero, List.set_cons_succ]
      refine wpAnyH_take (i := 11) (v := ?_) (opAt_lq rfl) (by kernel_rfl) (by kernel_rfl) (by kernel_rfl) (fun _ _ _ h => h) (Or.inl ⟨by rfl, ?_⟩) (by assumption) ?_
      rotate_left
      · intro w9 hSw
        (try dsimp only at hSw)
        go_simp
        try with_reducible rfl
      try simp only [Act.put, List.setIfInBounds_toArray, List.set_cons_zero, List.set_cons_succ]
      refine wpAnyH_take (i := 12) (v := ?_) (opAt_lq rfl) (by kernel_rfl) (by kernel_rfl) (by kernel_rfl) (fun _ _ _ h => h) (Or.inl ⟨by rfl, ?_⟩) (by assumption) ?_
      rotate_left
      · intro w9 hSw
        (try dsimp only at hSw)
        go_simp
        try with_reducible rfl
      try simp only [Act.put, List.setIfInBounds_toArray, List.set_cons_zero, List.set_cons_succ]
      refine wpAnyH_take (i := 13) (v := ?_) (opAt_lq rfl) (by kernel_rfl) (by kernel_rfl) (by kernel_rfl) (fun _ _ _ h => h) (Or.inl ⟨by rfl, ?_⟩) (by assumption) ?_
      rotate_left
      · intro w9 hSw
        (try dsimp only at hSw)
        go_simp
        try with_reducible rfl
      try simp only [Act.put, List.setIfInBounds_toArray, List.set_cons_zero, List.set_cons_succ]
      refine wpAnyH_ready (rs := [6, 16]) (by kernel_rfl) (by simp) ?_
      refine (AllReadyH.cons (opAt_lq rfl) (fun K hK => ?_) (AllReadyH.cons (opAt_lq rfl) (fun K hK => ?_) AllReadyH.nil))
      · go_simp
        go_at_call 82
        refine (HNET.out _ K1x.out).mono ?_
        rintro e X2 ⟨a1, n1, c1, many, rfl, HMANY, HV1, hk, hk0⟩
        refine hK.out _ _ (HSB.out _ hk0) (fun hHeld => ?_)
        clear hK K
        try simp only [Act.put, List.setIfInBounds_toArray, List.set_cons_zero, List.set_cons_succ]
        have K2x := Lib.hid hk0
        have HZ1 := Lib.hid (Kept.size (rows := []) hk)
        have HB1 := Lib.hid (show ∀ g, (Value.slice a1 n1 c1).ownBlock = some g → X1.heap.size ≤ g ∧ g < X2.heap.size from fun g hg => HV1.out.block hg)
        have HLO1 := Lib.hid K1x.out.size
        clear hk hk0
        refine wpAnyH_ready (rs := [10, 16]) (by kernel_rfl) (by simp) ?_
        refine (AllReadyH.cons (opAt_lq rfl) (fun K hK => ?_) (AllReadyH.cons (opAt_lq rfl) (fun K hK => ?_) AllReadyH.nil))
        · go_simp
          go_at_call 83
          refine (HNUM.out _ K2x.out).mono ?_
          rintro e X3 ⟨c, rfl, HC2, hk, hk0⟩
          refine hK.out _ _ (HSB.out _ hk0) (fun hHeld => ?_)
          clear hK K
          try simp only [Act.put, List.setIfInBounds_toArray, List.set_cons_zero, List.set_cons_succ]
          have K3x := Lib.hid hk0
          have HZ2 := Lib.hid (Kept.size (rows := []) hk)
          have HV1 := Lib.hid (HV1.out.stay hk)
          clear hk hk0
          refine wpAnyH_ready (rs := [14, 16]) (by kernel_rfl) (by simp) ?_
          refine (AllReadyH.cons (opAt_lq rfl) (fun K hK => ?_) (AllReadyH.cons (opAt_lq rfl) (fun K hK => ?_) AllReadyH.nil))
          · go_simp
            go_at_call 84
            refine (HDIG.out _ K3x.out).mono ?_
            rintro e X4 ⟨a2, n2, c2, rfl, HV2, hk, hk0⟩
            refine hK.out _ _ (HSB.out _ hk0) (fun hHeld => ?_)
            clear hK K
            try simp only [Act.put, List.setIfInBounds_toArray, List.set_cons_zero, List.set_cons_succ]
            have K4x := Lib.hid hk0
            have HZ3 := Lib.hid (Kept.size (rows := []) hk)
            have HV1 := Lib.hid (HV1.out.stay hk)
            have HB2 := Lib.hid (show ∀ g, (Value.slice a2 n2 c2).ownBlock = some g → X3.heap.size ≤ g ∧ g < X4.heap.size from fun g hg => HV2.out.block hg)
            have HLO2 := Lib.hid K3x.out.size
            clear hk hk0
            refine wpAnyH_take (i := 15) (v := ?_) (opAt_lq rfl) (by kernel_rfl) (by kernel_rfl) (by kernel_rfl) (fun _ _ _ h => h) (Or.inl ⟨by rfl, ?_⟩) (by assumption) ?_
            rotate_left
            · intro w9 hSw
              (try dsimp only at hSw)
              go_simp
              try with_reducible rfl
            try simp only [Act.put, List.setIfInBounds_toArray, List.set_cons_zero, List.set_cons_succ]
            refine wpAnyH_ready (rs := [16]) (by kernel_rfl) (by simp) ?_
            refine (AllReadyH.cons (opAt_lq rfl) (fun K hK => ?_) AllReadyH.nil)
            go_simp
            have hka : Kept [] X4 (X4.alloc (.cells #[.slice none 0 0, .int .i64 0, .slice none 0 0] 30)) := (Kept.refl _ _).alloc _
            have HBP := Lib.hid (Bk.new X4 30 #[.slice none 0 0, .int .i64 0, .slice none 0 0])
            refine hK.out _ _ (HSB.out _ (K4x.out.trans hka (by simp))) (fun hHeld => ?_)
            clear hK K
            try simp only [Act.put, List.setIfInBounds_toArray, List.set_cons_zero, List.set_cons_succ]
            obtain ⟨bp, hbp⟩ : ∃ g, g = X4.heap.size := ⟨_, rfl⟩
            have hZbp : w1.heap.size ≤ bp := by rw [hbp]; exact K4x.out.size
            have HZ4 : Hid (X4.heap.size + 1 ≤ (X4.alloc (.cells #[.slice none 0 0, .int .i64 0, .slice none 0 0] 30)).heap.size) := Lib.hid (by simp)
            have Hbp := Lib.hid hbp
            have K5x := Lib.hid (K4x.out.trans hka (by simp))
            have HV1 := Lib.hid (HV1.out.stay hka)
            have HV2 := Lib.hid (HV2.out.stay hka)
            generalize X4.alloc (.cells #[.slice none 0 0, .int .i64 0, .slice none 0 0] 30) = X5 at *
            rw [← hbp] at HBP ⊢
            clear hka hbp
            refine wpAnyH_ready (rs := [17]) (by kernel_rfl) (by simp) ?_
            refine (AllReadyH.cons (opAt_lq rfl) (fun K hK => ?_) AllReadyH.nil)
            obtain ⟨l0, l1, l2⟩ := HBP.out.three
            have f0 := HBP.out.frozen 0
            have f1 := HBP.out.frozen 1
            have f2 := HBP.out.frozen 2
            have hll := HBP.out.lt
            have k3 := K5x.out.set3 hZbp (.slice a1 n1 c1) (.int .i64 c) (.slice a2 n2 c2)
            go_simp
            refine hK.out _ _ (HSB.out _ k3) (fun hHeld => ?_)
            clear hK K
            try simp only [Act.put, List.setIfInBounds_toArray, List.set_cons_zero, List.set_cons_succ]
            have HBK := Lib.hid (HBP.out.set3 (.slice a1 n1 c1) (.int .i64 c) (.slice a2 n2 c2))
            have HW1 := Lib.hid ((HV1.out.kept (Kept.rows3 X5 bp (.slice a1 n1 c1) (.int .i64 c) (.slice a2 n2 c2)) (fun g hg hm => by have := HB1.out g hg; have := Hbp.out; have := HZ1.out; have := HZ2.out; have := HZ3.out; have := HZ4.out; simp at hm; omega)))
            have HW2 := Lib.hid ((HV2.out.kept (Kept.rows3 X5 bp (.slice a1 n1 c1) (.int .i64 c) (.slice a2 n2 c2)) (fun g hg hm => by have := HB2.out g hg; have := Hbp.out; have := HZ1.out; have := HZ2.out; have := HZ3.out; have := HZ4.out; simp at hm; omega)))
            have HAP : Hid (∀ g1, (Value.slice a1 n1 c1).ownBlock = some g1 → ∀ g2, (Value.slice a2 n2 c2).ownBlock = some g2 → g1 < g2) := Lib.hid (fun g1 h1 g2 h2 => by have := HB1.out g1 h1; have := HB2.out g2 h2; have := HZ1.out; have := HZ2.out; have := HZ3.out; have := HZ4.out; omega)
            have K6x := Lib.hid k3
            refine wpAnyH_done (by kernel_rfl) ?_ _
            go_wp2_with fail
            go_meet
            exact ⟨bp, a1, a2, n1, c1, n2, c2, Nt.candP many c (Nt.cut 32 (tx s)), rfl, HBK.out, HW1.out.mono HLO1.out, HW2.out.mono HLO2.out, HAP.out, HCAND.out many c HMANY.out HC2.out, K6x.out⟩
          · go_simp
            have hka : Kept [] X3 (X3.alloc (.cells #[.slice none 0 0, .int .i64 0, .slice none 0 0] 30)) := (Kept.refl _ _).alloc _
            have HBP := Lib.hid (Bk.new X3 30 #[.slice none 0 0, .int .i64 0, .slice none 0 0])
            refine hK.out _ _ (HSB.out _ (K3x.out.trans hka (by simp))) (fun hHeld => ?_)
            clear hK K
            try simp only [Act.put, List.setIfInBounds_toArray, List.set_cons_zero, List.set_cons_succ]
            obtain ⟨bp, hbp⟩ : ∃ g, g = X3.heap.size := ⟨_, rfl⟩
            have hZbp : w1.heap.size ≤ bp := by rw [hbp]; exact K3x.out.size
            have HZ3 : Hid (X3.heap.size + 1 ≤ (X3.alloc (.cells #[.slice none 0 0, .int .i64 0, .slice none 0 0] 30)).heap.size) := Lib.hid (by simp)
            have Hbp := Lib.hid hbp
            have K4x := Lib.hid (K3x.out.trans hka (by simp))
            have HV1 := Lib.hid (HV1.out.stay hka)
            generalize X3.alloc (.cells #[.slice none 0 0, .int .i64 0, .slice none 0 0] 30) = X4 at *
            rw [← hbp] at HBP ⊢
            clear hka hbp
            refine wpAnyH_ready (rs := [14]) (by kernel_rfl) (by simp) ?_
            refine (AllReadyH.cons (opAt_lq rfl) (fun K hK => ?_) AllReadyH.nil)
            go_simp
            go_at_call 84
            refine (HDIG.out _ K4x.out).mono ?_
            rintro e X5 ⟨a2, n2, c2, rfl, HV2, hk, hk0⟩
            refine hK.out _ _ (HSB.out _ hk0) (fun hHeld => ?_)
            clear hK K
            try simp only [Act.put, List.setIfInBounds_toArray, List.set_cons_zero, List.set_cons_succ]
            have K5x := Lib.hid hk0
            have HZ4 := Lib.hid (Kept.size (rows := []) hk)
            have HV1 := Lib.hid (HV1.out.stay hk)
            have HBP := Lib.hid (HBP.out.stay hk)
            have HB2 := Lib.hid (show ∀ g, (Value.slice a2 n2 c2).ownBlock = some g → X4.heap.size ≤ g ∧ g < X5.heap.size from fun g hg => HV2.out.block hg)
            have HLO2 := Lib.hid K4x.out.size
            clear hk hk0
            refine wpAnyH_take (i := 15) (v := ?_) (opAt_lq rfl) (by kernel_rfl) (by kernel_rfl) (by kernel_rfl) (fun _ _ _ h => h) (Or.inl ⟨by rfl, ?_⟩) (by assumption) ?_
            rotate_left
            · intro w9 hSw
              (try dsimp only at hSw)
              go_simp
              try with_reducible rfl
            try simp only [Act.put, List.setIfInBounds_toArray, List.set_cons_zero, List.set_cons_succ]
            refine wpAnyH_ready (rs := [17]) (by kernel_rfl) (by simp) ?_
            refine (AllReadyH.cons (opAt_lq rfl) (fun K hK => ?_) AllReadyH.nil)
            obtain ⟨l0, l1, l2⟩ := HBP.out.three
            have f0 := HBP.out.frozen 0
            have f1 := HBP.out.frozen 1
            have f2 := HBP.out.frozen 2
            have hll := HBP.out.lt
            have k3 := K5x.out.set3 hZbp (.slice a1 n1 c1) (.int .i64 c) (.slice a2 n2 c2)
            go_simp
            refine hK.out _ _ (HSB.out _ k3) (fun hHeld => ?_)
            clear hK K
            try simp only [Act.put, List.setIfInBounds_toArray, List.set_cons_zero, List.set_cons_succ]
            have HBK := Lib.hid (HBP.out.set3 (.slice a1 n1 c1) (.int .i64 c) (.slice a2 n2 c2))
            have HW1 := Lib.hid ((HV1.out.kept (Kept.rows3 X5 bp (.slice a1 n1 c1) (.int .i64 c) (.slice a2 n2 c2)) (fun g hg hm => by have := HB1.out g hg; have := Hbp.out; have := HZ1.out; have := HZ2.out; have := HZ3.out; have := HZ4.out; simp at hm; omega)))
            have HW2 := Lib.hid ((HV2.out.kept (Kept.rows3 X5 bp (.slice a1 n1 c1) (.int .i64 c) (.slice a2 n2 c2)) (fun g hg hm => by have := HB2.out g hg; have := Hbp.out; have := HZ1.out; have := HZ2.out; have := HZ3.out; have := HZ4.out; simp at hm; omega)))
            have HAP : Hid (∀ g1, (Value.slice a1 n1 c1).ownBlock = some g1 → ∀ g2, (Value.slice a2 n2 c2).ownBlock = some g2 → g1 < g2) := Lib.hid (fun g1 h1 g2 h2 => by have := HB1.out g1 h1; have := HB2.out g2 h2; have := HZ1.out; have := HZ2.out; have := HZ3.out; have := HZ4.out; omega)
            have K6x := Lib.hid k3
            refine wpAnyH_done (by kernel_rfl) ?_ _
            go_wp2_with fail
            go_meet
            exact ⟨bp, a1, a2, n1, c1, n2, c2, Nt.candP many c (Nt.cut 32 (tx s)), rfl, HBK.out, HW1.out.mono HLO1.out, HW2.out.mono HLO2.out, HAP.out, HCAND.out many c HMANY.out HC2.out, K6x.out⟩
        · go_simp
          have hka : Kept [] X2 (X2.alloc (.cells #[.slice none 0 0, .int .i64 0, .slice none 0 0] 30)) := (Kept.refl _ _).alloc _
          have HBP := Lib.hid (Bk.new X2 30 #[.slice none 0 0, .int .i64 0, .slice none 0 0])
          refine hK.out _ _ (HSB.out _ (K2x.out.trans hka (by simp))) (fun hHeld => ?_)
          clear hK K
          try simp only [Act.put, List.setIfInBounds_toArray, List.set_cons_zero, List.set_cons_succ]
          obtain ⟨bp, hbp⟩ : ∃ g, g = X2.heap.size := ⟨_, rfl⟩
          have hZbp : w1.heap.size ≤ bp := by rw [hbp]; exact K2x.out.size
          have HZ2 : Hid (X2.heap.size + 1 ≤ (X2.alloc (.cells #[.slice none 0 0, .int .i64 0, .slice none 0 0] 30)).heap.size) := Lib.hid (by simp)
          have Hbp := Lib.hid hbp
          have K3x := Lib.hid (K2x.out.trans hka (by simp))
          have HV1 := Lib.hid (HV1.out.stay hka)
          generalize X2.alloc (.cells #[.slice none 0 0, .int .i64 0, .slice none 0 0] 30) = X3 at *
          rw [← hbp] at HBP ⊢
          clear hka hbp
          refine wpAnyH_ready (rs := [10]) (by kernel_rfl) (by simp) ?_
          refine (AllReadyH.cons (opAt_lq rfl) (fun K hK => ?_) AllReadyH.nil)
          go_simp
          go_at_call 83
          refine (HNUM.out _ K3x.out).mono ?_
          rintro e X4 ⟨c, rfl, HC2, hk, hk0⟩
          refine hK.out _ _ (HSB.out _ hk0) (fun hHeld => ?_)
          clear hK K
          try simp only [Act.put, List.setIfInBounds_toArray, List.set_cons_zero, List.set_cons_succ]
          have K4x := Lib.hid hk0
          have HZ3 := Lib.hid (Kept.size (rows := []) hk)
          have HV1 := Lib.hid (HV1.out.stay hk)
          have HBP := Lib.hid (HBP.out.stay hk)
          clear hk hk0
          refine wpAnyH_ready (rs := [14]) (by kernel_rfl) (by simp) ?_
          refine (AllReadyH.cons (opAt_lq rfl) (fun K hK => ?_) AllReadyH.nil)
          go_simp
          go_at_call 84
          refine (HDIG.out _ K4x.out).mono ?_
          rintro e X5 ⟨a2, n2, c2, rfl, HV2, hk, hk0⟩
          refine hK.out _ _ (HSB.out _ hk0) (fun hHeld => ?_)
          clear hK K
          try simp only [Act.put, List.setIfInBounds_toArray, List.set_cons_zero, List.set_cons_succ]
          have K5x := Lib.hid hk0
          have HZ4 := Lib.hid (Kept.size (rows := []) hk)
          have HV1 := Lib.hid (HV1.out.stay hk)
          have HBP := Lib.hid (HBP.out.stay hk)
          have HB2 := Lib.hid (show ∀ g, (Value.slice a2 n2 c2).ownBlock = some g → X4.heap.size ≤ g ∧ g < X5.heap.size from fun g hg => HV2.out.block hg)
          have HLO2 := Lib.hid K4x.out.size
          clear hk hk0
          refine wpAnyH_take (i := 15) (v := ?_) (opAt_lq rfl) (by kernel_rfl) (by kernel_rfl) (by kernel_rfl) (fun _ _ _ h => h) (Or.inl ⟨by rfl, ?_⟩) (by assumption) ?_
          rotate_left
          · intro w9 hSw
            (try dsimp only at hSw)
            go_simp
            try with_reducible rfl
          try simp only [Act.put, List.setIfInBounds_toArray, List.set_cons_zero, List.set_cons_succ]
          refine wpAnyH_ready (rs := [17]) (by kernel_rfl) (by simp) ?_
          refine (AllReadyH.cons (opAt_lq rfl) (fun K hK => ?_) AllReadyH.nil)
          obtain ⟨l0, l1, l2⟩ := HBP.out.three
          have f0 := HBP.out.frozen 0
          have f1 := HBP.out.frozen 1
          have f2 := HBP.out.frozen 2
          have hll := HBP.out.lt
          have k3 := K5x.out.set3 hZbp (.slice a1 n1 c1) (.int .i64 c) (.slice a2 n2 c2)
          go_simp
          refine hK.out _ _ (HSB.out _ k3) (fun hHeld => ?_)
          clear hK K
          try simp only [Act.put, List.setIfInBounds_toArray, List.set_cons_zero, List.set_cons_succ]
          have HBK := Lib.hid (HBP.out.set3 (.slice a1 n1 c1) (.int .i64 c) (.slice a2 n2 c2))
          have HW1 := Lib.hid ((HV1.out.kept (Kept.rows3 X5 bp (.slice a1 n1 c1) (.int .i64 c) (.slice a2 n2 c2)) (fun g hg hm => by have := HB1.out g hg; have := Hbp.out; have := HZ1.out; have := HZ2.out; have := HZ3.out; have := HZ4.out; simp at hm; omega)))
          have HW2 := Lib.hid ((HV2.out.kept (Kept.rows3 X5 bp (.slice a1 n1 c1) (.int .i64 c) (.slice a2 n2 c2)) (fun g hg hm => by have := HB2.out g hg; have := Hbp.out; have := HZ1.out; have := HZ2.out; have := HZ3.out; have := HZ4.out; simp at hm; omega)))
          have HAP : Hid (∀ g1, (Value.slice a1 n1 c1).ownBlock = some g1 → ∀ g2, (Value.slice a2 n2 c2).ownBlock = some g2 → g1 < g2) := Lib.hid (fun g1 h1 g2 h2 => by have := HB1.out g1 h1; have := HB2.out g2 h2; have := HZ1.out; have := HZ2.out; have := HZ3.out; have := HZ4.out; omega)
          have K6x := Lib.hid k3
          refine wpAnyH_done (by kernel_rfl) ?_ _
          go_wp2_with fail
          go_meet
          exact ⟨bp, a1, a2, n1, c1, n2, c2, Nt.candP many c (Nt.cut 32 (tx s)), rfl, HBK.out, HW1.out.mono HLO1.out, HW2.out.mono HLO2.out, HAP.out, HCAND.out many c HMANY.out HC2.out, K6x.out⟩
      · go_simp
        have hka : Kept [] X1 (X1.alloc (.cells #[.slice none 0 0, .int .i64 0, .slice none 0 0] 30)) := (Kept.refl _ _).alloc _
        have HBP := Lib.hid (Bk.new X1 30 #[.slice none 0 0, .int .i64 0, .slice none 0 0])
        refine hK.out _ _ (HSB.out _ (K1x.out.trans hka (by simp))) (fun hHeld => ?_)
        clear hK K
        try simp only [Act.put, List.setIfInBounds_toArray, List.set_cons_zero, List.set_cons_succ]
        obtain ⟨bp, hbp⟩ : ∃ g, g = X1.heap.size := ⟨_, rfl⟩
        have hZbp : w1.heap.size ≤ bp := by rw [hbp]; exact K1x.out.size
        have HZ1 : Hid (X1.heap.size + 1 ≤ (X1.alloc (.cells #[.slice none 0 0, .int .i64 0, .slice none 0 0] 30)).heap.size) := Lib.hid (by simp)
        have Hbp := Lib.hid hbp
        have K2x := Lib.hid (K1x.out.trans hka (by simp))
        generalize X1.alloc (.cells #[.slice none 0 0, .int .i64 0, .slice none 0 0] 30) = X2 at *
        rw [← hbp] at HBP ⊢
        clear hka hbp
        refine wpAnyH_ready (rs := [6]) (by kernel_rfl) (by simp) ?_
        refine (AllReadyH.cons (opAt_lq rfl) (fun K hK => ?_) AllReadyH.nil)
        go_simp
        go_at_call 82
        refine (HNET.out _ K2x.out).mono ?_
        rintro e X3 ⟨a1, n1, c1, many, rfl, HMANY, HV1, hk, hk0⟩
        refine hK.out _ _ (HSB.out _ hk0) (fun hHeld => ?_)
        clear hK K
        try simp only [Act.put, List.setIfInBounds_toArray, List.set_cons_zero, List.set_cons_succ]
        have K3x := Lib.hid hk0
        have HZ2 := Lib.hid (Kept.size (rows := []) hk)
        have HBP := Lib.hid (HBP.out.stay hk)
        have HB1 := Lib.hid (show ∀ g, (Value.slice a1 n1 c1).ownBlock = some g → X2.heap.size ≤ g ∧ g < X3.heap.size from fun g hg => HV1.out.block hg)
        have HLO1 := Lib.hid K2x.out.size
        clear hk hk0
        refine wpAnyH_ready (rs := [10]) (by kernel_rfl) (by simp) ?_
        refine (AllReadyH.cons (opAt_lq rfl) (fun K hK => ?_) AllReadyH.nil)
        go_simp
        go_at_call 83
        refine (HNUM.out _ K3x.out).mono ?_
        rintro e X4 ⟨c, rfl, HC2, hk, hk0⟩
        refine hK.out _ _ (HSB.out _ hk0) (fun hHeld => ?_)
        clear hK K
        try simp only [Act.put, List.setIfInBounds_toArray, List.set_cons_zero, List.set_cons_succ]
        have K4x := Lib.hid hk0
        have HZ3 := Lib.hid (Kept.size (rows := []) hk)
        have HBP := Lib.hid (HBP.out.stay hk)
        have HV1 := Lib.hid (HV1.out.stay hk)
        clear hk hk0
        refine wpAnyH_ready (rs := [14]) (by kernel_rfl) (by simp) ?_
        refine (AllReadyH.cons (opAt_lq rfl) (fun K hK => ?_) AllReadyH.nil)
        go_simp
        go_at_call 84
        refine (HDIG.out _ K4x.out).mono ?_
        rintro e X5 ⟨a2, n2, c2, rfl, HV2, hk, hk0⟩
        refine hK.out _ _ (HSB.out _ hk0) (fun hHeld => ?_)
        clear hK K
        try simp only [Act.put, List.setIfInBounds_toArray, List.set_cons_zero, List.set_cons_succ]
        have K5x := Lib.hid hk0
        have HZ4 := Lib.hid (Kept.size (rows := []) hk)
        have HBP := Lib.hid (HBP.out.stay hk)
        have HV1 := Lib.hid (HV1.out.stay hk)
        have HB2 := Lib.hid (show ∀ g, (Value.slice a2 n2 c2).ownBlock = some g → X4.heap.size ≤ g ∧ g < X5.heap.size from fun g hg => HV2.out.block hg)
        have HLO2 := Lib.hid K4x.out.size
        clear hk hk0
        refine wpAnyH_take (i := 15) (v := ?_) (opAt_lq rfl) (by kernel_rfl) (by kernel_rfl) (by kernel_rfl) (fun _ _ _ h => h) (Or.inl ⟨by rfl, ?_⟩) (by assumption) ?_
        rotate_left
        · intro w9 hSw
          (try dsimp only at hSw)
          go_simp
          try with_reducible rfl
        try simp only [Act.put, List.setIfInBounds_toArray, List.set_cons_zero, List.set_cons_succ]
        refine wpAnyH_ready (rs := [17]) (by kernel_rfl) (by simp) ?_
        refine (AllReadyH.cons (opAt_lq rfl) (fun K hK => ?_) AllReadyH.nil)
        obtain ⟨l0, l1, l2⟩ := HBP.out.three
        have f0 := HBP.out.frozen 0
        have f1 := HBP.out.frozen 1
        have f2 := HBP.out.frozen 2
        have hll := HBP.out.lt
        have k3 := K5x.out.set3 hZbp (.slice a1 n1 c1) (.int .i64 c) (.slice a2 n2 c2)
        go_simp
        refine hK.out _ _ (HSB.out _ k3) (fun hHeld => ?_)
        clear hK K
        try simp only [Act.put, List.setIfInBounds_toArray, List.set_cons_zero, List.set_cons_succ]
        have HBK := Lib.hid (HBP.out.set3 (.slice a1 n1 c1) (.int .i64 c) (.slice a2 n2 c2))
        have HW1 := Lib.hid ((HV1.out.kept (Kept.rows3 X5 bp (.slice a1 n1 c1) (.int .i64 c) (.slice a2 n2 c2)) (fun g hg hm => by have := HB1.out g hg; have := Hbp.out; have := HZ1.out; have := HZ2.out; have := HZ3.out; have := HZ4.out; simp at hm; omega)))
        have HW2 := Lib.hid ((HV2.out.kept (Kept.rows3 X5 bp (.slice a1 n1 c1) (.int .i64 c) (.slice a2 n2 c2)) (fun g hg hm => by have := HB2.out g hg; have := Hbp.out; have := HZ1.out; have := HZ2.out; have := HZ3.out; have := HZ4.out; simp at hm; omega)))
        have HAP : Hid (∀ g1, (Value.slice a1 n1 c1).ownBlock = some g1 → ∀ g2, (Value.slice a2 n2 c2).ownBlock = some g2 → g1 < g2) := Lib.hid (fun g1 h1 g2 h2 => by have := HB1.out g1 h1; have := HB2.out g2 h2; have := HZ1.out; have := HZ2.out; have := HZ3.out; have := HZ4.out; omega)
        have K6x := Lib.hid k3
        refine wpAnyH_done (by kernel_rfl) ?_ _
        go_wp2_with fail
        go_meet
        exact ⟨bp, a1, a2, n1, c1, n2, c2, Nt.candP many c (Nt.cut 32 (tx s)), rfl, HBK.out, HW1.out.mono HLO1.out, HW2.out.mono HLO2.out, HAP.out, HCAND.out many c HMANY.out HC2.out, K6x.out⟩
    case rest =>
      clear HSB HNET HNUM HDIG HCAND x0 x1 x2 x3
      obtain ⟨bp, a1, a2, n1, c1, n2, c2, P, rfl, hbk, hs1, hs2, hap, hcd, hkc⟩ := hcut
      have HS1 := Lib.hid hs1
      have HS2 := Lib.hid hs2
      have HAP := Lib.hid hap
      have HP := Lib.hid (Nt.readP_prog (x := P) (t := tx s) HCL.out hcd)
      have HRC := Lib.hid (HR1.out.stay hkc)
      have HBC := Lib.hid hbk
      have HKC := Lib.hid (HK1.out.trans hkc (by simp))
      have HW1 := Lib.hid HK1.out.size
      have HGR := Lib.hid HR1.out.lt
      obtain ⟨r0, r1, r2⟩ := hbk.three
      clear hs1 hs2 hap hcd hkc hbk HR1 HK1
      go_wp2_with fail
      refine (iPlaceText_any P _ _ _ ⟨_, _, rfl, HS1.out, HS2.out⟩).mono ?_
      rintro e w6 ⟨z, rfl, hz, hk6⟩
      have HR6 := Lib.hid (HRC.out.stay hk6)
      have HB6 := Lib.hid (HBC.out.stay hk6)
      have HK6 := Lib.hid (HKC.out.trans hk6 (by simp))
      have HS16 := Lib.hid (HS1.out.stay hk6)
      have HS26 := Lib.hid (HS2.out.stay hk6)
      clear r0 r1 r2 hk6 HRC HBC HKC
      obtain ⟨r0, r1, r2⟩ := HB6.out.three
      obtain ⟨q0, q1, q2⟩ := HR6.out.three
      have f0 := HR6.out.frozen 0
      have f1 := HR6.out.frozen 1
      have f2 := HR6.out.frozen 2
      have hrl := HR6.out.lt
      by_cases hzs : Nt.ptxt P = tx s
      · have d1 : (z.toList == s.toList) = true := str_yes (by rw [hz, hzs])
        have HRB : Hid (Nt.readPB (tx s) = true) := Lib.hid (by rw [HP.out.1, decide_eq_true hzs])
        have HRI : Hid (Nt.readPI (tx s) = P) := Lib.hid (HP.out.2 hzs)
        clear hz hzs
        go_wp2
        (try simp only [Exit.inBlock, Exit.then])
        refine bodyPost_ret (v := .tuple #[.agg #[.slice a1 n1 c1, .int .i64 P.c, .slice a2 n2 c2], .bool true]) ?_ rfl ?_
        · rw [results_cell_tmp rfl]
          simp [asAddr, ret_place (HR6.out.set3 _ _ _)]
        · rw [HRB.out]
          refine ⟨_, rfl, .inr ⟨HRB.out, ?_⟩, HK6.out.set3 (Nat.le_refl _) _ _ _⟩
          have hne := readP_ne HRB.out
          rw [HRI.out] at hne ⊢
          obtain ⟨g1, q1, e1, _, _⟩ := HS16.out.shape rfl hne.1
          obtain ⟨g2, q2, e2, _, _⟩ := HS26.out.shape rfl hne.2
          simp only [Value.slice.injEq] at e1 e2
          obtain ⟨rfl, rfl, rfl⟩ := e1
          obtain ⟨rfl, rfl, rfl⟩ := e2
          have t1 := (HS16.out.kept (Kept.rows3 w6 w.heap.size (.slice (some ⟨g1, 0, none⟩) P.ns.length c1) (.int .i64 P.c) (.slice (some ⟨g2, 0, none⟩) P.ks.length c2)) (fun g hg hm => by have := (HS16.out.block hg).1; have := HW1.out; have := HGR.out; simp at hm; omega)).mono HW1.out
          have t2 := (HS26.out.kept (Kept.rows3 w6 w.heap.size (.slice (some ⟨g1, 0, none⟩) P.ns.length c1) (.int .i64 P.c) (.slice (some ⟨g2, 0, none⟩) P.ks.length c2)) (fun g hg hm => by have := (HS26.out.block hg).1; have := HW1.out; have := HGR.out; simp at hm; omega)).mono HW1.out
          exact ⟨g1, c1, g2, c2, rfl, t1, t2, HAP.out g1 rfl g2 rfl⟩
      · have d1 : (z.toList == s.toList) = false := str_no (by rw [hz]; exact hzs)
        have HRB : Hid (Nt.readPB (tx s) = false) := Lib.hid (by rw [HP.out.1, decide_eq_false hzs])
        clear hz hzs
        go_wp2
        (try simp only [Exit.inBlock, Exit.then])
        refine bodyPost_ret (v := .tuple #[.agg #[.slice none 0 0, .int .i64 0, .slice none 0 0], .bool false]) ?_ rfl ?_
        · rw [results_cell_tmp rfl]
          simp [asAddr, ret_place (HR6.out.set3 _ _ _)]
        · rw [HRB.out]
          exact ⟨_, rfl, .inl ⟨HRB.out, rfl, readP_miss HRB.out⟩, HK6.out.set3 (Nat.le_refl _) _ _ _⟩
  · have d4 : ((L : Int) != 4) = true := by simp; omega
    have HNO := Lib.hid (readP_four (t := tx s) (by rw [HCL.out]; exact h4))
    obtain ⟨q0, q1, q2⟩ := HR1.out.three
    have f0 := HR1.out.frozen 0
    have f1 := HR1.out.frozen 1
    have f2 := HR1.out.frozen 2
    have hrl := HR1.out.lt
    clear h4
    go_wp2
    (try simp only [Exit.inBlock, Exit.then])
    refine bodyPost_ret (v := .tuple #[.agg #[.slice none 0 0, .int .i64 0, .slice none 0 0], .bool false]) ?_ rfl ?_
    · rw [results_cell_tmp rfl]
      simp [asAddr, ret_place (HR1.out.set3 _ _ _)]
    · rw [HNO.out.1]
      exact ⟨_, rfl, .inl ⟨HNO.out.1, rfl, HNO.out.2⟩, HK1.out.set3 (Nat.le_refl _) _ _ _⟩

theorem iReadPlace_any (s : ByteArray) (hs : s.size ≤ 1100000) (w : World) (he : ErrW w) :
    Calls Tryz.prog 31 #[.string s] w fun e w' => ∃ y, e = .returned (.tuple #[y, .bool (Nt.readPB (tx s))]) ∧ Pv w' w.heap.size y (Nt.readPI (tx s)) ∧ Kept [] w w' :=
  (iReadPlaceA_any s hs w he).mono (by rintro e w' ⟨y, rfl, h, hk⟩; exact ⟨y, rfl, h.pv, hk⟩)
end Go.Proofs.YtnajdbnacdnnlaaGreatDoor
