/-
  Numbers, digits and nets read of texts, by the program.
-/
import Derived.Test.YtnajdbnacdnnlaaGreatDoorIQ1
import Derived.Test.YtnajdbnacdnnlaaGreatDoorIPD
import Derived.Test.YtnajdbnacdnnlaaGreatDoorINZ
import Derived.Test.YtnajdbnacdnnlaaGreatDoorNA
import Derived.Test.YtnajdbnacdnnlaaGreatDoorPureRP
import Derived.Test.YtnajdbnacdnnlaaGreatDoorNB
namespace Go.Proofs.YtnajdbnacdnnlaaGreatDoor
open Go.RowKit

set_option maxHeartbeats 1000000 in
set_option maxRecDepth 100000 in
theorem numberIn_any (s : ByteArray) (hs : s.size ≤ 2000000) (w : World) (he : ErrW w) :
    Calls Tryz.prog 83 #[.string s] w fun e w' => ∃ v : Int, e = .returned (.int .i64 v) ∧ Nt.NumOf (tx s) v ∧ Kept [] w w' := by
  have HE := Lib.hid he
  have HS := Lib.hid hs
  clear he hs
  go_enter Tryz.func83, Tryz.ntmps83
  go_wp2_with fail
  refine (atoiN_any s HS.out _ HE.out).mono ?_
  rintro e w1 ⟨v, ev, rfl, hev, hn, hk⟩
  have HN := Lib.hid hn
  have HK := Lib.hid hk
  clear hn hk
  rcases hev with rfl | ⟨t, p, rfl⟩
  all_goals
    go_wp2
    go_ret
    exact ⟨_, rfl, HN.out, HK.out⟩

set_option maxHeartbeats 1000000 in
set_option maxRecDepth 100000 in
theorem addWireZ_any (ns : List Nat) (a b : Nat) (ha : a < ns.length) (hb : b < ns.length) (h6 : ns.length ≤ 6) (hx : ns.getD a 0 < 64) (hy : (ns.set a (ns.getD a 0 ||| 2 ^ b)).getD b 0 < 64) (w : World) (v : Value) (base : Nat) (hs : Sl w base v (Nt.nats ns)) :
    Calls Tryz.prog 141 #[v, .int .i64 a, .int .i64 b] w fun e w' => e = .returned (.tuple #[]) ∧ Sl w' base v (Nt.nats (Nt.wire ns a b)) ∧ Kept v.ownBlock.toList w w' := by
  obtain ⟨g, cap, rfl, hg, hgs⟩ := hs.shape (Nt.nats_length ns) (by omega)
  obtain ⟨ca, fa⟩ := hs.at a (by rw [Nt.nats_length]; exact ha)
  rw [Nt.nats_get] at ca
  have HS := Lib.hid hs
  generalize hxe : ns.getD a 0 = x at *
  generalize hye : (ns.set a (x ||| 2 ^ b)).getD b 0 = y at *
  have HX := Lib.hid hxe
  have HYB := Lib.hid hye
  clear hs hxe hye
  have e1 := or_shl x b hx (by omega)
  have e2 := or_shl y a hy (by omega)
  have hs1 : Sl (w.setCell ⟨g, a, none⟩ (.int .i64 ((x ||| 2 ^ b : Nat) : Int))).drew base (.slice (some ⟨g, 0, none⟩) ns.length cap) (Nt.nats (ns.set a (x ||| 2 ^ b))) := by
    have h := HS.out.set (Nt.nats_length ns).symm a ((x ||| 2 ^ b : Nat) : Int)
    rw [Nt.nats_set]
    exact h
  have hk1 : Kept [g] w (w.setCell ⟨g, a, none⟩ (.int .i64 ((x ||| 2 ^ b : Nat) : Int))).drew := ((Kept.refl _ _).setCell (.inl (by simp)) _).drew
  have HS1 := Lib.hid hs1
  have HK1 := Lib.hid hk1
  clear hs1 hk1
  go_enter Tryz.func141, Tryz.ntmps141
  go_wp2
  go_region
  clear e1
  generalize (w.setCell ⟨g, a, none⟩ (.int .i64 ((x ||| 2 ^ b : Nat) : Int))).drew = w1 at *
  obtain ⟨cb1, fb1⟩ := HS1.out.at b (by rw [Nt.nats_length]; simpa using hb)
  rw [Nt.nats_get, HYB.out] at cb1
  clear ca fa
  go_wp2
  go_region
  go_end0
  refine ⟨rfl, ?_, (HK1.out.setCell (.inl (by simp)) _).drew⟩
  have h := HS1.out.set (by rw [Nt.nats_length, List.length_set]) b ((y ||| 2 ^ a : Nat) : Int)
  unfold Nt.wire
  rw [HX.out, HYB.out, Nt.nats_set]
  exact h

set_option maxHeartbeats 2000000 in
set_option maxRecDepth 100000 in
theorem readDigits_any (s : ByteArray) (hs : s.size ≤ 1100000) (w : World) :
    Calls Tryz.prog 84 #[.string s] w fun e w' => ∃ u, e = .returned u ∧ Sl w' w.heap.size u (Nt.offs48 (tx s)) ∧ Kept [] w w' := by
  have HOL : Hid ((Nt.offs48 (tx s)).length = s.size) := Lib.hid (by rw [Nt.offs48_length, tx_length])
  go_enter Tryz.func84, Tryz.ntmps84
  go_wp2_with (at_make; refine make_int _ s.size rfl _ _ rfl rfl rfl (by omega) ?_; intro w2 hs2 hk2 _; have HS2 := Lib.hid hs2; have HK2 := Lib.hid hk2; clear hs2 hk2)
  go_loopw [10] (fun i wr => ∃ (k : Nat) (xs : List Int), k ≤ s.size ∧ i = .int .i64 k ∧ Sl wr w.heap.size (.slice (some ⟨w.heap.size, 0, none⟩) s.size s.size) xs ∧ xs.length = s.size ∧ (∀ j, j < k → xs.getD j 0 = (((tx s).getD j 0 : Nat) : Int) - 48) ∧ Kept [] w wr) (fun i _ => s.size - (intOf i).toNat)
  case atStart => exact ⟨0, _, Nat.zero_le _, rfl, HS2.out, by simp, fun j hj => absurd hj (by omega), HK2.out⟩
  case round =>
    clear HS2 HK2
    obtain ⟨k, xs, hk, rfl, hsl, hxl, hxt, hkept⟩ := hrel
    have HSL := Lib.hid hsl
    have HXL := Lib.hid hxl
    have HXT := Lib.hid hxt
    have HK := Lib.hid hkept
    by_cases hlt : k < s.size
    · obtain ⟨q1, q2⟩ := hsl.at k (by rw [hxl]; exact hlt)
      obtain ⟨bb, hbb⟩ : ∃ bb, s[k].toNat = bb := ⟨_, rfl⟩
      have hb256 : bb < 256 := by rw [← hbb]; exact s[k].toNat_lt
      have HX : Hid ((tx s).getD k 0 = bb) := Lib.hid (by rw [tx_get hlt, hbb])
      have q0 : -9223372036854775808 ≤ (bb : Int) ∧ (bb : Int) ≤ 9223372036854775807 := by omega
      have q5 : -9223372036854775808 ≤ (bb : Int) - 48 ∧ (bb : Int) - 48 ≤ 9223372036854775807 := by omega
      have v1 : IntKind.i64.wrap ((bb : Int) - 48) = (bb : Int) - 48 := IntWalk.i64_in _ q5
      have v2 : IntKind.i64.wrap (bb : Int) = (bb : Int) := IntWalk.i64_in _ q0
      have v3 : wrap64 ((bb : Int) - 48) = (bb : Int) - 48 := IntWalk.wrap64_in _ q5
      have v4 : wrap64 (bb : Int) = (bb : Int) := IntWalk.wrap64_in _ q0
      have HNX : Hid (∀ j, j < k + 1 → (xs.set k ((bb : Int) - 48)).getD j 0 = (((tx s).getD j 0 : Nat) : Int) - 48) := Lib.hid (fun j hj => by
        rw [List.getD_eq_getElem?_getD, List.getElem?_set]
        by_cases e : k = j
        · subst e; rw [HX.out]; simp [HXL.out, hlt]
        · rw [if_neg e, ← List.getD_eq_getElem?_getD]; exact HXT.out j (by omega))
      clear q0 q5 hb256 hsl hxl hxt hkept
      go_wp2
      go_roundw
      case rel => exact ⟨k + 1, _, by omega, by go_num, HSL.out.set HXL.out.symm k ((bb : Int) - 48), by rw [List.length_set]; exact HXL.out, HNX.out, HK.out.setCell (.inr (Nat.le_refl _)) _⟩
      case measure => simp [intOf]; omega
    · have hk' : s.size = k := by omega
      have HALL : Hid (xs = Nt.offs48 (tx s)) := Lib.hid (by
        apply List.ext_getElem (by rw [hxl, HOL.out])
        intro i h1 h2
        have h3 := hxt i (by omega)
        rw [List.getD_eq_getElem?_getD, List.getElem?_eq_getElem h1, Option.getD_some] at h3
        have h4 : i < (tx s).length := by rw [tx_length]; omega
        rw [h3, List.getD_eq_getElem?_getD, List.getElem?_eq_getElem h4, Option.getD_some]
        simp [Nt.offs48])
      clear hsl hxl hxt hkept hk'
      go_wp2
      go_ret
      exact ⟨_, rfl, by rw [← HALL.out]; exact HSL.out, HK.out⟩

theorem lay_step {many : Nat} {ms0 : List Nat} {ps : List (List Nat)} {k : Nat} (hk : k < ps.length) {p : List Nat} (hp : ps.getD k [] = p) :
    Nt.layP many ms0 (ps.take (k + 1)) = if p.length = 2 ∧ (48 ≤ p.getD 0 0 ∧ p.getD 0 0 < 48 + many) ∧ (48 ≤ p.getD 1 0 ∧ p.getD 1 0 < 48 + many) then Nt.wire (Nt.layP many ms0 (ps.take k)) (p.getD 0 0 - 48) (p.getD 1 0 - 48) else Nt.layP many ms0 (ps.take k) := by
  rw [List.take_succ_eq_append_getElem hk, Nt.layP_snoc]
  have e : ps[k] = p := by rw [← hp, List.getD_eq_getElem?_getD, List.getElem?_eq_getElem hk]; rfl
  rw [e]
theorem lay_small {many : Nat} (h6 : many ≤ 6) : ∀ (ps : List (List Nat)) (ms : List Nat), ms.length = many → (∀ j, j < many → ms.getD j 0 < 64) → ∀ j, j < many → (Nt.layP many ms ps).getD j 0 < 64
  | [], _, _, h => h
  | p :: ps, ms, hl, h => by
    unfold Nt.layP
    by_cases hp : p.length = 2 ∧ (48 ≤ p.getD 0 0 ∧ p.getD 0 0 < 48 + many) ∧ (48 ≤ p.getD 1 0 ∧ p.getD 1 0 < 48 + many)
    · rw [if_pos hp]
      exact lay_small h6 ps _ (by rw [Nt.wire_length]; exact hl) (Nt.wire_small hl h (by omega) (by omega))
    · rw [if_neg hp]
      exact lay_small h6 ps _ hl h
theorem set_small {ms : List Nat} {n a b : Nat} (hl : ms.length = n) (h : ∀ j, j < n → ms.getD j 0 < 64) (ha : a < n) (hb : b < n) (h6 : n ≤ 6) : (ms.set a (ms.getD a 0 ||| 2 ^ b)).getD b 0 < 64 := by
  rw [List.getD_eq_getElem?_getD, List.getElem?_set]
  by_cases e : a = b
  · subst e
    rw [if_pos rfl, if_pos (by omega), Option.getD_some]
    have h1 := h a ha
    have h2 : (2 : Nat) ^ a < 2 ^ 6 := Nat.pow_lt_pow_right (by omega) (by omega)
    exact Nat.or_lt_two_pow (n := 6) h1 h2
  · rw [if_neg e, ← List.getD_eq_getElem?_getD]
    exact h b hb

theorem two_of {l : List Nat} (h : l.length = 2) : ∃ x y, l = [x, y] := match l, h with
  | [x, y], _ => ⟨x, y, rfl⟩

set_option maxHeartbeats 4000000 in
set_option maxRecDepth 100000 in
theorem readNet_any (s1 s2 : ByteArray) (h1 : s1.size ≤ 1100000) (h2 : s2.size ≤ 1100000) (w : World) (he : ErrW w) :
    Calls Tryz.prog 82 #[.string s1, .string s2] w fun e w' => ∃ (v : Value) (many : Int), e = .returned v ∧ Nt.NumOf (tx s1) many ∧
      Sl w' w.heap.size v (if 1 ≤ many ∧ many ≤ 6 then Nt.nats (Nt.layP many.toNat (List.replicate many.toNat 0) (Nt.cut 44 (tx s2))) else []) ∧ Kept [] w w' := by
  have HE := Lib.hid he
  have HS1 := Lib.hid h1
  have HS2 := Lib.hid h2
  clear he h1 h2
  go_enter Tryz.func82, Tryz.ntmps82
  go_wp2_with fail
  refine (numberIn_any s1 (by have := HS1.out; omega) _ HE.out).mono ?_
  rintro e w1 ⟨many, rfl, hn, hk1⟩
  have HN := Lib.hid hn
  have HK1 := Lib.hid hk1
  have HE1 := Lib.hid (HE.out.stay hk1)
  clear hn hk1
  go_wp2_with fail
  refine (nodesOk_any many _).mono ?_
  rintro e w' ⟨rfl, rfl⟩
  by_cases hm : 1 ≤ many ∧ many ≤ 6
  · obtain ⟨m, rfl⟩ := Int.eq_ofNat_of_zero_le (show 0 ≤ many by omega)
    have hm1 : 1 ≤ m := by omega
    have hm6 : m ≤ 6 := by omega
    have HIF := Lib.hid hm
    rw [show decide (1 ≤ (m : Int) ∧ (m : Int) ≤ 6) = true from dec_of hm]
    clear hm
    go_wp2_with (first
      | (at_make; refine make_int _ m rfl _ _ rfl rfl rfl (by omega) ?_; intro w2 hs2 hk2 hz2; have HZ2 := Lib.hid hz2; have HM2 := Lib.hid hs2; have HK2 := Lib.hid hk2; have HE2 := Lib.hid (HE1.out.stay hk2); clear hs2 hk2 hz2))
    refine (split_any s2 (by have := HS2.out; omega) _ HE2.out).mono ?_
    rintro e w3 ⟨g, n, ps, rfl, hps, hpl, hpm, hk3⟩
    have HG := Lib.hid (hps.block (g := g) rfl).2
    have HCELL : Hid (∀ k, k < n → w3.cell? ⟨g, k, none⟩ = some (.string (atT ps k))) := Lib.hid (fun k hk => (hps.at k (by rw [hpl]; exact hk)).1)
    have HCL : Hid ((Nt.cut 44 (tx s2)).length = n) := Lib.hid (by rw [← hpm, List.length_map, hpl])
    have HPART : Hid (∀ k, k < n → (Nt.cut 44 (tx s2)).getD k [] = tx (atT ps k) ∧ (atT ps k).size ≤ 1100000) := Lib.hid (fun k hk => by
      have hk' : k < ps.length := by rw [hpl]; exact hk
      have e : (Nt.cut 44 (tx s2)).getD k [] = tx (atT ps k) := by
        rw [← hpm, List.getD_eq_getElem?_getD, List.getElem?_map, List.getElem?_eq_getElem hk', atT_get hk']; rfl
      refine ⟨e, ?_⟩
      have hmem : tx (atT ps k) ∈ Nt.cut 44 (tx s2) := by
        rw [← hpm, atT_get hk']
        exact List.mem_map.2 ⟨_, List.getElem_mem hk', rfl⟩
      have h := cut_part 44 (tx s2) _ hmem
      rw [tx_length, tx_length] at h
      exact Nat.le_trans h HS2.out)
    have HNB : Hid (n ≤ 1100001) := Lib.hid (by
      have h1 := Nt.cut_length 44 (tx s2)
      rw [HCL.out, tx_length] at h1
      have := HS2.out
      omega)
    have hnb := HNB.out
    have HSM : Hid (∀ k j, j < m → (Nt.layP m (List.replicate m 0) ((Nt.cut 44 (tx s2)).take k)).getD j 0 < 64) := Lib.hid (fun k j hj => lay_small hm6 _ _ (by simp) (fun i hi => by simp [List.getD_eq_getElem?_getD, hi]) j hj)
    have HLN : Hid (∀ k, (Nt.layP m (List.replicate m 0) ((Nt.cut 44 (tx s2)).take k)).length = m) := Lib.hid (fun k => by rw [Nt.layP_length]; simp)
    have HST : Hid (∀ k, k < n → ∀ p, (Nt.cut 44 (tx s2)).getD k [] = p → Nt.layP m (List.replicate m 0) ((Nt.cut 44 (tx s2)).take (k + 1)) = if p.length = 2 ∧ (48 ≤ p.getD 0 0 ∧ p.getD 0 0 < 48 + m) ∧ (48 ≤ p.getD 1 0 ∧ p.getD 1 0 < 48 + m) then Nt.wire (Nt.layP m (List.replicate m 0) ((Nt.cut 44 (tx s2)).take k)) (p.getD 0 0 - 48) (p.getD 1 0 - 48) else Nt.layP m (List.replicate m 0) ((Nt.cut 44 (tx s2)).take k)) := Lib.hid (fun k hk p hp => lay_step (by rw [HCL.out]; exact hk) hp)
    have HEND : Hid (Nt.layP m (List.replicate m 0) ((Nt.cut 44 (tx s2)).take n) = Nt.layP m (List.replicate m 0) (Nt.cut 44 (tx s2))) := Lib.hid (by rw [← HCL.out, List.take_length])
    have HM3 : Hid (Sl w3 w1.heap.size (.slice (some ⟨w1.heap.size, 0, none⟩) m m) (Nt.nats (Nt.layP m (List.replicate m 0) ((Nt.cut 44 (tx s2)).take 0)))) := Lib.hid (by
      have h := HM2.out.stay hk3
      show Sl w3 w1.heap.size (.slice (some ⟨w1.heap.size, 0, none⟩) m m) (Nt.nats (List.replicate m 0))
      have e : Nt.nats (List.replicate m 0) = List.replicate m 0 := by simp [Nt.nats]
      rw [e]
      exact h)
    have HK3 := Lib.hid (HK2.out.trans hk3 (by simp))
    have HGN : Hid (¬ g ∈ [w1.heap.size]) := Lib.hid (by
      have h1 := (hps.block (g := g) rfl).1
      have h2 := HZ2.out
      simp; omega)
    have HW13 := Lib.hid ((HK1.out).size)
    clear hps hpl hpm hk3 HM2 HK2 HE2
    go_wp2_with fail
    go_loopw [20] (fun i wr => ∃ (k : Nat), k ≤ n ∧ i = .int .i64 k ∧ Sl wr w1.heap.size (.slice (some ⟨w1.heap.size, 0, none⟩) m m) (Nt.nats (Nt.layP m (List.replicate m 0) ((Nt.cut 44 (tx s2)).take k))) ∧ Kept [w1.heap.size] w3 wr) (fun i _ => n - (intOf i).toNat)
    case atStart => exact ⟨0, Nat.zero_le _, rfl, HM3.out, Kept.refl _ _⟩
    case round =>
      clear HM3
      obtain ⟨k, hk, rfl, hsl, hkept⟩ := hrel
      have HSL := Lib.hid hsl
      have HK := Lib.hid hkept
      by_cases hlt : k < n
      · have ck := (hkept.cell (p := ⟨g, k, none⟩) HG.out HGN.out).trans (HCELL.out k hlt)
        obtain ⟨hp, hpz⟩ := HPART.out k hlt
        have HPZ := Lib.hid hpz
        have HST1 := Lib.hid (HST.out k hlt _ hp)
        have HSMk := Lib.hid (fun j hj => HSM.out k j hj)
        have HLNk := Lib.hid (HLN.out k)
        generalize Nt.layP m (List.replicate m 0) ((Nt.cut 44 (tx s2)).take k) = ms at *
        generalize hm2 : Nt.layP m (List.replicate m 0) ((Nt.cut 44 (tx s2)).take (k + 1)) = ms2 at *
        have HM2E := Lib.hid hm2
        clear hm2
        generalize atT ps k = part at *
        clear hp hpz hsl hkept
        go_wp2_with fail
        refine (readDigits_any part HPZ.out _).mono ?_
        rintro e w5 ⟨u, rfl, hu, hk5⟩
        have HU := Lib.hid hu
        have HSL5 := Lib.hid (HSL.out.stay hk5)
        have HK5 := Lib.hid (HK.out.trans hk5 (by simp))
        by_cases h2 : part.size = 2
        · obtain ⟨x, y, hxy⟩ : ∃ x y, tx part = [x, y] := by
            have h := tx_length part
            rw [h2] at h
            exact two_of h
          have e1 : Nt.offs48 (tx part) = [(x : Int) - 48, (y : Int) - 48] := by rw [hxy]; rfl
          rw [e1] at HU hu
          rw [hxy] at HST1
          obtain ⟨gu, cu, rfl, _, _⟩ := hu.shape (n := 2) rfl (by omega)
          obtain ⟨X, hX⟩ : ∃ X, X = (x : Int) - 48 := ⟨_, rfl⟩
          obtain ⟨Y, hY⟩ : ∃ Y, Y = (y : Int) - 48 := ⟨_, rfl⟩
          rw [← hX, ← hY] at HU
          have p0 : w5.cell? ⟨gu, 0, none⟩ = some (.int .i64 X) := (HU.out.at 0 (by simp)).1
          have p1 : w5.cell? ⟨gu, 1, none⟩ = some (.int .i64 Y) := (HU.out.at 1 (by simp)).1
          have HX := Lib.hid hX
          have HY := Lib.hid hY
          clear hu hk5 ck e1 hxy h2 hX hY
          by_cases hA : 0 ≤ X ∧ X < (m : Int)
          · by_cases hB : 0 ≤ Y ∧ Y < (m : Int)
            · obtain ⟨a, rfl⟩ := Int.eq_ofNat_of_zero_le hA.1
              obtain ⟨b, rfl⟩ := Int.eq_ofNat_of_zero_le hB.1
              have HMS : Hid (ms2 = Nt.wire ms a b) := Lib.hid (by
                have h1 := HX.out
                have h2 := HY.out
                rw [HST1.out, if_pos ⟨rfl, ⟨by simp; omega, by simp; omega⟩, ⟨by simp; omega, by simp; omega⟩⟩]
                have e1 : [x, y].getD 0 0 - 48 = a := by simp; omega
                have e2 : [x, y].getD 1 0 - 48 = b := by simp; omega
                rw [e1, e2])
              have HAB : Hid (a < m ∧ b < m) := Lib.hid ⟨by omega, by omega⟩
              rw [show ((a : Nat) : Int) = (a : Int) from rfl] at p0
              have dA : decide (0 ≤ (a : Int) ∧ (a : Int) < (m : Int)) = true := dec_of hA
              have dB : decide (0 ≤ (b : Int) ∧ (b : Int) < (m : Int)) = true := dec_of hB
              clear hA hB
              go_wp2_with fail
              refine (isNodeZ_any m (a : Int) _).mono ?_
              rintro e w' ⟨rfl, rfl⟩
              rw [dA]
              go_wp2_with fail
              refine (isNodeZ_any m (b : Int) _).mono ?_
              rintro e w' ⟨rfl, rfl⟩
              rw [dB]
              go_wp2_with fail
              go_region_law (go_simp; go_at_call 141; refine (addWireZ_any ms a b (by rw [HLNk.out]; exact HAB.out.1) (by rw [HLNk.out]; exact HAB.out.2) (by rw [HLNk.out]; omega) (HSMk.out a HAB.out.1) (set_small HLNk.out HSMk.out HAB.out.1 HAB.out.2 hm6) _ _ _ (HSL5.out.stay (by repeat (first | exact Kept.refl _ _ | apply Kept.alloc | apply Kept.drew)))).mono ?_; rintro e w6 ⟨rfl, hs6, hk6⟩; have HS6 := Lib.hid hs6; have HK6 : Hid (Kept [w1.heap.size] w3 w6) := Lib.hid (HK5.out.drew.trans hk6 (fun q hq => .inl hq)); clear hs6 hk6)
              all_goals
                go_wp2
                first
                  | (refine ⟨⟨k + 1, by omega, by go_num, ?_, HK6.out⟩, ?_⟩
                     · rw [HM2E.out, HMS.out]; exact HS6.out
                     · simp [intOf]; omega)
                  | (go_roundw
                     case rel => exact ⟨k + 1, by omega, by go_num, by rw [HM2E.out, HMS.out]; exact HS6.out, HK6.out⟩
                     case measure => simp [intOf]; omega)
            · have HMS : Hid (ms2 = ms) := Lib.hid (by
                rw [HST1.out, if_neg]
                rintro ⟨_, _, h3, h4⟩
                have h2 := HY.out
                simp at h3 h4
                omega)
              have dA : decide (0 ≤ X ∧ X < (m : Int)) = true := dec_of hA
              have dB : decide (0 ≤ Y ∧ Y < (m : Int)) = false := dec_not hB
              clear hA hB
              go_wp2_with fail
              refine (isNodeZ_any m X _).mono ?_
              rintro e w' ⟨rfl, rfl⟩
              rw [dA]
              go_wp2_with fail
              refine (isNodeZ_any m Y _).mono ?_
              rintro e w' ⟨rfl, rfl⟩
              rw [dB]
              go_wp2
              go_roundw
              case rel => exact ⟨k + 1, by omega, by go_num, by rw [HM2E.out, HMS.out]; exact HSL5.out, HK5.out⟩
              case measure => simp [intOf]; omega
          · have HMS : Hid (ms2 = ms) := Lib.hid (by
              rw [HST1.out, if_neg]
              rintro ⟨_, ⟨h3, h4⟩, _⟩
              have h2 := HX.out
              simp at h3 h4
              omega)
            have dA : decide (0 ≤ X ∧ X < (m : Int)) = false := dec_not hA
            clear hA
            go_wp2_with fail
            refine (isNodeZ_any m X _).mono ?_
            rintro e w' ⟨rfl, rfl⟩
            rw [dA]
            go_wp2
            go_roundw
            case rel => exact ⟨k + 1, by omega, by go_num, by rw [HM2E.out, HMS.out]; exact HSL5.out, HK5.out⟩
            case measure => simp [intOf]; omega
        · have HMS : Hid (ms2 = ms) := Lib.hid (by
            rw [HST1.out, if_neg]
            rintro ⟨h3, _⟩
            rw [tx_length] at h3
            exact h2 h3)
          have HOL : Hid ((Nt.offs48 (tx part)).length = part.size) := Lib.hid (by rw [Nt.offs48_length, tx_length])
          obtain ⟨L, hL⟩ : ∃ L, (Nt.offs48 (tx part)).length = L := ⟨_, rfl⟩
          obtain ⟨au, cu, rfl, _, _, _⟩ := hu.any
          rw [hL] at HU HOL ⊢
          have d1 : ((L : Int) == 2) = false := beq_eq_false_iff_ne.2 (by have := HOL.out; omega)
          clear hu hk5 ck h2 hL
          go_wp2
          go_roundw
          case rel => exact ⟨k + 1, by omega, by go_num, by rw [HM2E.out, HMS.out]; exact HSL5.out, HK5.out⟩
          case measure => simp [intOf]; omega
      · have hk' : n = k := by omega
        subst hk'
        have HF : Hid (Sl wr w1.heap.size (.slice (some ⟨w1.heap.size, 0, none⟩) m m) (Nt.nats (Nt.layP m (List.replicate m 0) (Nt.cut 44 (tx s2))))) := Lib.hid (by rw [← HEND.out]; exact hsl)
        clear hsl hkept
        go_wp2
        go_ret
        exact ⟨_, _, rfl, HN.out, by rw [if_pos HIF.out, Int.toNat_natCast]; exact HF.out.mono HW13.out, HK1.out.trans (HK3.out.trans HK.out (fun q hq => .inr (by simp at hq; omega))) (by simp)⟩
  · have HIF := Lib.hid hm
    rw [show decide (1 ≤ many ∧ many ≤ 6) = false from dec_not hm]
    clear hm
    go_wp2_with fail
    go_ret
    exact ⟨_, many, rfl, HN.out, by rw [if_neg HIF.out]; exact Sl.nil _ _, HK1.out⟩
end Go.Proofs.YtnajdbnacdnnlaaGreatDoor
