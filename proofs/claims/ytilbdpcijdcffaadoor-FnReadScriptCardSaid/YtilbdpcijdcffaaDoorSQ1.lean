/-
  Walks: texts of scripts, by the program.
-/
import Derived.Test.YtilbdpcijdcffaaDoorSP2
import Derived.Test.YtilbdpcijdcffaaDoorSH
import Derived.Test.YtilbdpcijdcffaaDoorLgD
namespace Go.Proofs.YtilbdpcijdcffaaDoor
open Go.RowKit

set_option maxHeartbeats 2000000 in
set_option maxRecDepth 100000 in
theorem iScriptText_any (n : Int) (xs : List (Int × Int)) (w : World) (v : Value) (base : Nat) (hs : Sg w base v xs) :
    Calls Tryd.prog 6 #[.int .i64 n, v] w fun e w' => ∃ z, e = .returned (.string z) ∧ tx z = Nt.textOf n xs ∧ Kept [] w w' := by
  have HS := Lib.hid hs
  obtain ⟨a, cap, rfl, _, hm, _⟩ := hs.any
  clear hs
  go_enter Tryd.func6, Tryd.ntmps6
  go_wp2_with fail
  refine (iScriptOk_any n xs _ _ _ HS.out).mono ?_
  rintro e w1 ⟨rfl, hk1⟩
  have HK1 := Lib.hid hk1
  have HS1 := Lib.hid (HS.out.stay hk1)
  clear hk1 HS
  cases h1 : Nt.scB n xs
  · have HF := Lib.hid (Nt.textOf_no h1)
    go_wp2_with fail
    go_ret
    exact ⟨_, rfl, by rw [HF.out]; rfl, HK1.out⟩
  · obtain ⟨m, sc, rfl, rfl, so⟩ := Nt.scB_ok h1
    have HF := Lib.hid (Nt.textOf_ok so)
    obtain ⟨M, hM⟩ : ∃ M, M = sc.length := ⟨_, rfl⟩
    have HPL : (Nt.prs sc).length = M := by rw [Nt.prs_length, hM]
    have hm8 : M ≤ 8 := by rw [hM]; exact so.few
    by_cases h0 : M = 0
    · have hsc : sc = [] := List.eq_nil_of_length_eq_zero (by omega)
      subst hsc
      have HF2 : Hid (Nt.textOf (m : Int) (Nt.prs []) = [46]) := Lib.hid (by rw [HF.out]; unfold Nt.textS; rw [if_pos rfl])
      clear HF so hM HPL hm8 h1
      go_wp2_with fail
      go_ret
      exact ⟨_, rfl, by rw [HF2.out]; rfl, HK1.out⟩
    · obtain ⟨a1, c1, e1, _, _, hc⟩ := HS1.out.any
      rw [HPL] at e1 hc
      rw [HPL] at HS1 ⊢
      simp only [Value.slice.injEq] at e1
      obtain ⟨rfl, _, rfl⟩ := e1
      have HC := Lib.hid hc
      have hne0 : ((M : Int) == 0) = false := beq_eq_false_iff_ne.2 (by omega)
      have HSC : Hid (∀ k, k < M → ∃ x y : Nat, x < 100 ∧ y < 100 ∧ Nt.at2 (Nt.prs sc) k = ((x : Int), (y : Int)) ∧ lightZ (sc.getD k (0, 0)) = itoaZ x ++ ⟨#[58]⟩ ++ itoaZ y ∧ (itoaZ x).size ≤ 2 ∧ (itoaZ y).size ≤ 2) := Lib.hid (fun k hk => by
        have hk' : k < sc.length := by omega
        have ht := so.time _ (List.getElem_mem hk')
        have hn := so.node _ (List.getElem_mem hk')
        have hx : (sc[k]).1 < 100 := by omega
        have hy : (sc[k]).2 < 100 := by have := so.n6; omega
        refine ⟨(sc[k]).1, (sc[k]).2, hx, hy, Nt.at2_prs sc hk', ?_, ?_, ?_⟩
        · rw [List.getD_eq_getElem?_getD, List.getElem?_eq_getElem hk']; rfl
        · rw [← tx_length, tx_itoaZ hx]; exact Nt.digs60 hx
        · rw [← tx_length, tx_itoaZ hy]; exact Nt.digs60 hy)
      have HTS : Hid (∀ k, textsTo sc (k + 1) = (textsTo sc k).set k (lightZ (sc.getD k (0, 0)))) := Lib.hid (textsTo_succ sc)
      have HTL : Hid (∀ k, (textsTo sc k).length = M) := Lib.hid (fun k => by rw [textsTo_length, hM])
      have HT0 : Hid (textsTo sc 0 = List.replicate M ByteArray.empty) := Lib.hid (by rw [textsTo_zero, hM])
      have HJ : Hid (Nt.join 44 ((textsTo sc M).map tx) = Nt.textOf (m : Int) (Nt.prs sc)) := Lib.hid (by
        rw [hM, textsTo_all so, HF.out]
        unfold Nt.textS
        rw [if_neg (fun e => h0 (by rw [hM, e]; rfl))])
      have HJL : Hid ((Nt.join 44 ((textsTo sc M).map tx)).length ≤ 100000) := Lib.hid (by rw [HJ.out]; exact Nat.le_trans (Nt.textOf_length _ _) (by omega))
      have hM0 : 0 < M := by omega
      clear hc so hM HPL h0 h1 HF
      go_wp2_with (at_make; refine make_text _ M rfl _ _ rfl rfl rfl (by omega) ?_; intro w2 hs2 hk2 _; have HT2 := Lib.hid hs2; have HK2 := Lib.hid hk2; clear hs2 hk2)
      have HT3 : Hid (Ts w2 w1.heap.size (.slice (some ⟨w1.heap.size, 0, none⟩) M M) (textsTo sc 0)) := Lib.hid (by rw [HT0.out]; exact HT2.out)
      clear HT2 HT0
      go_loopw [20] (fun i wr => ∃ k : Nat, k ≤ M ∧ i = .int .i64 k ∧ Ts wr w1.heap.size (.slice (some ⟨w1.heap.size, 0, none⟩) M M) (textsTo sc k) ∧ Kept [] w1 wr) (fun i _ => M - (intOf i).toNat)
      case atStart => exact ⟨0, Nat.zero_le _, rfl, HT3.out, HK2.out⟩
      case round =>
        clear HT3 HK2
        obtain ⟨k, hk, rfl, hsl, hkept⟩ := hrel
        have HSL := Lib.hid hsl
        have HK := Lib.hid hkept
        by_cases hlt : k < M
        · obtain ⟨g, rfl, _, hg, c1, c2⟩ := HC.out k hlt
          obtain ⟨x, y, hx, hy, hxy, hlz, hsx, hsy⟩ := HSC.out k hlt
          rw [hxy] at c1 c2
          have k1 := (hkept.cell (p := ⟨g, k * 2, none⟩) hg (by simp)).trans c1
          have k2 := (hkept.cell (p := ⟨g, k * 2 + 1, none⟩) hg (by simp)).trans c2
          have HNX : Hid (textsTo sc (k + 1) = (textsTo sc k).set k (itoaZ x ++ ⟨#[58]⟩ ++ itoaZ y)) := Lib.hid (by rw [HTS.out, hlz])
          have hka : Kept [] wr (wr.alloc (.cells #[.int .i64 (x : Int), .int .i64 (y : Int)] 41)) := (Kept.refl [] wr).alloc _
          have v1 : (wr.alloc (.cells #[.int .i64 (x : Int), .int .i64 (y : Int)] 41)).cell? ⟨wr.heap.size, 0, none⟩ = some (.int .i64 (x : Int)) := by simp
          have v2 : (wr.alloc (.cells #[.int .i64 (x : Int), .int .i64 (y : Int)] 41)).cell? ⟨wr.heap.size, 1, none⟩ = some (.int .i64 (y : Int)) := by simp
          have HSA := Lib.hid (HSL.out.stay hka)
          have HKA := Lib.hid (HK.out.trans hka (by simp))
          have HX1 : Hid (∀ W : World, Calls Tryd.prog 17 #[.int .i64 (x : Int)] W fun e w' => e = .returned (.string (itoaZ x)) ∧ W = w') := Lib.hid (fun W => itoaZ_any x hx W)
          have HX2 : Hid (∀ W : World, Calls Tryd.prog 17 #[.int .i64 (y : Int)] W fun e w' => e = .returned (.string (itoaZ y)) ∧ W = w') := Lib.hid (fun W => itoaZ_any y hy W)
          generalize itoaZ x = zx at *
          generalize itoaZ y = zy at *
          obtain ⟨z1, hz1⟩ : ∃ z1, zx ++ ⟨#[58]⟩ = z1 := ⟨_, rfl⟩
          have hsz1 : z1.size ≤ 3 := by rw [← hz1, ByteArray.size_append]; show zx.size + 1 ≤ 3; omega
          have hadd1 : ∀ W : World, (Op.stringOp .add zx ⟨#[58]⟩).run Tryd.prog W = .ok (.string z1) W := fun W => by rw [← hz1]; exact run_string_add_sum W zx ⟨#[58]⟩ (by show zx.size + 1 ≤ _; omega)
          rw [hz1] at HNX
          obtain ⟨z2, hz2⟩ : ∃ z2, z1 ++ zy = z2 := ⟨_, rfl⟩
          have hadd2 : ∀ W : World, (Op.stringOp .add z1 zy).run Tryd.prog W = .ok (.string z2) W := fun W => by rw [← hz2]; exact run_string_add_sum W z1 zy (by omega)
          rw [hz2] at HNX
          clear hz1 hz2 hlz hsl hkept c1 c2 hka hxy hx hy hsx hsy hsz1
          go_wp2_with fail
          generalize wr.alloc (.cells #[.int .i64 (x : Int), .int .i64 (y : Int)] 41) = w4 at *
          refine wp_region_still_tail 11 (by kernel_rfl) (by kernel_rfl) ?_
          simp only [List.take_succ_cons, List.take_zero, List.drop_succ_cons, List.drop_zero]
          repeat still_step
          still_call ((HX1.out _).mono fun _ _ e => ⟨e.1, e.2.symm⟩)
          repeat still_step
          still_call ((HX2.out _).mono fun _ _ e => ⟨e.1, e.2.symm⟩)
          repeat still_step
          try refine wpStill_nil ?_
          change wpList _ _ _ _ _ w4.drew
          have HS5 : Hid (Ts w4.drew w1.heap.size (.slice (some ⟨w1.heap.size, 0, none⟩) M M) (textsTo sc k)) := HSA
          have HK5 : Hid (Kept [] w1 w4.drew) := Lib.hid HKA.out.drew
          clear HSA HKA v1 v2 k1 k2 hadd1 hadd2 HX1 HX2
          generalize w4.drew = w5 at *
          obtain ⟨q1, q2⟩ := HS5.out.at k (by rw [HTL.out]; exact hlt)
          go_wp2
          go_roundw
          case rel => exact ⟨k + 1, by omega, by go_num, by rw [HNX.out]; exact HS5.out.set (HTL.out k).symm k _, HK5.out.setCell (.inr (Nat.le_refl _)) _⟩
          case measure => simp [intOf]; omega
        · have hk' : M = k := by omega
          subst hk'
          clear hsl hkept
          go_wp2_with fail
          refine (join_any _ M (HTL.out M) (by omega) HJL.out _ _ _ _ HSL.out hM0).mono ?_
          rintro e w7 ⟨z, rfl, hz, hk7⟩
          have HZ := Lib.hid hz
          have HK7 := Lib.hid (HK1.out.trans (HK.out.trans hk7 (by simp)) (by simp))
          clear hz hk7
          go_wp2
          go_ret
          exact ⟨_, rfl, by rw [HZ.out, HJ.out], HK7.out⟩
end Go.Proofs.YtilbdpcijdcffaaDoor
