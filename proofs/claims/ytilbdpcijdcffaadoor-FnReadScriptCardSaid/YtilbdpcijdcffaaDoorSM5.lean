/-
  Walks: texts cut at a sign, texts of scripts, texts read, by the model.
-/
import Derived.Test.YtilbdpcijdcffaaDoorSN
import Derived.Test.YtilbdpcijdcffaaDoorTsB
import Derived.Test.YtilbdpcijdcffaaDoorTxC
import Derived.StillTailTactics
import Derived.Deep.RegionHeld3
namespace Go.Proofs.YtilbdpcijdcffaaDoor
open Go.RowKit

set_option maxHeartbeats 2000000 in
set_option maxRecDepth 100000 in
theorem l1Cut_any (s : ByteArray) (sep : Nat) (hs : s.size ≤ 1100000) (w : World) :
    Calls Tryd.prog 26 #[.string s, .int .u8 (sep : Int)] w fun e w' => ∃ u ps, e = .returned u ∧ Ts w' w.heap.size u ps ∧ ps.map tx = Nt.cut sep (tx s) ∧ Kept [] w w' := by
  have HT0 := Lib.hid (Ts.empty w)
  have HA0 := Lib.hid ((Kept.refl [] w).alloc (.cells #[] 9))
  have HL := Lib.hid (tx_length s)
  go_enter Tryd.func26, Tryd.ntmps26
  go_wp2
  go_loopw [5, 6, 7] (fun u fr i wr => ∃ (k f : Nat) (ps : List ByteArray), k ≤ s.size ∧ f ≤ k ∧ i = .int .i64 k ∧ fr = .int .i64 f ∧ Ts wr w.heap.size u ps ∧ ps.length ≤ k ∧
      Nt.cut sep (tx s) = ps.map tx ++ Nt.cutFrom sep (((tx s).take k).drop f) ((tx s).drop k) ∧ Kept [] w wr) (fun _ _ i _ => s.size - (intOf i).toNat)
  case atStart => exact ⟨0, 0, [], Nat.zero_le _, Nat.le_refl _, rfl, rfl, HT0.out, Nat.le_refl _, by simp [Nt.cut], HA0.out⟩
  case round =>
    clear HT0 HA0
    obtain ⟨k, f, ps, hk, hf, rfl, rfl, hts, hpl, hcut, hkept⟩ := hrel
    have HTS := Lib.hid hts
    have HK := Lib.hid hkept
    have HCUT := Lib.hid hcut
    have hsz := hkept.size
    clear hts hkept hcut
    by_cases hlt : k < s.size
    · have HX := Lib.hid (tx_get hlt)
      by_cases hh : s[k].toNat = sep
      · have d1 : ((s[k].toNat : Int) == (sep : Int)) = true := by simp [hh]
        have HNX : Hid (Nt.cut sep (tx s) = (ps ++ [s.extract f k]).map tx ++ Nt.cutFrom sep (((tx s).take (k + 1)).drop (k + 1)) ((tx s).drop (k + 1))) := Lib.hid (by
          rw [HCUT.out, cut_hit (by rw [HL.out]; exact hlt) (by rw [HX.out]; exact hh), List.map_append, List.map_singleton, tx_part, List.append_assoc]; rfl)
        clear hh
        go_wp2_with (at_builtin; refine app_text _ rfl _ _ rfl w.heap.size _ _ HTS.out rfl rfl (by omega) hsz ?_; intro u9 w9 hs9 hk9; have HS9 := Lib.hid hs9; have HK9 := Lib.hid (HK.out.own hk9 (fun g hg => (HTS.out.block hg).1)); clear hs9 hk9)
        go_roundw
        case rel => exact ⟨k + 1, k + 1, _, by omega, Nat.le_refl _, by go_num, by go_num, HS9.out, by rw [List.length_append]; show ps.length + 1 ≤ k + 1; omega, HNX.out, HK9.out⟩
        case measure => simp [intOf]; omega
      · have d1 : ((s[k].toNat : Int) == (sep : Int)) = false := beq_eq_false_iff_ne.2 (by omega)
        have HNX : Hid (Nt.cut sep (tx s) = ps.map tx ++ Nt.cutFrom sep (((tx s).take (k + 1)).drop f) ((tx s).drop (k + 1))) := Lib.hid (by
          rw [HCUT.out, cut_more hf (by rw [HL.out]; exact hlt) (by rw [HX.out]; exact hh)])
        clear hh
        go_wp2
        go_roundw
        case rel => exact ⟨k + 1, f, ps, by omega, by omega, by go_num, rfl, HTS.out, by omega, HNX.out, HK.out⟩
        case measure => simp [intOf]; omega
    · have hk' : s.size = k := by omega
      subst hk'
      have HEND : Hid ((ps ++ [s.extract f s.size]).map tx = Nt.cut sep (tx s)) := Lib.hid (by
        have e : (tx s).drop s.size = [] := List.drop_eq_nil_of_le (by rw [HL.out]; exact Nat.le_refl _)
        rw [HCUT.out, e, List.map_append, List.map_singleton, tx_part]
        rfl)
      go_wp2_with (at_builtin; refine app_text _ rfl _ _ rfl w.heap.size _ _ HTS.out rfl rfl (by omega) hsz ?_; intro u9 w9 hs9 hk9; have HS9 := Lib.hid hs9; have HK9 := Lib.hid (HK.out.own hk9 (fun g hg => (HTS.out.block hg).1)); clear hs9 hk9)
      go_ret
      exact ⟨_, _, rfl, HS9.out, HEND.out, HK9.out⟩

theorem l1Comma_any (s : ByteArray) (hs : s.size ≤ 1100000) (w : World) :
    Calls Tryd.prog 26 #[.string s, .int .u8 44] w fun e w' => ∃ u ps, e = .returned u ∧ Ts w' w.heap.size u ps ∧ ps.map tx = Nt.cut 44 (tx s) ∧ Kept [] w w' := by
  have h := l1Cut_any s 44 hs w
  have e : ((44 : Nat) : Int) = 44 := rfl
  rw [e] at h
  exact h

theorem l1Colon_any (s : ByteArray) (hs : s.size ≤ 1100000) (w : World) :
    Calls Tryd.prog 26 #[.string s, .int .u8 58] w fun e w' => ∃ u ps, e = .returned u ∧ Ts w' w.heap.size u ps ∧ ps.map tx = Nt.cut 58 (tx s) ∧ Kept [] w w' := by
  have h := l1Cut_any s 58 hs w
  have e : ((58 : Nat) : Int) = 58 := rfl
  rw [e] at h
  exact h

theorem join_snoc (sep : Nat) : ∀ (ps : List (List Nat)) (p : List Nat), ps ≠ [] → Nt.join sep (ps ++ [p]) = Nt.join sep ps ++ sep :: p
  | [], _, h => absurd rfl h
  | [q], p, _ => rfl
  | q :: r :: rest, p, _ => by
    have ih := join_snoc sep (r :: rest) p (by simp)
    show q ++ sep :: Nt.join sep ((r :: rest) ++ [p]) = _
    rw [ih]
    show _ = (q ++ sep :: Nt.join sep (r :: rest)) ++ _
    simp
def joinTo (sc : List (Nat × Nat)) (k : Nat) : List Nat := Nt.join 44 ((sc.take k).map Nt.lightT)
theorem joinTo_first {sc : List (Nat × Nat)} (h : 0 < sc.length) : joinTo sc 1 = Nt.lightT sc[0] := by
  unfold joinTo
  cases sc with
  | nil => simp at h
  | cons l r => rfl
theorem joinTo_more {sc : List (Nat × Nat)} {k : Nat} (h0 : 0 < k) (h : k < sc.length) : joinTo sc (k + 1) = joinTo sc k ++ 44 :: Nt.lightT sc[k] := by
  unfold joinTo
  rw [List.take_succ_eq_append_getElem h, List.map_append, List.map_singleton]
  refine join_snoc 44 _ _ (fun e => ?_)
  have := congrArg List.length e
  rw [List.length_map, List.length_take, List.length_nil] at this
  omega

set_option maxHeartbeats 4000000 in
set_option maxRecDepth 100000 in
theorem sScriptText_any (n : Int) (xs : List (Int × Int)) (w : World) (v : Value) (base : Nat) (hs : Sg w base v xs) :
    Calls Tryd.prog 7 #[.int .i64 n, v] w fun e w' => ∃ z, e = .returned (.string z) ∧ tx z = Nt.textOf n xs ∧ Kept [] w w' := by
  have HS := Lib.hid hs
  obtain ⟨a, cap, rfl, _, hm, _⟩ := hs.any
  clear hs
  go_enter Tryd.func7, Tryd.ntmps7
  go_wp2_with fail
  refine (sScriptOk_any n xs _ _ _ HS.out).mono ?_
  rintro e w1 ⟨rfl, hq1⟩
  have HK1 := Lib.hid hq1.kept
  have HS1 := Lib.hid (HS.out.stay hq1.kept)
  clear hq1 HS
  cases h1 : Nt.scB n xs
  · have HF := Lib.hid (Nt.textOf_no h1)
    go_wp2_with fail
    go_ret
    exact ⟨_, rfl, by rw [HF.out]; rfl, HK1.out⟩
  · obtain ⟨m, sc, rfl, rfl, so⟩ := Nt.scB_ok h1
    have HF := Lib.hid (Nt.textOf_ok so)
    obtain ⟨M, hM⟩ : ∃ M, M = sc.length := ⟨_, rfl⟩
    have HPL : (Nt.prs sc).length = M := by rw [Nt.prs_length, hM]
    have hm8 : M ≤ 8 := by rw [hM]; exact so.few
    by_cases h0 : M = 0
    · have hsc : sc = [] := List.eq_nil_of_length_eq_zero (by omega)
      subst hsc
      have HF2 : Hid (Nt.textOf (m : Int) (Nt.prs []) = [46]) := Lib.hid (by rw [HF.out]; unfold Nt.textS; rw [if_pos rfl])
      clear HF so hM HPL hm8 h1
      go_wp2_with fail
      go_ret
      exact ⟨_, rfl, by rw [HF2.out]; rfl, HK1.out⟩
    · obtain ⟨a1, c1, e1, _, _, hc⟩ := HS1.out.any
      rw [HPL] at e1 hc
      rw [HPL] at HS1 ⊢
      simp only [Value.slice.injEq] at e1
      obtain ⟨rfl, _, rfl⟩ := e1
      have HC := Lib.hid hc
      have hne0 : ((M : Int) == 0) = false := beq_eq_false_iff_ne.2 (by omega)
      have HSC : Hid (∀ k, k < M → ∃ x y : Nat, x < 100 ∧ y < 100 ∧ Nt.at2 (Nt.prs sc) k = ((x : Int), (y : Int)) ∧ (k = 0 → joinTo sc (k + 1) = Nt.lightT (x, y)) ∧ (0 < k → joinTo sc (k + 1) = joinTo sc k ++ 44 :: Nt.lightT (x, y))) := Lib.hid (fun k hk => by
        have hk' : k < sc.length := by omega
        have ht := so.time _ (List.getElem_mem hk')
        have hn := so.node _ (List.getElem_mem hk')
        have h6 := so.n6
        refine ⟨(sc[k]).1, (sc[k]).2, by omega, by omega, Nt.at2_prs sc hk', fun h => ?_, fun h => joinTo_more h hk'⟩
        subst h
        exact joinTo_first hk')
      have HLEN : Hid (∀ k, k ≤ M → (joinTo sc k).length ≤ 100) := Lib.hid (fun k hk => by
        have h2 := Nt.join_length 44 ((sc.take k).map Nt.lightT) 5 (fun p hp => by
          obtain ⟨l, hl, rfl⟩ := List.mem_map.1 hp
          exact Nt.lightT_length so (List.mem_of_mem_take hl))
        rw [List.length_map, List.length_take] at h2
        unfold joinTo
        omega)
      have HJ : Hid (joinTo sc M = Nt.textOf (m : Int) (Nt.prs sc)) := Lib.hid (by
        rw [HF.out]
        unfold joinTo Nt.textS
        rw [hM, List.take_length, if_neg (fun e => h0 (by rw [hM, e]; rfl))])
      clear hc so hM HPL h0 h1 HF
      go_wp2_with fail
      go_loopw [5, 6] (fun o i wr => ∃ (k : Nat) (z : ByteArray), k ≤ M ∧ i = .int .i64 k ∧ o = .string z ∧ tx z = joinTo sc k ∧ Kept [] w1 wr) (fun _ i _ => M - (intOf i).toNat)
      case atStart => exact ⟨0, _, Nat.zero_le _, rfl, rfl, rfl, Kept.refl _ _⟩
      case round =>
        obtain ⟨k, z, hk, rfl, rfl, hz, hkept⟩ := hrel
        have HZ := Lib.hid hz
        have HK := Lib.hid hkept
        by_cases hlt : k < M
        · obtain ⟨g, rfl, _, hg, c1, c2⟩ := HC.out k hlt
          obtain ⟨x, y, hx, hy, hxy, hfirst, hmore⟩ := HSC.out k hlt
          rw [hxy] at c1 c2
          have k1 := (hkept.cell (p := ⟨g, k * 2, none⟩) hg (by simp)).trans c1
          have k2 := (hkept.cell (p := ⟨g, k * 2 + 1, none⟩) hg (by simp)).trans c2
          have hzl : z.size ≤ 100 := by rw [← tx_length, hz]; exact HLEN.out k hk
          have HGR : Hid (g < wr.heap.size) := Lib.hid (Nat.lt_of_lt_of_le hg hkept.size)
          have HDX : Hid ((Nt.digs x).length ≤ 2) := Lib.hid (Nt.digs60 hx)
          have HDY : Hid ((Nt.digs y).length ≤ 2) := Lib.hid (Nt.digs60 hy)
          have HXL := Lib.hid (show x < 1000000 by omega)
          have HYL := Lib.hid (show y < 1000000 by omega)
          obtain ⟨z0, hz0⟩ : ∃ z0, (if 0 < k then z ++ ⟨#[44]⟩ else z) = z0 := ⟨_, rfl⟩
          have HZ0 : Hid (tx z0 ++ Nt.lightT (x, y) = joinTo sc (k + 1)) := Lib.hid (by
            rw [← hz0]
            by_cases h0 : 0 < k
            · rw [if_pos h0, hmore h0, tx_append, hz, List.append_assoc]; rfl
            · rw [if_neg h0, hfirst (by omega), hz, show k = 0 by omega]; rfl)
          have HZL : Hid (z0.size ≤ 101) := Lib.hid (by
            rw [← hz0]
            split
            · rw [ByteArray.size_append]; show z.size + 1 ≤ 101; omega
            · omega)
          have HS4 : Hid (∀ w5, Kept [] wr w5 → w5.cell? ⟨g, k * 2, none⟩ = some (.int .i64 (x : Int)) ∧ w5.cell? ⟨g, k * 2 + 1, none⟩ = some (.int .i64 (y : Int))) := Lib.hid (fun w5 hk5 => ⟨(hk5.cell (p := ⟨g, k * 2, none⟩) HGR.out (by simp)).trans k1, (hk5.cell (p := ⟨g, k * 2 + 1, none⟩) HGR.out (by simp)).trans k2⟩)
          have hs4 := HS4.out wr.drew (Kept.drew (Kept.refl [] wr))
          by_cases h0 : 0 < k
          · rw [if_pos h0] at hz0
            have d0 : decide (0 < k) = true := dec_of h0
            have hadd0 : ∀ W : World, (Op.stringOp .add z ⟨#[44]⟩).run Tryd.prog W = .ok (.string z0) W := fun W => by rw [← hz0]; exact run_string_add_sum W z ⟨#[44]⟩ (by show z.size + 1 ≤ _; omega)
            clear hz0 hfirst hmore hz hkept c1 c2 hxy hx hy hzl hg h0
            go_wp2_with fail
            clear hadd0
            go_region_held3 (fun w' => w'.cell? ⟨g, k * 2, none⟩ = some (.int .i64 (x : Int)) ∧ w'.cell? ⟨g, k * 2 + 1, none⟩ = some (.int .i64 (y : Int)))
              (first
                | exact hs4
                | exact y5
                | exact y6
                | go_keep)
              (first
                | (go_simp; go_at_call 20; (with_reducible refine (l1Number_any x HXL.out _).mono ?_); rintro e w5 ⟨q1, rfl, hq1, hk5⟩; have hk5' := (show Kept [] wr w5 from ⟨hk5.os, hk5.tape, hk5.output, hk5.size, hk5.block⟩); have y5 := HS4.out w5 hk5'; have HK5 := Lib.hid hk5'; have HQ1 := Lib.hid hq1; have hl1 : q1.size ≤ 2 := (by rw [← tx_length, hq1]; exact HDX.out); obtain ⟨p1, hp1⟩ : ∃ p1, z0 ++ q1 = p1 := ⟨_, rfl⟩; have hpl1 : p1.size ≤ 103 := (by have := HZL.out; rw [← hp1, ByteArray.size_append]; omega); have hadd1 : ∀ W : World, (Op.stringOp .add z0 q1).run Tryd.prog W = .ok (.string p1) W := (fun W => by rw [← hp1]; exact run_string_add_sum W z0 q1 (by have := HZL.out; omega)); have HP1 : Hid (tx p1 = tx z0 ++ Nt.digs x) := Lib.hid (by rw [← hp1, tx_append, hq1]); obtain ⟨p2, hp2⟩ : ∃ p2, p1 ++ ⟨#[58]⟩ = p2 := ⟨_, rfl⟩; have hpl2 : p2.size ≤ 104 := (by rw [← hp2, ByteArray.size_append]; show p1.size + 1 ≤ 104; omega); have HPL2 := Lib.hid hpl2; have hadd2 : ∀ W : World, (Op.stringOp .add p1 ⟨#[58]⟩).run Tryd.prog W = .ok (.string p2) W := (fun W => by rw [← hp2]; exact run_string_add_sum W p1 ⟨#[58]⟩ (by show p1.size + 1 ≤ _; omega)); have HP2 : Hid (tx p2 = tx z0 ++ Nt.digs x ++ [58]) := Lib.hid (by rw [← hp2, tx_append, HP1.out]; rfl); clear hk5 hk5' hq1 hp1 hp2 hl1 hpl1 hpl2)
                | (go_simp; go_at_call 20; (with_reducible refine (l1Number_any y HYL.out _).mono ?_); rintro e w6 ⟨q2, rfl, hq2, hk6⟩; have y6 := HS4.out w6 (HK5.out.trans hk6 (by simp)); have HK6 := Lib.hid (HK.out.trans (HK5.out.trans hk6 (by simp)) (by simp)); have hl2 : q2.size ≤ 2 := (by rw [← tx_length, hq2]; exact HDY.out); obtain ⟨p3, hp3⟩ : ∃ p3, p2 ++ q2 = p3 := ⟨_, rfl⟩; have hadd3 : ∀ W : World, (Op.stringOp .add p2 q2).run Tryd.prog W = .ok (.string p3) W := (fun W => by rw [← hp3]; exact run_string_add_sum W p2 q2 (by have := HPL2.out; omega)); have HP3 : Hid (tx p3 = joinTo sc (k + 1)) := Lib.hid (by rw [← hp3, tx_append, HP2.out, hq2, ← HZ0.out]; unfold Nt.lightT; simp); clear hk6 hq2 hp3 hl2 y5))
            all_goals
              go_wp2
              go_roundw
              case rel => exact ⟨k + 1, _, by omega, by go_num, rfl, HP3.out, HK6.out⟩
              case measure => simp [intOf]; omega
          · rw [if_neg h0] at hz0
            subst hz0
            have hk0 : k = 0 := by omega
            subst hk0
            clear hfirst hmore hz hkept c1 c2 hxy hx hy hzl hg h0
            go_wp2_with fail
            go_region_held3 (fun w' => w'.cell? ⟨g, 0 * 2, none⟩ = some (.int .i64 (x : Int)) ∧ w'.cell? ⟨g, 0 * 2 + 1, none⟩ = some (.int .i64 (y : Int)))
              (first
                | exact hs4
                | exact y5
                | exact y6
                | go_keep)
              (first
                | (go_simp; go_at_call 20; (with_reducible refine (l1Number_any x HXL.out _).mono ?_); rintro e w5 ⟨q1, rfl, hq1, hk5⟩; have hk5' := (show Kept [] wr w5 from ⟨hk5.os, hk5.tape, hk5.output, hk5.size, hk5.block⟩); have y5 := HS4.out w5 hk5'; have HK5 := Lib.hid hk5'; have HQ1 := Lib.hid hq1; have hl1 : q1.size ≤ 2 := (by rw [← tx_length, hq1]; exact HDX.out); obtain ⟨p1, hp1⟩ : ∃ p1, z ++ q1 = p1 := ⟨_, rfl⟩; have hpl1 : p1.size ≤ 103 := (by have := HZL.out; rw [← hp1, ByteArray.size_append]; omega); have hadd1 : ∀ W : World, (Op.stringOp .add z q1).run Tryd.prog W = .ok (.string p1) W := (fun W => by rw [← hp1]; exact run_string_add_sum W z q1 (by have := HZL.out; omega)); have HP1 : Hid (tx p1 = tx z ++ Nt.digs x) := Lib.hid (by rw [← hp1, tx_append, hq1]); obtain ⟨p2, hp2⟩ : ∃ p2, p1 ++ ⟨#[58]⟩ = p2 := ⟨_, rfl⟩; have hpl2 : p2.size ≤ 104 := (by rw [← hp2, ByteArray.size_append]; show p1.size + 1 ≤ 104; omega); have HPL2 := Lib.hid hpl2; have hadd2 : ∀ W : World, (Op.stringOp .add p1 ⟨#[58]⟩).run Tryd.prog W = .ok (.string p2) W := (fun W => by rw [← hp2]; exact run_string_add_sum W p1 ⟨#[58]⟩ (by show p1.size + 1 ≤ _; omega)); have HP2 : Hid (tx p2 = tx z ++ Nt.digs x ++ [58]) := Lib.hid (by rw [← hp2, tx_append, HP1.out]; rfl); clear hk5 hk5' hq1 hp1 hp2 hl1 hpl1 hpl2)
                | (go_simp; go_at_call 20; (with_reducible refine (l1Number_any y HYL.out _).mono ?_); rintro e w6 ⟨q2, rfl, hq2, hk6⟩; have y6 := HS4.out w6 (HK5.out.trans hk6 (by simp)); have HK6 := Lib.hid (HK.out.trans (HK5.out.trans hk6 (by simp)) (by simp)); have hl2 : q2.size ≤ 2 := (by rw [← tx_length, hq2]; exact HDY.out); obtain ⟨p3, hp3⟩ : ∃ p3, p2 ++ q2 = p3 := ⟨_, rfl⟩; have hadd3 : ∀ W : World, (Op.stringOp .add p2 q2).run Tryd.prog W = .ok (.string p3) W := (fun W => by rw [← hp3]; exact run_string_add_sum W p2 q2 (by have := HPL2.out; omega)); have HP3 : Hid (tx p3 = joinTo sc (0 + 1)) := Lib.hid (by rw [← hp3, tx_append, HP2.out, hq2, ← HZ0.out]; unfold Nt.lightT; simp); clear hk6 hq2 hp3 hl2 y5))
            all_goals
              go_wp2
              go_roundw
              case rel => exact ⟨0 + 1, _, by omega, by go_num, rfl, HP3.out, HK6.out⟩
              case measure => simp [intOf]; omega
        · have hk' : M = k := by omega
          subst hk'
          clear hz hkept
          go_wp2_with fail
          go_ret
          exact ⟨_, rfl, by rw [HZ.out, HJ.out], HK1.out.trans HK.out (by simp)⟩
end Go.Proofs.YtilbdpcijdcffaaDoor
