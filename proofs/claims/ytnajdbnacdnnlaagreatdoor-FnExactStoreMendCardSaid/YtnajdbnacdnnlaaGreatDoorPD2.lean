/-
  Deeds read of texts, by the model.
-/
import Derived.Test.YtnajdbnacdnnlaaGreatDoorTgB
namespace Go.Proofs.YtnajdbnacdnnlaaGreatDoor
open Go.RowKit

/-- The deed of a text, or none. -/
def rdD (t : List Nat) : Nt.Dd := (Nt.readD t).getD ⟨0, 0, 0⟩
def rdB (t : List Nat) : Bool := (Nt.readD t).isSome
theorem rd_some {t : List Nat} {d : Nt.Dd} (h : Nt.readD t = some d) : rdD t = d ∧ rdB t = true := by unfold rdD rdB; rw [h]; exact ⟨rfl, rfl⟩
theorem rd_none {t : List Nat} (h : Nt.readD t = none) : rdD t = ⟨0, 0, 0⟩ ∧ rdB t = false := by unfold rdD rdB; rw [h]; exact ⟨rfl, rfl⟩
theorem rd_hit {t : List Nat} {k : Nat} (ht : t ≠ []) (h : Nt.deedT ((Nt.cands t).getD k ⟨0, 0, 0⟩) = t) : Nt.readD t = some ((Nt.cands t).getD k ⟨0, 0, 0⟩) := Nt.readD_some.2 ⟨h, ht⟩
theorem rd_miss {t : List Nat} (h : ∀ k, k < (Nt.cands t).length → Nt.deedT ((Nt.cands t).getD k ⟨0, 0, 0⟩) ≠ t) : Nt.readD t = none := by
  cases e : Nt.readD t with
  | none => rfl
  | some d =>
    obtain ⟨h1, h2⟩ := Nt.readD_some.1 e
    have hd : Nt.DOk d := Nt.readD_ok e
    have hm := Nt.mem_cands hd
    rw [h1] at hm
    obtain ⟨k, hk, hk2⟩ := List.getElem_of_mem hm
    refine absurd h1 ?_
    have := h k hk
    rw [List.getD_eq_getElem?_getD, List.getElem?_eq_getElem hk, Option.getD_some, hk2] at this
    exact this
theorem rd_empty {t : List Nat} (h : t = []) : Nt.readD t = none := by unfold Nt.readD; rw [if_pos h]
theorem cands_two {t : List Nat} (h : (Nt.cut 32 t).length = 2) : Nt.cands t = [⟨2, 0, 0⟩, ⟨4, 0, 0⟩] ++ [⟨1, Nt.dval ((Nt.cut 32 t).getD 1 []), 0⟩, ⟨3, Nt.dval ((Nt.cut 32 t).getD 1 []), 0⟩] := by
  unfold Nt.cands; rw [if_pos h, if_neg (by omega)]; simp
theorem cands_three {t : List Nat} (h : (Nt.cut 32 t).length = 3) : Nt.cands t = [⟨2, 0, 0⟩, ⟨4, 0, 0⟩] ++ [⟨0, Nt.dval ((Nt.cut 32 t).getD 1 []), Nt.dval ((Nt.cut 32 t).getD 2 [])⟩] := by
  unfold Nt.cands; rw [if_neg (by omega), if_pos h]; simp
theorem cands_other {t : List Nat} (h2 : ¬ (Nt.cut 32 t).length = 2) (h3 : ¬ (Nt.cut 32 t).length = 3) : Nt.cands t = [⟨2, 0, 0⟩, ⟨4, 0, 0⟩] := by
  unfold Nt.cands; rw [if_neg h2, if_neg h3]; rfl

/-- A deed that is returned, with a truth. -/
theorem ret_deed {W : World} {g : Nat} {a b c : Value} (h : Bk W g 41 #[a, b, c]) :
    (loadVar 41 ⟨g, 0, none⟩).run Tryz.prog W = .ok (.agg #[a, b, c]) W :=
  run_loadVar_row W g 41 41 #[a, b, c] (0, 0) _ h Tryz.underlying41 rfl (by kernel_rfl)

set_option maxHeartbeats 4000000 in
set_option maxRecDepth 100000 in
theorem sReadDeed_any (s : ByteArray) (hs : s.size ≤ 1100000) (w : World) :
    Calls Tryz.prog 60 #[.string s] w fun e w' => e = .returned (.tuple #[dv (rdD (tx s)), .bool (rdB (tx s))]) ∧ Kept [] w w' := by
  have HR0 := Lib.hid (Bk.new w 41 #[.int .i64 0, .int .i64 0, .int .i64 0])
  have HK0 : Hid (Kept [] w (w.alloc (.cells #[.int .i64 0, .int .i64 0, .int .i64 0] 41))) := Lib.hid ((Kept.refl [] w).alloc _)
  have HS := Lib.hid hs
  clear hs
  go_enter Tryz.func60, Tryz.ntmps60
  go_wp2_with fail
  generalize w.alloc (.cells #[.int .i64 0, .int .i64 0, .int .i64 0] 41) = W0 at *
  refine (l1Cut32_any s HS.out _).mono ?_
  rintro e w1 ⟨u1, ps, rfl, hts, hpm, hk1⟩
  obtain ⟨hcl, hcp⟩ := cut_at hpm
  have HCL := Lib.hid hcl
  have HCP := Lib.hid hcp
  have HR1 := Lib.hid (HR0.out.stay hk1)
  have HK1 := Lib.hid (HK0.out.trans hk1 (by simp))
  obtain ⟨a, cap, rfl, _, hm, hc⟩ := hts.any
  have HC := Lib.hid hc
  have HLT := Lib.hid (Tg.lit 41 w1 ([(⟨2, 0, 0⟩ : Nt.Dd), ⟨4, 0, 0⟩].map d3) (by simp))
  have HKL : Hid (Kept [] w1 (w1.alloc (.cells (tri ([(⟨2, 0, 0⟩ : Nt.Dd), ⟨4, 0, 0⟩].map d3)).toArray 41))) := Lib.hid ((Kept.refl [] w1).alloc _)
  clear hts hpm hk1 HR0 HK0 hcl hcp hc
  obtain ⟨L, hL⟩ : ∃ L, L = ps.length := ⟨_, rfl⟩
  rw [← hL] at HCL HCP HC hm ⊢
  have HLP := Lib.hid hL
  clear hL
  by_cases h2 : L = 2
  · subst h2
    have hcw : ∃ gw, a = some ⟨gw, 0, none⟩ ∧ gw < w1.heap.size ∧ (∀ k, k < 2 → w1.cell? ⟨gw, k, none⟩ = some (.string (atT ps k))) := by
      obtain ⟨g, e, _, hg, _⟩ := HC.out 0 (by omega)
      refine ⟨g, e, hg, fun k hk => ?_⟩
      obtain ⟨g', e', _, _, hcc⟩ := HC.out k hk
      rw [e] at e'
      simp only [Option.some.injEq, Addr.mk.injEq] at e'
      obtain ⟨rfl, _⟩ := e'
      exact hcc
    obtain ⟨gw, rfl, hgw, hcw⟩ := hcw
    have w1c := hcw 1 (by omega)
    obtain ⟨hp1, hs1⟩ := HCP.out 1 (by omega)
    obtain ⟨n, hn⟩ : ∃ n, n = Nt.dval (tx (atT ps 1)) := ⟨_, rfl⟩
    have HD1 : Hid (∀ W : World, Calls Tryz.prog 110 #[.string (atT ps 1)] W fun e w' => e = .returned (.int .i64 n) ∧ W = w') := Lib.hid (fun W => by rw [hn]; exact l1Digits_any _ (by have := HS.out; omega) W)
    have HCD : Hid (Nt.cands (tx s) = [⟨2, 0, 0⟩, ⟨4, 0, 0⟩] ++ [⟨1, n, 0⟩, ⟨3, n, 0⟩]) := Lib.hid (by rw [cands_two HCL.out, hn, hp1])
    have HLEN : Hid (((Nt.cands (tx s)).map d3).length = 4) := Lib.hid (by rw [HCD.out]; rfl)
    have w1d := (HKL.out.cell (p := ⟨gw, 1, none⟩) hgw (by simp)).trans w1c
    clear hcw hp1 hs1 hn
    generalize atT ps 1 = P1 at *
    have HKLs := HKL.out.size
    obtain ⟨W8, hW8⟩ : ∃ W8, W8 = w1.alloc (.cells (tri ([(⟨2, 0, 0⟩ : Nt.Dd), ⟨4, 0, 0⟩].map d3)).toArray 41) := ⟨_, rfl⟩
    rw [← hW8] at HLT HKL w1d HKLs
    have HW8 : Hid (w1.alloc (.cells #[.int .i64 2, .int .i64 0, .int .i64 0, .int .i64 4, .int .i64 0, .int .i64 0] 41) = W8) := Lib.hid hW8.symm
    clear hW8
    go_wp2_with fail
    rw [HW8.out]
    refine (HD1.out _).mono ?_
    rintro e w' ⟨rfl, rfl⟩
    go_wp2_with (at_builtin; refine app_tri 41 24 (.agg #[.int .i64 0, .int .i64 0, .int .i64 0]) 24 Tryz.underlying24 info_deed rfl (by omega) ([(⟨2, 0, 0⟩ : Nt.Dd), ⟨4, 0, 0⟩].map d3) ([(⟨1, n, 0⟩ : Nt.Dd), ⟨3, n, 0⟩].map d3) (d3_one _) rfl _ _ rfl w1.heap.size _ HLT.out rfl 2 rfl rfl (by simp) HKL.out.size ?_; intro u9 w9 hs9 hk9; have HTG9 : Hid (Tg 41 w9 w1.heap.size u9 ((Nt.cands (tx s)).map d3)) := Lib.hid (by rw [HCD.out, List.map_append]; exact hs9); have HK9 : Hid (Kept [] w1 w9) := Lib.hid (HKL.out.own hk9 (fun g hg => (HLT.out.block hg).1)); obtain ⟨gd, cd, rfl, _⟩ := HTG9.out.shape (n := 4) HLEN.out (by omega); clear hs9 hk9)
    go_loopw [7] (fun i wr => ∃ k : Nat, k ≤ 4 ∧ i = .int .i64 k ∧ (∀ j, j < k → Nt.deedT ((Nt.cands (tx s)).getD j ⟨0, 0, 0⟩) ≠ tx s ∨ tx s = []) ∧ Tg 41 wr w1.heap.size (.slice (some ⟨gd, 0, none⟩) 4 cd) ((Nt.cands (tx s)).map d3) ∧ Kept [] w1 wr) (fun i _ => 4 - (intOf i).toNat)
    case atStart => exact ⟨0, Nat.zero_le _, rfl, fun j hj => absurd hj (by omega), HTG9.out, HK9.out⟩
    case round =>
      obtain ⟨k, hk, rfl, hno, htg, hkept⟩ := hrel
      have HNO := Lib.hid hno
      have HTG := Lib.hid htg
      have HK := Lib.hid hkept
      obtain ⟨_, _, e, _, hgd, _, _, hcell⟩ := htg.shape (n := 4) HLEN.out (by omega)
      simp only [Value.slice.injEq, Option.some.injEq, Addr.mk.injEq, and_true, true_and] at e
      obtain ⟨rfl, rfl⟩ := e
      have hr := HR1.out.stay hkept
      have HR := Lib.hid hr
      obtain ⟨r0, r1, r2⟩ := hr.three
      have f0 := hr.frozen 0
      have f1 := hr.frozen 1
      have f2 := hr.frozen 2
      have HKK := Lib.hid (HK1.out.trans hkept (by simp))
      clear hno htg hkept hr
      by_cases hlt : k < 4
      · obtain ⟨c0, c1, c2⟩ := hcell k hlt
        rw [d3_at _ (by have h := HLEN.out; rw [List.length_map] at h; omega)] at c0 c1 c2
        by_cases hte : tx s = []
        · have hse := empty_yes hte
          have HTE := Lib.hid hte
          clear hte hcell
          go_wp2
          go_roundw
          case rel => exact ⟨k + 1, by omega, by go_num, fun j _ => .inr HTE.out, HTG.out, HK.out⟩
          case measure => simp [intOf]; omega
        · have hse := empty_no hte
          have HTE := Lib.hid hte
          obtain ⟨d, hd⟩ : ∃ d, (Nt.cands (tx s)).getD k ⟨0, 0, 0⟩ = d := ⟨_, rfl⟩
          rw [hd] at c0 c1 c2
          have HD := Lib.hid hd
          obtain ⟨dk, da, db⟩ := d
          have c0' : wr.cell? ⟨gd, k * 3, none⟩ = some (.int .i64 dk) := c0
          have c1' : wr.cell? ⟨gd, k * 3 + 1, none⟩ = some (.int .i64 da) := c1
          have c2' : wr.cell? ⟨gd, k * 3 + 2, none⟩ = some (.int .i64 db) := c2
          clear hte hd hcell c0 c1 c2
          go_wp2_with fail
          refine (sDeedText_any dk da db _).mono ?_
          rintro e w6 ⟨z6, rfl, hz6, hk6⟩
          have HZ6 := Lib.hid hz6
          have HK6 := Lib.hid (HK.out.trans hk6 (by simp))
          have HTG6 := Lib.hid (HTG.out.stay hk6)
          have hr6 := HR.out.stay hk6
          have HR6 := Lib.hid hr6
          have d0 := (hk6.cell (p := ⟨gd, k * 3, none⟩) hgd (by simp)).trans c0'
          have d1 := (hk6.cell (p := ⟨gd, k * 3 + 1, none⟩) hgd (by simp)).trans c1'
          have d2 := (hk6.cell (p := ⟨gd, k * 3 + 2, none⟩) hgd (by simp)).trans c2'
          clear hz6 hk6 c0' c1' c2' r0 r1 r2 f0 f1 f2
          obtain ⟨r0, r1, r2⟩ := hr6.three
          have f0 := hr6.frozen 0
          have f1 := hr6.frozen 1
          have f2 := hr6.frozen 2
          clear hr6
          by_cases he : Nt.deedT ⟨dk, da, db⟩ = tx s
          · have hq := str_yes (a := z6) (b := s) (by rw [HZ6.out, he])
            have HF := Lib.hid (rd_some (rd_hit HTE.out (by rw [HD.out]; exact he)))
            clear he
            go_wp2
            (try simp only [Exit.inBlock, Exit.then])
            refine bodyPost_ret (v := .tuple #[.agg #[.int .i64 dk, .int .i64 da, .int .i64 db], .bool true]) ?_ rfl ⟨by rw [HF.out.1, HF.out.2, HD.out]; rfl, (HK1.out.trans HK6.out (by simp)).set3 (Nat.le_refl _) _ _ _⟩
            rw [results_cell_tmp rfl]
            simp [asAddr, ret_deed ((HR6.out).set3 _ _ _)]
          · have hq := str_no (a := z6) (b := s) (by rw [HZ6.out]; exact he)
            have HF := Lib.hid he
            clear he
            go_wp2
            go_roundw
            case rel =>
              refine ⟨k + 1, by omega, by go_num, fun j hj => ?_, HTG6.out, HK6.out⟩
              by_cases e : j = k
              · subst e; exact .inl (by rw [HD.out]; exact HF.out)
              · exact HNO.out j (by omega)
            case measure => simp [intOf]; omega
      · have hk' : k = 4 := by omega
        subst hk'
        have HF : Hid (rdD (tx s) = ⟨0, 0, 0⟩ ∧ rdB (tx s) = false) := Lib.hid (by
          by_cases hte : tx s = []
          · exact rd_none (rd_empty hte)
          · refine rd_none (rd_miss fun j hj => ?_)
            have h := HLEN.out
            rw [List.length_map] at h
            rcases HNO.out j (by omega) with h1 | h1
            · exact h1
            · exact absurd h1 hte)
        clear hcell
        go_wp2
        (try simp only [Exit.inBlock, Exit.then])
        refine bodyPost_ret (v := .tuple #[.agg #[.int .i64 0, .int .i64 0, .int .i64 0], .bool false]) ?_ rfl ⟨by rw [HF.out.1, HF.out.2]; rfl, (HKK.out).set3 (Nat.le_refl _) _ _ _⟩
        rw [results_cell_tmp rfl]
        simp [asAddr, ret_deed ((HR.out).set3 _ _ _)]
  · by_cases h3 : L = 3
    · subst h3
      have hcw : ∃ gw, a = some ⟨gw, 0, none⟩ ∧ gw < w1.heap.size ∧ (∀ k, k < 3 → w1.cell? ⟨gw, k, none⟩ = some (.string (atT ps k))) := by
        obtain ⟨g, e, _, hg, _⟩ := HC.out 0 (by omega)
        refine ⟨g, e, hg, fun k hk => ?_⟩
        obtain ⟨g', e', _, _, hcc⟩ := HC.out k hk
        rw [e] at e'
        simp only [Option.some.injEq, Addr.mk.injEq] at e'
        obtain ⟨rfl, _⟩ := e'
        exact hcc
      obtain ⟨gw, rfl, hgw, hcw⟩ := hcw
      have w1c := hcw 1 (by omega)
      have w2c := hcw 2 (by omega)
      obtain ⟨hp1, hs1⟩ := HCP.out 1 (by omega)
      obtain ⟨hp2, hs2⟩ := HCP.out 2 (by omega)
      obtain ⟨n, hn⟩ : ∃ n, n = Nt.dval (tx (atT ps 1)) := ⟨_, rfl⟩
      obtain ⟨m, hm2⟩ : ∃ m, m = Nt.dval (tx (atT ps 2)) := ⟨_, rfl⟩
      have HD1 : Hid (∀ W : World, Calls Tryz.prog 110 #[.string (atT ps 1)] W fun e w' => e = .returned (.int .i64 n) ∧ W = w') := Lib.hid (fun W => by rw [hn]; exact l1Digits_any _ (by have := HS.out; omega) W)
      have HD2 : Hid (∀ W : World, Calls Tryz.prog 110 #[.string (atT ps 2)] W fun e w' => e = .returned (.int .i64 m) ∧ W = w') := Lib.hid (fun W => by rw [hm2]; exact l1Digits_any _ (by have := HS.out; omega) W)
      have HCD : Hid (Nt.cands (tx s) = [⟨2, 0, 0⟩, ⟨4, 0, 0⟩] ++ [⟨0, n, m⟩]) := Lib.hid (by rw [cands_three HCL.out, hn, hm2, hp1, hp2])
      have HLEN : Hid (((Nt.cands (tx s)).map d3).length = 3) := Lib.hid (by rw [HCD.out]; rfl)
      have w1d := (HKL.out.cell (p := ⟨gw, 1, none⟩) hgw (by simp)).trans w1c
      have w2d := (HKL.out.cell (p := ⟨gw, 2, none⟩) hgw (by simp)).trans w2c
      have HKLs := HKL.out.size
      clear hcw hp1 hs1 hn hp2 hs2 hm2
      generalize atT ps 1 = P1 at *
      generalize atT ps 2 = P2 at *
      obtain ⟨W8, hW8⟩ : ∃ W8, W8 = w1.alloc (.cells (tri ([(⟨2, 0, 0⟩ : Nt.Dd), ⟨4, 0, 0⟩].map d3)).toArray 41) := ⟨_, rfl⟩
      rw [← hW8] at HLT HKL w1d w2d HKLs
      have HW8 : Hid (w1.alloc (.cells #[.int .i64 2, .int .i64 0, .int .i64 0, .int .i64 4, .int .i64 0, .int .i64 0] 41) = W8) := Lib.hid hW8.symm
      clear hW8
      go_wp2_with fail
      rw [HW8.out]
      have HCW : Hid (∀ W, Kept [w1.heap.size] W8 W → W.cell? ⟨gw, 1, none⟩ = some (.string P1) ∧ W.cell? ⟨gw, 2, none⟩ = some (.string P2)) := Lib.hid (fun W hk => ⟨(hk.cell (p := ⟨gw, 1, none⟩) (by show gw < _; omega) (by simp; omega)).trans w1d, (hk.cell (p := ⟨gw, 2, none⟩) (by show gw < _; omega) (by simp; omega)).trans w2d⟩)
      clear w1c w2c w1d w2d
      go_region_held3 (fun w' => w'.cell? ⟨gw, 1, none⟩ = some (.string P1) ∧ w'.cell? ⟨gw, 2, none⟩ = some (.string P2))
        ((refine HCW.out _ ?_; repeat (first | exact Kept.refl _ _ | assumption | apply Kept.alloc | apply Kept.drew)))
        (first
          | (go_simp; go_at_call 110; (with_reducible refine (HD1.out _).mono ?_); rintro e w' ⟨rfl, rfl⟩)
          | (go_simp; go_at_call 110; (with_reducible refine (HD2.out _).mono ?_); rintro e w' ⟨rfl, rfl⟩)
          | (refine step_app_tri 41 24 (.agg #[.int .i64 0, .int .i64 0, .int .i64 0]) 24 Tryz.underlying24 info_deed rfl (by omega) ([(⟨2, 0, 0⟩ : Nt.Dd), ⟨4, 0, 0⟩].map d3) ([(⟨0, n, m⟩ : Nt.Dd)].map d3) (d3_one _) rfl _ _ rfl w1.heap.size _ (HLT.out.stay ((Kept.refl [] W8).drew.alloc _)) (by go_simp) 1 rfl W8.heap.size (by go_simp) (Bk.new W8.drew _ _) (by simp) (by simp; omega) ?_; intro u9 w9 hs9 hk9; have HTG9 : Hid (Tg 41 w9 w1.heap.size u9 ((Nt.cands (tx s)).map d3)) := Lib.hid (by rw [HCD.out, List.map_append]; exact hs9); have k9 : Kept [w1.heap.size] W8 w9 := Kept.trans (rows' := (Value.slice (some ⟨w1.heap.size, 0, none⟩) 2 2).ownBlock.toList) ((Kept.weak [w1.heap.size] ((Kept.refl [] W8).drew.alloc _))) hk9 (fun x hx => .inl (by simpa [Value.ownBlock] using hx)); obtain ⟨gd, cd, rfl, _⟩ := HTG9.out.shape (n := 3) HLEN.out (by omega); clear hs9 hk9))
      all_goals
        have HK9 : Hid (Kept [] w1 w9) := Lib.hid (HKL.out.trans k9 (fun x hx => .inr (by simp at hx; omega)))
        clear k9
        go_wp2_with fail
        go_loopw [7] (fun i wr => ∃ k : Nat, k ≤ 3 ∧ i = .int .i64 k ∧ (∀ j, j < k → Nt.deedT ((Nt.cands (tx s)).getD j ⟨0, 0, 0⟩) ≠ tx s ∨ tx s = []) ∧ Tg 41 wr w1.heap.size (.slice (some ⟨gd, 0, none⟩) 3 cd) ((Nt.cands (tx s)).map d3) ∧ Kept [] w1 wr) (fun i _ => 3 - (intOf i).toNat)
        case atStart => exact ⟨0, Nat.zero_le _, rfl, fun j hj => absurd hj (by omega), HTG9.out, HK9.out⟩
        case round =>
          obtain ⟨k, hk, rfl, hno, htg, hkept⟩ := hrel
          have HNO := Lib.hid hno
          have HTG := Lib.hid htg
          have HK := Lib.hid hkept
          obtain ⟨_, _, e, _, hgd, _, _, hcell⟩ := htg.shape (n := 3) HLEN.out (by omega)
          simp only [Value.slice.injEq, Option.some.injEq, Addr.mk.injEq, and_true, true_and] at e
          obtain ⟨rfl, rfl⟩ := e
          have hr := HR1.out.stay hkept
          have HR := Lib.hid hr
          obtain ⟨r0, r1, r2⟩ := hr.three
          have f0 := hr.frozen 0
          have f1 := hr.frozen 1
          have f2 := hr.frozen 2
          have HKK := Lib.hid (HK1.out.trans hkept (by simp))
          clear hno htg hkept hr
          by_cases hlt : k < 3
          · obtain ⟨c0, c1, c2⟩ := hcell k hlt
            rw [d3_at _ (by have h := HLEN.out; rw [List.length_map] at h; omega)] at c0 c1 c2
            by_cases hte : tx s = []
            · have hse := empty_yes hte
              have HTE := Lib.hid hte
              clear hte hcell
              go_wp2
              go_roundw
              case rel => exact ⟨k + 1, by omega, by go_num, fun j _ => .inr HTE.out, HTG.out, HK.out⟩
              case measure => simp [intOf]; omega
            · have hse := empty_no hte
              have HTE := Lib.hid hte
              obtain ⟨d, hd⟩ : ∃ d, (Nt.cands (tx s)).getD k ⟨0, 0, 0⟩ = d := ⟨_, rfl⟩
              rw [hd] at c0 c1 c2
              have HD := Lib.hid hd
              obtain ⟨dk, da, db⟩ := d
              have c0' : wr.cell? ⟨gd, k * 3, none⟩ = some (.int .i64 dk) := c0
              have c1' : wr.cell? ⟨gd, k * 3 + 1, none⟩ = some (.int .i64 da) := c1
              have c2' : wr.cell? ⟨gd, k * 3 + 2, none⟩ = some (.int .i64 db) := c2
              clear hte hd hcell c0 c1 c2
              go_wp2_with fail
              refine (sDeedText_any dk da db _).mono ?_
              rintro e w6 ⟨z6, rfl, hz6, hk6⟩
              have HZ6 := Lib.hid hz6
              have HK6 := Lib.hid (HK.out.trans hk6 (by simp))
              have HTG6 := Lib.hid (HTG.out.stay hk6)
              have hr6 := HR.out.stay hk6
              have HR6 := Lib.hid hr6
              have d0 := (hk6.cell (p := ⟨gd, k * 3, none⟩) hgd (by simp)).trans c0'
              have d1 := (hk6.cell (p := ⟨gd, k * 3 + 1, none⟩) hgd (by simp)).trans c1'
              have d2 := (hk6.cell (p := ⟨gd, k * 3 + 2, none⟩) hgd (by simp)).trans c2'
              clear hz6 hk6 c0' c1' c2' r0 r1 r2 f0 f1 f2
              obtain ⟨r0, r1, r2⟩ := hr6.three
              have f0 := hr6.frozen 0
              have f1 := hr6.frozen 1
              have f2 := hr6.frozen 2
              clear hr6
              by_cases he : Nt.deedT ⟨dk, da, db⟩ = tx s
              · have hq := str_yes (a := z6) (b := s) (by rw [HZ6.out, he])
                have HF := Lib.hid (rd_some (rd_hit HTE.out (by rw [HD.out]; exact he)))
                clear he
                go_wp2
                (try simp only [Exit.inBlock, Exit.then])
                refine bodyPost_ret (v := .tuple #[.agg #[.int .i64 dk, .int .i64 da, .int .i64 db], .bool true]) ?_ rfl ⟨by rw [HF.out.1, HF.out.2, HD.out]; rfl, (HK1.out.trans HK6.out (by simp)).set3 (Nat.le_refl _) _ _ _⟩
                rw [results_cell_tmp rfl]
                simp [asAddr, ret_deed ((HR6.out).set3 _ _ _)]
              · have hq := str_no (a := z6) (b := s) (by rw [HZ6.out]; exact he)
                have HF := Lib.hid he
                clear he
                go_wp2
                go_roundw
                case rel =>
                  refine ⟨k + 1, by omega, by go_num, fun j hj => ?_, HTG6.out, HK6.out⟩
                  by_cases e : j = k
                  · subst e; exact .inl (by rw [HD.out]; exact HF.out)
                  · exact HNO.out j (by omega)
                case measure => simp [intOf]; omega
          · have hk' : k = 3 := by omega
            subst hk'
            have HF : Hid (rdD (tx s) = ⟨0, 0, 0⟩ ∧ rdB (tx s) = false) := Lib.hid (by
              by_cases hte : tx s = []
              · exact rd_none (rd_empty hte)
              · refine rd_none (rd_miss fun j hj => ?_)
                have h := HLEN.out
                rw [List.length_map] at h
                rcases HNO.out j (by omega) with h1 | h1
                · exact h1
                · exact absurd h1 hte)
            clear hcell
            go_wp2
            (try simp only [Exit.inBlock, Exit.then])
            refine bodyPost_ret (v := .tuple #[.agg #[.int .i64 0, .int .i64 0, .int .i64 0], .bool false]) ?_ rfl ⟨by rw [HF.out.1, HF.out.2]; rfl, (HKK.out).set3 (Nat.le_refl _) _ _ _⟩
            rw [results_cell_tmp rfl]
            simp [asAddr, ret_deed ((HR.out).set3 _ _ _)]
    · have e2 : ((L : Int) == 2) = false := by simp; omega
      have e3 : ((L : Int) == 3) = false := by simp; omega
      have HCD := Lib.hid (cands_other (t := tx s) (by rw [HCL.out]; exact h2) (by rw [HCL.out]; exact h3))
      clear h2 h3
      have HLEN : Hid (((Nt.cands (tx s)).map d3).length = 2) := Lib.hid (by rw [HCD.out]; rfl)
      have HST : Hid (Tg 41 (w1.alloc (.cells #[.int .i64 2, .int .i64 0, .int .i64 0, .int .i64 4, .int .i64 0, .int .i64 0] 41)) w1.heap.size (.slice (some ⟨w1.heap.size, 0, none⟩) 2 2) ((Nt.cands (tx s)).map d3)) := Lib.hid (by rw [HCD.out]; exact HLT.out)
      go_wp2_with fail
      go_loopw [7] (fun i wr => ∃ k : Nat, k ≤ 2 ∧ i = .int .i64 k ∧ (∀ j, j < k → Nt.deedT ((Nt.cands (tx s)).getD j ⟨0, 0, 0⟩) ≠ tx s ∨ tx s = []) ∧ Tg 41 wr w1.heap.size (.slice (some ⟨w1.heap.size, 0, none⟩) 2 2) ((Nt.cands (tx s)).map d3) ∧ Kept [] w1 wr) (fun i _ => 2 - (intOf i).toNat)
      case atStart => exact ⟨0, Nat.zero_le _, rfl, fun j hj => absurd hj (by omega), HST.out, HKL.out⟩
      case round =>
        obtain ⟨k, hk, rfl, hno, htg, hkept⟩ := hrel
        have HNO := Lib.hid hno
        have HTG := Lib.hid htg
        have HK := Lib.hid hkept
        obtain ⟨_, _, e, _, hgd, _, _, hcell⟩ := htg.shape (n := 2) HLEN.out (by omega)
        simp only [Value.slice.injEq, Option.some.injEq, Addr.mk.injEq, and_true, true_and] at e
        obtain ⟨rfl, rfl⟩ := e
        have hr := HR1.out.stay hkept
        have HR := Lib.hid hr
        obtain ⟨r0, r1, r2⟩ := hr.three
        have f0 := hr.frozen 0
        have f1 := hr.frozen 1
        have f2 := hr.frozen 2
        have HKK := Lib.hid (HK1.out.trans hkept (by simp))
        clear hno htg hkept hr
        by_cases hlt : k < 2
        · obtain ⟨c0, c1, c2⟩ := hcell k hlt
          rw [d3_at _ (by have h := HLEN.out; rw [List.length_map] at h; omega)] at c0 c1 c2
          by_cases hte : tx s = []
          · have hse := empty_yes hte
            have HTE := Lib.hid hte
            clear hte hcell
            go_wp2
            go_roundw
            case rel => exact ⟨k + 1, by omega, by go_num, fun j _ => .inr HTE.out, HTG.out, HK.out⟩
            case measure => simp [intOf]; omega
          · have hse := empty_no hte
            have HTE := Lib.hid hte
            obtain ⟨d, hd⟩ : ∃ d, (Nt.cands (tx s)).getD k ⟨0, 0, 0⟩ = d := ⟨_, rfl⟩
            rw [hd] at c0 c1 c2
            have HD := Lib.hid hd
            obtain ⟨dk, da, db⟩ := d
            have c0' : wr.cell? ⟨w1.heap.size, k * 3, none⟩ = some (.int .i64 dk) := c0
            have c1' : wr.cell? ⟨w1.heap.size, k * 3 + 1, none⟩ = some (.int .i64 da) := c1
            have c2' : wr.cell? ⟨w1.heap.size, k * 3 + 2, none⟩ = some (.int .i64 db) := c2
            clear hte hd hcell c0 c1 c2
            go_wp2_with fail
            refine (sDeedText_any dk da db _).mono ?_
            rintro e w6 ⟨z6, rfl, hz6, hk6⟩
            have HZ6 := Lib.hid hz6
            have HK6 := Lib.hid (HK.out.trans hk6 (by simp))
            have HTG6 := Lib.hid (HTG.out.stay hk6)
            have hr6 := HR.out.stay hk6
            have HR6 := Lib.hid hr6
            have d0 := (hk6.cell (p := ⟨w1.heap.size, k * 3, none⟩) hgd (by simp)).trans c0'
            have d1 := (hk6.cell (p := ⟨w1.heap.size, k * 3 + 1, none⟩) hgd (by simp)).trans c1'
            have d2 := (hk6.cell (p := ⟨w1.heap.size, k * 3 + 2, none⟩) hgd (by simp)).trans c2'
            clear hz6 hk6 c0' c1' c2' r0 r1 r2 f0 f1 f2
            obtain ⟨r0, r1, r2⟩ := hr6.three
            have f0 := hr6.frozen 0
            have f1 := hr6.frozen 1
            have f2 := hr6.frozen 2
            clear hr6
            by_cases he : Nt.deedT ⟨dk, da, db⟩ = tx s
            · have hq := str_yes (a := z6) (b := s) (by rw [HZ6.out, he])
              have HF := Lib.hid (rd_some (rd_hit HTE.out (by rw [HD.out]; exact he)))
              clear he
              go_wp2
              (try simp only [Exit.inBlock, Exit.then])
              refine bodyPost_ret (v := .tuple #[.agg #[.int .i64 dk, .int .i64 da, .int .i64 db], .bool true]) ?_ rfl ⟨by rw [HF.out.1, HF.out.2, HD.out]; rfl, (HK1.out.trans HK6.out (by simp)).set3 (Nat.le_refl _) _ _ _⟩
              rw [results_cell_tmp rfl]
              simp [asAddr, ret_deed ((HR6.out).set3 _ _ _)]
            · have hq := str_no (a := z6) (b := s) (by rw [HZ6.out]; exact he)
              have HF := Lib.hid he
              clear he
              go_wp2
              go_roundw
              case rel =>
                refine ⟨k + 1, by omega, by go_num, fun j hj => ?_, HTG6.out, HK6.out⟩
                by_cases e : j = k
                · subst e; exact .inl (by rw [HD.out]; exact HF.out)
                · exact HNO.out j (by omega)
              case measure => simp [intOf]; omega
        · have hk' : k = 2 := by omega
          subst hk'
          have HF : Hid (rdD (tx s) = ⟨0, 0, 0⟩ ∧ rdB (tx s) = false) := Lib.hid (by
            by_cases hte : tx s = []
            · exact rd_none (rd_empty hte)
            · refine rd_none (rd_miss fun j hj => ?_)
              have h := HLEN.out
              rw [List.length_map] at h
              rcases HNO.out j (by omega) with h1 | h1
              · exact h1
              · exact absurd h1 hte)
          clear hcell
          go_wp2
          (try simp only [Exit.inBlock, Exit.then])
          refine bodyPost_ret (v := .tuple #[.agg #[.int .i64 0, .int .i64 0, .int .i64 0], .bool false]) ?_ rfl ⟨by rw [HF.out.1, HF.out.2]; rfl, (HKK.out).set3 (Nat.le_refl _) _ _ _⟩
          rw [results_cell_tmp rfl]
          simp [asAddr, ret_deed ((HR.out).set3 _ _ _)]
end Go.Proofs.YtnajdbnacdnnlaaGreatDoor
