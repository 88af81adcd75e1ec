/-
  Places read of texts, by the model.
-/
import Derived.Test.YtnajdbnacdnnlaaGreatDoorQA
import Derived.Test.YtnajdbnacdnnlaaGreatDoorPJ
import Derived.Deep.DeepCutAuto
namespace Go.Proofs.YtnajdbnacdnnlaaGreatDoor
open Go.RowKit

set_option maxRecDepth 100000 in
theorem upon_make_int {o : Oper} {a : Act} {K : Act → World → Prop} {Q : Exit → Act → World → Prop} {w : World} (n : Nat) (hn : n ≤ 2000000)
    (h : ∀ g w', g = w.heap.size → Sl w' g (.slice (some ⟨g, 0, none⟩) n n) (List.replicate n 0) → Kept [] w w' → g < w'.heap.size →
      Oper.upon Tryz.prog o a K Q (Result.ok (Next.value (.slice (some ⟨g, 0, none⟩) n n)) w')) :
    Oper.upon Tryz.prog o a K Q ((Sem.run Tryz.prog (Instr.makeSlice 28 (.int .i64 (n : Int)) (.int .i64 (n : Int))) w).andThen fun a w' => Result.ok (Next.value a) w') := by
  obtain ⟨i0, hi, hz0, hz1, hz2⟩ := info_parts info_int
  obtain ⟨w', hrun, r1, r2⟩ := run_make_full (P := Tryz.prog) w w.heap.size 28 3 i0 (.int .i64 0) 1 Tryz.underlying28 hi hz0 hz1 .i64 .i64 n (by rw [hz2]; omega) (by unfold maxLen; omega) (Nat.le_refl _)
  rw [hrun]
  have hs : Sl w' w.heap.size (.slice (some ⟨w.heap.size, 0, none⟩) n n) (List.replicate n 0) := by
    unfold Sl
    have e : ints (List.replicate n 0) = (madeCells (Value.int .i64 0).cells (n * 1)).toList := by
      rw [show (Value.int IntKind.i64 0).cells = #[Value.int .i64 0] from rfl, toList_madeCells_one]
      simp [ints]
    rw [List.length_replicate, e]
    exact r1
  exact h _ w' rfl hs ((Kept.refl _ _).grown r2 (by simp)) (hs.block (g := w.heap.size) rfl).2

/-- 'append(out, x)' of one number, to a long slice. -/
theorem step_app_intP {ops : Array Oper} {o : Oper} {a : Act} {K : Act → World → Prop} {Q : Exit → Act → World → Prop} {E : Prop} {W : World} (x : Int) (hgd : o.guard = none) (s y : Operand)
    (ho : o.op = .call { callee := .builtin .append, args := #[s, y], argTypes := #[28, 28] })
    (base : Nat) (v : Value) (xs : List Int) (hown : Sl W base v xs) (hs : a.eval s = v) (b : Nat) (hx : a.eval y = .slice (some ⟨b, 0, none⟩) 1 1) (hcell : W.cell? ⟨b, 0, none⟩ = some (.int .i64 x))
    (hlen : xs.length ≤ 2000000) (hbase : base ≤ W.heap.size)
    (h : ∀ v' w', Sl w' base v' (xs ++ [x]) → Kept v.ownBlock.toList W w' → K (a.put o.dst v') w') :
    if Region.wanted o (yielded ops a.tmps) = true then Oper.wp Tryz.prog o a W K Q else E := by
  have hw : Region.wanted o (yielded ops a.tmps) = true := by simp [Region.wanted, hgd]
  rw [if_pos hw]
  obtain ⟨i0, hi, hz0, hz1, hz2⟩ := info_parts info_int
  refine wp_append_own W s y _ ho base 3 i0 (.int .i64 0) 1 8 Tryz.underlying28 hi hz0 hz1 hz2 rfl (by decide) v xs.length (ints xs) hs hown
    ⟨b, 0, none⟩ 1 1 [.int .i64 x] hx rfl ?_ (by intro u hu; simp at hu; subst hu; rfl) (by unfold maxLen; omega) (by omega) hbase ?_
  · intro j u hj
    match j, hj with
    | 0, hj => simp at hj; subst hj; simpa [Addr.add] using hcell
  · intro v' w' h1 h2 _
    refine h v' w' ?_ ?_
    · unfold Sl
      rw [List.length_append, ints_append]
      exact h1
    · exact (Kept.refl _ _).grown h2 fun k hk => .inl (by rw [hk]; simp)

/-- A place that is returned, with a truth. -/
theorem ret_place {W : World} {g : Nat} {a b c : Value} (h : Bk W g 30 #[a, b, c]) :
    (loadVar 30 ⟨g, 0, none⟩).run Tryz.prog W = .ok (.agg #[a, b, c]) W :=
  run_loadVar_row W g 30 30 #[a, b, c] (0, 0) _ h Tryz.underlying30 rfl (by kernel_rfl)

set_option maxHeartbeats 4000000 in
set_option maxRecDepth 100000 in
theorem sReadPlace_any (s : ByteArray) (hs : s.size ≤ 1100000) (w : World) :
    Calls Tryz.prog 150 #[.string s] w fun e w' => ∃ y, e = .returned (.tuple #[y, .bool (Nt.readPB (tx s))]) ∧ Pv w' w.heap.size y (Nt.readPI (tx s)) ∧ Kept [] w w' := by
  have hk0 : Kept [] w (w.alloc (.cells #[.slice none 0 0, .int .i64 0, .slice none 0 0] 30)) := (Kept.refl [] w).alloc _
  have HR0 := Lib.hid (Bk.new w 30 #[.slice none 0 0, .int .i64 0, .slice none 0 0])
  have HK0 := Lib.hid hk0
  have HS := Lib.hid hs
  clear hk0 hs
  go_enter Tryz.func150, Tryz.ntmps150
  go_wp2_with fail
  generalize w.alloc (.cells #[.slice none 0 0, .int .i64 0, .slice none 0 0] 30) = W0 at *
  refine (l1Cut32_any s HS.out _).mono ?_
  rintro e w1 ⟨u1, ps, rfl, hts, hpm, hk1⟩
  obtain ⟨hcl, hcp⟩ := cut_at hpm
  have HCL := Lib.hid hcl
  have HCP := Lib.hid hcp
  have HTS := Lib.hid hts
  have HR1 := Lib.hid (HR0.out.stay hk1)
  have HK1 := Lib.hid (HK0.out.trans hk1 (by simp))
  have hrs := HR1.out.three
  obtain ⟨r0, r1, r2⟩ := hrs
  have f0 := HR1.out.frozen 0
  have f1 := HR1.out.frozen 1
  have f2 := HR1.out.frozen 2
  obtain ⟨a, cap, rfl, _, hm, hc⟩ := hts.any
  have HC := Lib.hid hc
  have HZ : Hid (∀ W : World, Bk W w.heap.size 30 #[.slice none 0 0, .int .i64 0, .slice none 0 0] → Kept [] w W → Nt.readP (tx s) = none → ∃ y, Ending.returned (.tuple #[.agg #[.slice none 0 0, .int .i64 0, .slice none 0 0], .bool false]) = .returned (.tuple #[y, .bool (Nt.readPB (tx s))]) ∧ Pv W w.heap.size y (Nt.readPI (tx s)) ∧ Kept [] w W) := Lib.hid (fun W _ hk hno => by
    obtain ⟨e1, e2⟩ := Nt.readPI_none hno
    rw [e1, e2]
    exact ⟨_, rfl, Pv.zero W _, hk⟩)
  clear hts hpm hk1 HR0 HK0 hcl hcp hc
  by_cases h4 : ps.length = 4
  · obtain ⟨A0, A1, A2, A3, rfl⟩ : ∃ A0 A1 A2 A3, ps = [A0, A1, A2, A3] := by
      match ps, h4 with
      | [a, b, c, d], _ => exact ⟨a, b, c, d, rfl⟩
    have hl4 : [A0, A1, A2, A3].length = 4 := rfl
    rw [hl4] at HCL HCP HC ⊢
    have HX0 := Lib.hid ((HCP.out 0 (by omega)).1)
    have HX1 := Lib.hid ((HCP.out 1 (by omega)).1)
    have HX2 := Lib.hid ((HCP.out 2 (by omega)).1)
    have HX3 := Lib.hid ((HCP.out 3 (by omega)).1)
    have HZ0 : Hid (A0.size ≤ 1100000) := Lib.hid (Nat.le_trans (HCP.out 0 (by omega)).2 HS.out)
    have HZ1 : Hid (A1.size ≤ 1100000) := Lib.hid (Nat.le_trans (HCP.out 1 (by omega)).2 HS.out)
    have HZ2 : Hid (A2.size ≤ 1100000) := Lib.hid (Nat.le_trans (HCP.out 2 (by omega)).2 HS.out)
    have HZ3 : Hid (A3.size ≤ 1100000) := Lib.hid (Nat.le_trans (HCP.out 3 (by omega)).2 HS.out)
    obtain ⟨gw, rfl, hgb, hgw, w0⟩ := HC.out 0 (by omega)
    have hcw : ∀ k, k < 4 → w1.cell? ⟨gw, k, none⟩ = some (.string (atT [A0, A1, A2, A3] k)) := fun k hk => by
      obtain ⟨g', e, _, _, hcc⟩ := HC.out k hk
      simp only [Option.some.injEq, Addr.mk.injEq] at e
      obtain ⟨rfl, _⟩ := e
      exact hcc
    have w1c : w1.cell? ⟨gw, 1, none⟩ = some (.string A1) := hcw 1 (by omega)
    have w2c : w1.cell? ⟨gw, 2, none⟩ = some (.string A2) := hcw 2 (by omega)
    have w3c : w1.cell? ⟨gw, 3, none⟩ = some (.string A3) := hcw 3 (by omega)
    have w0c : w1.cell? ⟨gw, 0, none⟩ = some (.string A0) := w0
    have HCW : Hid (∀ W, Kept [] w1 W → W.cell? ⟨gw, 0, none⟩ = some (.string A0) ∧ W.cell? ⟨gw, 1, none⟩ = some (.string A1) ∧ W.cell? ⟨gw, 2, none⟩ = some (.string A2) ∧ W.cell? ⟨gw, 3, none⟩ = some (.string A3)) := Lib.hid (fun W hk =>
      ⟨(hk.cell (p := ⟨gw, 0, none⟩) hgw (by simp)).trans w0c, (hk.cell (p := ⟨gw, 1, none⟩) hgw (by simp)).trans w1c, (hk.cell (p := ⟨gw, 2, none⟩) hgw (by simp)).trans w2c, (hk.cell (p := ⟨gw, 3, none⟩) hgw (by simp)).trans w3c⟩)
    have hne4 : ((4 : Int) != 4) = false := rfl
    obtain ⟨d, hd⟩ : ∃ d, d = Nt.dval (tx A0) := ⟨_, rfl⟩
    have HD0 : Hid (∀ W : World, Calls Tryz.prog 110 #[.string A0] W fun e w' => e = .returned (.int .i64 d) ∧ W = w') := Lib.hid (fun W => by rw [hd]; exact l1Digits_any A0 (by have := HZ0.out; omega) W)
    obtain ⟨d2, hd2⟩ : ∃ d2, d2 = Nt.dval (tx A2) := ⟨_, rfl⟩
    have HD2 : Hid (∀ W : World, Calls Tryz.prog 110 #[.string A2] W fun e w' => e = .returned (.int .i64 d2) ∧ W = w') := Lib.hid (fun W => by rw [hd2]; exact l1Digits_any A2 (by have := HZ2.out; omega) W)
    have HDE : Hid (d = Nt.dval ((Nt.cut 32 (tx s)).getD 0 [])) := Lib.hid (by rw [hd]; exact congrArg Nt.dval HX0.out)
    have HDE2 : Hid (d2 = Nt.dval ((Nt.cut 32 (tx s)).getD 2 [])) := Lib.hid (by rw [hd2]; exact congrArg Nt.dval HX2.out)
    clear hd hd2 w0 hcw hl4 h4 hm HC HCP
    by_cases hin : 1 ≤ d ∧ d ≤ 6
    · have d1 : decide (1 ≤ d ∧ d ≤ 6) = true := dec_of hin
      obtain ⟨n, rfl⟩ := Int.eq_ofNat_of_zero_le (show 0 ≤ d by omega)
      have hn1 : 1 ≤ n := by omega
      have hn6 : n ≤ 6 := by omega
      clear hin
      go_wp2_with (first | (go_at_call 110; refine (HD0.out _).mono ?_; rintro e w' ⟨rfl, rfl⟩) | (go_at_call 151; refine (l1In_any (n : Int) 1 6 _).mono ?_; rintro e w' ⟨rfl, rfl⟩; rw [d1]))
      clear r0 r1 r2 f0 f1 f2 w0c w1c w2c w3c
      have HZW : Hid (w.heap.size < w1.heap.size) := Lib.hid HR1.out.lt
      go_cut [5] (fun u5 wc => ∃ gn bp : Nat, u5 = .pointer (some ⟨bp, 0, none⟩) ∧ w1.heap.size ≤ bp ∧ gn ≠ bp ∧ Bk wc bp 30 #[.slice (some ⟨gn, 0, none⟩) n n, .int .i64 d2, .slice none 0 0] ∧ Sl wc w1.heap.size (.slice (some ⟨gn, 0, none⟩) n n) (List.replicate n 0) ∧ Kept [] w1 wc)
      case first =>
        go_region_held3 (fun w' => w'.cell? ⟨gw, 0, none⟩ = some (.string A0) ∧ w'.cell? ⟨gw, 1, none⟩ = some (.string A1) ∧ w'.cell? ⟨gw, 2, none⟩ = some (.string A2) ∧ w'.cell? ⟨gw, 3, none⟩ = some (.string A3))
          ((refine HCW.out _ ?_; repeat (first | exact Kept.refl _ _ | assumption | apply Kept.alloc | apply Kept.drew | (refine Kept.setCell ?_ (.inr (by first | assumption | (simp; done) | (simp; omega) | omega)) _))))
          (first
            | (go_simp; go_at_call 110; (with_reducible refine (HD0.out _).mono ?_); rintro e w' ⟨rfl, rfl⟩)
            | (go_simp; go_at_call 110; (with_reducible refine (HD2.out _).mono ?_); rintro e w' ⟨rfl, rfl⟩)
            | (refine upon_make_int n (by omega) ?_; intro g w3 hg hs3 hk3 hz3; have k3 : Kept [] w1 w3 := Kept.trans (rows' := []) (by repeat (first | exact Kept.refl _ _ | apply Kept.alloc | apply Kept.drew)) hk3 (by simp); have z3 := k3.size; have HS3 := Lib.hid hs3; have V3 := Lib.hid hz3; have ZG : Hid (w1.heap.size ≤ g) := Lib.hid (by rw [hg]; exact (show Kept [] w1 _ from by repeat (first | exact Kept.refl _ _ | apply Kept.alloc | apply Kept.drew)).size); (first | (have hp3 : Bk w3 w1.heap.size 30 #[.slice none 0 0, .int .i64 0, .slice none 0 0] := Bk.stay (Bk.new w1.drew _ _) hk3; have HP3 := Lib.hid hp3; obtain ⟨e0, e1, e2⟩ := hp3.three; have p0 := hp3.frozen 0; have p1 := hp3.frozen 1; have p2 := hp3.frozen 2; have y3 := hp3.lt; have NE : Hid (g ≠ w1.heap.size) := Lib.hid (by simp at hg; omega); clear hp3) | skip); clear hs3 hz3 hk3 hg))
        all_goals
          go_wp2_with fail
          go_meet
          refine ⟨g, _, rfl, ?_, ?_, ?_, ?_, ?_⟩
          · with_reducible first | exact z3 | exact Nat.le_refl _
          · with_reducible first | exact Nat.ne_of_lt V3.out | exact NE.out
          · with_reducible first | exact Bk.new _ _ _ | exact HP3.out.set3 _ _ _
          · first
              | (with_reducible exact (HS3.out.stay ((Kept.refl _ _).alloc _)).mono ZG.out)
              | (refine Sl.mono (HS3.out.kept (Kept.rows3 w3 _ _ _ _) ?_) ZG.out; intro g' hg' hm; have h := NE.out; simp [Value.ownBlock] at hg' hm; omega)
          · with_reducible first | exact k3.alloc _ | exact k3.set3 (Nat.le_refl _) _ _ _
      case rest =>
        obtain ⟨gn, bp, rfl, hbp, hgb, hbk, hsl, hkc⟩ := hcut
        have HBK := Lib.hid hbk
        have HSL := Lib.hid hsl
        have HKC := Lib.hid hkc
        have hgnl := (hsl.block (g := gn) rfl).2
        obtain ⟨x0, x1, x2, x3⟩ := HCW.out _ hkc
        clear hbk hsl hkc HD0 HD2
        go_wp2_with fail
        refine (l1Cut44_any A1 HZ1.out _).mono ?_
        rintro e w5 ⟨u6, rs, rfl, hts, hpm, hk5⟩
        obtain ⟨hcl, hcp⟩ := cut_at hpm
        have HCL5 := Lib.hid hcl
        have HCP5 := Lib.hid hcp
        have HK5 := Lib.hid (HKC.out.trans hk5 (by simp))
        have HSL5 := Lib.hid (HSL.out.stay hk5)
        have HBK5 := Lib.hid (HBK.out.stay hk5)
        obtain ⟨a6, cap6, rfl, _, hm6, hc6⟩ := hts.any
        have HC6 : Hid (∀ k, k < rs.length → ∃ g, a6 = some ⟨g, 0, none⟩ ∧ g ≠ gn ∧ g < w5.heap.size ∧ w5.cell? ⟨g, k, none⟩ = some (.string (atT rs k))) := Lib.hid (fun k hk => by
          obtain ⟨g, e1, e2, e3, e4⟩ := hc6 k hk
          exact ⟨g, e1, by omega, e3, e4⟩)
        clear hts hpm hk5 hcl hcp hc6 HSL HBK HKC x0 x1 x2 x3 hgnl
        obtain ⟨R, hR⟩ : ∃ R, R = rs.length := ⟨_, rfl⟩
        rw [← hR] at HCL5 HCP5 HC6 hm6 ⊢
        have hRs : R ≤ 1100001 := by
          have h1 := Nt.cut_length 44 (tx A1)
          rw [HCL5.out, tx_length] at h1
          have := HZ1.out
          omega
        have HDX : Hid ((A1.toList == [46]) = decide (tx A1 = [46])) := Lib.hid (str_beq A1 [46])
        have HX1' : Hid ((Nt.cut 32 (tx s)).getD 1 [] = tx A1) := Lib.hid HX1.out.symm
        have HW := Lib.hid (fun k (h : k < (Nt.cut 44 (tx A1)).length) x y (e : (Nt.cut 44 (tx A1)).getD k [] = [48 + x, 48 + y]) => Nt.layW_succ (Nt.cut 44 (tx A1)) (List.replicate n 0) h e)
        have HPN := Lib.hid (fun (hne : tx A1 ≠ [46]) k (hk : k < (Nt.cut 44 (tx A1)).length) (h : ∀ a b : Nat, a < b → (b : Int) < (n : Int) → (Nt.cut 44 (tx A1)).getD k [] ≠ [48 + a, 48 + b]) => Nt.readP_parts_no (t := tx s) (by rw [HX1'.out]; exact hne) (k := k) (by rw [HX1'.out]; exact hk) (by rw [HX1'.out, ← HDE.out]; exact h))
        clear hR hm6
        go_wp2_with fail
        go_loopw [7] (fun i wr => ∃ (k : Nat) (ms : List Nat), k ≤ R ∧ i = .int .i64 k ∧ (tx A1 = [46] → k = 0) ∧ ms.length = n ∧ (∀ j, j < n → ms.getD j 0 < 64) ∧ ms = Nt.layW (List.replicate n 0) ((Nt.cut 44 (tx A1)).take k) ∧ Sl wr w1.heap.size (.slice (some ⟨gn, 0, none⟩) n n) (Nt.nats ms) ∧ Bk wr bp 30 #[.slice (some ⟨gn, 0, none⟩) n n, .int .i64 d2, .slice none 0 0] ∧ Kept [] w1 wr ∧ Kept [gn] w5 wr) (fun i _ => R - (intOf i).toNat)
        case atStart => exact ⟨0, List.replicate n 0, Nat.zero_le _, rfl, fun _ => rfl, by simp, fun j hj => by simp [List.getD_eq_getElem?_getD, hj], rfl, by simpa [Nt.nats] using HSL5.out, HBK5.out, HK5.out, Kept.refl _ _⟩
        case round =>
          clear HSL5 HBK5 HK5
          obtain ⟨k, ms, hk, rfl, hdot, hml, hms, hmw, hsl, hbk, hkc, hkg⟩ := hrel
          have HSL := Lib.hid hsl
          have HBK := Lib.hid hbk
          have HKC := Lib.hid hkc
          have HKG := Lib.hid hkg
          have HML := Lib.hid hml
          have HMS := Lib.hid hms
          have HMW := Lib.hid hmw
          have HDOT := Lib.hid hdot
          obtain ⟨x0, x1, x2, x3⟩ := HCW.out _ hkc
          obtain ⟨p0, p1, p2⟩ := hbk.three
          have hrk := HR1.out.stay hkc
          obtain ⟨r0, r1, r2⟩ := hrk.three
          have f0 := hrk.frozen 0
          have f1 := hrk.frozen 1
          have f2 := hrk.frozen 2
          have HRK := Lib.hid hrk
          have HKK := Lib.hid (HK1.out.trans hkc (by simp))
          have hbk0 := hbk
          clear hsl hbk hms hmw hml hdot hrk
          by_cases hlt : k < R
          · by_cases hd46 : tx A1 = [46]
            · have hdd : (A1.toList == [46]) = true := by rw [HDX.out, decide_eq_true hd46]
              have hk0 := HDOT.out hd46
              have HFIN : Hid (ms = if (Nt.cut 32 (tx s)).getD 1 [] = [46] then List.replicate n 0 else Nt.layW (List.replicate n 0) (Nt.cut 44 ((Nt.cut 32 (tx s)).getD 1 []))) := Lib.hid (by rw [HX1'.out, if_pos hd46, HMW.out, hk0]; rfl)
              clear hd46 hk0
              have HSL9 := Lib.hid (HSL.out)
              have HBK9 := Lib.hid (HBK.out)
              have HKC9 := Lib.hid (HKC.out)
              have HGB := Lib.hid hgb
              have hbpl := hbk0.lt
              have hgnl := (HSL.out.block (g := gn) rfl).2
              have HBPL := Lib.hid hbpl
              have HGNL := Lib.hid hgnl
              have HOF := Lib.hid (fun k (h : k < (tx A3).length) => Nt.offs48_succ (tx A3) h)
              have HOL := Lib.hid (fun k => Nt.offs48_length ((tx A3).take k))
              obtain ⟨W9, hW9⟩ : ∃ W9 : World, W9 = wr := ⟨_, rfl⟩
              subst hW9
              clear r0 r1 r2 f0 f1 f2 hbpl hgnl hbk0 hgb hkc hkg
              go_wp2_with fail
              go_loopw [10] (fun i wr => ∃ (j : Nat) (v3 : Value), j ≤ A3.size ∧ i = .int .i64 j ∧ Sl wr W9.heap.size v3 (Nt.offs48 ((tx A3).take j)) ∧ Bk wr bp 30 #[.slice (some ⟨gn, 0, none⟩) n n, .int .i64 d2, v3] ∧ Kept [bp] W9 wr) (fun i _ => A3.size - (intOf i).toNat)
              case atStart => exact ⟨0, _, Nat.zero_le _, rfl, Sl.nil _ _, HBK9.out, Kept.refl _ _⟩
              case round =>
                clear x0 x1 x2 x3 p0 p1 p2
                obtain ⟨j, v3, hj, rfl, hsv, hbk, hkb⟩ := hrel
                have HSV := Lib.hid hsv
                have HBK := Lib.hid hbk
                have HKB := Lib.hid hkb
                have HK0 : Hid (Kept [] w1 wr) := Lib.hid (HKC9.out.trans hkb (fun x hx => by simp at hx; subst hx; exact .inr hbp))
                obtain ⟨x0, x1, x2, x3⟩ := HCW.out _ HK0.out
                obtain ⟨p0, p1, p2⟩ := hbk.three
                have p3 := hbk.frozen 2
                have hz9 := hkb.size
                clear hsv hbk hkb
                by_cases hlj : j < A3.size
                · obtain ⟨bb, hbb⟩ : ∃ bb, A3[j].toNat = bb := ⟨_, rfl⟩
                  have hb256 : bb < 256 := by rw [← hbb]; exact A3[j].toNat_lt
                  have HXS : Hid (Nt.offs48 ((tx A3).take (j + 1)) = Nt.offs48 ((tx A3).take j) ++ [(bb : Int) - 48]) := Lib.hid (by rw [HOF.out j (by rw [tx_length]; exact hlj), tx_get hlj, hbb])
                  have q0 : -9223372036854775808 ≤ (bb : Int) ∧ (bb : Int) ≤ 9223372036854775807 := by omega
                  have q1 : -9223372036854775808 ≤ (bb : Int) - 48 ∧ (bb : Int) - 48 ≤ 9223372036854775807 := by omega
                  have hlen3 : (Nt.offs48 ((tx A3).take j)).length ≤ 2000000 := by rw [HOL.out, List.length_take]; have := HZ3.out; omega
                  have HLEN3 := Lib.hid hlen3
                  have HZ9 := Lib.hid hz9
                  have HLJ := Lib.hid hlj
                  have HSX : Hid (∃ a c, v3 = .slice a (Nt.offs48 ((tx A3).take j)).length c) := Lib.hid (by obtain ⟨a, c, e, _⟩ := HSV.out.any; exact ⟨a, c, e⟩)
                  obtain ⟨a3, c3, rfl⟩ := HSX.out
                  have v1 : IntKind.i64.wrap ((bb : Int) - 48) = (bb : Int) - 48 := IntWalk.i64_in _ q1
                  have v2 : IntKind.i64.wrap (bb : Int) = (bb : Int) := IntWalk.i64_in _ q0
                  have v3' : wrap64 ((bb : Int) - 48) = (bb : Int) - 48 := IntWalk.wrap64_in _ q1
                  have v4 : wrap64 (bb : Int) = (bb : Int) := IntWalk.wrap64_in _ q0
                  clear q0 q1 hb256 hlen3 HSX
                  generalize Nt.offs48 ((tx A3).take j) = ys at *
                  go_wp2_with fail
                  have hbl : bp < wr.heap.size := HBK.out.lt
                  have hgl : gw < wr.heap.size := by have := HK0.out.size; omega
                  go_region_law (refine step_app_intP ((bb : Int) - 48) rfl _ _ rfl W9.heap.size (.slice a3 ys.length c3) ys (HSV.out.stay (by repeat (first | exact Kept.refl _ _ | apply Kept.alloc | apply Kept.drew))) (by go_simp) wr.heap.size (by go_simp) (by simp) HLEN3.out (by simp; have := HZ9.out; omega) ?_; intro v' w' hs' hk'; have k' : Kept [] w1 w' := Kept.trans (rows' := (Value.slice a3 ys.length c3).ownBlock.toList) (HK0.out.drew.alloc (.cells #[.int .i64 ((bb : Int) - 48)] 3)) hk' (by intro x hx; right; have h := (HSV.out.block (g := x) (by simpa using hx)).1; have h2 := HKC9.out.size; omega); have hbk' : Bk w' bp 30 #[.slice (some ⟨gn, 0, none⟩) n n, .int .i64 d2, .slice a3 ys.length c3] := Bk.kept (Bk.stay HBK.out (show Kept [] wr (wr.drew.alloc (.cells #[.int .i64 ((bb : Int) - 48)] 3)) from ((Kept.refl [] wr).drew.alloc _))) hk' (by intro hx; have h := (HSV.out.block (g := bp) (by simpa using hx)).1; have h2 := HBPL.out; omega); have HS' := Lib.hid hs'; have HBK' := Lib.hid hbk'; have HKB' : Hid (Kept [bp] W9 w') := Lib.hid (Kept.trans (rows' := (Value.slice a3 ys.length c3).ownBlock.toList) (HKB.out.drew.alloc (.cells #[.int .i64 ((bb : Int) - 48)] 3)) hk' (by intro x hx; right; exact (HSV.out.block (g := x) (by simpa using hx)).1)); obtain ⟨t0, t1, t2⟩ := hbk'.three; have t3 := hbk'.frozen 2; obtain ⟨y0, y1, y2, y3⟩ := HCW.out w' k'; obtain ⟨g', c', rfl, _, _⟩ := hs'.shape (n := ys.length + 1) (by simp) (by omega); clear hs' hk' hbk' k')
                  all_goals
                    clear v1 v2 v3' v4 t0 t1 t2 t3 y0 y1 y2 y3
                    have hz3 := HZ3.out
                    go_wp2
                    go_roundw
                    case rel =>
                      refine ⟨j + 1, _, by omega, by go_num, ?_, HBK'.out.set 2 _, HKB'.out.setCell (.inl (by simp)) _⟩
                      rw [HXS.out]
                      refine HS'.out.kept ((Kept.refl [bp] _).setCell (.inl (by simp)) _) ?_
                      intro g hg hm
                      have h := (HS'.out.block hg).1
                      have h2 := HBPL.out
                      simp at hm
                      omega
                    case measure => simp [intOf]; omega
                · have hjl : j = A3.size := by omega
                  have HTK : Hid (Nt.offs48 ((tx A3).take j) = Nt.offs48 ((Nt.cut 32 (tx s)).getD 3 [])) := Lib.hid (by rw [hjl, ← tx_length, List.take_length]; exact congrArg Nt.offs48 HX3.out)
                  have HPI := Lib.hid (fun q (h : Nt.readP (tx s) = some q) => Nt.readP_is h (n := n) HDE.out.symm HFIN.out)
                  obtain ⟨a3, c3, rfl, _, _, _⟩ := HSV.out.any
                  have HPV : Hid (Pv wr w1.heap.size (.agg #[.slice (some ⟨gn, 0, none⟩) n n, .int .i64 d2, .slice a3 (Nt.offs48 ((tx A3).take j)).length c3]) ⟨Nt.nats ms, d2, Nt.offs48 ((tx A3).take j)⟩) := Lib.hid ⟨_, _, rfl, HSL9.out.kept HKB.out (fun g hg hm => HGB.out (by simp [Value.ownBlock] at hg hm; omega)), HSV.out.mono HKC9.out.size⟩
                  have HC4 : Hid ((Nt.cut 32 (tx s)).length = 4) := Lib.hid HCL.out
                  have hrk := HR1.out.stay HK0.out
                  have HRK9 := Lib.hid hrk
                  rw [HTK.out] at HPV
                  rw [HTK.out] at HBK
                  have HPI2 : Hid (∀ q, Nt.readP (tx s) = some q → (⟨Nt.nats ms, d2, Nt.offs48 ((Nt.cut 32 (tx s)).getD 3 [])⟩ : Nt.Pi) = q.i) := Lib.hid (fun q h => by rw [HDE2.out]; exact HPI.out q h)
                  generalize Nt.offs48 ((Nt.cut 32 (tx s)).getD 3 []) = ys at *
                  clear p0 p1 p2 hjl hrk
                  obtain ⟨p0, p1, p2⟩ := HBK.out.three
                  go_wp2_with fail
                  refine (sPlaceText_any ⟨Nt.nats ms, d2, ys⟩ _ _ _ HPV.out).mono ?_
                  rintro e w10 ⟨z, rfl, hz, hk10⟩
                  have HBK10 := Lib.hid (HBK.out.stay hk10)
                  have HPV10 := Lib.hid (HPV.out.stay hk10)
                  have HK10 := Lib.hid (HK0.out.trans hk10 (by simp))
                  have HR10 := Lib.hid (HRK9.out.stay hk10)
                  have HZT := Lib.hid hz
                  clear hz hk10 p0 p1 p2 p3 x0 x1 x2 x3
                  obtain ⟨p0, p1, p2⟩ := HBK10.out.three
                  obtain ⟨r0, r1, r2⟩ := HR10.out.three
                  have f0 := HR10.out.frozen 0
                  have f1 := HR10.out.frozen 1
                  have f2 := HR10.out.frozen 2
                  by_cases he : Nt.ptxt ⟨Nt.nats ms, d2, ys⟩ = tx s
                  · have hse := str_yes (a := z) (b := s) (by rw [HZT.out, he])
                    obtain ⟨q, hq1, hq2⟩ := Nt.readP_cand he (fun e => by have h := HC4.out; rw [e] at h; simp [Nt.cut, Nt.cutFrom] at h)
                    have HQ := Lib.hid hq1
                    have HQ2 := Lib.hid (Nt.readPI_some hq2)
                    clear he hq1 hq2
                    go_wp2
                    (try simp only [Exit.inBlock, Exit.then])
                    refine bodyPost_ret (v := .tuple #[.agg #[.slice (some ⟨gn, 0, none⟩) n n, .int .i64 d2, .slice a3 ys.length c3], .bool true]) ?_ rfl ?_
                    · rw [results_cell_tmp rfl]
                      simp [asAddr, ret_place (HR10.out.set3 _ _ _)]
                    · obtain ⟨e1, e2⟩ := HQ2.out
                      rw [e1, e2]
                      refine ⟨_, rfl, ?_, (HK1.out.trans HK10.out (by simp)).set3 (Nat.le_refl _) _ _ _⟩
                      rw [← HQ.out]
                      obtain ⟨vv, uu, e3, hv, hu⟩ := HPV10.out
                      simp only [Value.agg.injEq, Array.mk.injEq, List.cons.injEq, and_true, true_and] at e3
                      obtain ⟨rfl, rfl⟩ := e3
                      have hne : ∀ g : Nat, w1.heap.size ≤ g → ¬ g ∈ [w.heap.size] := fun g h hm => by have := HZW.out; simp at hm; omega
                      exact ⟨_, _, rfl, (hv.kept (Kept.rows3 w10 w.heap.size _ _ _) (fun g hg => hne g (hv.block hg).1)).mono (Nat.le_of_lt HZW.out), (hu.kept (Kept.rows3 w10 w.heap.size _ _ _) (fun g hg => hne g (hu.block hg).1)).mono (Nat.le_of_lt HZW.out)⟩
                  · have hse := str_no (a := z) (b := s) (by rw [HZT.out]; exact he)
                    have HNO : Hid (Nt.readP (tx s) = none) := Lib.hid (by
                      cases hc : Nt.readP (tx s) with
                      | none => rfl
                      | some q =>
                        exfalso
                        apply he
                        rw [HPI2.out q hc]
                        obtain ⟨h1, h2⟩ := Nt.readP_some.1 hc
                        rw [Nt.ptxt_ok h1, h2])
                    clear he
                    go_wp2
                    (try simp only [Exit.inBlock, Exit.then])
                    refine bodyPost_ret (v := .tuple #[.agg #[.slice none 0 0, .int .i64 0, .slice none 0 0], .bool false]) ?_ rfl (HZ.out _ ((HR10.out).set3 _ _ _) ((HK1.out.trans HK10.out (by simp)).set3 (Nat.le_refl _) _ _ _) HNO.out)
                    rw [results_cell_tmp rfl]
                    simp [asAddr, ret_place ((HR10.out).set3 _ _ _)]
            · have hdd : (A1.toList == [46]) = false := by rw [HDX.out, decide_eq_false hd46]
              obtain ⟨g6, rfl, hg6, hg6l, hc6⟩ := HC6.out k hlt
              have c6 := (hkg.cell (p := ⟨g6, k, none⟩) hg6l (by simpa using hg6)).trans hc6
              obtain ⟨hzt, hzs⟩ := HCP5.out k hlt
              have HPN1 := Lib.hid (HPN.out hd46 k (by rw [HCL5.out]; exact hlt))
              have HW1 := Lib.hid (HW.out k (by rw [HCL5.out]; exact hlt))
              have HD46 := Lib.hid hd46
              generalize atT rs k = z at *
              have HZT := Lib.hid hzt
              clear hkc hkg hc6 hg6 hg6l hzt hd46
              by_cases hz2 : z.size = 2
              · have hne2 : ((z.size : Int) != 2) = false := by simp [hz2]
                have h0 : 0 < z.size := by omega
                have h1 : 1 < z.size := by omega
                obtain ⟨b0, hb0⟩ : ∃ b0, z[0].toNat = b0 := ⟨_, rfl⟩
                obtain ⟨b1, hb1⟩ : ∃ b1, z[1].toNat = b1 := ⟨_, rfl⟩
                have hl0 : b0 < 256 := by rw [← hb0]; exact z[0].toNat_lt
                have hl1 : b1 < 256 := by rw [← hb1]; exact z[1].toNat_lt
                have HE2 : Hid ((Nt.cut 44 (tx A1)).getD k [] = [b0, b1]) := Lib.hid (by
                  rw [← HZT.out]
                  have e1 := tx_get h0
                  have e2 := tx_get h1
                  have e3 := tx_length z
                  rw [hb0] at e1
                  rw [hb1] at e2
                  match hq : tx z with
                  | [] => rw [hq] at e3; simp at e3; omega
                  | [p] => rw [hq] at e3; simp at e3; omega
                  | [p, q] => rw [hq] at e1 e2; simp at e1 e2; rw [e1, e2]
                  | p :: q :: r :: l => rw [hq] at e3; simp at e3; omega)
                by_cases hA : 0 ≤ (b0 : Int) - 48 ∧ (b0 : Int) - 48 ≤ (n : Int) - 1
                · have dA : decide (0 ≤ (b0 : Int) - 48 ∧ (b0 : Int) - 48 ≤ (n : Int) - 1) = true := dec_of hA
                  by_cases hB : 0 ≤ (b1 : Int) - 48 ∧ (b1 : Int) - 48 ≤ (n : Int) - 1
                  · have dB : decide (0 ≤ (b1 : Int) - 48 ∧ (b1 : Int) - 48 ≤ (n : Int) - 1) = true := dec_of hB
                    obtain ⟨a, ha⟩ : ∃ a, b0 = 48 + a := ⟨b0 - 48, by omega⟩
                    obtain ⟨b, hb⟩ : ∃ b, b1 = 48 + b := ⟨b1 - 48, by omega⟩
                    have HAN : Hid (a < n) := Lib.hid (by omega)
                    have HBN : Hid (b < n) := Lib.hid (by omega)
                    have HAB : Hid (b0 = 48 + a ∧ b1 = 48 + b) := Lib.hid ⟨ha, hb⟩
                    have ea : (b0 : Int) - 48 = (a : Int) := by omega
                    have eb : (b1 : Int) - 48 = (b : Int) := by omega
                    rw [ea] at dA
                    rw [eb] at dB
                    have q0 : -9223372036854775808 ≤ (b0 : Int) ∧ (b0 : Int) ≤ 9223372036854775807 := by omega
                    have q1 : -9223372036854775808 ≤ (b1 : Int) ∧ (b1 : Int) ≤ 9223372036854775807 := by omega
                    have q2 : -9223372036854775808 ≤ (a : Int) ∧ (a : Int) ≤ 9223372036854775807 := by omega
                    have q3 : -9223372036854775808 ≤ (b : Int) ∧ (b : Int) ≤ 9223372036854775807 := by omega
                    have ha6 : a < 6 := by omega
                    have hb6 : b < 6 := by omega
                    have HA6 := Lib.hid ha6
                    have HB6 := Lib.hid hb6
                    have wb0 : wrap64 (b0 : Int) = (b0 : Int) := IntWalk.wrap64_in _ q0
                    have wb1 : wrap64 (b1 : Int) = (b1 : Int) := IntWalk.wrap64_in _ q1
                    have wra : wrap64 (a : Int) = (a : Int) := IntWalk.wrap64_in _ q2
                    have wrb : wrap64 (b : Int) = (b : Int) := IntWalk.wrap64_in _ q3
                    clear q0 q1 q2 q3 ha6 hb6
                    clear hA hB ha hb hl0 hl1
                    go_wp2_with (go_at_call 151; first | (with_reducible refine (l1In_any (a : Int) 0 ((n : Int) - 1) _).mono ?_; rintro e w' ⟨rfl, rfl⟩; rw [dA]) | (with_reducible refine (l1In_any (b : Int) 0 ((n : Int) - 1) _).mono ?_; rintro e w' ⟨rfl, rfl⟩; rw [dB]))
                    clear ea eb wb0 wb1 wra wrb hb0 hb1 dA dB h0 h1 hne2 hz2 hdd
                    have han := HAN.out
                    have hbn := HBN.out
                    have ha6 := HA6.out
                    have hb6 := HB6.out
                    have hX := HMS.out a han
                    have hgnb := (HSL.out.block (g := gn) rfl).1
                    have HGNB := Lib.hid hgnb
                    obtain ⟨ca, fa⟩ := HSL.out.at a (by rw [Nt.nats_length, HML.out]; exact han)
                    rw [Nt.nats_get] at ca
                    generalize hx : ms.getD a 0 = x at *
                    have HX := Lib.hid hx
                    have e1 := or_shl x b hX (by omega)
                    have HS7 : Hid (Sl (wr.setCell ⟨gn, a, none⟩ (.int .i64 ((x ||| 2 ^ b : Nat) : Int))).drew w1.heap.size (.slice (some ⟨gn, 0, none⟩) n n) (Nt.nats (ms.set a (x ||| 2 ^ b)))) := Lib.hid (by
                      have h := HSL.out.set (by rw [Nt.nats_length, HML.out]) a ((x ||| 2 ^ b : Nat) : Int)
                      rw [Nt.nats_set]
                      exact h)
                    have HB7 : Hid (Bk (wr.setCell ⟨gn, a, none⟩ (.int .i64 ((x ||| 2 ^ b : Nat) : Int))).drew bp 30 #[.slice (some ⟨gn, 0, none⟩) n n, .int .i64 d2, .slice none 0 0]) := Lib.hid (HBK.out.other ⟨gn, a, none⟩ _ (Ne.symm hgb))
                    have HK7 : Hid (Kept [] w1 (wr.setCell ⟨gn, a, none⟩ (.int .i64 ((x ||| 2 ^ b : Nat) : Int))).drew) := Lib.hid (HKC.out.setCell (.inr hgnb) _).drew
                    have HG7 : Hid (Kept [gn] w5 (wr.setCell ⟨gn, a, none⟩ (.int .i64 ((x ||| 2 ^ b : Nat) : Int))).drew) := Lib.hid (HKG.out.setCell (.inl (by simp)) _).drew
                    clear hx hgnb
                    go_region
                    generalize (wr.setCell ⟨gn, a, none⟩ (.int .i64 ((x ||| 2 ^ b : Nat) : Int))).drew = w7 at *
                    have hbn := HBN.out
                    have HML7 : Hid ((ms.set a (x ||| 2 ^ b)).length = n) := Lib.hid (by rw [List.length_set]; exact HML.out)
                    obtain ⟨cb, fb⟩ := HS7.out.at b (by rw [Nt.nats_length, HML7.out]; exact hbn)
                    rw [Nt.nats_get] at cb
                    have hY : (ms.set a (x ||| 2 ^ b)).getD b 0 < 64 := by
                      rw [List.getD_eq_getElem?_getD, List.getElem?_set]
                      split
                      · split
                        · have e : (64 : Nat) = 2 ^ 6 := rfl
                          rw [e] at hX ⊢
                          exact Nat.or_lt_two_pow hX (Nat.pow_lt_pow_right (by omega) hb6)
                        · simp
                      · have := HMS.out b hbn
                        rw [List.getD_eq_getElem?_getD] at this
                        exact this
                    have HWR : Hid (Nt.wire ms a b = (ms.set a (x ||| 2 ^ b)).set b ((ms.set a (x ||| 2 ^ b)).getD b 0 ||| 2 ^ a)) := Lib.hid (by unfold Nt.wire; rw [HX.out])
                    obtain ⟨r0, r1, r2⟩ := (HR1.out.stay HK7.out).three
                    obtain ⟨p0, p1, p2⟩ := HB7.out.three
                    generalize hy : (ms.set a (x ||| 2 ^ b)).getD b 0 = y at *
                    have HY := Lib.hid hy
                    have e2 := or_shl y a hY (by omega)
                    have HS8 : Hid (Sl (w7.setCell ⟨gn, b, none⟩ (.int .i64 ((y ||| 2 ^ a : Nat) : Int))).drew w1.heap.size (.slice (some ⟨gn, 0, none⟩) n n) (Nt.nats (Nt.wire ms a b))) := Lib.hid (by
                      have h := HS7.out.set (by rw [Nt.nats_length, HML7.out]) b ((y ||| 2 ^ a : Nat) : Int)
                      rw [HWR.out, Nt.nats_set]
                      exact h)
                    have HB8 : Hid (Bk (w7.setCell ⟨gn, b, none⟩ (.int .i64 ((y ||| 2 ^ a : Nat) : Int))).drew bp 30 #[.slice (some ⟨gn, 0, none⟩) n n, .int .i64 d2, .slice none 0 0]) := Lib.hid (HB7.out.other ⟨gn, b, none⟩ _ (Ne.symm hgb))
                    have HK8 : Hid (Kept [] w1 (w7.setCell ⟨gn, b, none⟩ (.int .i64 ((y ||| 2 ^ a : Nat) : Int))).drew) := Lib.hid (HK7.out.setCell (.inr HGNB.out) _).drew
                    have HG8 : Hid (Kept [gn] w5 (w7.setCell ⟨gn, b, none⟩ (.int .i64 ((y ||| 2 ^ a : Nat) : Int))).drew) := Lib.hid (HG7.out.setCell (.inl (by simp)) _).drew
                    have HWS : Hid (∀ j, j < n → (Nt.wire ms a b).getD j 0 < 64) := Lib.hid (Nt.wire_small HML.out HMS.out HA6.out HB6.out)
                    have HWE : Hid (Nt.wire ms a b = Nt.layW (List.replicate n 0) ((Nt.cut 44 (tx A1)).take (k + 1))) := Lib.hid (by
                      rw [HW1.out a b (by rw [HE2.out, HAB.out.1, HAB.out.2]), ← HMW.out])
                    have HWL : Hid ((Nt.wire ms a b).length = n) := Lib.hid (by rw [Nt.wire_length]; exact HML.out)
                    clear hy e1 ca fa x0 x1 x2 x3
                    obtain ⟨x0, x1, x2, x3⟩ := HCW.out _ HK7.out
                    go_wp2
                    go_region
                    go_wp2
                    go_roundw
                    case rel => exact ⟨k + 1, _, by omega, by go_num, fun h => absurd h HD46.out, HWL.out, HWS.out, HWE.out, HS8.out, HB8.out, HK8.out, HG8.out⟩
                    case measure => simp [intOf]; omega
                  · have dB : decide (0 ≤ (b1 : Int) - 48 ∧ (b1 : Int) - 48 ≤ (n : Int) - 1) = false := dec_not hB
                    have HNO := Lib.hid (HPN1.out (fun a b hab hbn e => by
                      rw [HE2.out] at e
                      simp at e
                      omega))
                    clear hA hB
                    go_wp2_with (go_at_call 151; first | (with_reducible refine (l1In_any ((b0 : Int) - 48) 0 ((n : Int) - 1) _).mono ?_; rintro e w' ⟨rfl, rfl⟩; rw [dA]) | (refine (l1In_any ((b1 : Int) - 48) 0 ((n : Int) - 1) _).mono ?_; rintro e w' ⟨rfl, rfl⟩; rw [dB]))
                    (try simp only [Exit.inBlock, Exit.then])
                    refine bodyPost_ret (v := .tuple #[.agg #[.slice none 0 0, .int .i64 0, .slice none 0 0], .bool false]) ?_ rfl (HZ.out _ ((HRK.out).set3 _ _ _) ((HKK.out).set3 (Nat.le_refl _) _ _ _) HNO.out)
                    rw [results_cell_tmp rfl]
                    simp [asAddr, ret_place ((HRK.out).set3 _ _ _)]
                · have dA : decide (0 ≤ (b0 : Int) - 48 ∧ (b0 : Int) - 48 ≤ (n : Int) - 1) = false := dec_not hA
                  have HNO := Lib.hid (HPN1.out (fun a b hab hbn e => by
                    rw [HE2.out] at e
                    simp at e
                    omega))
                  clear hA
                  go_wp2_with (go_at_call 151; refine (l1In_any ((b0 : Int) - 48) 0 ((n : Int) - 1) _).mono ?_; rintro e w' ⟨rfl, rfl⟩; rw [dA])
                  (try simp only [Exit.inBlock, Exit.then])
                  refine bodyPost_ret (v := .tuple #[.agg #[.slice none 0 0, .int .i64 0, .slice none 0 0], .bool false]) ?_ rfl (HZ.out _ ((HRK.out).set3 _ _ _) ((HKK.out).set3 (Nat.le_refl _) _ _ _) HNO.out)
                  rw [results_cell_tmp rfl]
                  simp [asAddr, ret_place ((HRK.out).set3 _ _ _)]
              · have hne2 : ((z.size : Int) != 2) = true := by simp; omega
                have HNO := Lib.hid (HPN1.out (fun a b _ _ e => hz2 (by rw [← tx_length, HZT.out, e]; rfl)))
                clear hz2
                go_wp2
                (try simp only [Exit.inBlock, Exit.then])
                refine bodyPost_ret (v := .tuple #[.agg #[.slice none 0 0, .int .i64 0, .slice none 0 0], .bool false]) ?_ rfl (HZ.out _ ((HRK.out).set3 _ _ _) ((HKK.out).set3 (Nat.le_refl _) _ _ _) HNO.out)
                rw [results_cell_tmp rfl]
                simp [asAddr, ret_place ((HRK.out).set3 _ _ _)]

          · have hkR : k = R := by omega
            have hRp : 0 < R := by rw [← HCL5.out]; exact List.length_pos_iff.2 (Nt.cut_ne 44 (tx A1))
            have hd46 : tx A1 ≠ [46] := fun e => by have := HDOT.out e; omega
            have hdd : (A1.toList == [46]) = false := by rw [HDX.out, decide_eq_false hd46]
            have HFIN : Hid (ms = if (Nt.cut 32 (tx s)).getD 1 [] = [46] then List.replicate n 0 else Nt.layW (List.replicate n 0) (Nt.cut 44 ((Nt.cut 32 (tx s)).getD 1 []))) := Lib.hid (by rw [HX1'.out, if_neg hd46, HMW.out, hkR, ← HCL5.out, List.take_length])
            clear hd46 hkR hRp
            have HSL9 := Lib.hid (HSL.out)
            have HBK9 := Lib.hid (HBK.out)
            have HKC9 := Lib.hid (HKC.out)
            have HGB := Lib.hid hgb
            have hbpl := hbk0.lt
            have hgnl := (HSL.out.block (g := gn) rfl).2
            have HBPL := Lib.hid hbpl
            have HGNL := Lib.hid hgnl
            have HOF := Lib.hid (fun k (h : k < (tx A3).length) => Nt.offs48_succ (tx A3) h)
            have HOL := Lib.hid (fun k => Nt.offs48_length ((tx A3).take k))
            obtain ⟨W9, hW9⟩ : ∃ W9 : World, W9 = wr := ⟨_, rfl⟩
            subst hW9
            clear r0 r1 r2 f0 f1 f2 hbpl hgnl hbk0 hgb hkc hkg
            go_wp2_with fail
            go_loopw [10] (fun i wr => ∃ (j : Nat) (v3 : Value), j ≤ A3.size ∧ i = .int .i64 j ∧ Sl wr W9.heap.size v3 (Nt.offs48 ((tx A3).take j)) ∧ Bk wr bp 30 #[.slice (some ⟨gn, 0, none⟩) n n, .int .i64 d2, v3] ∧ Kept [bp] W9 wr) (fun i _ => A3.size - (intOf i).toNat)
            case atStart => exact ⟨0, _, Nat.zero_le _, rfl, Sl.nil _ _, HBK9.out, Kept.refl _ _⟩
            case round =>
              clear x0 x1 x2 x3 p0 p1 p2
              obtain ⟨j, v3, hj, rfl, hsv, hbk, hkb⟩ := hrel
              have HSV := Lib.hid hsv
              have HBK := Lib.hid hbk
              have HKB := Lib.hid hkb
              have HK0 : Hid (Kept [] w1 wr) := Lib.hid (HKC9.out.trans hkb (fun x hx => by simp at hx; subst hx; exact .inr hbp))
              obtain ⟨x0, x1, x2, x3⟩ := HCW.out _ HK0.out
              obtain ⟨p0, p1, p2⟩ := hbk.three
              have p3 := hbk.frozen 2
              have hz9 := hkb.size
              clear hsv hbk hkb
              by_cases hlj : j < A3.size
              · obtain ⟨bb, hbb⟩ : ∃ bb, A3[j].toNat = bb := ⟨_, rfl⟩
                have hb256 : bb < 256 := by rw [← hbb]; exact A3[j].toNat_lt
                have HXS : Hid (Nt.offs48 ((tx A3).take (j + 1)) = Nt.offs48 ((tx A3).take j) ++ [(bb : Int) - 48]) := Lib.hid (by rw [HOF.out j (by rw [tx_length]; exact hlj), tx_get hlj, hbb])
                have q0 : -9223372036854775808 ≤ (bb : Int) ∧ (bb : Int) ≤ 9223372036854775807 := by omega
                have q1 : -9223372036854775808 ≤ (bb : Int) - 48 ∧ (bb : Int) - 48 ≤ 9223372036854775807 := by omega
                have hlen3 : (Nt.offs48 ((tx A3).take j)).length ≤ 2000000 := by rw [HOL.out, List.length_take]; have := HZ3.out; omega
                have HLEN3 := Lib.hid hlen3
                have HZ9 := Lib.hid hz9
                have HLJ := Lib.hid hlj
                have HSX : Hid (∃ a c, v3 = .slice a (Nt.offs48 ((tx A3).take j)).length c) := Lib.hid (by obtain ⟨a, c, e, _⟩ := HSV.out.any; exact ⟨a, c, e⟩)
                obtain ⟨a3, c3, rfl⟩ := HSX.out
                have v1 : IntKind.i64.wrap ((bb : Int) - 48) = (bb : Int) - 48 := IntWalk.i64_in _ q1
                have v2 : IntKind.i64.wrap (bb : Int) = (bb : Int) := IntWalk.i64_in _ q0
                have v3' : wrap64 ((bb : Int) - 48) = (bb : Int) - 48 := IntWalk.wrap64_in _ q1
                have v4 : wrap64 (bb : Int) = (bb : Int) := IntWalk.wrap64_in _ q0
                clear q0 q1 hb256 hlen3 HSX
                generalize Nt.offs48 ((tx A3).take j) = ys at *
                go_wp2_with fail
                have hbl : bp < wr.heap.size := HBK.out.lt
                have hgl : gw < wr.heap.size := by have := HK0.out.size; omega
                go_region_law (refine step_app_intP ((bb : Int) - 48) rfl _ _ rfl W9.heap.size (.slice a3 ys.length c3) ys (HSV.out.stay (by repeat (first | exact Kept.refl _ _ | apply Kept.alloc | apply Kept.drew))) (by go_simp) wr.heap.size (by go_simp) (by simp) HLEN3.out (by simp; have := HZ9.out; omega) ?_; intro v' w' hs' hk'; have k' : Kept [] w1 w' := Kept.trans (rows' := (Value.slice a3 ys.length c3).ownBlock.toList) (HK0.out.drew.alloc (.cells #[.int .i64 ((bb : Int) - 48)] 3)) hk' (by intro x hx; right; have h := (HSV.out.block (g := x) (by simpa using hx)).1; have h2 := HKC9.out.size; omega); have hbk' : Bk w' bp 30 #[.slice (some ⟨gn, 0, none⟩) n n, .int .i64 d2, .slice a3 ys.length c3] := Bk.kept (Bk.stay HBK.out (show Kept [] wr (wr.drew.alloc (.cells #[.int .i64 ((bb : Int) - 48)] 3)) from ((Kept.refl [] wr).drew.alloc _))) hk' (by intro hx; have h := (HSV.out.block (g := bp) (by simpa using hx)).1; have h2 := HBPL.out; omega); have HS' := Lib.hid hs'; have HBK' := Lib.hid hbk'; have HKB' : Hid (Kept [bp] W9 w') := Lib.hid (Kept.trans (rows' := (Value.slice a3 ys.length c3).ownBlock.toList) (HKB.out.drew.alloc (.cells #[.int .i64 ((bb : Int) - 48)] 3)) hk' (by intro x hx; right; exact (HSV.out.block (g := x) (by simpa using hx)).1)); obtain ⟨t0, t1, t2⟩ := hbk'.three; have t3 := hbk'.frozen 2; obtain ⟨y0, y1, y2, y3⟩ := HCW.out w' k'; obtain ⟨g', c', rfl, _, _⟩ := hs'.shape (n := ys.length + 1) (by simp) (by omega); clear hs' hk' hbk' k')
                all_goals
                  clear v1 v2 v3' v4 t0 t1 t2 t3 y0 y1 y2 y3
                  have hz3 := HZ3.out
                  go_wp2
                  go_roundw
                  case rel =>
                    refine ⟨j + 1, _, by omega, by go_num, ?_, HBK'.out.set 2 _, HKB'.out.setCell (.inl (by simp)) _⟩
                    rw [HXS.out]
                    refine HS'.out.kept ((Kept.refl [bp] _).setCell (.inl (by simp)) _) ?_
                    intro g hg hm
                    have h := (HS'.out.block hg).1
                    have h2 := HBPL.out
                    simp at hm
                    omega
                  case measure => simp [intOf]; omega
              · have hjl : j = A3.size := by omega
                have HTK : Hid (Nt.offs48 ((tx A3).take j) = Nt.offs48 ((Nt.cut 32 (tx s)).getD 3 [])) := Lib.hid (by rw [hjl, ← tx_length, List.take_length]; exact congrArg Nt.offs48 HX3.out)
                have HPI := Lib.hid (fun q (h : Nt.readP (tx s) = some q) => Nt.readP_is h (n := n) HDE.out.symm HFIN.out)
                obtain ⟨a3, c3, rfl, _, _, _⟩ := HSV.out.any
                have HPV : Hid (Pv wr w1.heap.size (.agg #[.slice (some ⟨gn, 0, none⟩) n n, .int .i64 d2, .slice a3 (Nt.offs48 ((tx A3).take j)).length c3]) ⟨Nt.nats ms, d2, Nt.offs48 ((tx A3).take j)⟩) := Lib.hid ⟨_, _, rfl, HSL9.out.kept HKB.out (fun g hg hm => HGB.out (by simp [Value.ownBlock] at hg hm; omega)), HSV.out.mono HKC9.out.size⟩
                have HC4 : Hid ((Nt.cut 32 (tx s)).length = 4) := Lib.hid HCL.out
                have hrk := HR1.out.stay HK0.out
                have HRK9 := Lib.hid hrk
                rw [HTK.out] at HPV
                rw [HTK.out] at HBK
                have HPI2 : Hid (∀ q, Nt.readP (tx s) = some q → (⟨Nt.nats ms, d2, Nt.offs48 ((Nt.cut 32 (tx s)).getD 3 [])⟩ : Nt.Pi) = q.i) := Lib.hid (fun q h => by rw [HDE2.out]; exact HPI.out q h)
                generalize Nt.offs48 ((Nt.cut 32 (tx s)).getD 3 []) = ys at *
                clear p0 p1 p2 hjl hrk
                obtain ⟨p0, p1, p2⟩ := HBK.out.three
                go_wp2_with fail
                refine (sPlaceText_any ⟨Nt.nats ms, d2, ys⟩ _ _ _ HPV.out).mono ?_
                rintro e w10 ⟨z, rfl, hz, hk10⟩
                have HBK10 := Lib.hid (HBK.out.stay hk10)
                have HPV10 := Lib.hid (HPV.out.stay hk10)
                have HK10 := Lib.hid (HK0.out.trans hk10 (by simp))
                have HR10 := Lib.hid (HRK9.out.stay hk10)
                have HZT := Lib.hid hz
                clear hz hk10 p0 p1 p2 p3 x0 x1 x2 x3
                obtain ⟨p0, p1, p2⟩ := HBK10.out.three
                obtain ⟨r0, r1, r2⟩ := HR10.out.three
                have f0 := HR10.out.frozen 0
                have f1 := HR10.out.frozen 1
                have f2 := HR10.out.frozen 2
                by_cases he : Nt.ptxt ⟨Nt.nats ms, d2, ys⟩ = tx s
                · have hse := str_yes (a := z) (b := s) (by rw [HZT.out, he])
                  obtain ⟨q, hq1, hq2⟩ := Nt.readP_cand he (fun e => by have h := HC4.out; rw [e] at h; simp [Nt.cut, Nt.cutFrom] at h)
                  have HQ := Lib.hid hq1
                  have HQ2 := Lib.hid (Nt.readPI_some hq2)
                  clear he hq1 hq2
                  go_wp2
                  (try simp only [Exit.inBlock, Exit.then])
                  refine bodyPost_ret (v := .tuple #[.agg #[.slice (some ⟨gn, 0, none⟩) n n, .int .i64 d2, .slice a3 ys.length c3], .bool true]) ?_ rfl ?_
                  · rw [results_cell_tmp rfl]
                    simp [asAddr, ret_place (HR10.out.set3 _ _ _)]
                  · obtain ⟨e1, e2⟩ := HQ2.out
                    rw [e1, e2]
                    refine ⟨_, rfl, ?_, (HK1.out.trans HK10.out (by simp)).set3 (Nat.le_refl _) _ _ _⟩
                    rw [← HQ.out]
                    obtain ⟨vv, uu, e3, hv, hu⟩ := HPV10.out
                    simp only [Value.agg.injEq, Array.mk.injEq, List.cons.injEq, and_true, true_and] at e3
                    obtain ⟨rfl, rfl⟩ := e3
                    have hne : ∀ g : Nat, w1.heap.size ≤ g → ¬ g ∈ [w.heap.size] := fun g h hm => by have := HZW.out; simp at hm; omega
                    exact ⟨_, _, rfl, (hv.kept (Kept.rows3 w10 w.heap.size _ _ _) (fun g hg => hne g (hv.block hg).1)).mono (Nat.le_of_lt HZW.out), (hu.kept (Kept.rows3 w10 w.heap.size _ _ _) (fun g hg => hne g (hu.block hg).1)).mono (Nat.le_of_lt HZW.out)⟩
                · have hse := str_no (a := z) (b := s) (by rw [HZT.out]; exact he)
                  have HNO : Hid (Nt.readP (tx s) = none) := Lib.hid (by
                    cases hc : Nt.readP (tx s) with
                    | none => rfl
                    | some q =>
                      exfalso
                      apply he
                      rw [HPI2.out q hc]
                      obtain ⟨h1, h2⟩ := Nt.readP_some.1 hc
                      rw [Nt.ptxt_ok h1, h2])
                  clear he
                  go_wp2
                  (try simp only [Exit.inBlock, Exit.then])
                  refine bodyPost_ret (v := .tuple #[.agg #[.slice none 0 0, .int .i64 0, .slice none 0 0], .bool false]) ?_ rfl (HZ.out _ ((HR10.out).set3 _ _ _) ((HK1.out.trans HK10.out (by simp)).set3 (Nat.le_refl _) _ _ _) HNO.out)
                  rw [results_cell_tmp rfl]
                  simp [asAddr, ret_place ((HR10.out).set3 _ _ _)]
    · have d1 : decide (1 ≤ d ∧ d ≤ 6) = false := dec_not hin
      have HNO := Lib.hid (Nt.readP_num (t := tx s) (by rw [← HDE.out]; exact hin))
      clear hin
      go_wp2_with (first | (go_at_call 110; refine (HD0.out _).mono ?_; rintro e w' ⟨rfl, rfl⟩) | (go_at_call 151; refine (l1In_any d 1 6 _).mono ?_; rintro e w' ⟨rfl, rfl⟩; rw [d1]))
      (try simp only [Exit.inBlock, Exit.then])
      refine bodyPost_ret (v := .tuple #[.agg #[.slice none 0 0, .int .i64 0, .slice none 0 0], .bool false]) ?_ rfl (HZ.out _ ?_ ?_ HNO.out)
      · rw [results_cell_tmp rfl]
        simp [asAddr, ret_place (HR1.out.set3 _ _ _)]
      · exact HR1.out.set3 _ _ _
      · exact HK1.out.set3 (Nat.le_refl _) _ _ _
  · have hne : ((ps.length : Int) != 4) = true := by simp; omega
    have hno := Nt.readP_len (t := tx s) (by rw [HCL.out]; exact h4)
    have HNO := Lib.hid hno
    clear h4 hno
    go_wp2
    (try simp only [Exit.inBlock, Exit.then])
    refine bodyPost_ret (v := .tuple #[.agg #[.slice none 0 0, .int .i64 0, .slice none 0 0], .bool false]) ?_ rfl (HZ.out _ ?_ ?_ HNO.out)
    · rw [results_cell_tmp rfl]
      simp [asAddr, ret_place (HR1.out.set3 _ _ _)]
    · exact HR1.out.set3 _ _ _
    · exact HK1.out.set3 (Nat.le_refl _) _ _ _
end Go.Proofs.YtnajdbnacdnnlaaGreatDoor
