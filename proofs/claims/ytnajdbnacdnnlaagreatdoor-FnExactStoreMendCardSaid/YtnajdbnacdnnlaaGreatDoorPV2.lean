/-
  Texts of places, by the model.
-/
import Derived.Test.YtnajdbnacdnnlaaGreatDoorPV1
import Derived.Test.YtnajdbnacdnnlaaGreatDoorPurePT
import Derived.Test.YtnajdbnacdnnlaaGreatDoorTxC
import Derived.Test.YtnajdbnacdnnlaaGreatDoorTxE
import Derived.Test.YtnajdbnacdnnlaaGreatDoorNA
namespace Go.Proofs.YtnajdbnacdnnlaaGreatDoor
open Go.RowKit

/-- Two texts added. -/
theorem add_tx (a b : ByteArray) (h : a.size + b.size ≤ 1000000000) : ∃ y : ByteArray, tx y = tx a ++ tx b ∧ y.size = a.size + b.size ∧ ∀ W : World, (Op.stringOp .add a b).run Tryz.prog W = .ok (.string y) W :=
  ⟨a ++ b, tx_append a b, ByteArray.size_append, fun W => run_string_add_sum W a b (by omega)⟩

theorem empty_tx (s : ByteArray) : s.toList.isEmpty = decide (tx s = []) := by
  have h := toList_nums s
  rw [← h]
  cases s.toList <;> simp
theorem empty_yes {s : ByteArray} (h : tx s = []) : s.toList.isEmpty = true := by rw [empty_tx, decide_eq_true h]
theorem empty_no {s : ByteArray} (h : ¬ tx s = []) : s.toList.isEmpty = false := by rw [empty_tx, decide_eq_false h]

set_option maxHeartbeats 4000000 in
set_option maxRecDepth 100000 in
theorem sPlaceText_any (p : Nt.Pi) (w : World) (x : Value) (base : Nat) (h : Pv w base x p) :
    Calls Tryz.prog 103 #[x] w fun e w' => ∃ z, e = .returned (.string z) ∧ tx z = Nt.ptxt p ∧ Kept [] w w' := by
  have HPV := Lib.hid h
  obtain ⟨v, u, rfl, h1, h2⟩ := h
  have hk0 : Kept [] w (w.alloc (.cells #[v, .int .i64 p.c, u] 30)) := (Kept.refl [] w).alloc _
  have hb0 := Bk.new w 30 #[v, .int .i64 p.c, u]
  have H1 := Lib.hid (h1.stay hk0)
  have H2 := Lib.hid (h2.stay hk0)
  have HPW := Lib.hid (HPV.out.stay hk0)
  obtain ⟨a, cap, rfl, _, _, _⟩ := h1.any
  obtain ⟨b, cap2, rfl, _, _, _⟩ := h2.any
  have HB := Lib.hid hb0
  have HK0 := Lib.hid hk0
  obtain ⟨c0, c1, c2⟩ := hb0.three
  clear h1 h2 hb0 hk0 HPV
  go_enter Tryz.func103, Tryz.ntmps103
  go_wp2_with fail
  generalize (w.alloc (.cells #[.slice a p.ns.length cap, .int .i64 p.c, .slice b p.ks.length cap2] 30)) = W0 at *
  refine (sPlaceOk_any p _ _ _ HPW.out).mono ?_
  rintro e w1 ⟨rfl, hk1⟩
  have HB1 := Lib.hid (HB.out.stay hk1)
  have HK1 := Lib.hid (HK0.out.trans hk1 (by simp))
  have H11 := Lib.hid (H1.out.stay hk1)
  have H12 := Lib.hid (H2.out.stay hk1)
  clear hk1 c0 c1 c2 HB HK0 H1 H2 HPW
  cases ho : Nt.plB p
  · have HF := Lib.hid (Nt.ptxt_no ho)
    go_wp2
    go_ret
    exact ⟨_, rfl, by rw [HF.out]; rfl, HK1.out⟩
  · obtain ⟨q, rfl, hq⟩ := Nt.plB_ok ho
    have HF := Lib.hid (Nt.ptxt_ok hq)
    obtain ⟨ns, c, ks⟩ := q
    have hnn : (Nt.Pl.i ⟨ns, c, ks⟩).ns = Nt.nats ns := rfl
    have hkk : (Nt.Pl.i ⟨ns, c, ks⟩).ks = Nt.nats ks := rfl
    have hcc : (Nt.Pl.i ⟨ns, c, ks⟩).c = (c : Int) := rfl
    rw [hnn] at H11
    rw [hkk] at H12
    rw [hnn, hkk, hcc] at HB1
    rw [hnn, hkk, hcc]
    obtain ⟨n, hn⟩ : ∃ n, n = ns.length := ⟨_, rfl⟩
    have hkl : ks.length = n := by rw [hn]; exact hq.len
    have hp : 0 < n := by rw [hn]; exact hq.ok.some
    have h6 : n ≤ 6 := by rw [hn]; exact hq.ok.few
    have hst : Nt.St c ks := hq.st
    have h3 : 3 ≤ c := hst.c3
    have h5 : c ≤ 5 := hst.c5
    rw [Nt.nats_length, ← hn] at H11 HB1 ⊢
    rw [Nt.nats_length, hkl] at H12 HB1 ⊢
    obtain ⟨g1, q1, e1, hg1, hc1⟩ := H11.out.row hn.symm hp
    obtain ⟨g2, q2, e2, hg2, hc2⟩ := H12.out.row hkl hp
    simp only [Value.slice.injEq] at e1 e2
    obtain ⟨rfl, _, rfl⟩ := e1
    obtain ⟨rfl, _, rfl⟩ := e2
    have HC1 := Lib.hid hc1
    have HC2 := Lib.hid hc2
    have HKB := Lib.hid (fun k (hk : k < n) => show ks.getD k 0 < 10 from by have := hst.lt k (by omega); omega)
    have HW0 : Hid ([] = Nt.wjoin (Nt.wiresL ns 0)) := Lib.hid rfl
    have HWS := Lib.hid (fun k => Nt.wsTo_first ns k)
    have HWE : Hid (∀ k, Nt.wsTo ns k n = Nt.wiresL ns (k + 1)) := Lib.hid (fun k => by rw [hn]; exact Nt.wsTo_end ns k)
    have HWY := Lib.hid (fun k j => @Nt.wsTo_yes ns k j)
    have HWN := Lib.hid (fun k j => @Nt.wsTo_no ns k j)
    have HWL : Hid (∀ k j, k ≤ 6 → j ≤ 6 → (Nt.wjoin (Nt.wsTo ns k j)).length ≤ 200) := Lib.hid (fun k j hk hj => Nt.wjoin_small ns (by omega) hk hj)
    have HWP := Lib.hid (fun k j => Nt.wsTo_parts ns k j)
    have HKS : Hid (∀ k, k < n → Nt.kindT (ks.take (k + 1)) = Nt.kindT (ks.take k) ++ [48 + ks.getD k 0]) := Lib.hid (fun k hk => Nt.kindT_succ ks (by omega))
    have HKL : Hid (∀ k, k ≤ n → (Nt.kindT (ks.take k)).length ≤ 6) := Lib.hid (fun k hk => by unfold Nt.kindT; rw [List.length_map, List.length_take]; omega)
    have HKE : Hid (Nt.kindT (ks.take n) = Nt.kindT ks) := Lib.hid (by rw [← hkl, List.take_length])
    have HWT : Hid (Nt.wireT ns = if Nt.wjoin (Nt.wiresL ns n) = [] then [46] else Nt.wjoin (Nt.wiresL ns n)) := Lib.hid (by rw [hn]; exact Nt.wireT_of ns)
    have HPT : Hid (Nt.Pl.t ⟨ns, c, ks⟩ = Nt.digs n ++ [32] ++ Nt.wireT ns ++ [32] ++ Nt.digs c ++ [32] ++ Nt.kindT ks) := Lib.hid (by rw [hn]; exact Nt.placeT_is ns c ks)
    clear hc1 hc2 hn hkl hq hnn hkk hcc H11 H12 ho hst
    go_wp2_with fail
    go_loopw [3, 4, 5] (fun zw zk i wr => ∃ (k : Nat) (sw sk : ByteArray), k ≤ n ∧ i = .int .i64 k ∧ zw = .string sw ∧ zk = .string sk ∧ tx sw = Nt.wjoin (Nt.wiresL ns k) ∧ tx sk = Nt.kindT (ks.take k) ∧ Kept [] w1 wr) (fun _ _ i _ => n - (intOf i).toNat)
    case atStart => exact ⟨0, _, _, Nat.zero_le _, rfl, rfl, rfl, HW0.out, rfl, Kept.refl _ _⟩
    case round =>
      obtain ⟨k, sw, sk, hk, rfl, rfl, rfl, hsw, hsk, hkept⟩ := hrel
      have HSW := Lib.hid hsw
      have HSK := Lib.hid hsk
      have HK := Lib.hid hkept
      obtain ⟨d0, d1, d2⟩ := (HB1.out.stay hkept).three
      by_cases hlt : k < n
      · have ck := (hkept.cell (p := ⟨g2, k, none⟩) hg2 (by simp)).trans (HC2.out k hlt)
        have hx := HKB.out k hlt
        have HX := Lib.hid (HKS.out k hlt)
        have hskl : sk.size ≤ 6 := by rw [← tx_length, hsk]; exact HKL.out k hk
        have HSKL := Lib.hid hskl
        generalize ks.getD k 0 = x at *
        clear hsw hsk hskl hkept
        go_wp2_with fail
        refine (l1Number_any x (by omega) _).mono ?_
        rintro e w2 ⟨z2, rfl, hz2, hk2⟩
        obtain ⟨y2, hy2, _, hadd2⟩ := add_tx sk z2 (by have := HSKL.out; rw [← tx_length z2, hz2, Nt.digs_small (by omega)]; simp; omega)
        have HY2 : Hid (tx y2 = Nt.kindT (ks.take (k + 1))) := Lib.hid (by rw [hy2, hz2, HSK.out, HX.out, Nt.digs_small (by omega)])
        have HK2 := Lib.hid (HK.out.trans hk2 (by simp))
        clear hy2 hz2 hk2 ck d0 d1 d2
        obtain ⟨d0, d1, d2⟩ := (HB1.out.stay HK2.out).three
        have HLT := Lib.hid hlt
        obtain ⟨wo, rfl⟩ : ∃ wo : World, wo = wr := ⟨_, rfl⟩
        go_wp2_with fail
        go_loopw [3, 6] (fun zw i wr => ∃ (j : Nat) (sw : ByteArray), k + 1 ≤ j ∧ j ≤ n ∧ i = .int .i64 j ∧ zw = .string sw ∧ tx sw = Nt.wjoin (Nt.wsTo ns k j) ∧ Kept [] w1 wr) (fun _ i _ => n - (intOf i).toNat)
        case atStart => exact ⟨k + 1, sw, Nat.le_refl _, by omega, by go_num, rfl, by rw [HWS.out]; exact HSW.out, HK2.out⟩
        case round =>
          clear HSW HK HK2 d0 d1 d2
          obtain ⟨j, sw, hkj, hj, rfl, rfl, hsw, hkept⟩ := hrel
          have HSW := Lib.hid hsw
          have HK := Lib.hid hkept
          obtain ⟨d0, d1, d2⟩ := (HB1.out.stay hkept).three
          by_cases hlj : j < n
          · have ck := (hkept.cell (p := ⟨g1, k, none⟩) hg1 (by simp)).trans (HC1.out k hlt)
            have hswl : sw.size ≤ 200 := by rw [← tx_length, hsw]; exact HWL.out k j (by omega) (by omega)
            have HSWL := Lib.hid hswl
            have HNY := Lib.hid (HWY.out k j (by omega))
            have HNN := Lib.hid (HWN.out k j (by omega))
            generalize ns.getD k 0 = r at *
            clear hsw hswl hkept
            cases hb : r.testBit j
            · have hb1 : ((r : Int) / 2 ^ j).tmod 2 = 0 := by rw [shr_rem, hb]; rfl
              have HE := Lib.hid (HNN.out hb)
              clear HNY HNN hb
              go_wp2
              go_roundw
              case rel => exact ⟨j + 1, sw, by omega, by omega, by go_num, rfl, by rw [HE.out]; exact HSW.out, HK.out⟩
              case measure => simp [intOf]; omega
            · have hb1 : ((r : Int) / 2 ^ j).tmod 2 = 1 := by rw [shr_rem, hb]; rfl
              have HE := Lib.hid (HNY.out hb)
              have HWP2 := Lib.hid (HWP.out k j)
              have hd1 : Nt.digs k = [48 + k] := Nt.digs_small (by omega)
              have hd2 : Nt.digs j = [48 + j] := Nt.digs_small (by omega)
              have HD1 := Lib.hid hd1
              have HD2 := Lib.hid hd2
              clear HNY HNN hb hd1 hd2
              by_cases hps : Nt.wsTo ns k j = []
              · have hem := empty_yes (s := sw) (by rw [HSW.out, hps]; rfl)
                have HPS := Lib.hid hps
                clear hps
                go_wp2_with fail
                refine (l1Number_any k (by omega) _).mono ?_
                rintro e w3 ⟨z3, rfl, hz3, hk3⟩
                obtain ⟨y3, hy3, hys3, hadd3⟩ := add_tx sw z3 (by have := HSWL.out; rw [← tx_length z3, hz3, HD1.out]; simp; omega)
                have HY3 : Hid (tx y3 = [48 + k]) := Lib.hid (by rw [hy3, hz3, HSW.out, HPS.out, HD1.out]; rfl)
                have HK3 := Lib.hid (HK.out.trans hk3 (by simp))
                clear hy3 hz3 hk3 hys3 ck d0 d1 d2
                go_wp2_with fail
                refine (l1Number_any j (by omega) _).mono ?_
                rintro e w4 ⟨z4, rfl, hz4, hk4⟩
                obtain ⟨y4, hy4, hys4, hadd4⟩ := add_tx y3 z4 (by rw [← tx_length z4, ← tx_length y3, hz4, HD2.out, HY3.out]; simp)
                have HY4 : Hid (tx y4 = Nt.wjoin (Nt.wsTo ns k (j + 1))) := Lib.hid (by rw [hy4, hz4, HE.out, HPS.out, HY3.out, HD2.out]; rfl)
                have HK4 := Lib.hid (HK3.out.trans hk4 (by simp))
                clear hy4 hz4 hk4 hys4
                go_wp2
                go_roundw
                case rel => exact ⟨j + 1, y4, by omega, by omega, by go_num, rfl, HY4.out, HK4.out⟩
                case measure => simp [intOf]; omega
              · have hem := empty_no (s := sw) (by rw [HSW.out]; exact fun e => hps ((Nt.wjoin_nil (fun p hp => (HWP2.out p hp).1)).1 e))
                have HPS := Lib.hid hps
                clear hps
                obtain ⟨y0, hy0, hys0, hadd0⟩ := add_tx sw ⟨#[44]⟩ (by have := HSWL.out; show sw.size + 1 ≤ _; omega)
                have HY0 : Hid (tx y0 = Nt.wjoin (Nt.wsTo ns k j) ++ [44]) := Lib.hid (by rw [hy0, HSW.out]; rfl)
                have HYL0 : Hid (y0.size ≤ 201) := Lib.hid (by rw [hys0]; have := HSWL.out; show sw.size + 1 ≤ _; omega)
                clear hy0 hys0
                go_wp2_with fail
                refine (l1Number_any k (by omega) _).mono ?_
                rintro e w3 ⟨z3, rfl, hz3, hk3⟩
                obtain ⟨y3, hy3, hys3, hadd3⟩ := add_tx y0 z3 (by have := HYL0.out; rw [← tx_length z3, hz3, HD1.out]; simp; omega)
                have HY3 : Hid (tx y3 = Nt.wjoin (Nt.wsTo ns k j) ++ [44] ++ [48 + k]) := Lib.hid (by rw [hy3, hz3, HY0.out, HD1.out])
                have HYL3 : Hid (y3.size ≤ 202) := Lib.hid (by rw [hys3, ← tx_length z3, hz3, HD1.out]; have := HYL0.out; simp; omega)
                have HK3 := Lib.hid (HK.out.trans hk3 (by simp))
                clear hy3 hz3 hk3 hys3 ck d0 d1 d2 hadd0
                go_wp2_with fail
                refine (l1Number_any j (by omega) _).mono ?_
                rintro e w4 ⟨z4, rfl, hz4, hk4⟩
                obtain ⟨y4, hy4, hys4, hadd4⟩ := add_tx y3 z4 (by rw [← tx_length z4, hz4, HD2.out]; have := HYL3.out; simp; omega)
                have HY4 : Hid (tx y4 = Nt.wjoin (Nt.wsTo ns k (j + 1))) := Lib.hid (by rw [hy4, hz4, HE.out, Nt.wjoin_more HPS.out, HY3.out, HD2.out]; simp)
                have HK4 := Lib.hid (HK3.out.trans hk4 (by simp))
                clear hy4 hz4 hk4 hys4
                go_wp2
                go_roundw
                case rel => exact ⟨j + 1, y4, by omega, by omega, by go_num, rfl, HY4.out, HK4.out⟩
                case measure => simp [intOf]; omega
          · have hj' : j = n := by omega
            subst hj'
            clear hsw hkept
            go_wp2
            go_roundw
            case rel => exact ⟨k + 1, sw, y2, by omega, by go_num, rfl, rfl, by rw [← HWE.out]; exact HSW.out, HY2.out, HK.out⟩
            case measure => simp [intOf]; omega
      · have hk' : k = n := by omega
        subst hk'
        have hswl : sw.size ≤ 200 := by
          have h := HWL.out k (k + 1) (by omega)
          by_cases hk5 : k + 1 ≤ 6
          · have h := h hk5; rw [HWS.out] at h; rw [← tx_length, hsw]; exact h
          · have e := HWE.out (k - 1)
            rw [show k - 1 + 1 = k by omega] at e
            rw [← tx_length, hsw, ← e]
            exact HWL.out (k - 1) k (by omega) (by omega)
        have HSL : Hid (sk.size ≤ 6) := Lib.hid (by rw [← tx_length, hsk]; exact HKL.out k (Nat.le_refl _))
        have HN6 : Hid (k < 1000000) := Lib.hid (by omega)
        have HC6 : Hid (c < 1000000) := Lib.hid (by omega)
        have HDN : Hid (Nt.digs k = [48 + k]) := Lib.hid (Nt.digs_small (by omega))
        have HDC : Hid (Nt.digs c = [48 + c]) := Lib.hid (Nt.digs_small (by omega))
        clear hsw hsk hkept
        by_cases hem0 : tx sw = []
        · have hem := empty_yes hem0
          have HE0 := Lib.hid hem0
          clear hem0
          have hs4 : (fun w' : World => w'.cell? ⟨w.heap.size, 0, none⟩ = some (.slice (some ⟨g1, 0, none⟩) k cap) ∧ w'.cell? ⟨w.heap.size, 1, none⟩ = some (.int .i64 (c : Int)) ∧ w'.cell? ⟨w.heap.size, 2, none⟩ = some (.slice (some ⟨g2, 0, none⟩) k cap2)) wr.drew := (HB1.out.stay HK.out.drew).three
          have HW : Hid (tx ⟨#[46]⟩ = Nt.wireT ns) := Lib.hid (by rw [HWT.out, if_pos (by rw [← HSW.out]; exact HE0.out)]; rfl)
          have HWZ : Hid ((⟨#[46]⟩ : ByteArray).size ≤ 200) := Lib.hid (by show (1 : Nat) ≤ 200; omega)
          clear hswl
          go_wp2_with fail
          clear d0 d1 d2
          go_region_held3 (fun w' => w'.cell? ⟨w.heap.size, 0, none⟩ = some (.slice (some ⟨g1, 0, none⟩) k cap) ∧ w'.cell? ⟨w.heap.size, 1, none⟩ = some (.int .i64 (c : Int)) ∧ w'.cell? ⟨w.heap.size, 2, none⟩ = some (.slice (some ⟨g2, 0, none⟩) k cap2))
            (first | exact hs4 | exact y5 | exact y6 | go_keep)
            (first
              | (go_simp; go_at_call 123; (with_reducible refine (l1Number_any k HN6.out _).mono ?_); rintro e w5 ⟨z5, rfl, hz5, hk5⟩; have hk5' := (show Kept [] wr w5 from ⟨hk5.os, hk5.tape, hk5.output, hk5.size, hk5.block⟩); have HK5 := Lib.hid (HK.out.trans hk5' (by simp)); have y5 := (HB1.out.stay HK5.out).three; have hl5 : z5.size ≤ 1 := (by rw [← tx_length, hz5, HDN.out]; simp); obtain ⟨p1, hp1, hl1, hadd1⟩ := add_tx z5 ⟨#[32]⟩ (by show z5.size + 1 ≤ _; omega); obtain ⟨p2, hp2, hl2, hadd2⟩ := add_tx p1 ⟨#[46]⟩ (by have := HWZ.out; rw [hl1]; show z5.size + 1 + _ ≤ _; omega); obtain ⟨p3, hp3, hl3, hadd3⟩ := add_tx p2 ⟨#[32]⟩ (by have := HWZ.out; rw [hl2, hl1]; show z5.size + 1 + _ + 1 ≤ _; omega); have HP3 : Hid (tx p3 = Nt.digs k ++ [32] ++ Nt.wireT ns ++ [32]) := Lib.hid (by rw [hp3, hp2, hp1, hz5, HW.out]; rfl); have HL3 : Hid (p3.size ≤ 300) := Lib.hid (by have := HWZ.out; rw [hl3, hl2, hl1]; show z5.size + 1 + _ + 1 ≤ _; omega); clear hk5 hk5' hz5 hl5 hp1 hp2 hp3 hl1 hl2 hl3)
              | (go_simp; go_at_call 123; (with_reducible refine (l1Number_any c HC6.out _).mono ?_); rintro e w6 ⟨z6, rfl, hz6, hk6⟩; have HK6 := Lib.hid (HK5.out.trans hk6 (by simp)); have y6 := (HB1.out.stay HK6.out).three; have hl6 : z6.size ≤ 1 := (by rw [← tx_length, hz6, HDC.out]; simp); obtain ⟨p4, hp4, hl4, hadd4⟩ := add_tx p3 z6 (by have := HL3.out; omega); obtain ⟨p5, hp5, hl5, hadd5⟩ := add_tx p4 ⟨#[32]⟩ (by have := HL3.out; rw [hl4]; show p3.size + z6.size + 1 ≤ _; omega); obtain ⟨p6, hp6, hl6', hadd6⟩ := add_tx p5 sk (by have := HL3.out; have := HSL.out; rw [hl5, hl4]; show p3.size + z6.size + 1 + _ ≤ _; omega); have HP6 : Hid (tx p6 = Nt.Pl.t ⟨ns, c, ks⟩) := Lib.hid (by rw [hp6, hp5, hp4, HP3.out, hz6, HSK.out, HKE.out, HPT.out]; rfl); clear hk6 hz6 hl6 hp4 hp5 hp6 hl4 hl5 hl6' y5))
          all_goals
            go_wp2
            go_ret
            exact ⟨_, rfl, by rw [HF.out]; exact HP6.out, HK1.out.trans HK6.out (by simp)⟩
        · have hem := empty_no hem0
          have HE0 := Lib.hid hem0
          clear hem0
          have hs4 : (fun w' : World => w'.cell? ⟨w.heap.size, 0, none⟩ = some (.slice (some ⟨g1, 0, none⟩) k cap) ∧ w'.cell? ⟨w.heap.size, 1, none⟩ = some (.int .i64 (c : Int)) ∧ w'.cell? ⟨w.heap.size, 2, none⟩ = some (.slice (some ⟨g2, 0, none⟩) k cap2)) wr.drew := (HB1.out.stay HK.out.drew).three
          have HW : Hid (tx sw = Nt.wireT ns) := Lib.hid (by rw [HWT.out, if_neg (by rw [← HSW.out]; exact HE0.out), ← HSW.out])
          have HWZ : Hid ((sw : ByteArray).size ≤ 200) := Lib.hid (hswl)
          clear hswl
          go_wp2_with fail
          clear d0 d1 d2
          go_region_held3 (fun w' => w'.cell? ⟨w.heap.size, 0, none⟩ = some (.slice (some ⟨g1, 0, none⟩) k cap) ∧ w'.cell? ⟨w.heap.size, 1, none⟩ = some (.int .i64 (c : Int)) ∧ w'.cell? ⟨w.heap.size, 2, none⟩ = some (.slice (some ⟨g2, 0, none⟩) k cap2))
            (first | exact hs4 | exact y5 | exact y6 | go_keep)
            (first
              | (go_simp; go_at_call 123; (with_reducible refine (l1Number_any k HN6.out _).mono ?_); rintro e w5 ⟨z5, rfl, hz5, hk5⟩; have hk5' := (show Kept [] wr w5 from ⟨hk5.os, hk5.tape, hk5.output, hk5.size, hk5.block⟩); have HK5 := Lib.hid (HK.out.trans hk5' (by simp)); have y5 := (HB1.out.stay HK5.out).three; have hl5 : z5.size ≤ 1 := (by rw [← tx_length, hz5, HDN.out]; simp); obtain ⟨p1, hp1, hl1, hadd1⟩ := add_tx z5 ⟨#[32]⟩ (by show z5.size + 1 ≤ _; omega); obtain ⟨p2, hp2, hl2, hadd2⟩ := add_tx p1 sw (by have := HWZ.out; rw [hl1]; show z5.size + 1 + _ ≤ _; omega); obtain ⟨p3, hp3, hl3, hadd3⟩ := add_tx p2 ⟨#[32]⟩ (by have := HWZ.out; rw [hl2, hl1]; show z5.size + 1 + _ + 1 ≤ _; omega); have HP3 : Hid (tx p3 = Nt.digs k ++ [32] ++ Nt.wireT ns ++ [32]) := Lib.hid (by rw [hp3, hp2, hp1, hz5, HW.out]; rfl); have HL3 : Hid (p3.size ≤ 300) := Lib.hid (by have := HWZ.out; rw [hl3, hl2, hl1]; show z5.size + 1 + _ + 1 ≤ _; omega); clear hk5 hk5' hz5 hl5 hp1 hp2 hp3 hl1 hl2 hl3)
              | (go_simp; go_at_call 123; (with_reducible refine (l1Number_any c HC6.out _).mono ?_); rintro e w6 ⟨z6, rfl, hz6, hk6⟩; have HK6 := Lib.hid (HK5.out.trans hk6 (by simp)); have y6 := (HB1.out.stay HK6.out).three; have hl6 : z6.size ≤ 1 := (by rw [← tx_length, hz6, HDC.out]; simp); obtain ⟨p4, hp4, hl4, hadd4⟩ := add_tx p3 z6 (by have := HL3.out; omega); obtain ⟨p5, hp5, hl5, hadd5⟩ := add_tx p4 ⟨#[32]⟩ (by have := HL3.out; rw [hl4]; show p3.size + z6.size + 1 ≤ _; omega); obtain ⟨p6, hp6, hl6', hadd6⟩ := add_tx p5 sk (by have := HL3.out; have := HSL.out; rw [hl5, hl4]; show p3.size + z6.size + 1 + _ ≤ _; omega); have HP6 : Hid (tx p6 = Nt.Pl.t ⟨ns, c, ks⟩) := Lib.hid (by rw [hp6, hp5, hp4, HP3.out, hz6, HSK.out, HKE.out, HPT.out]; rfl); clear hk6 hz6 hl6 hp4 hp5 hp6 hl4 hl5 hl6' y5))
          all_goals
            go_wp2
            go_ret
            exact ⟨_, rfl, by rw [HF.out]; exact HP6.out, HK1.out.trans HK6.out (by simp)⟩
end Go.Proofs.YtnajdbnacdnnlaaGreatDoor
