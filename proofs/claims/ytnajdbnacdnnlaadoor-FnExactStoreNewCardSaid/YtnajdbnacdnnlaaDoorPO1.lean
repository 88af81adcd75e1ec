/-
  Stores: whether a store is one, made sure, broken down, mended, by the model.
-/
import Derived.Test.YtnajdbnacdnnlaaDoorPK2
import Derived.Test.YtnajdbnacdnnlaaDoorPD3
namespace Go.Proofs.YtnajdbnacdnnlaaDoor
open Go.RowKit

/-- A store as a value, and what it says. -/
def sv (z1 z2 : ByteArray) (n : Int) : Value := .agg #[.string z1, .string z2, .int .i64 n]
def si (z1 z2 : ByteArray) (n : Int) : Nt.Si := ⟨tx z1, tx z2, n⟩
/-- What is returned says so. -/
def SvIs (y : Value) (r : Nt.Si) : Prop := ∃ a b m, y = sv a b m ∧ si a b m = r
theorem SvIs.zero : SvIs (.agg #[.string ⟨#[]⟩, .string ⟨#[]⟩, .int .i64 0]) Nt.Si.zero := ⟨_, _, _, rfl, rfl⟩
theorem ret_store {W : World} {g : Nat} {a b c : Value} (h : Bk W g 26 #[a, b, c]) :
    (loadVar 26 ⟨g, 0, none⟩).run Tryd.prog W = .ok (.agg #[a, b, c]) W :=
  run_loadVar_row W g 26 26 #[a, b, c] (0, 0) _ h Tryd.underlying26 rfl (by kernel_rfl)
theorem soB_is (z1 z2 : ByteArray) (n : Int) : Nt.soB (si z1 z2 n) = (Nt.readPB (tx z1) && decide (z2.size ≤ 1000) && decide (0 ≤ n ∧ n ≤ (z2.size : Int))) := by
  unfold Nt.soB si
  simp only [tx_length]

set_option maxHeartbeats 2000000 in
set_option maxRecDepth 100000 in
theorem sStoreOk_any (z1 z2 : ByteArray) (n : Int) (h1 : z1.size ≤ 1100000) (h2 : z2.size ≤ 1100000) (w : World) :
    Calls Tryd.prog 8 #[.agg #[.string z1, .string z2, .int .i64 n]] w fun e w' => e = .returned (.bool (Nt.soB (si z1 z2 n))) ∧ Kept [] w w' := by
  have HB := Lib.hid (Bk.new w 26 #[.string z1, .string z2, .int .i64 n])
  have HK0 : Hid (Kept [] w (w.alloc (.cells #[.string z1, .string z2, .int .i64 n] 26))) := Lib.hid ((Kept.refl [] w).alloc _)
  have HF := Lib.hid (soB_is z1 z2 n)
  have H1 := Lib.hid h1
  clear h1
  go_enter Tryd.func8, Tryd.ntmps8
  go_wp2_with fail
  generalize w.alloc (.cells #[.string z1, .string z2, .int .i64 n] 26) = W0 at *
  refine (sReadPlace_any z1 H1.out _).mono ?_
  rintro e w1 ⟨y1, rfl, ⟨v1, u1, rfl, hv, hu⟩, hk1⟩
  obtain ⟨a, c, rfl, _, _, _⟩ := hv.any
  obtain ⟨b, c', rfl, _, _, _⟩ := hu.any
  have HK1 := Lib.hid (HK0.out.trans hk1 (by simp))
  obtain ⟨t1, t2, _⟩ := two_new w1 35 35 #[] #[]
  obtain ⟨c0, c1, c2⟩ := (HB.out.stay hk1).three
  have hbl := (HB.out.stay hk1).lt
  clear hv hu hk1 t1 t2
  generalize Nt.readPI (tx z1) = P at *
  cases hb : Nt.readPB (tx z1)
  · rw [hb] at HF
    go_wp2
    go_ret
    exact ⟨by rw [HF.out]; rfl, HK1.out.alloc _⟩
  · rw [hb] at HF
    by_cases h1000 : z2.size ≤ 1000
    · have d1 : decide ((z2.size : Int) ≤ 1000) = true := dec_of (by omega)
      rw [show decide (z2.size ≤ 1000) = true from dec_of h1000] at HF
      cases hin : decide (0 ≤ n ∧ n ≤ (z2.size : Int))
      all_goals
        rw [hin] at HF
        go_wp2_with (go_at_call 22; refine (l1In_any n 0 (z2.size : Int) _).mono ?_; rintro e w' ⟨rfl, rfl⟩; rw [hin])
        go_ret
        exact ⟨by rw [HF.out]; rfl, HK1.out.alloc _⟩
    · have d1 : decide ((z2.size : Int) ≤ 1000) = false := dec_not (by omega)
      rw [show decide (z2.size ≤ 1000) = false from dec_not h1000] at HF
      clear h1000
      go_wp2
      go_ret
      exact ⟨by rw [HF.out]; rfl, HK1.out.alloc _⟩

set_option maxHeartbeats 2000000 in
set_option maxRecDepth 100000 in
theorem sSync_any (z1 z2 : ByteArray) (n : Int) (h1 : z1.size ≤ 1100000) (h2 : z2.size ≤ 1100000) (w : World) :
    Calls Tryd.prog 17 #[.agg #[.string z1, .string z2, .int .i64 n]] w fun e w' => ∃ y, e = .returned (.tuple #[y, .bool (Nt.soB (si z1 z2 n))]) ∧ SvIs y (Nt.ssync (si z1 z2 n)) ∧ Kept [] w w' := by
  obtain ⟨hk0, hb0, hr0⟩ := two_new w 26 26 #[.string z1, .string z2, .int .i64 n] #[.string ⟨#[]⟩, .string ⟨#[]⟩, .int .i64 0]
  have HB := Lib.hid hb0
  have HR := Lib.hid hr0
  have HK0 := Lib.hid hk0
  have H2 := Lib.hid h2
  obtain ⟨c0, c1, c2⟩ := hb0.three
  have HC := Lib.hid (fun W => sStoreOk_any z1 z2 n h1 h2 W)
  clear hb0 hr0 hk0 h1
  go_enter Tryd.func17, Tryd.ntmps17
  go_wp2_with fail
  generalize ((w.alloc (.cells #[.string z1, .string z2, .int .i64 n] 26)).alloc (.cells #[.string ⟨#[]⟩, .string ⟨#[]⟩, .int .i64 0] 26)) = W0 at *
  refine (HC.out _).mono ?_
  rintro e w1 ⟨rfl, hk1⟩
  have HB1 := Lib.hid (HB.out.stay hk1)
  have HR1 := Lib.hid (HR.out.stay hk1)
  have HK1 := Lib.hid (HK0.out.trans hk1 (by simp))
  clear hk1 c0 c1 c2
  obtain ⟨c0, c1, c2⟩ := HB1.out.three
  obtain ⟨r0, r1, r2⟩ := HR1.out.three
  have f0 := HR1.out.frozen 0
  have f1 := HR1.out.frozen 1
  have f2 := HR1.out.frozen 2
  cases ho : Nt.soB (si z1 z2 n)
  · have HO := Lib.hid ho
    have HF := Lib.hid (Nt.ssync_no ho)
    clear ho
    go_wp2
    (try simp only [Exit.inBlock, Exit.then])
    refine bodyPost_ret (v := .tuple #[.agg #[.string ⟨#[]⟩, .string ⟨#[]⟩, .int .i64 0], .bool false]) ?_ rfl ?_
    · rw [results_cell_tmp rfl]
      simp [asAddr, ret_store ((HR1.out).set3 _ _ _)]
    · rw [HO.out, HF.out]
      exact ⟨_, rfl, SvIs.zero, HK1.out.set3 (by omega) _ _ _⟩
  · have HO := Lib.hid ho
    have HF : Hid (si z1 z2 (z2.size : Int) = Nt.ssync (si z1 z2 n)) := Lib.hid (by rw [(Nt.ssync_ok ho).1]; unfold si; simp only [tx_length])
    clear ho
    go_wp2
    (try simp only [Exit.inBlock, Exit.then])
    refine bodyPost_ret (v := .tuple #[.agg #[.string z1, .string z2, .int .i64 (z2.size : Int)], .bool true]) ?_ rfl ?_
    · rw [results_cell_tmp rfl]
      simp [asAddr, ret_store ((HR1.out).set3 _ _ _)]
    · rw [HO.out]
      exact ⟨_, rfl, ⟨_, _, _, rfl, HF.out⟩, HK1.out.set3 (by omega) _ _ _⟩

set_option maxHeartbeats 2000000 in
set_option maxRecDepth 100000 in
theorem sCrash_any (z1 z2 : ByteArray) (n : Int) (left : Int) (h1 : z1.size ≤ 1100000) (h2 : z2.size ≤ 1100000) (w : World) :
    Calls Tryd.prog 19 #[.agg #[.string z1, .string z2, .int .i64 n], .int .i64 left] w fun e w' => ∃ y, e = .returned (.tuple #[y, .bool (Nt.scrashB (si z1 z2 n) left)]) ∧ SvIs y (Nt.scrash (si z1 z2 n) left) ∧ Kept [] w w' := by
  obtain ⟨hk0, hb0, hr0⟩ := two_new w 26 26 #[.string z1, .string z2, .int .i64 n] #[.string ⟨#[]⟩, .string ⟨#[]⟩, .int .i64 0]
  have HB := Lib.hid hb0
  have HR := Lib.hid hr0
  have HK0 := Lib.hid hk0
  have H2 := Lib.hid h2
  obtain ⟨c0, c1, c2⟩ := hb0.three
  have HC := Lib.hid (fun W => sStoreOk_any z1 z2 n h1 h2 W)
  clear hb0 hr0 hk0 h1
  go_enter Tryd.func19, Tryd.ntmps19
  go_wp2_with fail
  generalize ((w.alloc (.cells #[.string z1, .string z2, .int .i64 n] 26)).alloc (.cells #[.string ⟨#[]⟩, .string ⟨#[]⟩, .int .i64 0] 26)) = W0 at *
  refine (HC.out _).mono ?_
  rintro e w1 ⟨rfl, hk1⟩
  have HB1 := Lib.hid (HB.out.stay hk1)
  have HR1 := Lib.hid (HR.out.stay hk1)
  have HK1 := Lib.hid (HK0.out.trans hk1 (by simp))
  clear hk1 c0 c1 c2
  obtain ⟨c0, c1, c2⟩ := HB1.out.three
  obtain ⟨r0, r1, r2⟩ := HR1.out.three
  have f0 := HR1.out.frozen 0
  have f1 := HR1.out.frozen 1
  have f2 := HR1.out.frozen 2
  cases ho : Nt.soB (si z1 z2 n)
  · have hcb : Nt.scrashB (si z1 z2 n) left = false := by unfold Nt.scrashB; rw [ho]; rfl
    have HO := Lib.hid hcb
    have HF := Lib.hid (Nt.scrash_no hcb)
    clear ho hcb
    go_wp2
    (try simp only [Exit.inBlock, Exit.then])
    refine bodyPost_ret (v := .tuple #[.agg #[.string ⟨#[]⟩, .string ⟨#[]⟩, .int .i64 0], .bool false]) ?_ rfl ?_
    · rw [results_cell_tmp rfl]
      simp [asAddr, ret_store ((HR1.out).set3 _ _ _)]
    · rw [HO.out, HF.out]
      exact ⟨_, rfl, SvIs.zero, HK1.out.set3 (by omega) _ _ _⟩
  · have hsb : Nt.scrashB (si z1 z2 n) left = decide (n ≤ left ∧ left ≤ (z2.size : Int)) := by unfold Nt.scrashB; rw [ho]; show (true && decide (n ≤ left ∧ left ≤ ((tx z2).length : Int))) = _; rw [tx_length, Bool.true_and]
    obtain ⟨_, _, _, _, _, hn0, _⟩ := Nt.soB_ok ho
    have hn0' : 0 ≤ n := hn0
    cases hin : decide (n ≤ left ∧ left ≤ (z2.size : Int))
    · rw [hin] at hsb
      have HO := Lib.hid hsb
      have HF := Lib.hid (Nt.scrash_no hsb)
      clear ho hsb hn0 hn0'
      go_wp2_with (go_at_call 22; refine (l1In_any left n (z2.size : Int) _).mono ?_; rintro e w' ⟨rfl, rfl⟩; rw [hin])
      go_wp2
      (try simp only [Exit.inBlock, Exit.then])
      refine bodyPost_ret (v := .tuple #[.agg #[.string ⟨#[]⟩, .string ⟨#[]⟩, .int .i64 0], .bool false]) ?_ rfl ?_
      · rw [results_cell_tmp rfl]
        simp [asAddr, ret_store ((HR1.out).set3 _ _ _)]
      · rw [HO.out, HF.out]
        exact ⟨_, rfl, SvIs.zero, HK1.out.set3 (by omega) _ _ _⟩
    · have hle : n ≤ left ∧ left ≤ (z2.size : Int) := of_decide_eq_true hin
      rw [hin] at hsb
      obtain ⟨k, rfl⟩ := Int.eq_ofNat_of_zero_le (show 0 ≤ left by omega)
      have hkz : k ≤ z2.size := by omega
      have HO := Lib.hid hsb
      have HF : Hid (si z1 (z2.extract 0 k) n = Nt.scrash (si z1 z2 n) (k : Int)) := Lib.hid (by
        unfold Nt.scrash; rw [if_pos hsb, Int.toNat_natCast]; unfold si; simp only [tx_part, List.drop_zero])
      clear ho hsb hn0 hn0' hle
      go_wp2_with (go_at_call 22; refine (l1In_any (k : Int) n (z2.size : Int) _).mono ?_; rintro e w' ⟨rfl, rfl⟩; rw [hin])
      go_region
      go_wp2
      (try simp only [Exit.inBlock, Exit.then])
      have hb9 : Bk (((w1.setCell ⟨w.heap.size + 1, 0, none⟩ (.string z1)).setCell ⟨w.heap.size + 1, 1, none⟩ (.string (z2.extract 0 k))).setCell ⟨w.heap.size + 1, 2, none⟩ (.int .i64 n)).drew (w.heap.size + 1) 26 #[.string z1, .string (z2.extract 0 k), .int .i64 n] := HR1.out.set3 _ _ _
      refine bodyPost_ret (v := .tuple #[.agg #[.string z1, .string (z2.extract 0 k), .int .i64 n], .bool true]) ?_ rfl ?_
      · rw [results_cell_tmp rfl]
        simp [asAddr, ret_store hb9]
      · rw [HO.out]
        exact ⟨_, rfl, ⟨_, _, _, rfl, HF.out⟩, (HK1.out.set3 (by omega) _ _ _).drew⟩

set_option maxHeartbeats 2000000 in
set_option maxRecDepth 100000 in
theorem sStoreNew_any (p : Nt.Pi) (w : World) (x : Value) (base : Nat) (h : Pv w base x p) :
    Calls Tryd.prog 12 #[x] w fun e w' => ∃ y, e = .returned (.tuple #[y, .bool (Nt.plB p)]) ∧ SvIs y (Nt.snew p) ∧ Kept [] w w' := by
  have HPV0 := Lib.hid h
  obtain ⟨v, u, rfl, h1, h2⟩ := h
  obtain ⟨hk0, hb0, hr0⟩ := two_new w 35 26 #[v, .int .i64 p.c, u] #[.string ⟨#[]⟩, .string ⟨#[]⟩, .int .i64 0]
  have HPV := Lib.hid (HPV0.out.stay hk0)
  have HB := Lib.hid hb0
  have HR := Lib.hid hr0
  have HK0 := Lib.hid hk0
  obtain ⟨a, cap, rfl, _, _, _⟩ := h1.any
  obtain ⟨b, cap2, rfl, _, _, _⟩ := h2.any
  obtain ⟨c0, c1, c2⟩ := hb0.three
  clear h1 h2 hk0 hb0 hr0 HPV0
  go_enter Tryd.func12, Tryd.ntmps12
  go_wp2_with fail
  generalize ((w.alloc (.cells #[.slice a p.ns.length cap, .int .i64 p.c, .slice b p.ks.length cap2] 35)).alloc (.cells #[.string ⟨#[]⟩, .string ⟨#[]⟩, .int .i64 0] 26)) = W0 at *
  refine (sPlaceOk_any p _ _ _ HPV.out).mono ?_
  rintro e w1 ⟨rfl, hk1⟩
  have HB1 := Lib.hid (HB.out.stay hk1)
  have HR1 := Lib.hid (HR.out.stay hk1)
  have HPV1 := Lib.hid (HPV.out.stay hk1)
  have HK1 := Lib.hid (HK0.out.trans hk1 (by simp))
  clear hk1 c0 c1 c2 HB HR HPV HK0
  obtain ⟨r0, r1, r2⟩ := HR1.out.three
  have f0 := HR1.out.frozen 0
  have f1 := HR1.out.frozen 1
  have f2 := HR1.out.frozen 2
  cases ho : Nt.plB p
  · have HO := Lib.hid ho
    have HF := Lib.hid (Nt.snew_no ho)
    clear ho
    go_wp2
    (try simp only [Exit.inBlock, Exit.then])
    refine bodyPost_ret (v := .tuple #[.agg #[.string ⟨#[]⟩, .string ⟨#[]⟩, .int .i64 0], .bool false]) ?_ rfl ?_
    · rw [results_cell_tmp rfl]
      simp [asAddr, ret_store (HR1.out.set3 _ _ _)]
    · rw [HO.out, HF.out]
      exact ⟨_, rfl, SvIs.zero, HK1.out.set3 (by omega) _ _ _⟩
  · have HO := Lib.hid ho
    have HF : Hid (Nt.snew p = ⟨Nt.ptxt p, [], 0⟩) := Lib.hid (by unfold Nt.snew; rw [if_pos ho])
    clear ho
    obtain ⟨c0, c1, c2⟩ := HB1.out.three
    go_wp2_with fail
    refine (sPlaceText_any p _ _ _ HPV1.out).mono ?_
    rintro e w2 ⟨z, rfl, hz, hk2⟩
    have HR2 := Lib.hid (HR1.out.stay hk2)
    have HK2 := Lib.hid (HK1.out.trans hk2 (by simp))
    have HZ := Lib.hid hz
    clear hk2 hz c0 c1 c2 r0 r1 r2 f0 f1 f2
    obtain ⟨r0, r1, r2⟩ := HR2.out.three
    have f0 := HR2.out.frozen 0
    have f1 := HR2.out.frozen 1
    have f2 := HR2.out.frozen 2
    go_wp2
    (try simp only [Exit.inBlock, Exit.then])
    refine bodyPost_ret (v := .tuple #[.agg #[.string z, .string ⟨#[]⟩, .int .i64 0], .bool true]) ?_ rfl ?_
    · rw [results_cell_tmp rfl]
      simp [asAddr, ret_store (HR2.out.set3 _ _ _)]
    · rw [HO.out, HF.out]
      exact ⟨_, rfl, ⟨_, _, _, rfl, by unfold si; rw [HZ.out]; rfl⟩, HK2.out.set3 (by omega) _ _ _⟩
end Go.Proofs.YtnajdbnacdnnlaaDoor
