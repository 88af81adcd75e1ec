/-
  Stores: whether a store is one, new ones, made sure, broken down, mended, by the program.
-/
import Derived.Test.YtnajdbnacdnnlaaGreatDoorPO1
import Derived.Test.YtnajdbnacdnnlaaGreatDoorIQ3
import Derived.Test.YtnajdbnacdnnlaaGreatDoorIQ5
namespace Go.Proofs.YtnajdbnacdnnlaaGreatDoor
open Go.RowKit

set_option maxHeartbeats 2000000 in
set_option maxRecDepth 100000 in
theorem iStoreOk_any (z1 z2 : ByteArray) (n : Int) (h1 : z1.size ≤ 1100000) (h2 : z2.size ≤ 1100000) (w : World) (he : ErrW w) :
    Calls Tryz.prog 105 #[.agg #[.string z1, .string z2, .int .i64 n]] w fun e w' => e = .returned (.bool (Nt.soB (si z1 z2 n))) ∧ Kept [] w w' := by
  have HB := Lib.hid (Bk.new w 73 #[.string z1, .string z2, .int .i64 n])
  have HK0 : Hid (Kept [] w (w.alloc (.cells #[.string z1, .string z2, .int .i64 n] 73))) := Lib.hid ((Kept.refl [] w).alloc _)
  have HF := Lib.hid (soB_is z1 z2 n)
  have H1 := Lib.hid h1
  have HE := Lib.hid (he.stay HK0.out)
  clear h1 he
  go_enter Tryz.func105, Tryz.ntmps105
  go_wp2_with fail
  generalize w.alloc (.cells #[.string z1, .string z2, .int .i64 n] 73) = W0 at *
  refine (iReadPlace_any z1 H1.out _ HE.out).mono ?_
  rintro e w1 ⟨y1, rfl, ⟨v1, u1, rfl, hv, hu⟩, hk1⟩
  obtain ⟨a, c, rfl, _, _, _⟩ := hv.any
  obtain ⟨b, c', rfl, _, _, _⟩ := hu.any
  have HK1 := Lib.hid (HK0.out.trans hk1 (by simp))
  obtain ⟨t1, t2, _⟩ := two_new w1 30 30 #[] #[]
  obtain ⟨c0, c1, c2⟩ := (HB.out.stay hk1).three
  have hbl := (HB.out.stay hk1).lt
  clear hv hu hk1 t1 t2
  generalize Nt.readPI (tx z1) = P at *
  cases hb : Nt.readPB (tx z1)
  · rw [hb] at HF
    go_wp2
    go_ret
    exact ⟨by rw [HF.out]; rfl, HK1.out.alloc _⟩
  · rw [hb] at HF
    by_cases h1000 : z2.size ≤ 1000
    · have d1 : decide ((z2.size : Int) ≤ 1000) = true := dec_of (by omega)
      rw [show decide (z2.size ≤ 1000) = true from dec_of h1000] at HF
      by_cases n0 : 0 ≤ n
      · have e0 : decide (n ≥ 0) = true := dec_of n0
        have e0' : decide (0 ≤ n) = true := dec_of n0
        by_cases n1 : n ≤ (z2.size : Int)
        · have e1 : decide (n ≤ (z2.size : Int)) = true := dec_of n1
          rw [show decide (0 ≤ n ∧ n ≤ (z2.size : Int)) = true from dec_of ⟨n0, n1⟩] at HF
          clear n0 n1
          go_wp2
          go_ret
          exact ⟨by rw [HF.out]; rfl, HK1.out.alloc _⟩
        · have e1 : decide (n ≤ (z2.size : Int)) = false := dec_not n1
          rw [show decide (0 ≤ n ∧ n ≤ (z2.size : Int)) = false from dec_not (fun h => n1 h.2)] at HF
          clear n0 n1
          go_wp2
          go_ret
          exact ⟨by rw [HF.out]; rfl, HK1.out.alloc _⟩
      · have e0 : decide (n ≥ 0) = false := dec_not n0
        have e0' : decide (0 ≤ n) = false := dec_not n0
        rw [show decide (0 ≤ n ∧ n ≤ (z2.size : Int)) = false from dec_not (fun h => n0 h.1)] at HF
        clear n0
        go_wp2
        go_ret
        exact ⟨by rw [HF.out]; rfl, HK1.out.alloc _⟩
    · have d1 : decide ((z2.size : Int) ≤ 1000) = false := dec_not (by omega)
      rw [show decide (z2.size ≤ 1000) = false from dec_not h1000] at HF
      clear h1000
      go_wp2
      go_ret
      exact ⟨by rw [HF.out]; rfl, HK1.out.alloc _⟩

set_option maxHeartbeats 2000000 in
set_option maxRecDepth 100000 in
theorem iMend_any (z1 z2 : ByteArray) (n : Int) (h1 : z1.size ≤ 1100000) (h2 : z2.size ≤ 1100000) (w : World) (he : ErrW w) :
    Calls Tryz.prog 52 #[.agg #[.string z1, .string z2, .int .i64 n]] w fun e w' => ∃ y, e = .returned (.tuple #[y, .bool (Nt.soB (si z1 z2 n))]) ∧ SvIs y (Nt.smend (si z1 z2 n)) ∧ Kept [] w w' := by
  obtain ⟨hk0, hb0, hr0⟩ := two_new w 73 73 #[.string z1, .string z2, .int .i64 n] #[.string ⟨#[]⟩, .string ⟨#[]⟩, .int .i64 0]
  have HB := Lib.hid hb0
  have HR := Lib.hid hr0
  have HK0 := Lib.hid hk0
  have H2 := Lib.hid h2
  obtain ⟨c0, c1, c2⟩ := hb0.three
  have HC := Lib.hid (fun W e => iStoreOk_any z1 z2 n h1 h2 W e)
  have HE := Lib.hid (he.stay HK0.out)
  clear hb0 hr0 hk0 h1 he
  go_enter Tryz.func52, Tryz.ntmps52
  go_wp2_with fail
  generalize ((w.alloc (.cells #[.string z1, .string z2, .int .i64 n] 73)).alloc (.cells #[.string ⟨#[]⟩, .string ⟨#[]⟩, .int .i64 0] 73)) = W0 at *
  refine (HC.out _ HE.out).mono ?_
  rintro e w1 ⟨rfl, hk1⟩
  have HB1 := Lib.hid (HB.out.stay hk1)
  have HR1 := Lib.hid (HR.out.stay hk1)
  have HK1 := Lib.hid (HK0.out.trans hk1 (by simp))
  have HE1 := Lib.hid (HE.out.stay hk1)
  clear hk1 c0 c1 c2
  obtain ⟨c0, c1, c2⟩ := HB1.out.three
  obtain ⟨r0, r1, r2⟩ := HR1.out.three
  have f0 := HR1.out.frozen 0
  have f1 := HR1.out.frozen 1
  have f2 := HR1.out.frozen 2
  cases ho : Nt.soB (si z1 z2 n)
  · have HO := Lib.hid ho
    have HF := Lib.hid (Nt.smend_no ho)
    clear ho
    go_wp2
    (try simp only [Exit.inBlock, Exit.then])
    refine bodyPost_ret (v := .tuple #[.agg #[.string ⟨#[]⟩, .string ⟨#[]⟩, .int .i64 0], .bool false]) ?_ rfl ?_
    · rw [results_cell_tmp rfl]
      simp [asAddr, ret_store (HR1.out.set3 _ _ _)]
    · rw [HO.out, HF.out]
      exact ⟨_, rfl, SvIs.zero, HK1.out.set3 (by omega) _ _ _⟩
  · have HO := Lib.hid ho
    obtain ⟨_, _, _, _, _, hn0, hn1⟩ := Nt.soB_ok ho
    have hj := Nt.jlen_le (tx z2)
    rw [tx_length] at hj
    have hn1' : n ≤ (z2.size : Int) := by have h : n ≤ ((tx z2).length : Int) := hn1; rw [tx_length] at h; exact h
    have hn0' : 0 ≤ n := hn0
    have HF : Hid (si z1 (z2.extract 0 (Nt.jlen [] (tx z2))) (min n (Nt.jlen [] (tx z2) : Nat)) = Nt.smend (si z1 z2 n)) := Lib.hid (by
      rw [(Nt.smend_ok ho).1]; unfold si; simp only [tx_part, List.drop_zero])
    have HJ := Lib.hid (fun W e => iReadJournal_any z2 H2.out W e)
    clear ho hn0 hn1
    go_wp2_with fail
    refine (HJ.out _ HE1.out).mono ?_
    rintro e w2 ⟨u2, rfl, hdg, hk2⟩
    have HB2 := Lib.hid (HB1.out.stay hk2)
    have HR2 := Lib.hid (HR1.out.stay hk2)
    have HK2 := Lib.hid (HK1.out.trans hk2 (by simp))
    obtain ⟨a2, cp2, rfl⟩ := Tg.any hdg
    clear hk2 hdg c0 c1 c2 r0 r1 r2 f0 f1 f2
    obtain ⟨c0, c1, c2⟩ := HB2.out.three
    obtain ⟨r0, r1, r2⟩ := HR2.out.three
    have f0 := HR2.out.frozen 0
    have f1 := HR2.out.frozen 1
    have f2 := HR2.out.frozen 2
    generalize Nt.jlen [] (tx z2) = k at *
    go_wp2_with fail
    go_region
    all_goals (try omega)
    go_wp2
    (try simp only [Exit.inBlock, Exit.then])
    have hb9 : Bk (((w2.setCell ⟨w.heap.size + 1, 0, none⟩ (.string z1)).setCell ⟨w.heap.size + 1, 1, none⟩ (.string (z2.extract 0 k))).setCell ⟨w.heap.size + 1, 2, none⟩ (.int .i64 (min n (k : Int)))).drew (w.heap.size + 1) 73 #[.string z1, .string (z2.extract 0 k), .int .i64 (min n (k : Int))] := HR2.out.set3 _ _ _
    refine bodyPost_ret (v := .tuple #[.agg #[.string z1, .string (z2.extract 0 k), .int .i64 (min n (k : Int))], .bool true]) ?_ rfl ?_
    · rw [results_cell_tmp rfl]
      simp [asAddr, ret_store hb9]
    · rw [HO.out]
      exact ⟨_, rfl, ⟨_, _, _, rfl, HF.out⟩, (HK2.out.set3 (by omega) _ _ _).drew⟩

set_option maxHeartbeats 2000000 in
set_option maxRecDepth 100000 in
theorem iStoreNew_any (p : Nt.Pi) (w : World) (x : Value) (base : Nat) (h : Pv w base x p) :
    Calls Tryz.prog 104 #[x] w fun e w' => ∃ y, e = .returned (.tuple #[y, .bool (Nt.plB p)]) ∧ SvIs y (Nt.snew p) ∧ Kept [] w w' := by
  have HPV0 := Lib.hid h
  obtain ⟨v, u, rfl, h1, h2⟩ := h
  obtain ⟨hk0, hb0, hr0⟩ := two_new w 30 73 #[v, .int .i64 p.c, u] #[.string ⟨#[]⟩, .string ⟨#[]⟩, .int .i64 0]
  have HPV := Lib.hid (HPV0.out.stay hk0)
  have HB := Lib.hid hb0
  have HR := Lib.hid hr0
  have HK0 := Lib.hid hk0
  obtain ⟨a, cap, rfl, _, _, _⟩ := h1.any
  obtain ⟨b, cap2, rfl, _, _, _⟩ := h2.any
  obtain ⟨c0, c1, c2⟩ := hb0.three
  clear h1 h2 hk0 hb0 hr0 HPV0
  go_enter Tryz.func104, Tryz.ntmps104
  go_wp2_with fail
  generalize ((w.alloc (.cells #[.slice a p.ns.length cap, .int .i64 p.c, .slice b p.ks.length cap2] 30)).alloc (.cells #[.string ⟨#[]⟩, .string ⟨#[]⟩, .int .i64 0] 73)) = W0 at *
  refine (iPlaceOk_any p _ _ _ HPV.out).mono ?_
  rintro e w1 ⟨rfl, hk1⟩
  have HB1 := Lib.hid (HB.out.stay hk1)
  have HR1 := Lib.hid (HR.out.stay hk1)
  have HPV1 := Lib.hid (HPV.out.stay hk1)
  have HK1 := Lib.hid (HK0.out.trans hk1 (by simp))
  clear hk1 c0 c1 c2 HB HR HPV HK0
  obtain ⟨r0, r1, r2⟩ := HR1.out.three
  have f0 := HR1.out.frozen 0
  have f1 := HR1.out.frozen 1
  have f2 := HR1.out.frozen 2
  cases ho : Nt.plB p
  · have HO := Lib.hid ho
    have HF := Lib.hid (Nt.snew_no ho)
    clear ho
    go_wp2
    (try simp only [Exit.inBlock, Exit.then])
    refine bodyPost_ret (v := .tuple #[.agg #[.string ⟨#[]⟩, .string ⟨#[]⟩, .int .i64 0], .bool false]) ?_ rfl ?_
    · rw [results_cell_tmp rfl]
      simp [asAddr, ret_store (HR1.out.set3 _ _ _)]
    · rw [HO.out, HF.out]
      exact ⟨_, rfl, SvIs.zero, HK1.out.set3 (by omega) _ _ _⟩
  · have HO := Lib.hid ho
    have HF : Hid (Nt.snew p = ⟨Nt.ptxt p, [], 0⟩) := Lib.hid (by unfold Nt.snew; rw [if_pos ho])
    clear ho
    obtain ⟨c0, c1, c2⟩ := HB1.out.three
    go_wp2_with fail
    refine (iPlaceText_any p _ _ _ HPV1.out).mono ?_
    rintro e w2 ⟨z, rfl, hz, hk2⟩
    have HR2 := Lib.hid (HR1.out.stay hk2)
    have HK2 := Lib.hid (HK1.out.trans hk2 (by simp))
    have HZ := Lib.hid hz
    clear hk2 hz c0 c1 c2 r0 r1 r2 f0 f1 f2
    obtain ⟨r0, r1, r2⟩ := HR2.out.three
    have f0 := HR2.out.frozen 0
    have f1 := HR2.out.frozen 1
    have f2 := HR2.out.frozen 2
    go_wp2
    (try simp only [Exit.inBlock, Exit.then])
    refine bodyPost_ret (v := .tuple #[.agg #[.string z, .string ⟨#[]⟩, .int .i64 0], .bool true]) ?_ rfl ?_
    · rw [results_cell_tmp rfl]
      simp [asAddr, ret_store (HR2.out.set3 _ _ _)]
    · rw [HO.out, HF.out]
      exact ⟨_, rfl, ⟨_, _, _, rfl, by unfold si; rw [HZ.out]; rfl⟩, HK2.out.set3 (by omega) _ _ _⟩
end Go.Proofs.YtnajdbnacdnnlaaGreatDoor
