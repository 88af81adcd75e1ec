/-
  Stores: whether a store is one, new ones, made sure, broken down, mended, by the program.
  Stores opened: by the model and by the program.
  Stores saved, deeds acted at stores: by the model and by the program.
-/
import Derived.Test.YtnajdbnacdnnlaaGreatDoorQC
import Derived.Test.YtnajdbnacdnnlaaGreatDoorQH
import Derived.Test.YtnajdbnacdnnlaaGreatDoorQI
import Derived.Test.YtnajdbnacdnnlaaGreatDoorQF
import Derived.Test.YtnajdbnacdnnlaaGreatDoorWA
namespace Go.Proofs.YtnajdbnacdnnlaaGreatDoor
open Go.RowKit

set_option maxHeartbeats 2000000 in
set_option maxRecDepth 100000 in
theorem iStoreOk_any (z1 z2 : ByteArray) (n : Int) (h1 : z1.size ≤ 1100000) (h2 : z2.size ≤ 1100000) (w : World) (he : ErrW w) :
    Calls Tryz.prog 105 #[.agg #[.string z1, .string z2, .int .i64 n]] w fun e w' => e = .returned (.bool (Nt.soB (si z1 z2 n))) ∧ Kept [] w w' := by
  have HB := Lib.hid (Bk.new w 73 #[.string z1, .string z2, .int .i64 n])
  have HK0 : Hid (Kept [] w (w.alloc (.cells #[.string z1, .string z2, .int .i64 n] 73))) := Lib.hid ((Kept.refl [] w).alloc _)
  have HF := Lib.hid (soB_is z1 z2 n)
  have H1 := Lib.hid h1
  have HE := Lib.hid (he.stay HK0.out)
  clear h1 he
  go_enter Tryz.func105, Tryz.ntmps105
  go_wp2_with fail
  generalize w.alloc (.cells #[.string z1, .string z2, .int .i64 n] 73) = W0 at *
  refine (iReadPlace_any z1 H1.out _ HE.out).mono ?_
  rintro e w1 ⟨y1, rfl, ⟨v1, u1, rfl, hv, hu⟩, hk1⟩
  obtain ⟨a, c, rfl, _, _, _⟩ := hv.any
  obtain ⟨b, c', rfl, _, _, _⟩ := hu.any
  have HK1 := Lib.hid (HK0.out.trans hk1 (by simp))
  obtain ⟨t1, t2, _⟩ := two_new w1 30 30 #[] #[]
  obtain ⟨c0, c1, c2⟩ := (HB.out.stay hk1).three
  have hbl := (HB.out.stay hk1).lt
  clear hv hu hk1 t1 t2
  generalize Nt.readPI (tx z1) = P at *
  cases hb : Nt.readPB (tx z1)
  · rw [hb] at HF
    go_wp2
    go_ret
    exact ⟨by rw [HF.out]; rfl, HK1.out.alloc _⟩
  · rw [hb] at HF
    by_cases h1000 : z2.size ≤ 1000
    · have d1 : decide ((z2.size : Int) ≤ 1000) = true := dec_of (by omega)
      rw [show decide (z2.size ≤ 1000) = true from dec_of h1000] at HF
      by_cases n0 : 0 ≤ n
      · have e0 : decide (n ≥ 0) = true := dec_of n0
        have e0' : decide (0 ≤ n) = true := dec_of n0
        by_cases n1 : n ≤ (z2.size : Int)
        · have e1 : decide (n ≤ (z2.size : Int)) = true := dec_of n1
          rw [show decide (0 ≤ n ∧ n ≤ (z2.size : Int)) = true from dec_of ⟨n0, n1⟩] at HF
          clear n0 n1
          go_wp2
          go_ret
          exact ⟨by rw [HF.out]; rfl, HK1.out.alloc _⟩
        · have e1 : decide (n ≤ (z2.size : Int)) = false := dec_not n1
          rw [show decide (0 ≤ n ∧ n ≤ (z2.size : Int)) = false from dec_not (fun h => n1 h.2)] at HF
          clear n0 n1
          go_wp2
          go_ret
          exact ⟨by rw [HF.out]; rfl, HK1.out.alloc _⟩
      · have e0 : decide (n ≥ 0) = false := dec_not n0
        have e0' : decide (0 ≤ n) = false := dec_not n0
        rw [show decide (0 ≤ n ∧ n ≤ (z2.size : Int)) = false from dec_not (fun h => n0 h.1)] at HF
        clear n0
        go_wp2
        go_ret
        exact ⟨by rw [HF.out]; rfl, HK1.out.alloc _⟩
    · have d1 : decide ((z2.size : Int) ≤ 1000) = false := dec_not (by omega)
      rw [show decide (z2.size ≤ 1000) = false from dec_not h1000] at HF
      clear h1000
      go_wp2
      go_ret
      exact ⟨by rw [HF.out]; rfl, HK1.out.alloc _⟩

set_option maxHeartbeats 2000000 in
set_option maxRecDepth 100000 in
theorem iMend_any (z1 z2 : ByteArray) (n : Int) (h1 : z1.size ≤ 1100000) (h2 : z2.size ≤ 1100000) (w : World) (he : ErrW w) :
    Calls Tryz.prog 52 #[.agg #[.string z1, .string z2, .int .i64 n]] w fun e w' => ∃ y, e = .returned (.tuple #[y, .bool (Nt.soB (si z1 z2 n))]) ∧ SvIs y (Nt.smend (si z1 z2 n)) ∧ Kept [] w w' := by
  obtain ⟨hk0, hb0, hr0⟩ := two_new w 73 73 #[.string z1, .string z2, .int .i64 n] #[.string ⟨#[]⟩, .string ⟨#[]⟩, .int .i64 0]
  have HB := Lib.hid hb0
  have HR := Lib.hid hr0
  have HK0 := Lib.hid hk0
  have H2 := Lib.hid h2
  obtain ⟨c0, c1, c2⟩ := hb0.three
  have HC := Lib.hid (fun W e => iStoreOk_any z1 z2 n h1 h2 W e)
  have HE := Lib.hid (he.stay HK0.out)
  clear hb0 hr0 hk0 h1 he
  go_enter Tryz.func52, Tryz.ntmps52
  go_wp2_with fail
  generalize ((w.alloc (.cells #[.string z1, .string z2, .int .i64 n] 73)).alloc (.cells #[.string ⟨#[]⟩, .string ⟨#[]⟩, .int .i64 0] 73)) = W0 at *
  refine (HC.out _ HE.out).mono ?_
  rintro e w1 ⟨rfl, hk1⟩
  have HB1 := Lib.hid (HB.out.stay hk1)
  have HR1 := Lib.hid (HR.out.stay hk1)
  have HK1 := Lib.hid (HK0.out.trans hk1 (by simp))
  have HE1 := Lib.hid (HE.out.stay hk1)
  clear hk1 c0 c1 c2
  obtain ⟨c0, c1, c2⟩ := HB1.out.three
  obtain ⟨r0, r1, r2⟩ := HR1.out.three
  have f0 := HR1.out.frozen 0
  have f1 := HR1.out.frozen 1
  have f2 := HR1.out.frozen 2
  cases ho : Nt.soB (si z1 z2 n)
  · have HO := Lib.hid ho
    have HF := Lib.hid (Nt.smend_no ho)
    clear ho
    go_wp2
    (try simp only [Exit.inBlock, Exit.then])
    refine bodyPost_ret (v := .tuple #[.agg #[.string ⟨#[]⟩, .string ⟨#[]⟩, .int .i64 0], .bool false]) ?_ rfl ?_
    · rw [results_cell_tmp rfl]
      simp [asAddr, ret_store (HR1.out.set3 _ _ _)]
    · rw [HO.out, HF.out]
      exact ⟨_, rfl, SvIs.zero, HK1.out.set3 (by omega) _ _ _⟩
  · have HO := Lib.hid ho
    obtain ⟨_, _, _, _, _, hn0, hn1⟩ := Nt.soB_ok ho
    have hj := Nt.jlen_le (tx z2)
    rw [tx_length] at hj
    have hn1' : n ≤ (z2.size : Int) := by have h : n ≤ ((tx z2).length : Int) := hn1; rw [tx_length] at h; exact h
    have hn0' : 0 ≤ n := hn0
    have HF : Hid (si z1 (z2.extract 0 (Nt.jlen [] (tx z2))) (min n (Nt.jlen [] (tx z2) : Nat)) = Nt.smend (si z1 z2 n)) := Lib.hid (by
      rw [(Nt.smend_ok ho).1]; unfold si; simp only [tx_part, List.drop_zero])
    have HJ := Lib.hid (fun W e => iReadJournal_any z2 H2.out W e)
    clear ho hn0 hn1
    go_wp2_with fail
    refine (HJ.out _ HE1.out).mono ?_
    rintro e w2 ⟨u2, rfl, hdg, hk2⟩
    have HB2 := Lib.hid (HB1.out.stay hk2)
    have HR2 := Lib.hid (HR1.out.stay hk2)
    have HK2 := Lib.hid (HK1.out.trans hk2 (by simp))
    obtain ⟨a2, cp2, rfl⟩ := Tg.any hdg
    clear hk2 hdg c0 c1 c2 r0 r1 r2 f0 f1 f2
    obtain ⟨c0, c1, c2⟩ := HB2.out.three
    obtain ⟨r0, r1, r2⟩ := HR2.out.three
    have f0 := HR2.out.frozen 0
    have f1 := HR2.out.frozen 1
    have f2 := HR2.out.frozen 2
    generalize Nt.jlen [] (tx z2) = k at *
    go_wp2_with fail
    go_region
    all_goals (try omega)
    go_wp2
    (try simp only [Exit.inBlock, Exit.then])
    have hb9 : Bk (((w2.setCell ⟨w.heap.size + 1, 0, none⟩ (.string z1)).setCell ⟨w.heap.size + 1, 1, none⟩ (.string (z2.extract 0 k))).setCell ⟨w.heap.size + 1, 2, none⟩ (.int .i64 (min n (k : Int)))).drew (w.heap.size + 1) 73 #[.string z1, .string (z2.extract 0 k), .int .i64 (min n (k : Int))] := HR2.out.set3 _ _ _
    refine bodyPost_ret (v := .tuple #[.agg #[.string z1, .string (z2.extract 0 k), .int .i64 (min n (k : Int))], .bool true]) ?_ rfl ?_
    · rw [results_cell_tmp rfl]
      simp [asAddr, ret_store hb9]
    · rw [HO.out]
      exact ⟨_, rfl, ⟨_, _, _, rfl, HF.out⟩, (HK2.out.set3 (by omega) _ _ _).drew⟩

set_option maxHeartbeats 2000000 in
set_option maxRecDepth 100000 in
theorem iStoreNew_any (p : Nt.Pi) (w : World) (x : Value) (base : Nat) (h : Pv w base x p) :
    Calls Tryz.prog 104 #[x] w fun e w' => ∃ y, e = .returned (.tuple #[y, .bool (Nt.plB p)]) ∧ SvIs y (Nt.snew p) ∧ Kept [] w w' := by
  have HPV0 := Lib.hid h
  obtain ⟨v, u, rfl, h1, h2⟩ := h
  obtain ⟨hk0, hb0, hr0⟩ := two_new w 30 73 #[v, .int .i64 p.c, u] #[.string ⟨#[]⟩, .string ⟨#[]⟩, .int .i64 0]
  have HPV := Lib.hid (HPV0.out.stay hk0)
  have HB := Lib.hid hb0
  have HR := Lib.hid hr0
  have HK0 := Lib.hid hk0
  obtain ⟨a, cap, rfl, _, _, _⟩ := h1.any
  obtain ⟨b, cap2, rfl, _, _, _⟩ := h2.any
  obtain ⟨c0, c1, c2⟩ := hb0.three
  clear h1 h2 hk0 hb0 hr0 HPV0
  go_enter Tryz.func104, Tryz.ntmps104
  go_wp2_with fail
  generalize ((w.alloc (.cells #[.slice a p.ns.length cap, .int .i64 p.c, .slice b p.ks.length cap2] 30)).alloc (.cells #[.string ⟨#[]⟩, .string ⟨#[]⟩, .int .i64 0] 73)) = W0 at *
  refine (iPlaceOk_any p _ _ _ HPV.out).mono ?_
  rintro e w1 ⟨rfl, hk1⟩
  have HB1 := Lib.hid (HB.out.stay hk1)
  have HR1 := Lib.hid (HR.out.stay hk1)
  have HPV1 := Lib.hid (HPV.out.stay hk1)
  have HK1 := Lib.hid (HK0.out.trans hk1 (by simp))
  clear hk1 c0 c1 c2 HB HR HPV HK0
  obtain ⟨r0, r1, r2⟩ := HR1.out.three
  have f0 := HR1.out.frozen 0
  have f1 := HR1.out.frozen 1
  have f2 := HR1.out.frozen 2
  cases ho : Nt.plB p
  · have HO := Lib.hid ho
    have HF := Lib.hid (Nt.snew_no ho)
    clear ho
    go_wp2
    (try simp only [Exit.inBlock, Exit.then])
    refine bodyPost_ret (v := .tuple #[.agg #[.string ⟨#[]⟩, .string ⟨#[]⟩, .int .i64 0], .bool false]) ?_ rfl ?_
    · rw [results_cell_tmp rfl]
      simp [asAddr, ret_store (HR1.out.set3 _ _ _)]
    · rw [HO.out, HF.out]
      exact ⟨_, rfl, SvIs.zero, HK1.out.set3 (by omega) _ _ _⟩
  · have HO := Lib.hid ho
    have HF : Hid (Nt.snew p = ⟨Nt.ptxt p, [], 0⟩) := Lib.hid (by unfold Nt.snew; rw [if_pos ho])
    clear ho
    obtain ⟨c0, c1, c2⟩ := HB1.out.three
    go_wp2_with fail
    refine (iPlaceText_any p _ _ _ HPV1.out).mono ?_
    rintro e w2 ⟨z, rfl, hz, hk2⟩
    have HR2 := Lib.hid (HR1.out.stay hk2)
    have HK2 := Lib.hid (HK1.out.trans hk2 (by simp))
    have HZ := Lib.hid hz
    clear hk2 hz c0 c1 c2 r0 r1 r2 f0 f1 f2
    obtain ⟨r0, r1, r2⟩ := HR2.out.three
    have f0 := HR2.out.frozen 0
    have f1 := HR2.out.frozen 1
    have f2 := HR2.out.frozen 2
    go_wp2
    (try simp only [Exit.inBlock, Exit.then])
    refine bodyPost_ret (v := .tuple #[.agg #[.string z, .string ⟨#[]⟩, .int .i64 0], .bool true]) ?_ rfl ?_
    · rw [results_cell_tmp rfl]
      simp [asAddr, ret_store (HR2.out.set3 _ _ _)]
    · rw [HO.out, HF.out]
      exact ⟨_, rfl, ⟨_, _, _, rfl, by unfold si; rw [HZ.out]; rfl⟩, HK2.out.set3 (by omega) _ _ _⟩
end Go.Proofs.YtnajdbnacdnnlaaGreatDoor

namespace Go.Proofs.YtnajdbnacdnnlaaGreatDoor
open Go.RowKit

theorem jgo_few (t : List Nat) : (Nt.jgo [] t).length ≤ t.length := by
  have h1 := Nt.jgo_text t
  have h2 : ∀ l : List Nt.Dd, l.length ≤ (Nt.jrnT l).length := fun l => by
    induction l with
    | nil => simp
    | cons d l ih =>
      have e : Nt.jrnT (d :: l) = Nt.deedT d ++ [10] ++ Nt.jrnT l := by simp [Nt.jrnT]
      rw [e]; simp only [List.length_append, List.length_cons, List.length_nil]; omega
  have h3 := h2 (Nt.jgo [] t)
  rw [h1, List.length_take] at h3
  omega
theorem De.place {w : World} {b b' : Nat} {x y : Value} {p : Nt.Pl} (h1 : Sl w b x p.i.ns) (h2 : Sl w b' y p.i.ks) : De w (.agg #[x, .int .i64 p.i.c, y, .slice none 0 0]) (Nt.Dk.i ⟨p, []⟩) :=
  ⟨_, _, _, rfl, h1.mono (Nat.zero_le _), h2.mono (Nat.zero_le _), Ps.nil w 0, Pt.none w 0 0⟩

set_option maxHeartbeats 4000000 in
set_option maxRecDepth 100000 in
theorem sStoreOpen_any (z1 z2 : ByteArray) (n : Int) (h1 : z1.size ≤ 1100000) (h2 : z2.size ≤ 1100000) (w : World) :
    Calls Tryz.prog 99 #[.agg #[.string z1, .string z2, .int .i64 n]] w fun e w' => ∃ y, e = .returned (.tuple #[y, .bool (Nt.soB (si z1 z2 n))]) ∧ De w' y (Nt.sopen (si z1 z2 n)) ∧ Kept [] w w' := by
  obtain ⟨hk0, hb0, hr0⟩ := two_new w 73 33 #[.string z1, .string z2, .int .i64 n] #[.slice none 0 0, .int .i64 0, .slice none 0 0, .slice none 0 0]
  have HB := Lib.hid hb0
  have HR := Lib.hid hr0
  have HK0 := Lib.hid hk0
  have H1 := Lib.hid h1
  have H2 := Lib.hid h2
  obtain ⟨c0, c1, c2⟩ := hb0.three
  clear hb0 hr0 hk0 h1 h2
  go_enter Tryz.func99, Tryz.ntmps99
  go_wp2_with fail
  generalize ((w.alloc (.cells #[.string z1, .string z2, .int .i64 n] 73)).alloc (.cells #[.slice none 0 0, .int .i64 0, .slice none 0 0, .slice none 0 0] 33)) = W0 at *
  refine (sStoreOk_any z1 z2 n H1.out H2.out _).mono ?_
  rintro e w1 ⟨rfl, hk1⟩
  have HB1 := Lib.hid (HB.out.stay hk1)
  have HR1 := Lib.hid (HR.out.stay hk1)
  have HK1 := Lib.hid (HK0.out.trans hk1 (by simp))
  clear hk1 c0 c1 c2 HB HR HK0
  obtain ⟨c0, c1, c2⟩ := HB1.out.three
  have hzb := HB1.out.lt
  cases ho : Nt.soB (si z1 z2 n)
  · have HO := Lib.hid ho
    have HF := Lib.hid (Nt.sopen_no ho)
    clear ho
    obtain ⟨r0, r1, r2, r3⟩ := HR1.out.four
    have f0 := HR1.out.frozen 0
    have f1 := HR1.out.frozen 1
    have f2 := HR1.out.frozen 2
    have f3 := HR1.out.frozen 3
    have hzr := HR1.out.lt
    go_wp2
    (try simp only [Exit.inBlock, Exit.then])
    refine bodyPost_ret (v := .tuple #[.agg #[.slice none 0 0, .int .i64 0, .slice none 0 0, .slice none 0 0], .bool false]) ?_ rfl ?_
    · rw [results_cell_tmp rfl]
      simp [asAddr, ret_desk (HR1.out.set4 _ _ _ _)]
    · rw [HO.out, HF.out]
      exact ⟨_, rfl, De.zero _, HK1.out.set4 (by omega) _ _ _ _⟩
  · have HO := Lib.hid ho
    obtain ⟨p, hp, hpk, _, _, _, _⟩ := Nt.soB_ok ho
    have HP : Hid (Nt.readPI (tx z1) = p.i) := Lib.hid (Nt.readPI_some hp).1
    have HDK : Hid (Nt.DkOk ⟨p, []⟩) := Lib.hid ⟨hpk, fun _ hq => by simp at hq, by simp⟩
    have HL : Hid ((Nt.jgo [] (tx z2)).length ≤ 2000000) := Lib.hid (by have h1 := jgo_few (tx z2); rw [tx_length] at h1; have := H2.out; omega)
    have HF : Hid (Nt.sopen (si z1 z2 n) = (Nt.runD ⟨p, []⟩ (Nt.jgo [] (tx z2))).i) := Lib.hid (by rw [Nt.sopen_ok ho, Nt.sdesk_run hp]; rfl)
    clear ho hp hpk
    go_wp2_with fail
    refine (sReadPlace_any z1 H1.out _).mono ?_
    rintro e w2 ⟨y2, rfl, hpv, hk2⟩
    rw [HP.out] at hpv
    obtain ⟨v2, u2, rfl, hv, hu⟩ := hpv
    obtain ⟨pa, pq, rfl, _, _, _⟩ := hv.any
    obtain ⟨pb, pq2, rfl, _, _, _⟩ := hu.any
    have hka : Kept [] w2 (w2.alloc (.cells #[.slice pa p.i.ns.length pq, .int .i64 p.i.c, .slice pb p.i.ks.length pq2] 30)) := (Kept.refl [] w2).alloc _
    have HP3 := Lib.hid (Bk.new w2 30 #[.slice pa p.i.ns.length pq, .int .i64 p.i.c, .slice pb p.i.ks.length pq2])
    have HB3 := Lib.hid ((HB1.out.stay hk2).stay hka)
    have HR3 := Lib.hid ((HR1.out.stay hk2).stay hka)
    have HK3 := Lib.hid ((HK1.out.trans hk2 (by simp)).trans hka (by simp))
    have HV3 := Lib.hid (hv.stay hka)
    have HU3 := Lib.hid (hu.stay hka)
    clear hk2 hka hv hu c0 c1 c2 hzb HB1 HR1 HK1
    obtain ⟨c0, c1, c2⟩ := HB3.out.three
    have hzb := HB3.out.lt
    go_wp2_with fail
    generalize w2.alloc (.cells #[.slice pa p.i.ns.length pq, .int .i64 p.i.c, .slice pb p.i.ks.length pq2] 30) = W3 at *
    refine (sReadJournal_any z2 H2.out _).mono ?_
    rintro e w4 ⟨u4, rfl, hdg, hk4⟩
    have HD4 := Lib.hid hdg.ds
    have HP4 := Lib.hid (HP3.out.stay hk4)
    have HR4 := Lib.hid (HR3.out.stay hk4)
    have HK4 := Lib.hid (HK3.out.trans hk4 (by simp))
    have HX4 := Lib.hid (De.place (HV3.out.stay hk4) (HU3.out.stay hk4))
    obtain ⟨la, lq, rfl⟩ := Tg.any hdg
    clear hdg hk4 c0 c1 c2 hzb HP3 HB3 HR3 HK3 HV3 HU3
    rw [List.length_map] at HD4 ⊢
    obtain ⟨p0, p1, p2⟩ := HP4.out.three
    have hzp := HP4.out.lt
    generalize Nt.jgo [] (tx z2) = ds at *
    generalize hj : Nt.jlen [] (tx z2) = jl at *
    clear hj
    have HOK2 : Hid (Nt.dkB (Nt.runD ⟨p, []⟩ ds).i = true) := Lib.hid (Nt.dkB_yes (Nt.runD_ok HDK.out _))
    go_wp2_with fail
    refine (sRun_any ⟨p, []⟩ HDK.out ds HL.out _ _ _ HX4.out HD4.out).mono ?_
    rintro e w5 ⟨y5, rfl, hde, hk5⟩
    generalize hg : Nt.runD ⟨p, []⟩ ds = E2 at *
    generalize hc : Nt.cntD ⟨p, []⟩ ds = O2 at *
    have HDE := Lib.hid hde
    have HR5 := Lib.hid (HR4.out.stay hk5)
    have HK5 := Lib.hid (HK4.out.trans hk5 (by simp))
    obtain ⟨ya, yn, ycap, yb, ym, ycap2, y3, yn3, ycap3, rfl⟩ := hde.form
    have hka : Kept [] w5 (w5.alloc (.cells #[.slice ya yn ycap, .int .i64 E2.i.now.c, .slice yb ym ycap2, .slice y3 yn3 ycap3] 33)) := (Kept.refl [] w5).alloc _
    have HT6 := Lib.hid (Bk.new w5 33 #[.slice ya yn ycap, .int .i64 E2.i.now.c, .slice yb ym ycap2, .slice y3 yn3 ycap3])
    have HR6 := Lib.hid (HR5.out.stay hka)
    have HK6 := Lib.hid (HK5.out.trans hka (by simp))
    have HDE6 := Lib.hid (HDE.out.stay hka)
    clear hg hc hde hk5 hka p0 p1 p2 hzp HP4 HR4 HK4 HX4 HD4 HR5 HK5 HDE HL HP
    obtain ⟨t0, t1, t2, t3⟩ := HT6.out.four
    have hzt := HT6.out.lt
    obtain ⟨r0, r1, r2, r3⟩ := HR6.out.four
    have f0 := HR6.out.frozen 0
    have f1 := HR6.out.frozen 1
    have f2 := HR6.out.frozen 2
    have f3 := HR6.out.frozen 3
    have hrl := HR6.out.lt
    go_wp2
    (try simp only [Exit.inBlock, Exit.then])
    refine bodyPost_ret (v := .tuple #[.agg #[.slice ya yn ycap, .int .i64 E2.i.now.c, .slice yb ym ycap2, .slice y3 yn3 ycap3], .bool true]) ?_ rfl ?_
    · rw [results_cell_tmp rfl]
      simp [asAddr, ret_desk (HR6.out.set4 _ _ _ _)]
    · rw [HO.out, HF.out]
      exact ⟨_, rfl, HDE6.out.alien (Kept.rows4 _ (w.heap.size + 1) _ _ _ _) (Alien.one HR6.out), HK6.out.set4 (by omega) _ _ _ _⟩

set_option maxHeartbeats 4000000 in
set_option maxRecDepth 100000 in
theorem iStoreOpen_any (z1 z2 : ByteArray) (n : Int) (h1 : z1.size ≤ 1100000) (h2 : z2.size ≤ 1100000) (w : World) (he : ErrW w) :
    Calls Tryz.prog 101 #[.agg #[.string z1, .string z2, .int .i64 n]] w fun e w' => ∃ y, e = .returned (.tuple #[y, .bool (Nt.soB (si z1 z2 n))]) ∧ DxR w' w.heap.size y (Nt.sopen (si z1 z2 n)) ∧ Kept [] w w' := by
  obtain ⟨hk0, hb0, hr0⟩ := two_new w 73 33 #[.string z1, .string z2, .int .i64 n] #[.slice none 0 0, .int .i64 0, .slice none 0 0, .slice none 0 0]
  have HB := Lib.hid hb0
  have HR := Lib.hid hr0
  have HK0 := Lib.hid hk0
  have H1 := Lib.hid h1
  have H2 := Lib.hid h2
  have HE0 := Lib.hid (he.stay hk0)
  obtain ⟨c0, c1, c2⟩ := hb0.three
  clear hb0 hr0 hk0 h1 h2 he
  go_enter Tryz.func101, Tryz.ntmps101
  go_wp2_with fail
  generalize ((w.alloc (.cells #[.string z1, .string z2, .int .i64 n] 73)).alloc (.cells #[.slice none 0 0, .int .i64 0, .slice none 0 0, .slice none 0 0] 33)) = W0 at *
  refine (iStoreOk_any z1 z2 n H1.out H2.out _ HE0.out).mono ?_
  rintro e w1 ⟨rfl, hk1⟩
  have HB1 := Lib.hid (HB.out.stay hk1)
  have HR1 := Lib.hid (HR.out.stay hk1)
  have HK1 := Lib.hid (HK0.out.trans hk1 (by simp))
  have HE1 := Lib.hid (HE0.out.stay hk1)
  clear hk1 c0 c1 c2 HB HR HK0 HE0
  obtain ⟨c0, c1, c2⟩ := HB1.out.three
  have hzb := HB1.out.lt
  cases ho : Nt.soB (si z1 z2 n)
  · have HO := Lib.hid ho
    have HF := Lib.hid (Nt.sopen_no ho)
    clear ho
    obtain ⟨r0, r1, r2, r3⟩ := HR1.out.four
    have f0 := HR1.out.frozen 0
    have f1 := HR1.out.frozen 1
    have f2 := HR1.out.frozen 2
    have f3 := HR1.out.frozen 3
    have hzr := HR1.out.lt
    go_wp2
    (try simp only [Exit.inBlock, Exit.then])
    refine bodyPost_ret (v := .tuple #[.agg #[.slice none 0 0, .int .i64 0, .slice none 0 0, .slice none 0 0], .bool false]) ?_ rfl ?_
    · rw [results_cell_tmp rfl]
      simp [asAddr, ret_desk (HR1.out.set4 _ _ _ _)]
    · rw [HO.out, HF.out]
      exact ⟨_, rfl, .inl ⟨rfl, rfl⟩, HK1.out.set4 (by omega) _ _ _ _⟩
  · have HO := Lib.hid ho
    obtain ⟨p, hp, hpk, _, _, _, _⟩ := Nt.soB_ok ho
    have HP : Hid (Nt.readPI (tx z1) = p.i) := Lib.hid (Nt.readPI_some hp).1
    have HDK : Hid (Nt.DkOk ⟨p, []⟩) := Lib.hid ⟨hpk, fun _ hq => by simp at hq, by simp⟩
    have HL : Hid ((Nt.jgo [] (tx z2)).length ≤ 2000000) := Lib.hid (by have h1 := jgo_few (tx z2); rw [tx_length] at h1; have := H2.out; omega)
    have HF : Hid (Nt.sopen (si z1 z2 n) = (Nt.runD ⟨p, []⟩ (Nt.jgo [] (tx z2))).i) := Lib.hid (by rw [Nt.sopen_ok ho, Nt.sdesk_run hp]; rfl)
    clear ho hp hpk
    go_wp2_with fail
    refine (iReadPlace_any z1 H1.out _ HE1.out).mono ?_
    rintro e w2 ⟨y2, rfl, hpv, hk2⟩
    rw [HP.out] at hpv
    obtain ⟨v2, u2, rfl, hv, hu⟩ := hpv
    obtain ⟨pa, pq, rfl, _, _, _⟩ := hv.any
    obtain ⟨pb, pq2, rfl, _, _, _⟩ := hu.any
    have hka : Kept [] w2 (w2.alloc (.cells #[.slice pa p.i.ns.length pq, .int .i64 p.i.c, .slice pb p.i.ks.length pq2] 30)) := (Kept.refl [] w2).alloc _
    have HP3 := Lib.hid (Bk.new w2 30 #[.slice pa p.i.ns.length pq, .int .i64 p.i.c, .slice pb p.i.ks.length pq2])
    have HB3 := Lib.hid ((HB1.out.stay hk2).stay hka)
    have HR3 := Lib.hid ((HR1.out.stay hk2).stay hka)
    have HK3 := Lib.hid ((HK1.out.trans hk2 (by simp)).trans hka (by simp))
    have HV3 := Lib.hid (hv.stay hka)
    have HU3 := Lib.hid (hu.stay hka)
    have HE3 := Lib.hid ((HE1.out.stay hk2).stay hka)
    clear hk2 hka hv hu c0 c1 c2 hzb HB1 HR1 HK1 HE1
    obtain ⟨c0, c1, c2⟩ := HB3.out.three
    have hzb := HB3.out.lt
    go_wp2_with fail
    generalize w2.alloc (.cells #[.slice pa p.i.ns.length pq, .int .i64 p.i.c, .slice pb p.i.ks.length pq2] 30) = W3 at *
    refine (iReadJournal_any z2 H2.out _ HE3.out).mono ?_
    rintro e w4 ⟨u4, rfl, hdg, hk4⟩
    have HD4 := Lib.hid hdg.ds
    have HP4 := Lib.hid (HP3.out.stay hk4)
    have HR4 := Lib.hid (HR3.out.stay hk4)
    have HK4 := Lib.hid (HK3.out.trans hk4 (by simp))
    have HX4 := Lib.hid (De.place (HV3.out.stay hk4) (HU3.out.stay hk4))
    obtain ⟨la, lq, rfl⟩ := Tg.any hdg
    clear hdg hk4 c0 c1 c2 hzb HP3 HB3 HR3 HK3 HV3 HU3
    rw [List.length_map] at HD4 ⊢
    obtain ⟨p0, p1, p2⟩ := HP4.out.three
    have hzp := HP4.out.lt
    generalize Nt.jgo [] (tx z2) = ds at *
    generalize hj : Nt.jlen [] (tx z2) = jl at *
    clear hj
    have HOK2 : Hid (Nt.dkB (Nt.runD ⟨p, []⟩ ds).i = true) := Lib.hid (Nt.dkB_yes (Nt.runD_ok HDK.out _))
    go_wp2_with fail
    refine (deskAfterAll_any ⟨p, []⟩ HDK.out ds HL.out _ _ _ HX4.out HD4.out).mono ?_
    rintro e w5 ⟨y5, rfl, hde, hk5⟩
    generalize hg : Nt.runD ⟨p, []⟩ ds = E2 at *
    generalize hc : Nt.cntD ⟨p, []⟩ ds = O2 at *
    have HDE := Lib.hid hde
    have HR5 := Lib.hid (HR4.out.stay hk5)
    have HK5 := Lib.hid (HK4.out.trans hk5 (by simp))
    obtain ⟨ya, yn, ycap, yb, ym, ycap2, y3, yn3, ycap3, rfl⟩ := hde.form
    have hka : Kept [] w5 (w5.alloc (.cells #[.slice ya yn ycap, .int .i64 E2.i.now.c, .slice yb ym ycap2, .slice y3 yn3 ycap3] 33)) := (Kept.refl [] w5).alloc _
    have HT6 := Lib.hid (Bk.new w5 33 #[.slice ya yn ycap, .int .i64 E2.i.now.c, .slice yb ym ycap2, .slice y3 yn3 ycap3])
    have HR6 := Lib.hid (HR5.out.stay hka)
    have HK6 := Lib.hid (HK5.out.trans hka (by simp))
    have HDE6 := Lib.hid (HDE.out.stay hka)
    clear hg hc hde hk5 hka p0 p1 p2 hzp HP4 HR4 HK4 HX4 HD4 HR5 HK5 HDE HL HP
    obtain ⟨t0, t1, t2, t3⟩ := HT6.out.four
    have hzt := HT6.out.lt
    go_wp2_with fail
    generalize w5.alloc (.cells #[.slice ya yn ycap, .int .i64 E2.i.now.c, .slice yb ym ycap2, .slice y3 yn3 ycap3] 33) = W6 at *
    refine (copiedDesk_any E2.i HOK2.out _ _ 0 HDE6.out.dv).mono ?_
    rintro e w7 ⟨y7, G, C, r, vs, rfl, hdx, hk7⟩
    have HDX := Lib.hid hdx
    have HR7 := Lib.hid (HR6.out.stay hk7)
    have HK7 := Lib.hid (HK6.out.trans hk7 (by simp))
    have HZ := Lib.hid HR6.out.lt
    have HZ0 := Lib.hid HK6.out.size
    obtain ⟨g1, q1, g2, q2, z3, zn3, zc3, rfl⟩ := hdx.form
    clear hdx hk7 t0 t1 t2 t3 hzt
    obtain ⟨r0, r1, r2, r3⟩ := HR7.out.four
    have f0 := HR7.out.frozen 0
    have f1 := HR7.out.frozen 1
    have f2 := HR7.out.frozen 2
    have f3 := HR7.out.frozen 3
    have hrl := HR7.out.lt
    go_wp2
    (try simp only [Exit.inBlock, Exit.then])
    refine bodyPost_ret (v := .tuple #[.agg #[.slice (some ⟨g1, 0, none⟩) E2.i.now.ns.length q1, .int .i64 E2.i.now.c, .slice (some ⟨g2, 0, none⟩) E2.i.now.ks.length q2, .slice z3 zn3 zc3], .bool true]) ?_ rfl ?_
    · rw [results_cell_tmp rfl]
      simp [asAddr, ret_desk (HR7.out.set4 _ _ _ _)]
    · rw [HO.out, HF.out]
      exact ⟨_, rfl, .inr ⟨HOK2.out, G, C, r, vs, (HDX.out.kept (Kept.rows4 w7 (w.heap.size + 1) _ _ _ _) (fun g hg _ => by have := HZ.out; simp; omega)).mono HZ0.out⟩, HK7.out.set4 (by omega) _ _ _ _⟩
end Go.Proofs.YtnajdbnacdnnlaaGreatDoor

namespace Go.Proofs.YtnajdbnacdnnlaaGreatDoor
open Go.RowKit

theorem save_now (s : Nt.Si) : Nt.plB (Nt.sopen s).now = Nt.soB s ∧ Nt.snew (Nt.sopen s).now = Nt.ssave s := by
  cases h : Nt.soB s
  · rw [Nt.sopen_no h, Nt.ssave_no h]
    exact ⟨Nt.plB_zero, Nt.snew_no Nt.plB_zero⟩
  · rw [Nt.sopen_ok h, (Nt.ssave_ok h).1]
    exact ⟨Nt.plB_yes (Nt.sdesk_ok h).now, (Nt.snew_ok (Nt.sdesk_ok h).now).1⟩
theorem made_dok {p q : Nt.Pl} (h : Nt.POk p) {d : Nt.Dd} (e : Nt.made p d = some q) : Nt.DOk d := by
  obtain ⟨k, a, b⟩ := d
  have hf := h.ok.few
  unfold Nt.made at e
  simp only at e
  split at e
  · split at e
    · rename_i h1 h2
      obtain ⟨x, rfl⟩ := Int.eq_ofNat_of_zero_le h2.1
      obtain ⟨y, rfl⟩ := Int.eq_ofNat_of_zero_le h2.2.2.1
      subst h1
      unfold Nt.DOk
      rw [Nt.deedW_join (by omega) (by omega)]
      simp
    · cases e
  · split at e
    · rename_i h1
      obtain ⟨rfl, rfl⟩ := h1
      split at e
      · rename_i h2
        obtain ⟨x, rfl⟩ := Int.eq_ofNat_of_zero_le h2.1
        unfold Nt.DOk
        rw [Nt.deedW_light (by omega)]
        simp
      · cases e
    · split at e
      · rename_i h1
        obtain ⟨rfl, rfl, rfl⟩ := h1
        unfold Nt.DOk
        rw [Nt.deedW_step]
        simp
      · split at e
        · rename_i h1
          obtain ⟨rfl, rfl⟩ := h1
          split at e
          · rename_i h2
            obtain ⟨x, rfl⟩ := Int.eq_ofNat_of_zero_le h2.1
            have h3 := h2.2.2
            unfold Nt.stBn at h3
            rw [Bool.and_eq_true, decide_eq_true_eq] at h3
            have h4 : x ≤ 5 := by have := h3.1.2; simpa using this
            unfold Nt.DOk
            rw [Nt.deedW_kinds (by omega)]
            simp
          · cases e
        · cases e
theorem doD_dok {x y : Nt.Dk} (h : Nt.DkOk x) {d : Nt.Dd} (e : Nt.doD x d = some y) : Nt.DOk d := by
  unfold Nt.doD at e
  split at e
  · rename_i h1
    obtain ⟨k, a, b⟩ := d
    simp only at h1
    obtain ⟨rfl, rfl, rfl⟩ := h1
    unfold Nt.DOk
    rw [Nt.deedW_back]
    simp
  · split at e
    · rename_i q h2
      exact made_dok h.now h2
    · cases e
theorem sact_fail {s : Nt.Si} {a : Nt.Dd} (h : Nt.soB s = true) (hn : ¬ (Nt.jlen [] s.log = s.log.length ∧ (Nt.doD (Nt.sdesk s) a).isSome = true ∧ Nt.DOk a ∧ s.log.length + (Nt.deedT a).length + 1 ≤ 1000)) : Nt.sactB s a = false ∧ Nt.sact s a = s := by
  have e : Nt.sactB s a = false := by
    cases e : Nt.sactB s a with
    | false => rfl
    | true =>
      obtain ⟨_, ⟨y, hy⟩, k1, k2, k3⟩ := Nt.sactB_ok e
      exact absurd ⟨k1, by rw [hy]; rfl, k2, k3⟩ hn
  exact ⟨e, Nt.sact_stay h e⟩
theorem sact_pass {s : Nt.Si} {a : Nt.Dd} (h : Nt.soB s = true) (k1 : Nt.jlen [] s.log = s.log.length) (k2 : (Nt.doD (Nt.sdesk s) a).isSome = true) (k4 : s.log.length + (Nt.deedT a).length + 1 ≤ 1000) : Nt.sactB s a = true ∧ Nt.sact s a = ⟨s.saved, s.log ++ (Nt.deedT a ++ [10]), s.sure⟩ := by
  obtain ⟨y, hy⟩ := Option.isSome_iff_exists.1 k2
  have e := Nt.sactB_yes h hy k1 (doD_dok (Nt.sdesk_ok h) hy) k4
  exact ⟨e, (Nt.sact_ok e).1⟩

set_option maxHeartbeats 4000000 in
set_option maxRecDepth 100000 in
theorem sSave_any (z1 z2 : ByteArray) (n : Int) (h1 : z1.size ≤ 1100000) (h2 : z2.size ≤ 1100000) (w : World) :
    Calls Tryz.prog 49 #[.agg #[.string z1, .string z2, .int .i64 n]] w fun e w' => ∃ y, e = .returned (.tuple #[y, .bool (Nt.soB (si z1 z2 n))]) ∧ SvIs y (Nt.ssave (si z1 z2 n)) ∧ Kept [] w w' := by
  obtain ⟨hk0, hb0, hr0⟩ := two_new w 73 73 #[.string z1, .string z2, .int .i64 n] #[.string ⟨#[]⟩, .string ⟨#[]⟩, .int .i64 0]
  have HB := Lib.hid hb0
  have HR := Lib.hid hr0
  have HK0 := Lib.hid hk0
  have H1 := Lib.hid h1
  have H2 := Lib.hid h2
  obtain ⟨c0, c1, c2⟩ := hb0.three
  clear hb0 hr0 hk0 h1 h2
  go_enter Tryz.func49, Tryz.ntmps49
  go_wp2_with fail
  generalize ((w.alloc (.cells #[.string z1, .string z2, .int .i64 n] 73)).alloc (.cells #[.string ⟨#[]⟩, .string ⟨#[]⟩, .int .i64 0] 73)) = W0 at *
  refine (sStoreOpen_any z1 z2 n H1.out H2.out _).mono ?_
  rintro e w1 ⟨y1, rfl, hde, hk1⟩
  have HNOW := Lib.hid (save_now (si z1 z2 n))
  generalize Nt.sopen (si z1 z2 n) = D at *
  obtain ⟨v, u, r, rfl, hv, hu, hr, _⟩ := hde
  obtain ⟨a1, cap, rfl, _, _, _⟩ := hv.any
  obtain ⟨b1, cap2, rfl, _, _, _⟩ := hu.any
  obtain ⟨a3, cap3, rfl⟩ := hr.any3
  have hka : Kept [] w1 (w1.alloc (.cells #[.slice a1 D.now.ns.length cap, .int .i64 D.now.c, .slice b1 D.now.ks.length cap2, .slice a3 D.past.length cap3] 33)) := (Kept.refl [] w1).alloc _
  have HT := Lib.hid (Bk.new w1 33 #[.slice a1 D.now.ns.length cap, .int .i64 D.now.c, .slice b1 D.now.ks.length cap2, .slice a3 D.past.length cap3])
  have HR2 := Lib.hid ((HR.out.stay hk1).stay hka)
  have HK2 := Lib.hid ((HK0.out.trans hk1 (by simp)).trans hka (by simp))
  have HP2 : Hid (Pv (w1.alloc (.cells #[.slice a1 D.now.ns.length cap, .int .i64 D.now.c, .slice b1 D.now.ks.length cap2, .slice a3 D.past.length cap3] 33)) 0 (.agg #[.slice a1 D.now.ns.length cap, .int .i64 D.now.c, .slice b1 D.now.ks.length cap2]) D.now) := Lib.hid ⟨_, _, rfl, hv.stay hka, hu.stay hka⟩
  clear hk1 hka hv hu hr c0 c1 c2 HB HR HK0
  obtain ⟨t0, t1, t2, t3⟩ := HT.out.four
  have hzt := HT.out.lt
  cases ho : Nt.soB (si z1 z2 n)
  · have HO := Lib.hid ho
    have HF := Lib.hid (Nt.ssave_no ho)
    clear ho
    obtain ⟨r0, r1, r2⟩ := HR2.out.three
    have f0 := HR2.out.frozen 0
    have f1 := HR2.out.frozen 1
    have f2 := HR2.out.frozen 2
    go_wp2
    (try simp only [Exit.inBlock, Exit.then])
    refine bodyPost_ret (v := .tuple #[.agg #[.string ⟨#[]⟩, .string ⟨#[]⟩, .int .i64 0], .bool false]) ?_ rfl ?_
    · rw [results_cell_tmp rfl]
      simp [asAddr, ret_store (HR2.out.set3 _ _ _)]
    · rw [HO.out, HF.out]
      exact ⟨_, rfl, SvIs.zero, HK2.out.set3 (by omega) _ _ _⟩
  · have HO := Lib.hid ho
    have HF : Hid (Nt.ssave (si z1 z2 n) = ⟨Nt.ptxt D.now, [], 0⟩) := Lib.hid (by
      rw [← HNOW.out.2]; unfold Nt.snew; rw [if_pos (HNOW.out.1.trans ho)])
    clear ho
    go_wp2_with fail
    generalize (w1.alloc (.cells #[.slice a1 D.now.ns.length cap, .int .i64 D.now.c, .slice b1 D.now.ks.length cap2, .slice a3 D.past.length cap3] 33)) = W2 at *
    refine (sPlaceText_any D.now _ _ 0 HP2.out).mono ?_
    rintro e w3 ⟨z3, rfl, hz3, hk3⟩
    have HZ3 := Lib.hid hz3
    have HR3 := Lib.hid (HR2.out.stay hk3)
    have HK3 := Lib.hid (HK2.out.trans hk3 (by simp))
    clear hz3 hk3 t0 t1 t2 t3 hzt HT HR2 HK2 HP2
    obtain ⟨r0, r1, r2⟩ := HR3.out.three
    have f0 := HR3.out.frozen 0
    have f1 := HR3.out.frozen 1
    have f2 := HR3.out.frozen 2
    go_wp2
    (try simp only [Exit.inBlock, Exit.then])
    refine bodyPost_ret (v := .tuple #[.agg #[.string z3, .string ⟨#[]⟩, .int .i64 0], .bool true]) ?_ rfl ?_
    · rw [results_cell_tmp rfl]
      simp [asAddr, ret_store (HR3.out.set3 _ _ _)]
    · rw [HO.out, HF.out, ← HZ3.out]
      exact ⟨_, rfl, ⟨_, _, _, rfl, rfl⟩, HK3.out.set3 (by omega) _ _ _⟩

set_option maxHeartbeats 4000000 in
set_option maxRecDepth 100000 in
theorem iSave_any (z1 z2 : ByteArray) (n : Int) (h1 : z1.size ≤ 1100000) (h2 : z2.size ≤ 1100000) (w : World) (he : ErrW w) :
    Calls Tryz.prog 50 #[.agg #[.string z1, .string z2, .int .i64 n]] w fun e w' => ∃ y, e = .returned (.tuple #[y, .bool (Nt.soB (si z1 z2 n))]) ∧ SvIs y (Nt.ssave (si z1 z2 n)) ∧ Kept [] w w' := by
  obtain ⟨hk0, hb0, hr0⟩ := two_new w 73 73 #[.string z1, .string z2, .int .i64 n] #[.string ⟨#[]⟩, .string ⟨#[]⟩, .int .i64 0]
  have HB := Lib.hid hb0
  have HR := Lib.hid hr0
  have HK0 := Lib.hid hk0
  have H1 := Lib.hid h1
  have H2 := Lib.hid h2
  have HE0 := Lib.hid (he.stay hk0)
  obtain ⟨c0, c1, c2⟩ := hb0.three
  clear hb0 hr0 hk0 h1 h2 he
  go_enter Tryz.func50, Tryz.ntmps50
  go_wp2_with fail
  generalize ((w.alloc (.cells #[.string z1, .string z2, .int .i64 n] 73)).alloc (.cells #[.string ⟨#[]⟩, .string ⟨#[]⟩, .int .i64 0] 73)) = W0 at *
  refine (iStoreOpen_any z1 z2 n H1.out H2.out _ HE0.out).mono ?_
  rintro e w1 ⟨y1, rfl, hde, hk1⟩
  have HNOW := Lib.hid (save_now (si z1 z2 n))
  generalize Nt.sopen (si z1 z2 n) = D at *
  obtain ⟨v, u, r, rfl, hv, hu, hr, _⟩ := hde.de
  obtain ⟨a1, cap, rfl, _, _, _⟩ := hv.any
  obtain ⟨b1, cap2, rfl, _, _, _⟩ := hu.any
  obtain ⟨a3, cap3, rfl⟩ := hr.any3
  have hka : Kept [] w1 (w1.alloc (.cells #[.slice a1 D.now.ns.length cap, .int .i64 D.now.c, .slice b1 D.now.ks.length cap2, .slice a3 D.past.length cap3] 33)) := (Kept.refl [] w1).alloc _
  have HT := Lib.hid (Bk.new w1 33 #[.slice a1 D.now.ns.length cap, .int .i64 D.now.c, .slice b1 D.now.ks.length cap2, .slice a3 D.past.length cap3])
  have HR2 := Lib.hid ((HR.out.stay hk1).stay hka)
  have HK2 := Lib.hid ((HK0.out.trans hk1 (by simp)).trans hka (by simp))
  have HP2 : Hid (Pv (w1.alloc (.cells #[.slice a1 D.now.ns.length cap, .int .i64 D.now.c, .slice b1 D.now.ks.length cap2, .slice a3 D.past.length cap3] 33)) 0 (.agg #[.slice a1 D.now.ns.length cap, .int .i64 D.now.c, .slice b1 D.now.ks.length cap2]) D.now) := Lib.hid ⟨_, _, rfl, hv.stay hka, hu.stay hka⟩
  have HE2 := Lib.hid ((HE0.out.stay hk1).stay hka)
  clear hk1 hka hv hu hr c0 c1 c2 HB HR HK0 HE0
  obtain ⟨t0, t1, t2, t3⟩ := HT.out.four
  have hzt := HT.out.lt
  go_wp2_with fail
  generalize (w1.alloc (.cells #[.slice a1 D.now.ns.length cap, .int .i64 D.now.c, .slice b1 D.now.ks.length cap2, .slice a3 D.past.length cap3] 33)) = W2 at *
  refine (iStoreNew_any D.now _ _ 0 HP2.out).mono ?_
  rintro e w3 ⟨y3, rfl, hy3, hk3⟩
  rw [HNOW.out.1]
  rw [HNOW.out.2] at hy3
  obtain ⟨sa, sb, sm, rfl, hs⟩ := hy3
  have HS := Lib.hid hs
  unfold sv
  have HR3 := Lib.hid (HR2.out.stay hk3)
  have HK3 := Lib.hid (HK2.out.trans hk3 (by simp))
  clear hs hk3 t0 t1 t2 t3 hzt HT HR2 HK2 HP2 HNOW
  generalize hO : Nt.soB (si z1 z2 n) = o at *
  have HO := Lib.hid hO
  clear hO
  obtain ⟨r0, r1, r2⟩ := HR3.out.three
  have f0 := HR3.out.frozen 0
  have f1 := HR3.out.frozen 1
  have f2 := HR3.out.frozen 2
  go_wp2
  (try simp only [Exit.inBlock, Exit.then])
  refine bodyPost_ret (v := .tuple #[.agg #[.string sa, .string sb, .int .i64 sm], .bool o]) ?_ rfl ?_
  · rw [results_cell_tmp rfl]
    simp [asAddr, ret_store (HR3.out.set3 _ _ _)]
  · rw [HO.out]
    exact ⟨_, rfl, ⟨_, _, _, rfl, HS.out⟩, HK3.out.set3 (by omega) _ _ _⟩

set_option maxHeartbeats 8000000 in
set_option maxRecDepth 100000 in
theorem sAct_any (z1 z2 : ByteArray) (n ak aa ab : Int) (h1 : z1.size ≤ 1100000) (h2 : z2.size ≤ 1100000) (w : World) :
    Calls Tryz.prog 44 #[.agg #[.string z1, .string z2, .int .i64 n], .agg #[.int .i64 ak, .int .i64 aa, .int .i64 ab]] w fun e w' => ∃ y, e = .returned (.tuple #[y, .bool (Nt.sactB (si z1 z2 n) ⟨ak, aa, ab⟩)]) ∧ SvIs y (Nt.sact (si z1 z2 n) ⟨ak, aa, ab⟩) ∧ Kept [] w w' := by
  obtain ⟨hk0, hb0, hd0, hr0⟩ := three_new w 73 41 73 #[.string z1, .string z2, .int .i64 n] #[.int .i64 ak, .int .i64 aa, .int .i64 ab] #[.string ⟨#[]⟩, .string ⟨#[]⟩, .int .i64 0]
  have HB0 := Lib.hid hb0
  have HD0 := Lib.hid hd0
  have HR0 := Lib.hid hr0
  have HK0 := Lib.hid hk0
  have H1 := Lib.hid h1
  have H2 := Lib.hid h2
  obtain ⟨c0, c1, c2⟩ := hb0.three
  clear hb0 hd0 hr0 hk0 h1 h2
  go_enter Tryz.func44, Tryz.ntmps44
  go_wp2_with fail
  generalize (((w.alloc (.cells #[.string z1, .string z2, .int .i64 n] 73)).alloc (.cells #[.int .i64 ak, .int .i64 aa, .int .i64 ab] 41)).alloc (.cells #[.string ⟨#[]⟩, .string ⟨#[]⟩, .int .i64 0] 73)) = W0 at *
  refine (sStoreOk_any z1 z2 n H1.out H2.out _).mono ?_
  rintro e w1 ⟨rfl, hk1⟩
  have HB1 := Lib.hid (HB0.out.stay hk1)
  have HD1 := Lib.hid (HD0.out.stay hk1)
  have HR1 := Lib.hid (HR0.out.stay hk1)
  have HK1 := Lib.hid (HK0.out.trans hk1 (by simp))
  clear hk1 c0 c1 c2 HB0 HD0 HR0 HK0
  obtain ⟨c0, c1, c2⟩ := HB1.out.three
  have hzb := HB1.out.lt
  cases ho : Nt.soB (si z1 z2 n)
  · have HF := Lib.hid (Nt.sact_no (a := ⟨ak, aa, ab⟩) ho)
    clear ho
    obtain ⟨r0, r1, r2⟩ := HR1.out.three
    have f0 := HR1.out.frozen 0
    have f1 := HR1.out.frozen 1
    have f2 := HR1.out.frozen 2
    go_wp2
    (try simp only [Exit.inBlock, Exit.then])
    refine bodyPost_ret (v := .tuple #[.agg #[.string ⟨#[]⟩, .string ⟨#[]⟩, .int .i64 0], .bool false]) ?_ rfl ?_
    · rw [results_cell_tmp rfl]
      simp [asAddr, ret_store (HR1.out.set3 _ _ _)]
    · rw [HF.out.2, HF.out.1]
      exact ⟨_, rfl, SvIs.zero, HK1.out.set3 (by omega) _ _ _⟩
  · have HO := Lib.hid ho
    have HOP : Hid (Nt.sopen (si z1 z2 n) = (Nt.sdesk (si z1 z2 n)).i) := Lib.hid (Nt.sopen_ok ho)
    have HDK := Lib.hid (Nt.sdesk_ok ho)
    have HL : Hid (z2.size ≤ 1000) := Lib.hid (by obtain ⟨_, _, _, _, h, _, _⟩ := Nt.soB_ok ho; have h' : (tx z2).length ≤ 1000 := h; rw [tx_length] at h'; exact h')
    clear ho
    go_wp2_with fail
    refine (sReadJournal_any z2 H2.out _).mono ?_
    rintro e w2 ⟨u2, rfl, hdg, hk2⟩
    obtain ⟨la, lq, rfl⟩ := Tg.any hdg
    have HB2 := Lib.hid (HB1.out.stay hk2)
    have HD2 := Lib.hid (HD1.out.stay hk2)
    have HR2 := Lib.hid (HR1.out.stay hk2)
    have HK2 := Lib.hid (HK1.out.trans hk2 (by simp))
    clear hdg hk2 c0 c1 c2 hzb HB1 HD1 HR1 HK1
    generalize ((Nt.jgo [] (tx z2)).map d3).length = m at *
    generalize hj : Nt.jlen [] (tx z2) = jl at *
    have HJ := Lib.hid hj
    clear hj
    obtain ⟨c0, c1, c2⟩ := HB2.out.three
    have hzb := HB2.out.lt
    go_wp2_with fail
    refine (sStoreOpen_any z1 z2 n H1.out H2.out _).mono ?_
    rintro e w3 ⟨y3, rfl, hde, hk3⟩
    rw [HO.out]
    rw [HOP.out] at hde
    generalize hE : Nt.sdesk (si z1 z2 n) = E at *
    have HES := Lib.hid hE
    obtain ⟨ya1, yn1, yq1, yb1, ym1, yr1, yc1, yl1, yp1, rfl⟩ := hde.form
    have hka : Kept [] w3 (w3.alloc (.cells #[.slice ya1 yn1 yq1, .int .i64 E.i.now.c, .slice yb1 ym1 yr1, .slice yc1 yl1 yp1] 33)) := (Kept.refl [] w3).alloc _
    have HT := Lib.hid (Bk.new w3 33 #[.slice ya1 yn1 yq1, .int .i64 E.i.now.c, .slice yb1 ym1 yr1, .slice yc1 yl1 yp1])
    have HX := Lib.hid (hde.stay hka)
    have HB4 := Lib.hid ((HB2.out.stay hk3).stay hka)
    have HD4 := Lib.hid ((HD2.out.stay hk3).stay hka)
    have HR4 := Lib.hid ((HR2.out.stay hk3).stay hka)
    have HK4 := Lib.hid ((HK2.out.trans hk3 (by simp)).trans hka (by simp))
    clear hE hde hk3 hka c0 c1 c2 hzb HB2 HD2 HR2 HK2
    obtain ⟨t0, t1, t2, t3⟩ := HT.out.four
    have hzt := HT.out.lt
    obtain ⟨d0, d1, d2⟩ := HD4.out.three
    have hzd := HD4.out.lt
    go_wp2_with fail
    generalize (w3.alloc (.cells #[.slice ya1 yn1 yq1, .int .i64 E.i.now.c, .slice yb1 ym1 yr1, .slice yc1 yl1 yp1] 33)) = W4 at *
    refine (sDeskDo_any E.i ak aa ab _ _ HX.out).mono ?_
    rintro e w5 ⟨y5, rfl, hde, hk5⟩
    have HDO := Lib.hid (Nt.ddo_ok HDK.out ⟨ak, aa, ab⟩)
    rw [HDO.out.2]
    rw [HDO.out.1] at hde
    generalize hcan : (Nt.doD E ⟨ak, aa, ab⟩).isSome = can at *
    have HCAN := Lib.hid hcan
    generalize Nt.goD E ⟨ak, aa, ab⟩ = E2 at *
    obtain ⟨ya2, yn2, yq2, yb2, ym2, yr2, yc2, yl2, yp2, rfl⟩ := hde.form
    have hka : Kept [] w5 (w5.alloc (.cells #[.slice ya2 yn2 yq2, .int .i64 E2.i.now.c, .slice yb2 ym2 yr2, .slice yc2 yl2 yp2] 33)) := (Kept.refl [] w5).alloc _
    have HB6 := Lib.hid ((HB4.out.stay hk5).stay hka)
    have HD6 := Lib.hid ((HD4.out.stay hk5).stay hka)
    have HR6 := Lib.hid ((HR4.out.stay hk5).stay hka)
    have HK6 := Lib.hid ((HK4.out.trans hk5 (by simp)).trans hka (by simp))
    clear hcan hde hk5 hka t0 t1 t2 t3 hzt d0 d1 d2 hzd HT HX HB4 HD4 HR4 HK4 HDO
    obtain ⟨d0, d1, d2⟩ := HD6.out.three
    have hzd := HD6.out.lt
    go_wp2_with fail
    generalize (w5.alloc (.cells #[.slice ya2 yn2 yq2, .int .i64 E2.i.now.c, .slice yb2 ym2 yr2, .slice yc2 yl2 yp2] 33)) = W6 at *
    refine (sDeedText_any ak aa ab _).mono ?_
    rintro e w7 ⟨z3, rfl, hz3, hk7⟩
    have HZ3 := Lib.hid hz3
    have HB7 := Lib.hid (HB6.out.stay hk7)
    have HD7 := Lib.hid (HD6.out.stay hk7)
    have HR7 := Lib.hid (HR6.out.stay hk7)
    have HK7 := Lib.hid (HK6.out.trans hk7 (by simp))
    have HS3 : Hid (z3.size ≤ 11) := Lib.hid (by rw [← tx_length, hz3]; exact deedT_small _)
    have HKEY : Hid (¬ (jl = z2.size ∧ can = true ∧ ¬ tx z3 = [] ∧ z2.size + z3.size + 1 ≤ 1000) → Nt.sactB (si z1 z2 n) ⟨ak, aa, ab⟩ = false ∧ Nt.sact (si z1 z2 n) ⟨ak, aa, ab⟩ = si z1 z2 n) := Lib.hid (fun hn => sact_fail HO.out (fun ⟨k1, k2, k3, k4⟩ => hn ⟨by
        have k : Nt.jlen [] (tx z2) = (tx z2).length := k1
        rw [HJ.out, tx_length] at k; exact k, by rw [HES.out, HCAN.out] at k2; exact k2, by rw [hz3]; exact Nt.deedT_ne k3, by
        have k : (tx z2).length + (Nt.deedT ⟨ak, aa, ab⟩).length + 1 ≤ 1000 := k4
        rw [← hz3, tx_length, tx_length] at k; exact k⟩))
    have HYES : Hid (jl = z2.size → can = true → z2.size + z3.size + 1 ≤ 1000 → Nt.sactB (si z1 z2 n) ⟨ak, aa, ab⟩ = true ∧ Nt.sact (si z1 z2 n) ⟨ak, aa, ab⟩ = ⟨tx z1, tx z2 ++ (tx z3 ++ [10]), n⟩) := Lib.hid (fun k1 k2 k4 => by
        rw [hz3]
        exact sact_pass HO.out (by show Nt.jlen [] (tx z2) = (tx z2).length; rw [HJ.out, tx_length]; exact k1) (by rw [HES.out, HCAN.out]; exact k2) (by show (tx z2).length + (Nt.deedT ⟨ak, aa, ab⟩).length + 1 ≤ 1000; rw [← hz3, tx_length, tx_length]; exact k4))
    clear hz3 hk7 d0 d1 d2 hzd HB6 HD6 HR6 HK6 HJ HES HCAN HDK HOP
    obtain ⟨c0, c1, c2⟩ := HB7.out.three
    have hzb := HB7.out.lt
    have hl := HL.out
    have hs3 := HS3.out
    have s1 : wrap64 ((z2.size : Int) + (z3.size : Int)) = (z2.size : Int) + (z3.size : Int) := IntWalk.wrap64_in _ (by omega)
    have s1' : IntKind.i64.wrap ((z2.size : Int) + (z3.size : Int)) = (z2.size : Int) + (z3.size : Int) := IntWalk.i64_in _ (by omega)
    have s2 : wrap64 ((z2.size : Int) + (z3.size : Int) + 1) = (z2.size : Int) + (z3.size : Int) + 1 := IntWalk.wrap64_in _ (by omega)
    have s2' : IntKind.i64.wrap ((z2.size : Int) + (z3.size : Int) + 1) = (z2.size : Int) + (z3.size : Int) + 1 := IntWalk.i64_in _ (by omega)
    by_cases hjl : jl = z2.size
    · have q1 : ((jl : Int) != (z2.size : Int)) = false := by simp [hjl]
      cases can
      · have HNO := Lib.hid (HKEY.out (fun h => by simp at h))
        clear hjl
        obtain ⟨r0, r1, r2⟩ := HR7.out.three
        have f0 := HR7.out.frozen 0
        have f1 := HR7.out.frozen 1
        have f2 := HR7.out.frozen 2
        go_wp2
        (try simp only [Exit.inBlock, Exit.then])
        refine bodyPost_ret (v := .tuple #[.agg #[.string z1, .string z2, .int .i64 n], .bool false]) ?_ rfl ?_
        · rw [results_cell_tmp rfl]
          simp [asAddr, ret_store (HR7.out.set3 _ _ _)]
        · rw [HNO.out.1, HNO.out.2]
          exact ⟨_, rfl, ⟨_, _, _, rfl, rfl⟩, HK7.out.set3 (by omega) _ _ _⟩
      · by_cases htx : tx z3 = []
        · have hem := empty_yes (s := z3) htx
          have HNO := Lib.hid (HKEY.out (fun h => h.2.2.1 htx))
          clear hjl htx
          obtain ⟨r0, r1, r2⟩ := HR7.out.three
          have f0 := HR7.out.frozen 0
          have f1 := HR7.out.frozen 1
          have f2 := HR7.out.frozen 2
          go_wp2
          (try simp only [Exit.inBlock, Exit.then])
          refine bodyPost_ret (v := .tuple #[.agg #[.string z1, .string z2, .int .i64 n], .bool false]) ?_ rfl ?_
          · rw [results_cell_tmp rfl]
            simp [asAddr, ret_store (HR7.out.set3 _ _ _)]
          · rw [HNO.out.1, HNO.out.2]
            exact ⟨_, rfl, ⟨_, _, _, rfl, rfl⟩, HK7.out.set3 (by omega) _ _ _⟩
        · have hem := empty_no (s := z3) htx
          by_cases hsm : z2.size + z3.size + 1 ≤ 1000
          · have q2 : decide ((1000 : Int) < (z2.size : Int) + (z3.size : Int) + 1) = false := dec_not (by omega)
            have q3 : decide ((z2.size : Int) + (z3.size : Int) + 1 > 1000) = false := dec_not (by omega)
            have HYS := Lib.hid (HYES.out hjl rfl hsm)
            obtain ⟨y1, hy1, hys1, hadd1⟩ := add_tx z2 z3 (by omega)
            obtain ⟨y2, hy2, hys2, hadd2⟩ := add_tx y1 ⟨#[10]⟩ (by rw [hys1]; show z2.size + z3.size + 1 ≤ _; omega)
            have HLOG : Hid (tx y2 = tx z2 ++ (tx z3 ++ [10])) := Lib.hid (by rw [hy2, hy1, List.append_assoc]; rfl)
            clear hjl htx hsm hy1 hy2 hys1 hys2
            obtain ⟨r0, r1, r2⟩ := HR7.out.three
            have f0 := HR7.out.frozen 0
            have f1 := HR7.out.frozen 1
            have f2 := HR7.out.frozen 2
            go_wp2
            (try simp only [Exit.inBlock, Exit.then])
            refine bodyPost_ret (v := .tuple #[.agg #[.string z1, .string y2, .int .i64 n], .bool true]) ?_ rfl ?_
            · rw [results_cell_tmp rfl]
              simp [asAddr, ret_store (HR7.out.set3 _ _ _)]
            · rw [HYS.out.1, HYS.out.2]
              exact ⟨_, rfl, ⟨_, _, _, rfl, by unfold si; rw [HLOG.out]⟩, HK7.out.set3 (by omega) _ _ _⟩
          · have q2 : decide ((1000 : Int) < (z2.size : Int) + (z3.size : Int) + 1) = true := dec_of (by omega)
            have q3 : decide ((z2.size : Int) + (z3.size : Int) + 1 > 1000) = true := dec_of (by omega)
            have HNO := Lib.hid (HKEY.out (fun h => hsm h.2.2.2))
            clear hjl htx hsm
            obtain ⟨r0, r1, r2⟩ := HR7.out.three
            have f0 := HR7.out.frozen 0
            have f1 := HR7.out.frozen 1
            have f2 := HR7.out.frozen 2
            go_wp2
            (try simp only [Exit.inBlock, Exit.then])
            refine bodyPost_ret (v := .tuple #[.agg #[.string z1, .string z2, .int .i64 n], .bool false]) ?_ rfl ?_
            · rw [results_cell_tmp rfl]
              simp [asAddr, ret_store (HR7.out.set3 _ _ _)]
            · rw [HNO.out.1, HNO.out.2]
              exact ⟨_, rfl, ⟨_, _, _, rfl, rfl⟩, HK7.out.set3 (by omega) _ _ _⟩
    · have q1 : ((jl : Int) != (z2.size : Int)) = true := by simp; omega
      have HNO := Lib.hid (HKEY.out (fun h => hjl h.1))
      clear hjl
      obtain ⟨r0, r1, r2⟩ := HR7.out.three
      have f0 := HR7.out.frozen 0
      have f1 := HR7.out.frozen 1
      have f2 := HR7.out.frozen 2
      go_wp2
      (try simp only [Exit.inBlock, Exit.then])
      refine bodyPost_ret (v := .tuple #[.agg #[.string z1, .string z2, .int .i64 n], .bool false]) ?_ rfl ?_
      · rw [results_cell_tmp rfl]
        simp [asAddr, ret_store (HR7.out.set3 _ _ _)]
      · rw [HNO.out.1, HNO.out.2]
        exact ⟨_, rfl, ⟨_, _, _, rfl, rfl⟩, HK7.out.set3 (by omega) _ _ _⟩

set_option maxHeartbeats 8000000 in
set_option maxRecDepth 100000 in
theorem iAct_any (z1 z2 : ByteArray) (n ak aa ab : Int) (h1 : z1.size ≤ 1100000) (h2 : z2.size ≤ 1100000) (w : World) (he : ErrW w) :
    Calls Tryz.prog 47 #[.agg #[.string z1, .string z2, .int .i64 n], .agg #[.int .i64 ak, .int .i64 aa, .int .i64 ab]] w fun e w' => ∃ y, e = .returned (.tuple #[y, .bool (Nt.sactB (si z1 z2 n) ⟨ak, aa, ab⟩)]) ∧ SvIs y (Nt.sact (si z1 z2 n) ⟨ak, aa, ab⟩) ∧ Kept [] w w' := by
  obtain ⟨hk0, hb0, hd0, hr0⟩ := three_new w 73 41 73 #[.string z1, .string z2, .int .i64 n] #[.int .i64 ak, .int .i64 aa, .int .i64 ab] #[.string ⟨#[]⟩, .string ⟨#[]⟩, .int .i64 0]
  have HB0 := Lib.hid hb0
  have HD0 := Lib.hid hd0
  have HR0 := Lib.hid hr0
  have HK0 := Lib.hid hk0
  have H1 := Lib.hid h1
  have H2 := Lib.hid h2
  have HE0 := Lib.hid (he.stay hk0)
  obtain ⟨c0, c1, c2⟩ := hb0.three
  clear hb0 hd0 hr0 hk0 h1 h2 he
  go_enter Tryz.func47, Tryz.ntmps47
  go_wp2_with fail
  generalize (((w.alloc (.cells #[.string z1, .string z2, .int .i64 n] 73)).alloc (.cells #[.int .i64 ak, .int .i64 aa, .int .i64 ab] 41)).alloc (.cells #[.string ⟨#[]⟩, .string ⟨#[]⟩, .int .i64 0] 73)) = W0 at *
  refine (iStoreOpen_any z1 z2 n H1.out H2.out _ HE0.out).mono ?_
  rintro e w1 ⟨y1, rfl, hdx, hk1⟩
  have hde := hdx.de
  clear hdx
  generalize hD : Nt.sopen (si z1 z2 n) = D at *
  have HDS := Lib.hid hD
  obtain ⟨ya1, yn1, yq1, yb1, ym1, yr1, yc1, yl1, yp1, rfl⟩ := hde.form
  have hka : Kept [] w1 (w1.alloc (.cells #[.slice ya1 yn1 yq1, .int .i64 D.now.c, .slice yb1 ym1 yr1, .slice yc1 yl1 yp1] 33)) := (Kept.refl [] w1).alloc _
  have HT1 := Lib.hid (Bk.new w1 33 #[.slice ya1 yn1 yq1, .int .i64 D.now.c, .slice yb1 ym1 yr1, .slice yc1 yl1 yp1])
  have HX1 := Lib.hid (hde.stay hka)
  have HB1 := Lib.hid ((HB0.out.stay hk1).stay hka)
  have HD1 := Lib.hid ((HD0.out.stay hk1).stay hka)
  have HR1 := Lib.hid ((HR0.out.stay hk1).stay hka)
  have HK1 := Lib.hid ((HK0.out.trans hk1 (by simp)).trans hka (by simp))
  have HE1 := Lib.hid ((HE0.out.stay hk1).stay hka)
  clear hD hde hk1 hka c0 c1 c2 HB0 HD0 HR0 HK0 HE0
  obtain ⟨c0, c1, c2⟩ := HB1.out.three
  have hzb := HB1.out.lt
  cases ho : Nt.soB (si z1 z2 n)
  · have HF := Lib.hid (Nt.sact_no (a := ⟨ak, aa, ab⟩) ho)
    clear ho
    obtain ⟨r0, r1, r2⟩ := HR1.out.three
    have f0 := HR1.out.frozen 0
    have f1 := HR1.out.frozen 1
    have f2 := HR1.out.frozen 2
    go_wp2
    (try simp only [Exit.inBlock, Exit.then])
    refine bodyPost_ret (v := .tuple #[.agg #[.string ⟨#[]⟩, .string ⟨#[]⟩, .int .i64 0], .bool false]) ?_ rfl ?_
    · rw [results_cell_tmp rfl]
      simp [asAddr, ret_store (HR1.out.set3 _ _ _)]
    · rw [HF.out.2, HF.out.1]
      exact ⟨_, rfl, SvIs.zero, HK1.out.set3 (by omega) _ _ _⟩
  · have HO := Lib.hid ho
    have HOP : Hid (Nt.sopen (si z1 z2 n) = (Nt.sdesk (si z1 z2 n)).i) := Lib.hid (Nt.sopen_ok ho)
    have HDK := Lib.hid (Nt.sdesk_ok ho)
    have HL : Hid (z2.size ≤ 1000) := Lib.hid (by obtain ⟨_, _, _, _, h, _, _⟩ := Nt.soB_ok ho; have h' : (tx z2).length ≤ 1000 := h; rw [tx_length] at h'; exact h')
    clear ho
    go_wp2_with fail
    generalize (w1.alloc (.cells #[.slice ya1 yn1 yq1, .int .i64 D.now.c, .slice yb1 ym1 yr1, .slice yc1 yl1 yp1] 33)) = W1 at *
    refine (iReadJournal_any z2 H2.out _ HE1.out).mono ?_
    rintro e w2 ⟨u2, rfl, hdg, hk2⟩
    obtain ⟨la, lq, rfl⟩ := Tg.any hdg
    have HJL := Lib.hid (Nt.jlen_le (tx z2))
    have HT2 := Lib.hid (HT1.out.stay hk2)
    have HX2 := Lib.hid (HX1.out.stay hk2)
    have HB2 := Lib.hid (HB1.out.stay hk2)
    have HD2 := Lib.hid (HD1.out.stay hk2)
    have HR2 := Lib.hid (HR1.out.stay hk2)
    have HK2 := Lib.hid (HK1.out.trans hk2 (by simp))
    have HE2 := Lib.hid (HE1.out.stay hk2)
    clear hdg hk2 c0 c1 c2 hzb HB1 HD1 HR1 HK1 HE1 HT1 HX1
    generalize ((Nt.jgo [] (tx z2)).map d3).length = m at *
    generalize hj : Nt.jlen [] (tx z2) = jl at *
    have HJ := Lib.hid hj
    clear hj
    generalize hE : Nt.sdesk (si z1 z2 n) = E at *
    have HES := Lib.hid hE
    have HX2' : Hid (De w2 (.agg #[.slice ya1 yn1 yq1, .int .i64 D.now.c, .slice yb1 ym1 yr1, .slice yc1 yl1 yp1]) E.i) := Lib.hid (by have h := HX2.out; have e : D = E.i := HDS.out.symm.trans HOP.out; rw [e] at h ⊢; exact h)
    obtain ⟨t0, t1, t2, t3⟩ := HT2.out.four
    have hzt := HT2.out.lt
    obtain ⟨d0, d1, d2⟩ := HD2.out.three
    have hzd := HD2.out.lt
    clear hE HX2
    go_wp2_with fail
    refine (deskAfter_any E HDK.out ak aa ab _ _ HX2'.out).mono ?_
    rintro e w5 ⟨y5, rfl, hde, hk5⟩
    generalize hcan : (Nt.doD E ⟨ak, aa, ab⟩).isSome = can at *
    have HCAN := Lib.hid hcan
    generalize Nt.goD E ⟨ak, aa, ab⟩ = E2 at *
    obtain ⟨ya2, yn2, yq2, yb2, ym2, yr2, yc2, yl2, yp2, rfl⟩ := hde.form
    have hka : Kept [] w5 (w5.alloc (.cells #[.slice ya2 yn2 yq2, .int .i64 E2.i.now.c, .slice yb2 ym2 yr2, .slice yc2 yl2 yp2] 33)) := (Kept.refl [] w5).alloc _
    have HB6 := Lib.hid ((HB2.out.stay hk5).stay hka)
    have HD6 := Lib.hid ((HD2.out.stay hk5).stay hka)
    have HR6 := Lib.hid ((HR2.out.stay hk5).stay hka)
    have HK6 := Lib.hid ((HK2.out.trans hk5 (by simp)).trans hka (by simp))
    have HE6 := Lib.hid ((HE2.out.stay hk5).stay hka)
    clear hcan hde hk5 hka t0 t1 t2 t3 hzt d0 d1 d2 hzd HT2 HX2' HB2 HD2 HR2 HK2 HE2
    obtain ⟨c0, c1, c2⟩ := HB6.out.three
    have hzb := HB6.out.lt
    obtain ⟨d0, d1, d2⟩ := HD6.out.three
    have hzd := HD6.out.lt
    have hl := HL.out
    go_wp2_with fail
    generalize (w5.alloc (.cells #[.slice ya2 yn2 yq2, .int .i64 E2.i.now.c, .slice yb2 ym2 yr2, .slice yc2 yl2 yp2] 33)) = W6 at *
    have HKEY : Hid (∀ z3 : ByteArray, tx z3 = Nt.deedT ⟨ak, aa, ab⟩ → (jl < z2.size ∨ can = false ∨ ¬ z2.size + z3.size + 1 ≤ 1000) → Nt.sactB (si z1 z2 n) ⟨ak, aa, ab⟩ = false ∧ Nt.sact (si z1 z2 n) ⟨ak, aa, ab⟩ = si z1 z2 n) := Lib.hid (fun z3 hz3 hn => sact_fail HO.out (fun ⟨k1, k2, k3, k4⟩ => by
        have k : Nt.jlen [] (tx z2) = (tx z2).length := k1
        rw [HJ.out, tx_length] at k
        rw [HES.out, HCAN.out] at k2
        have k5 : (tx z2).length + (Nt.deedT ⟨ak, aa, ab⟩).length + 1 ≤ 1000 := k4
        rw [← hz3, tx_length, tx_length] at k5
        rcases hn with h | h | h
        · omega
        · rw [h] at k2; cases k2
        · exact h k5))
    have HYES : Hid (∀ z3 : ByteArray, tx z3 = Nt.deedT ⟨ak, aa, ab⟩ → ¬ jl < z2.size → can = true → z2.size + z3.size + 1 ≤ 1000 → Nt.sactB (si z1 z2 n) ⟨ak, aa, ab⟩ = true ∧ Nt.sact (si z1 z2 n) ⟨ak, aa, ab⟩ = ⟨tx z1, tx z2 ++ (tx z3 ++ [10]), n⟩) := Lib.hid (fun z3 hz3 k1 k2 k4 => by
        have h1 := HJL.out
        rw [tx_length] at h1
        rw [hz3]
        exact sact_pass HO.out (by show Nt.jlen [] (tx z2) = (tx z2).length; rw [HJ.out, tx_length]; omega) (by rw [HES.out, HCAN.out]; exact k2) (by show (tx z2).length + (Nt.deedT ⟨ak, aa, ab⟩).length + 1 ≤ 1000; rw [← hz3, tx_length, tx_length]; exact k4))
    have HC6 : Hid (∀ w', Kept [] W6 w' → w'.cell? ⟨w.heap.size, 0, none⟩ = some (.string z1) ∧ w'.cell? ⟨w.heap.size, 1, none⟩ = some (.string z2) ∧ w'.cell? ⟨w.heap.size, 2, none⟩ = some (.int .i64 n) ∧ w'.cell? ⟨w.heap.size + 1, 0, none⟩ = some (.int .i64 ak) ∧ w'.cell? ⟨w.heap.size + 1, 1, none⟩ = some (.int .i64 aa) ∧ w'.cell? ⟨w.heap.size + 1, 2, none⟩ = some (.int .i64 ab)) := Lib.hid (fun w' k' => ⟨(HB6.out.stay k').three.1, (HB6.out.stay k').three.2.1, (HB6.out.stay k').three.2.2, (HD6.out.stay k').three.1, (HD6.out.stay k').three.2.1, (HD6.out.stay k').three.2.2⟩)
    have HT6 : Hid (∀ W, Kept [] W6 W → Calls Tryz.prog 18 #[.agg #[.int .i64 ak, .int .i64 aa, .int .i64 ab]] W fun e w' => ∃ z, e = .returned (.string z) ∧ Hid (tx z = Nt.deedT ⟨ak, aa, ab⟩) ∧ Kept [] W6 w') := Lib.hid (fun W k => (iDeedText_any ak aa ab W).mono (by rintro e w' ⟨z, rfl, hz, hk⟩; exact ⟨z, rfl, Lib.hid hz, k.trans hk (by simp)⟩))
    clear d0 d1 d2 c0 c1 c2 hzb hzd HJ HES HCAN HDK HOP HDS HJL
    go_region_held3 (fun w' => w'.cell? ⟨w.heap.size, 0, none⟩ = some (.string z1) ∧ w'.cell? ⟨w.heap.size, 1, none⟩ = some (.string z2) ∧ w'.cell? ⟨w.heap.size, 2, none⟩ = some (.int .i64 n) ∧ w'.cell? ⟨w.heap.size + 1, 0, none⟩ = some (.int .i64 ak) ∧ w'.cell? ⟨w.heap.size + 1, 1, none⟩ = some (.int .i64 aa) ∧ w'.cell? ⟨w.heap.size + 1, 2, none⟩ = some (.int .i64 ab))
      ((refine HC6.out _ ?_; repeat (first | exact Kept.refl _ _ | assumption | apply Kept.alloc | apply Kept.drew)))
      (first
      | (go_simp; go_at_call 18; refine (HT6.out _ (by repeat (first | exact Kept.refl _ _ | assumption | apply Kept.alloc | apply Kept.drew))).mono ?_; rintro e w7 ⟨z3, rfl, HZ3, hk7⟩; have hs3 : z3.size ≤ 11 := (by rw [← tx_length, HZ3.out]; exact deedT_small _); obtain ⟨y1, hy1, hys1, hadd1⟩ := add_tx z2 z3 (by omega); obtain ⟨y2, hy2, hys2, hadd2⟩ := add_tx y1 ⟨#[10]⟩ (by rw [hys1]; show z2.size + z3.size + 1 ≤ _; omega); have HY2S : Hid (y2.size = z2.size + z3.size + 1) := (Lib.hid (by rw [hys2, hys1]; rfl)); have HLOG : Hid (tx y2 = tx z2 ++ (tx z3 ++ [10])) := (Lib.hid (by rw [hy2, hy1, List.append_assoc]; rfl)); clear hy1 hy2 hys1 hys2)
      | (refine (HT6.out _ (by repeat (first | exact Kept.refl _ _ | assumption | apply Kept.alloc | apply Kept.drew))).mono ?_; rintro e w7 ⟨z3, rfl, HZ3, hk7⟩; have hs3 : z3.size ≤ 11 := (by rw [← tx_length, HZ3.out]; exact deedT_small _); obtain ⟨y1, hy1, hys1, hadd1⟩ := add_tx z2 z3 (by omega); obtain ⟨y2, hy2, hys2, hadd2⟩ := add_tx y1 ⟨#[10]⟩ (by rw [hys1]; show z2.size + z3.size + 1 ≤ _; omega); have HY2S : Hid (y2.size = z2.size + z3.size + 1) := (Lib.hid (by rw [hys2, hys1]; rfl)); have HLOG : Hid (tx y2 = tx z2 ++ (tx z3 ++ [10])) := (Lib.hid (by rw [hy2, hy1, List.append_assoc]; rfl)); clear hy1 hy2 hys1 hys2))
    all_goals
      have HB7 := Lib.hid (HB6.out.stay hk7)
      have HR7 := Lib.hid (HR6.out.stay hk7)
      have HK7 := Lib.hid (HK6.out.trans hk7 (by simp))
      have HKEY7 := Lib.hid (HKEY.out z3 HZ3.out)
      have HYES7 := Lib.hid (HYES.out z3 HZ3.out)
      have hy2s := HY2S.out
      clear hk7 HKEY HYES HC6 HT6 hadd1 hadd2 HB6 HD6 HR6 HK6 HE6
      obtain ⟨c0, c1, c2⟩ := HB7.out.three
      have hzb := HB7.out.lt
      by_cases hjl : jl < z2.size
      · have q1 : decide ((jl : Int) < (z2.size : Int)) = true := dec_of (by omega)
        have HNO := Lib.hid (HKEY7.out (.inl hjl))
        have q0 : jl < z2.size := hjl
        have q1n : ¬ z2.size ≤ jl := by omega
        obtain ⟨r0, r1, r2⟩ := HR7.out.three
        have f0 := HR7.out.frozen 0
        have f1 := HR7.out.frozen 1
        have f2 := HR7.out.frozen 2
        go_wp2
        (try simp only [Exit.inBlock, Exit.then])
        refine bodyPost_ret (v := .tuple #[.agg #[.string z1, .string z2, .int .i64 n], .bool false]) ?_ rfl ?_
        · rw [results_cell_tmp rfl]
          simp [asAddr, ret_store (HR7.out.set3 _ _ _)]
        · rw [HNO.out.1, HNO.out.2]
          exact ⟨_, rfl, ⟨_, _, _, rfl, rfl⟩, HK7.out.set3 (by omega) _ _ _⟩
      · have q1 : decide ((jl : Int) < (z2.size : Int)) = false := dec_not (by omega)
        cases can
        · have HNO := Lib.hid (HKEY7.out (.inr (.inl rfl)))
          have q0 : ¬ jl < z2.size := hjl
          have q1n : z2.size ≤ jl := by omega
          obtain ⟨r0, r1, r2⟩ := HR7.out.three
          have f0 := HR7.out.frozen 0
          have f1 := HR7.out.frozen 1
          have f2 := HR7.out.frozen 2
          go_wp2
          (try simp only [Exit.inBlock, Exit.then])
          refine bodyPost_ret (v := .tuple #[.agg #[.string z1, .string z2, .int .i64 n], .bool false]) ?_ rfl ?_
          · rw [results_cell_tmp rfl]
            simp [asAddr, ret_store (HR7.out.set3 _ _ _)]
          · rw [HNO.out.1, HNO.out.2]
            exact ⟨_, rfl, ⟨_, _, _, rfl, rfl⟩, HK7.out.set3 (by omega) _ _ _⟩
        · by_cases hsm : z2.size + z3.size + 1 ≤ 1000
          · have q2 : decide ((1000 : Int) < (y2.size : Int)) = false := dec_not (by omega)
            have q3 : decide ((y2.size : Int) > 1000) = false := dec_not (by omega)
            have HYS := Lib.hid (HYES7.out hjl rfl hsm)
            have q1n : z2.size ≤ jl := by omega
            have q4 : y2.size ≤ 1000 := by omega
            have q5 : ¬ 1000 < y2.size := by omega
            obtain ⟨r0, r1, r2⟩ := HR7.out.three
            have f0 := HR7.out.frozen 0
            have f1 := HR7.out.frozen 1
            have f2 := HR7.out.frozen 2
            go_wp2
            (try simp only [Exit.inBlock, Exit.then])
            refine bodyPost_ret (v := .tuple #[.agg #[.string z1, .string y2, .int .i64 n], .bool true]) ?_ rfl ?_
            · rw [results_cell_tmp rfl]
              simp [asAddr, ret_store (HR7.out.set3 _ _ _)]
            · rw [HYS.out.1, HYS.out.2]
              exact ⟨_, rfl, ⟨_, _, _, rfl, by unfold si; rw [HLOG.out]⟩, HK7.out.set3 (by omega) _ _ _⟩
          · have q2 : decide ((1000 : Int) < (y2.size : Int)) = true := dec_of (by omega)
            have q3 : decide ((y2.size : Int) > 1000) = true := dec_of (by omega)
            have HNO := Lib.hid (HKEY7.out (.inr (.inr hsm)))
            have q1n : z2.size ≤ jl := by omega
            have q4 : ¬ y2.size ≤ 1000 := by omega
            have q5 : 1000 < y2.size := by omega
            obtain ⟨r0, r1, r2⟩ := HR7.out.three
            have f0 := HR7.out.frozen 0
            have f1 := HR7.out.frozen 1
            have f2 := HR7.out.frozen 2
            go_wp2
            (try simp only [Exit.inBlock, Exit.then])
            refine bodyPost_ret (v := .tuple #[.agg #[.string z1, .string z2, .int .i64 n], .bool false]) ?_ rfl ?_
            · rw [results_cell_tmp rfl]
              simp [asAddr, ret_store (HR7.out.set3 _ _ _)]
            · rw [HNO.out.1, HNO.out.2]
              exact ⟨_, rfl, ⟨_, _, _, rfl, rfl⟩, HK7.out.set3 (by omega) _ _ _⟩
end Go.Proofs.YtnajdbnacdnnlaaGreatDoor
