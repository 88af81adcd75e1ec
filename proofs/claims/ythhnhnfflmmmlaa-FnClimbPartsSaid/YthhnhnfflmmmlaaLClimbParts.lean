/-
  The law ClimbParts, walked.
-/
import Derived.Test.YthhnhnfflmmmlaaDD
import Derived.Test.YthhnhnfflmmmlaaL1
import Derived.Test.YthhnhnfflmmmlaaUI
import Derived.Test.YthhnhnfflmmmlaaDB
namespace Go.Proofs.Ythhnhnfflmmmlaa
open Go.RowKit

set_option maxHeartbeats 4000000 in
set_option maxRecDepth 100000 in
theorem FnClimbParts_calls (w : World) (v : Value) (ha : ArgB w v) :
    Calls Try.prog 8 #[v] w fun e w' => e = .returned (.bool true) ∧ Kept [] w w' := by
  have HA := Lib.hid ha
  obtain ⟨a, len, cap, rfl, hlc, hcm, _⟩ := ha
  by_cases hbig : 1048576 < len
  · have hb : (1048576 : Int) < (len : Int) := by omega
    clear hbig
    go_enter Try.func8, Try.ntmps8
    go_wp2
    go_ret
    exact ⟨rfl, Kept.refl _ _⟩
  have hb : ¬ (1048576 : Int) < (len : Int) := by omega
  clear hbig
  go_enter Try.func8, Try.ntmps8
  go_wp2_with fail
  refine (drawClimbOf_any _ _ HA.out).mono ?_
  rintro e w1 ⟨u, xs, v, ys, z, zs, rfl, hs, ht, hz, hl1, hl2, hz1, hz2, hk⟩
  have S1 := Lib.hid hs
  have T1 := Lib.hid ht
  have Z1 := Lib.hid hz
  have HK := Lib.hid hk
  clear hk hb

  obtain ⟨bS, capS, rfl, _, _, _⟩ := hs.any
  obtain ⟨bT, capT, rfl, _, _, _⟩ := ht.any
  obtain ⟨L, hL⟩ : ∃ L, zs.length = L := ⟨_, rfl⟩
  rw [hL] at hz1 hz2
  obtain ⟨gZ, capZ, rfl, _, hgZ⟩ := hz.shape hL (by omega)
  have HCA := Lib.hid hz.caps
  have CZ1 := Lib.hid (fun j (hj : j < L) => (hz.at j (by omega)).1)
  have lZ1 := Lib.hid hgZ
  have HLZ := Lib.hid hL
  clear hs ht hz hL hl1 hl2 hgZ
  cases hB : Nt.climbB xs ys zs
  · have HF := Lib.hid (Nt.climbOf_no hB)
    go_wp2_with fail
    refine (iClimbOf_any _ _ _ _ _ _ _ _ _ _ S1.out T1.out Z1.out).mono ?_
    rintro e w2 ⟨rfl, hq⟩
    rw [hB, HF.out]
    have hk := hq.kept
    have S2 := Lib.hid (S1.out.stay hk)
    have T2 := Lib.hid (T1.out.stay hk)
    have Z2 := Lib.hid (Z1.out.stay hk)
    have HK2 := Lib.hid (HK.out.trans hk (by simp))
    clear S1 T1 Z1 HK
    clear hk hq
    go_wp2_with fail
    refine (alive_any _).mono ?_
    rintro e w3 ⟨rfl, hk⟩
    have S3 := Lib.hid (S2.out.stay hk)
    have T3 := Lib.hid (T2.out.stay hk)
    have Z3 := Lib.hid (Z2.out.stay hk)
    have HK3 := Lib.hid (HK2.out.trans hk (by simp))
    clear S2 T2 Z2 HK2
    clear hk
    go_wp2
    go_ret
    exact ⟨rfl, HK3.out⟩
  · obtain ⟨ns, ks, tr, rfl, rfl, rfl, ok, st, hl, htr⟩ := Nt.climbB_ok hB
    have htl : tr.length = L := by rw [← HLZ.out, Nt.nats_length]
    obtain ⟨h, hh⟩ : ∃ h, h = L / 2 := ⟨_, rfl⟩
    have hhL : h < L := by omega
    have f1 : (L : Int).tdiv 2 = (h : Int) := by rw [hh]; exact tdiv_nat L 2
    have HF := Lib.hid (Nt.climbOf_ok ok st hl htr)
    have ht1 := Nt.tour_take htr (m := h + 1) (by omega)
    have ht2 := Nt.tour_drop htr (m := h) (by omega)
    have HT1 := Lib.hid (Nt.climbOf_ok ok st hl ht1)
    have HT2 := Lib.hid (Nt.climbOf_ok ok st hl ht2)
    have HB1 := Lib.hid (Nt.climbB_yes ok st hl ht1)
    have HB2 := Lib.hid (Nt.climbB_yes ok st hl ht2)
    have hparts := Nt.climb_parts ks (tr := tr) (m := h) (by omega)
    have hb1 := Nt.climb_small ht1 ks
    have hb2 := Nt.climb_small ht2 ks
    have HN1 : Hid (Nt.nats (tr.take (h + 1)) = (Nt.nats tr).take (h + 1)) := Lib.hid (by simp [Nt.nats])
    have HN2 : Hid (Nt.nats (tr.drop h) = (Nt.nats tr).drop h) := Lib.hid (by simp [Nt.nats])
    have HM1 : Hid (((Nt.nats tr).take (h + 1)).length = h + 1) := Lib.hid (by rw [List.length_take, HLZ.out]; omega)
    have HM2 : Hid (((Nt.nats tr).drop h).length = L - h) := Lib.hid (by rw [List.length_drop, HLZ.out])
    obtain ⟨hca1, hca2⟩ := HCA.out
    clear hh ok st hl htr ht1 ht2 htl
    have hh1 : h + 1 ≤ capZ := by omega
    have hhc : ¬ capZ = h := by omega
    go_wp2_with fail
    refine (iClimbOf_any _ _ _ _ _ _ _ _ _ _ S1.out T1.out Z1.out).mono ?_
    rintro e w2 ⟨rfl, hq⟩
    rw [hB, HF.out]
    have hk := hq.kept
    have S2 := Lib.hid (S1.out.stay hk)
    have T2 := Lib.hid (T1.out.stay hk)
    have Z2 := Lib.hid (Z1.out.stay hk)
    have CZ2 := Lib.hid (fun j (hj : j < L) => (hk.cell (p := ⟨gZ, j, none⟩) lZ1.out (by simp)).trans (CZ1.out j hj))
    have lZ2 := Lib.hid (Nat.lt_of_lt_of_le lZ1.out hk.size)
    have HK2 := Lib.hid (HK.out.trans hk (by simp))
    clear S1 T1 Z1 CZ1 lZ1 HK
    clear hk hq
    have HEA := Lib.hid (Sl.empty3 w2)
    have hkaA : Kept [] w2 (w2.alloc (.cells #[] 3)) := (Kept.refl _ _).alloc _
    have HKAA := Lib.hid hkaA
    have HCCA : Hid (∀ j, j < h + 1 → (w2.alloc (.cells #[] 3)).cell? ⟨gZ, 0 + j, none⟩ = some (.int .i64 (((Nt.nats tr).take (h + 1)).getD j 0))) := Lib.hid (fun j hj => (hkaA.cell (p := ⟨gZ, 0 + j, none⟩) lZ2.out (by simp)).trans ((CZ2.out (0 + j) (by omega)).trans (by rw [take_get _ hj, Nat.zero_add])))
    clear hkaA
    go_wp2_with (at_builtin; go_loud (refine app_cut rfl _ _ rfl w2.heap.size _ [] HEA.out rfl gZ 0 (h + 1) (capZ) ((Nt.nats tr).take (h + 1)) HM1.out rfl HCCA.out (by simp; omega) (by simp) ?_; intro u3 w3 hs hk; have HXA := Lib.hid hs; have HKX := Lib.hid (HKAA.out.own hk (fun g hg => by simp [Value.ownBlock] at hg; omega)); clear hs hk))
    have hk := HKX.out
    have S3 := Lib.hid (S2.out.stay hk)
    have T3 := Lib.hid (T2.out.stay hk)
    have Z3 := Lib.hid (Z2.out.stay hk)
    have CZ3 := Lib.hid (fun j (hj : j < L) => (hk.cell (p := ⟨gZ, j, none⟩) lZ2.out (by simp)).trans (CZ2.out j hj))
    have lZ3 := Lib.hid (Nat.lt_of_lt_of_le lZ2.out hk.size)
    have HK3 := Lib.hid (HK2.out.trans hk (by simp))
    clear S2 T2 Z2 CZ2 lZ2 HK2
    clear hk HKX HKAA HEA HCCA
    rw [List.nil_append] at HXA
    go_wp2_with fail
    refine (iClimbOf_any _ _ _ _ _ _ _ _ _ _ S3.out T3.out HXA.out).mono ?_
    rintro e w4 ⟨rfl, hq⟩
    rw [← HN1.out, HB1.out, HT1.out]
    have hk := hq.kept
    have S4 := Lib.hid (S3.out.stay hk)
    have T4 := Lib.hid (T3.out.stay hk)
    have Z4 := Lib.hid (Z3.out.stay hk)
    have CZ4 := Lib.hid (fun j (hj : j < L) => (hk.cell (p := ⟨gZ, j, none⟩) lZ3.out (by simp)).trans (CZ3.out j hj))
    have lZ4 := Lib.hid (Nat.lt_of_lt_of_le lZ3.out hk.size)
    have HK4 := Lib.hid (HK3.out.trans hk (by simp))
    clear S3 T3 Z3 CZ3 lZ3 HK3
    clear hk hq
    have HEB := Lib.hid (Sl.empty3 w4)
    have hkaB : Kept [] w4 (w4.alloc (.cells #[] 3)) := (Kept.refl _ _).alloc _
    have HKAB := Lib.hid hkaB
    have HCCB : Hid (∀ j, j < L - h → (w4.alloc (.cells #[] 3)).cell? ⟨gZ, h + j, none⟩ = some (.int .i64 (((Nt.nats tr).drop h).getD j 0))) := Lib.hid (fun j hj => (hkaB.cell (p := ⟨gZ, h + j, none⟩) lZ4.out (by simp)).trans ((CZ4.out (h + j) (by omega)).trans (by rw [drop_get])))
    clear hkaB
    go_wp2_with (at_builtin; go_loud (refine app_cut rfl _ _ rfl w4.heap.size _ [] HEB.out rfl gZ h (L - h) (capZ - h) ((Nt.nats tr).drop h) HM2.out rfl HCCB.out (by simp; omega) (by simp) ?_; intro u5 w5 hs hk; have HXB := Lib.hid hs; have HKX := Lib.hid (HKAB.out.own hk (fun g hg => by simp [Value.ownBlock] at hg; omega)); clear hs hk))
    have hk := HKX.out
    have S5 := Lib.hid (S4.out.stay hk)
    have T5 := Lib.hid (T4.out.stay hk)
    have Z5 := Lib.hid (Z4.out.stay hk)
    have CZ5 := Lib.hid (fun j (hj : j < L) => (hk.cell (p := ⟨gZ, j, none⟩) lZ4.out (by simp)).trans (CZ4.out j hj))
    have lZ5 := Lib.hid (Nat.lt_of_lt_of_le lZ4.out hk.size)
    have HK5 := Lib.hid (HK4.out.trans hk (by simp))
    clear S4 T4 Z4 CZ4 lZ4 HK4
    clear hk HKX HKAB HEB HCCB
    rw [List.nil_append] at HXB
    go_wp2_with fail
    refine (iClimbOf_any _ _ _ _ _ _ _ _ _ _ S5.out T5.out HXB.out).mono ?_
    rintro e w6 ⟨rfl, hq⟩
    rw [← HN2.out, HB2.out, HT2.out]
    have hk := hq.kept
    have S6 := Lib.hid (S5.out.stay hk)
    have T6 := Lib.hid (T5.out.stay hk)
    have Z6 := Lib.hid (Z5.out.stay hk)
    have CZ6 := Lib.hid (fun j (hj : j < L) => (hk.cell (p := ⟨gZ, j, none⟩) lZ5.out (by simp)).trans (CZ5.out j hj))
    have lZ6 := Lib.hid (Nat.lt_of_lt_of_le lZ5.out hk.size)
    have HK6 := Lib.hid (HK5.out.trans hk (by simp))
    clear S5 T5 Z5 CZ5 lZ5 HK5
    clear hk hq
    generalize Nt.climb ks (tr.take (h + 1)) = a at *
    generalize Nt.climb ks (tr.drop h) = b at *
    have s1 : IntKind.i64.wrap (a + b) = a + b := IntWalk.i64_in _ (by omega)
    have d1 : (a + b == Nt.climb ks tr) = true := by rw [hparts]; simp
    go_wp2_with fail
    refine (alive_any _).mono ?_
    rintro e w7 ⟨rfl, hk⟩
    have S7 := Lib.hid (S6.out.stay hk)
    have T7 := Lib.hid (T6.out.stay hk)
    have Z7 := Lib.hid (Z6.out.stay hk)
    have CZ7 := Lib.hid (fun j (hj : j < L) => (hk.cell (p := ⟨gZ, j, none⟩) lZ6.out (by simp)).trans (CZ6.out j hj))
    have lZ7 := Lib.hid (Nat.lt_of_lt_of_le lZ6.out hk.size)
    have HK7 := Lib.hid (HK6.out.trans hk (by simp))
    clear S6 T6 Z6 CZ6 lZ6 HK6
    clear hk
    go_wp2
    go_ret
    exact ⟨rfl, HK7.out⟩
end Go.Proofs.Ythhnhnfflmmmlaa
