/-
  The law TourOk, walked.
-/
import Derived.Test.YthhnhnfflmmmlaaDD
import Derived.Test.YthhnhnfflmmmlaaL1
import Derived.Test.YthhnhnfflmmmlaaUM
import Derived.Test.YthhnhnfflmmmlaaUI
import Derived.Test.YthhnhnfflmmmlaaD21
namespace Go.Proofs.Ythhnhnfflmmmlaa
open Go.RowKit

set_option maxHeartbeats 4000000 in
set_option maxRecDepth 100000 in
theorem FnTourOk_calls (w : World) (v : Value) (ha : ArgB w v) :
    Calls Try.prog 4 #[v] w fun e w' => e = .returned (.bool true) ∧ Kept [] w w' := by
  have HA := Lib.hid ha
  obtain ⟨a, len, cap, rfl, hlc, hcm, _⟩ := ha
  by_cases hbig : 1048576 < len
  · have hb : (1048576 : Int) < (len : Int) := by omega
    clear hbig
    go_enter Try.func4, Try.ntmps4
    go_wp2
    go_ret
    exact ⟨rfl, Kept.refl _ _⟩
  have hb : ¬ (1048576 : Int) < (len : Int) := by omega
  clear hbig
  go_enter Try.func4, Try.ntmps4
  go_wp2_with fail
  refine (drawTourOk_any _ _ HA.out).mono ?_
  rintro e w1 ⟨u, xs, z, zs, rfl, hs, hz, hl1, hz1, hz2, hk⟩
  have S1 := Lib.hid hs
  have Z1 := Lib.hid hz
  have HK := Lib.hid hk
  clear hk hb
  obtain ⟨bS, capS, rfl, _, _, _⟩ := hs.any
  obtain ⟨L, hL⟩ : ∃ L, zs.length = L := ⟨_, rfl⟩
  rw [hL] at hz1 hz2
  obtain ⟨gZ, capZ, rfl, _, hgZ⟩ := hz.shape hL (by omega)
  have CZ1 := Lib.hid (fun j (hj : j < L) => (hz.at j (by omega)).1)
  have lZ1 := Lib.hid hgZ
  have HLZ := Lib.hid hL
  clear hs hz hL hgZ
  have HNO := Lib.hid (fun h => Nt.tourB_no1 (xs := xs) (zs := zs) h)
  have HRV := Lib.hid (tourB_rev xs zs)
  generalize hb' : Nt.tourB xs zs = tb at *
  have HTB := Lib.hid hb'
  have d1 : (tb != tb) = false := by simp
  have d2 : (tb == tb) = true := by simp
  clear hb'
  go_wp2_with fail
  refine (iTourOk_any _ _ _ _ _ _ _ S1.out Z1.out).mono ?_
  rintro e w' ⟨rfl, rfl⟩
  rw [HTB.out]
  go_wp2_with fail
  refine (sTourOk_any _ _ _ _ _ _ _ S1.out Z1.out).mono ?_
  rintro e w2 ⟨rfl, hq⟩
  rw [HTB.out]
  have hk := hq.kept
  have S2 := Lib.hid (S1.out.stay hk)
  have Z2 := Lib.hid (Z1.out.stay hk)
  have CZ2 := Lib.hid (fun j (hj : j < L) => (hk.cell (p := ⟨gZ, j, none⟩) lZ1.out (by simp)).trans (CZ1.out j hj))
  have lZ2 := Lib.hid (Nat.lt_of_lt_of_le lZ1.out hk.size)
  have HK2 := Lib.hid (HK.out.trans hk (by simp))
  clear S1 Z1 CZ1 lZ1 HK
  clear hk hq
  go_wp2_with fail
  refine (sNetOk_any _ _ _ _ S2.out).mono ?_
  rintro e w3 ⟨rfl, hq⟩
  have hk := hq.kept
  have S3 := Lib.hid (S2.out.stay hk)
  have Z3 := Lib.hid (Z2.out.stay hk)
  have CZ3 := Lib.hid (fun j (hj : j < L) => (hk.cell (p := ⟨gZ, j, none⟩) lZ2.out (by simp)).trans (CZ2.out j hj))
  have lZ3 := Lib.hid (Nat.lt_of_lt_of_le lZ2.out hk.size)
  have HK3 := Lib.hid (HK2.out.trans hk (by simp))
  clear S2 Z2 CZ2 lZ2 HK2
  clear hk hq
  cases ho : Nt.okB xs
  · have htb : tb = false := HNO.out ho
    subst htb
    go_wp2_with fail
    refine (alive_any _).mono ?_
    rintro e w4 ⟨rfl, hk⟩
    have S4 := Lib.hid (S3.out.stay hk)
    have Z4 := Lib.hid (Z3.out.stay hk)
    have CZ4 := Lib.hid (fun j (hj : j < L) => (hk.cell (p := ⟨gZ, j, none⟩) lZ3.out (by simp)).trans (CZ3.out j hj))
    have lZ4 := Lib.hid (Nat.lt_of_lt_of_le lZ3.out hk.size)
    have HK4 := Lib.hid (HK3.out.trans hk (by simp))
    clear S3 Z3 CZ3 lZ3 HK3
    clear hk
    go_wp2
    go_ret
    exact ⟨rfl, HK4.out⟩
  · obtain ⟨ns, rfl, ok⟩ := Nt.okB_ok ho
    obtain ⟨n, hn⟩ : ∃ n, n = ns.length := ⟨_, rfl⟩
    have hp := ok.some
    have h6 := ok.few
    have hln : (Nt.nats ns).length = n := by rw [Nt.nats_length]; exact hn.symm
    have HT1 : Hid (Nt.tourB (Nt.nats ns) [(n : Int) - 1] = true) := Lib.hid (by
      have h := Nt.tour_tourB ok (Nt.tour_one (net := ns) (k := n - 1) (by omega))
      rw [show Nt.nats [n - 1] = [(n : Int) - 1] by simp [Nt.nats]; omega] at h
      exact h)
    have HT0 : Hid (Nt.tourB (Nt.nats ns) [] = false) := Lib.hid (Nt.tourB_no2 (by simp))
    rw [hln] at S3 ⊢
    clear ok hn ho
    go_wp2_with fail
    go_loopw [6, 7] (fun u i wr => ∃ k gb cb : Nat, k ≤ L ∧ i = .int .i64 k ∧ u = .slice (some ⟨gb, 0, none⟩) k cb ∧ Sl wr w3.heap.size u (zs.take k).reverse ∧ gb < wr.heap.size ∧ Kept [] w3 wr) (fun _ i _ => L - (intOf i).toNat)
    case atStart => exact ⟨0, w3.heap.size, 0, Nat.zero_le _, rfl, rfl, Sl.empty3 w3, by simp, (Kept.refl _ _).alloc _⟩
    case round =>
      obtain ⟨k, gb, cb, hk, rfl, rfl, hsl, hgb, hkept⟩ := hrel
      have HSL := Lib.hid hsl
      have HK9 := Lib.hid hkept
      by_cases hlt : k < L
      · have ck := (hkept.cell (p := ⟨gZ, k, none⟩) lZ3.out (by simp)).trans (CZ3.out k hlt)
        have HRT := Lib.hid (rev_take zs (k := k) (by rw [HLZ.out]; exact hlt))
        have HVL : Hid ((zs.take k).reverse.length = k) := Lib.hid (by rw [List.length_reverse, List.length_take, HLZ.out]; omega)
        generalize zs.getD k 0 = x at *
        have HLIT : Hid (Sl (wr.alloc (.cells #[.int .i64 x] 3)) wr.heap.size (.slice (some ⟨wr.heap.size, 0, none⟩) 1 1) [x]) := Lib.hid (Sl.lit wr [x] (by simp))
        have hka : Kept [] wr (wr.alloc (.cells #[.int .i64 x] 3)) := (Kept.refl _ _).alloc _
        have HBC : Hid (∀ j, j < k → (wr.alloc (.cells #[.int .i64 x] 3)).cell? ⟨gb, 0 + j, none⟩ = some (.int .i64 ((zs.take k).reverse.getD j 0))) := Lib.hid (fun j hj => (hka.cell (p := ⟨gb, 0 + j, none⟩) hgb (by simp)).trans (by rw [Nat.zero_add]; exact (hsl.at j (by rw [HVL.out]; exact hj)).1))
        have HKA := Lib.hid hka
        have hws : w3.heap.size ≤ wr.heap.size := hkept.size
        clear hka hsl hkept
        go_wp2_with (at_builtin; refine app_cut rfl _ _ rfl wr.heap.size _ [x] HLIT.out rfl gb 0 k cb (zs.take k).reverse HVL.out rfl HBC.out (by simp; omega) (by simp) ?_; intro u8 w8 hs8 hk8; have HS8 := Lib.hid hs8; have HK8 := Lib.hid (HKA.out.own hk8 (fun g hg => by simp [Value.ownBlock] at hg; omega)); clear hs8 hk8)
        obtain ⟨g9, c9, rfl, hg9, hg9l⟩ := HS8.out.shape (n := k + 1) (by rw [List.length_append, HVL.out]; simp; omega) (by omega)
        go_roundw
        case rel => exact ⟨k + 1, g9, c9, by omega, by go_num, rfl, by rw [← HRT.out]; exact HS8.out.mono hws, hg9l, HK9.out.trans HK8.out (by simp)⟩
        case measure => simp [intOf]; omega
      · have hk' : L = k := by omega
        subst hk'
        have hfull : (zs.take L).reverse = zs.reverse := by rw [List.take_of_length_le (by rw [HLZ.out]; exact Nat.le_refl _)]
        have HBL : Hid (zs.reverse.length = L) := Lib.hid (by rw [List.length_reverse, HLZ.out])
        rw [hfull] at hsl
        have B9 := Lib.hid hsl
        have HCB := Lib.hid hsl.caps
        have CB9 := Lib.hid (fun j (hj : j < L) => (hsl.at j (by rw [HBL.out]; exact hj)).1)
        have lB9 := Lib.hid hgb
        have hk := hkept
        clear HSL hlt hfull
        obtain ⟨w4, hwn⟩ : ∃ w4, w4 = wr := ⟨_, rfl⟩
        subst hwn
        have S4 := Lib.hid (S3.out.stay hk)
        have Z4 := Lib.hid (Z3.out.stay hk)
        have CZ4 := Lib.hid (fun j (hj : j < L) => (hk.cell (p := ⟨gZ, j, none⟩) lZ3.out (by simp)).trans (CZ3.out j hj))
        have lZ4 := Lib.hid (Nat.lt_of_lt_of_le lZ3.out hk.size)
        have HK4 := Lib.hid (HK3.out.trans hk (by simp))
        clear S3 Z3 CZ3 lZ3 HK3
        clear hk hkept hsl hgb HK9
        have HQ1 : Hid (Sl (w4.alloc (.cells #[.int .i64 ((n : Int) - 1)] 3)) w4.heap.size (.slice (some ⟨w4.heap.size, 0, none⟩) 1 1) [(n : Int) - 1]) := Lib.hid (Sl.lit w4 [(n : Int) - 1] (by simp))
        have hk : Kept [] w4 (w4.alloc (.cells #[.int .i64 ((n : Int) - 1)] 3)) := (Kept.refl _ _).alloc _
        have S5 := Lib.hid (S4.out.stay hk)
        have Z5 := Lib.hid (Z4.out.stay hk)
        have B5 := Lib.hid (B9.out.stay hk)
        have CZ5 := Lib.hid (fun j (hj : j < L) => (hk.cell (p := ⟨gZ, j, none⟩) lZ4.out (by simp)).trans (CZ4.out j hj))
        have lZ5 := Lib.hid (Nat.lt_of_lt_of_le lZ4.out hk.size)
        have CB5 := Lib.hid (fun j (hj : j < L) => (hk.cell (p := ⟨gb, j, none⟩) lB9.out (by simp)).trans (CB9.out j hj))
        have lB5 := Lib.hid (Nat.lt_of_lt_of_le lB9.out hk.size)
        have HK5 := Lib.hid (HK4.out.trans hk (by simp))
        clear S4 Z4 B9 CZ4 lZ4 CB9 lB9 HK4
        clear hk
        go_wp2_with fail
        refine (iTourOk_any _ _ _ _ _ _ _ S5.out HQ1.out).mono ?_
        rintro e w' ⟨rfl, rfl⟩
        rw [HT1.out]
        go_wp2_with fail
        refine (iTourOk_any _ _ _ _ _ _ _ S5.out B5.out).mono ?_
        rintro e w' ⟨rfl, rfl⟩
        rw [HRV.out]
        have HQ2 : Hid (Sl ((w4.alloc (.cells #[.int .i64 ((n : Int) - 1)] 3)).alloc (.cells #[] 3)) (w4.heap.size + 1) (.slice (some ⟨w4.heap.size + 1, 0, none⟩) 0 0) []) := Lib.hid (by
          have h := Sl.empty3 (w4.alloc (.cells #[.int .i64 ((n : Int) - 1)] 3))
          have e : (w4.alloc (.cells #[.int .i64 ((n : Int) - 1)] 3)).heap.size = w4.heap.size + 1 := by simp
          rw [e] at h
          exact h)
        have hk : Kept [] (w4.alloc (.cells #[.int .i64 ((n : Int) - 1)] 3)) ((w4.alloc (.cells #[.int .i64 ((n : Int) - 1)] 3)).alloc (.cells #[] 3)) := (Kept.refl _ _).alloc _
        have S6 := Lib.hid (S5.out.stay hk)
        have Z6 := Lib.hid (Z5.out.stay hk)
        have B6 := Lib.hid (B5.out.stay hk)
        have CZ6 := Lib.hid (fun j (hj : j < L) => (hk.cell (p := ⟨gZ, j, none⟩) lZ5.out (by simp)).trans (CZ5.out j hj))
        have lZ6 := Lib.hid (Nat.lt_of_lt_of_le lZ5.out hk.size)
        have CB6 := Lib.hid (fun j (hj : j < L) => (hk.cell (p := ⟨gb, j, none⟩) lB5.out (by simp)).trans (CB5.out j hj))
        have lB6 := Lib.hid (Nat.lt_of_lt_of_le lB5.out hk.size)
        have HK6 := Lib.hid (HK5.out.trans hk (by simp))
        clear S5 Z5 B5 CZ5 lZ5 CB5 lB5 HK5
        clear hk
        go_wp2_with fail
        refine (iTourOk_any _ _ _ _ _ _ _ S6.out HQ2.out).mono ?_
        rintro e w' ⟨rfl, rfl⟩
        rw [HT0.out]
        go_wp2
        go_ret
        exact ⟨rfl, HK6.out⟩
end Go.Proofs.Ythhnhnfflmmmlaa
