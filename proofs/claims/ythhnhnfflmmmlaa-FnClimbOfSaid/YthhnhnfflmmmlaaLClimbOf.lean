/-
  The law ClimbOf, walked.
-/
import Derived.Test.YthhnhnfflmmmlaaDD
import Derived.Test.YthhnhnfflmmmlaaL1
import Derived.Test.YthhnhnfflmmmlaaUM
import Derived.Test.YthhnhnfflmmmlaaUI
import Derived.Test.YthhnhnfflmmmlaaD21
namespace Go.Proofs.Ythhnhnfflmmmlaa
open Go.RowKit

set_option maxHeartbeats 4000000 in
set_option maxRecDepth 100000 in
theorem FnClimbOf_calls (w : World) (v : Value) (ha : ArgB w v) :
    Calls Try.prog 5 #[v] w fun e w' => e = .returned (.bool true) ∧ Kept [] w w' := by
  have HA := Lib.hid ha
  obtain ⟨a, len, cap, rfl, hlc, hcm, _⟩ := ha
  by_cases hbig : 1048576 < len
  · have hb : (1048576 : Int) < (len : Int) := by omega
    clear hbig
    go_enter Try.func5, Try.ntmps5
    go_wp2
    go_ret
    exact ⟨rfl, Kept.refl _ _⟩
  have hb : ¬ (1048576 : Int) < (len : Int) := by omega
  clear hbig
  go_enter Try.func5, Try.ntmps5
  go_wp2_with fail
  refine (drawClimbOf_any _ _ HA.out).mono ?_
  rintro e w1 ⟨u, xs, v, ys, z, zs, rfl, hs, ht, hz, hl1, hl2, hz1, hz2, hk⟩
  have S1 := Lib.hid hs
  have T1 := Lib.hid ht
  have Z1 := Lib.hid hz
  have HK := Lib.hid hk
  clear hk hb

  obtain ⟨bS, capS, rfl, _, _, _⟩ := hs.any
  obtain ⟨bT, capT, rfl, _, _, _⟩ := ht.any
  obtain ⟨L, hL⟩ : ∃ L, zs.length = L := ⟨_, rfl⟩
  rw [hL] at hz1 hz2
  obtain ⟨gZ, capZ, rfl, _, hgZ⟩ := hz.shape hL (by omega)
  have CZ1 := Lib.hid (fun j (hj : j < L) => (hz.at j (by omega)).1)
  have lZ1 := Lib.hid hgZ
  have HLZ := Lib.hid hL
  clear hs ht hz hL hl1 hl2 hgZ
  cases hB : Nt.climbB xs ys zs
  · have HF := Lib.hid (Nt.climbOf_no hB)
    go_wp2_with fail
    refine (iClimbOf_any _ _ _ _ _ _ _ _ _ _ S1.out T1.out Z1.out).mono ?_
    rintro e w2 ⟨rfl, hq⟩
    rw [hB, HF.out]
    have hk := hq.kept
    have S2 := Lib.hid (S1.out.stay hk)
    have T2 := Lib.hid (T1.out.stay hk)
    have Z2 := Lib.hid (Z1.out.stay hk)
    have HK2 := Lib.hid (HK.out.trans hk (by simp))
    clear S1 T1 Z1 HK
    clear hk hq
    go_wp2_with fail
    refine (sClimbOf_any _ _ _ _ _ _ _ _ _ _ S2.out T2.out Z2.out).mono ?_
    rintro e w3 ⟨rfl, hq⟩
    rw [hB, HF.out]
    have hk := hq.kept
    have S3 := Lib.hid (S2.out.stay hk)
    have T3 := Lib.hid (T2.out.stay hk)
    have Z3 := Lib.hid (Z2.out.stay hk)
    have HK3 := Lib.hid (HK2.out.trans hk (by simp))
    clear S2 T2 Z2 HK2
    clear hk hq
    go_wp2_with fail
    refine (alive_any _).mono ?_
    rintro e w4 ⟨rfl, hk⟩
    have S4 := Lib.hid (S3.out.stay hk)
    have T4 := Lib.hid (T3.out.stay hk)
    have Z4 := Lib.hid (Z3.out.stay hk)
    have HK4 := Lib.hid (HK3.out.trans hk (by simp))
    clear S3 T3 Z3 HK3
    clear hk
    go_wp2
    go_ret
    exact ⟨rfl, HK4.out⟩
  · obtain ⟨ns, ks, tr, rfl, rfl, hzt, ok, st, hl, htr⟩ := Nt.climbB_ok hB
    have htl : tr.length = L := by rw [← HLZ.out, hzt, Nt.nats_length]
    have hbd := Nt.climbTo_bounds ks tr (tr.length - 1)
    change Nt.climb ks tr ≤ _ ∧ _ ≤ Nt.climb ks tr at hbd
    have HF : Hid (Nt.climbOf (Nt.nats ns) (Nt.nats ks) zs = Nt.climb ks tr) := Lib.hid (by rw [hzt]; exact Nt.climbOf_ok ok st hl htr)
    have htb := Nt.tour_back ok htr
    have HB2 : Hid (Nt.climbB (Nt.nats ns) (Nt.nats ks) zs.reverse = true) := Lib.hid (by rw [hzt, ← nats_reverse]; exact Nt.climbB_yes ok st hl htb)
    have HT2 : Hid (Nt.climbOf (Nt.nats ns) (Nt.nats ks) zs.reverse = - Nt.climb ks tr) := Lib.hid (by rw [hzt, ← nats_reverse, Nt.climbOf_ok ok st hl htb, Nt.climb_back ks htr.some])
    have HT3 : Hid (Nt.climbOf (Nt.nats ns) (Nt.nats ks) (zs ++ zs.reverse.drop 1) = 0) := Lib.hid (by rw [hzt]; exact climbOf_both ok st hl htr)
    rw [htl] at hbd
    generalize Nt.climb ks tr = N at *
    clear ok st hl htr htb htl hzt
    have d1 : (N != N) = false := by simp
    have d2 : (-N == -N) = true := by simp
    have s1 : IntKind.i64.wrap (-N) = -N := IntWalk.i64_in _ (by omega)
    have d3 : decide (N < (L : Int)) = true := decide_eq_true (by omega)
    have d4 : decide (-(L : Int) < N) = true := decide_eq_true (by omega)
    have s2 : IntKind.i64.wrap (-(L : Int)) = -(L : Int) := IntWalk.i64_in _ (by omega)
    have HBD := Lib.hid hbd
    clear hbd
    go_wp2_with fail
    refine (iClimbOf_any _ _ _ _ _ _ _ _ _ _ S1.out T1.out Z1.out).mono ?_
    rintro e w2 ⟨rfl, hq⟩
    rw [hB, HF.out]
    have hk := hq.kept
    have S2 := Lib.hid (S1.out.stay hk)
    have T2 := Lib.hid (T1.out.stay hk)
    have Z2 := Lib.hid (Z1.out.stay hk)
    have CZ2 := Lib.hid (fun j (hj : j < L) => (hk.cell (p := ⟨gZ, j, none⟩) lZ1.out (by simp)).trans (CZ1.out j hj))
    have lZ2 := Lib.hid (Nat.lt_of_lt_of_le lZ1.out hk.size)
    have HK2 := Lib.hid (HK.out.trans hk (by simp))
    clear S1 T1 Z1 CZ1 lZ1 HK
    clear hk hq
    go_wp2_with fail
    refine (sClimbOf_any _ _ _ _ _ _ _ _ _ _ S2.out T2.out Z2.out).mono ?_
    rintro e w3 ⟨rfl, hq⟩
    rw [hB, HF.out]
    have hk := hq.kept
    have S3 := Lib.hid (S2.out.stay hk)
    have T3 := Lib.hid (T2.out.stay hk)
    have Z3 := Lib.hid (Z2.out.stay hk)
    have CZ3 := Lib.hid (fun j (hj : j < L) => (hk.cell (p := ⟨gZ, j, none⟩) lZ2.out (by simp)).trans (CZ2.out j hj))
    have lZ3 := Lib.hid (Nat.lt_of_lt_of_le lZ2.out hk.size)
    have HK3 := Lib.hid (HK2.out.trans hk (by simp))
    clear S2 T2 Z2 CZ2 lZ2 HK2
    clear hk hq
    go_wp2_with fail
    go_loopw [10, 11] (fun u i wr => ∃ k gb cb : Nat, k ≤ L ∧ i = .int .i64 k ∧ u = .slice (some ⟨gb, 0, none⟩) k cb ∧ Sl wr w3.heap.size u (zs.take k).reverse ∧ gb < wr.heap.size ∧ Kept [] w3 wr) (fun _ i _ => L - (intOf i).toNat)
    case atStart => exact ⟨0, w3.heap.size, 0, Nat.zero_le _, rfl, rfl, Sl.empty3 w3, by simp, (Kept.refl _ _).alloc _⟩
    case round =>
      obtain ⟨k, gb, cb, hk, rfl, rfl, hsl, hgb, hkept⟩ := hrel
      have HSL := Lib.hid hsl
      have HK9 := Lib.hid hkept
      by_cases hlt : k < L
      · have ck := (hkept.cell (p := ⟨gZ, k, none⟩) lZ3.out (by simp)).trans (CZ3.out k hlt)
        have HRT := Lib.hid (rev_take zs (k := k) (by rw [HLZ.out]; exact hlt))
        have HVL : Hid ((zs.take k).reverse.length = k) := Lib.hid (by rw [List.length_reverse, List.length_take, HLZ.out]; omega)
        generalize zs.getD k 0 = x at *
        have HLIT : Hid (Sl (wr.alloc (.cells #[.int .i64 x] 3)) wr.heap.size (.slice (some ⟨wr.heap.size, 0, none⟩) 1 1) [x]) := Lib.hid (Sl.lit wr [x] (by simp))
        have hka : Kept [] wr (wr.alloc (.cells #[.int .i64 x] 3)) := (Kept.refl _ _).alloc _
        have HBC : Hid (∀ j, j < k → (wr.alloc (.cells #[.int .i64 x] 3)).cell? ⟨gb, 0 + j, none⟩ = some (.int .i64 ((zs.take k).reverse.getD j 0))) := Lib.hid (fun j hj => (hka.cell (p := ⟨gb, 0 + j, none⟩) hgb (by simp)).trans (by rw [Nat.zero_add]; exact (hsl.at j (by rw [HVL.out]; exact hj)).1))
        have HKA := Lib.hid hka
        have hws : w3.heap.size ≤ wr.heap.size := hkept.size
        clear hka hsl hkept
        go_wp2_with (at_builtin; refine app_cut rfl _ _ rfl wr.heap.size _ [x] HLIT.out rfl gb 0 k cb (zs.take k).reverse HVL.out rfl HBC.out (by simp; omega) (by simp) ?_; intro u8 w8 hs8 hk8; have HS8 := Lib.hid hs8; have HK8 := Lib.hid (HKA.out.own hk8 (fun g hg => by simp [Value.ownBlock] at hg; omega)); clear hs8 hk8)
        obtain ⟨g9, c9, rfl, hg9, hg9l⟩ := HS8.out.shape (n := k + 1) (by rw [List.length_append, HVL.out]; simp; omega) (by omega)
        go_roundw
        case rel => exact ⟨k + 1, g9, c9, by omega, by go_num, rfl, by rw [← HRT.out]; exact HS8.out.mono hws, hg9l, HK9.out.trans HK8.out (by simp)⟩
        case measure => simp [intOf]; omega
      · have hk' : L = k := by omega
        subst hk'
        have hfull : (zs.take L).reverse = zs.reverse := by rw [List.take_of_length_le (by rw [HLZ.out]; exact Nat.le_refl _)]
        have HBL : Hid (zs.reverse.length = L) := Lib.hid (by rw [List.length_reverse, HLZ.out])
        rw [hfull] at hsl
        have B9 := Lib.hid hsl
        have HCB := Lib.hid hsl.caps
        have CB9 := Lib.hid (fun j (hj : j < L) => (hsl.at j (by rw [HBL.out]; exact hj)).1)
        have lB9 := Lib.hid hgb
        have hk := hkept
        clear HSL hlt hfull
        obtain ⟨w4, hwn⟩ : ∃ w4, w4 = wr := ⟨_, rfl⟩
        subst hwn
        have S4 := Lib.hid (S3.out.stay hk)
        have T4 := Lib.hid (T3.out.stay hk)
        have Z4 := Lib.hid (Z3.out.stay hk)
        have CZ4 := Lib.hid (fun j (hj : j < L) => (hk.cell (p := ⟨gZ, j, none⟩) lZ3.out (by simp)).trans (CZ3.out j hj))
        have lZ4 := Lib.hid (Nat.lt_of_lt_of_le lZ3.out hk.size)
        have HK4 := Lib.hid (HK3.out.trans hk (by simp))
        clear S3 T3 Z3 CZ3 lZ3 HK3
        clear hk hkept hsl hgb HK9
        go_wp2_with fail
        refine (iClimbOf_any _ _ _ _ _ _ _ _ _ _ S4.out T4.out B9.out).mono ?_
        rintro e w5 ⟨rfl, hq⟩
        rw [HB2.out, HT2.out]
        have hk := hq.kept
        have S5 := Lib.hid (S4.out.stay hk)
        have T5 := Lib.hid (T4.out.stay hk)
        have Z5 := Lib.hid (Z4.out.stay hk)
        have B5 := Lib.hid (B9.out.stay hk)
        have CZ5 := Lib.hid (fun j (hj : j < L) => (hk.cell (p := ⟨gZ, j, none⟩) lZ4.out (by simp)).trans (CZ4.out j hj))
        have lZ5 := Lib.hid (Nat.lt_of_lt_of_le lZ4.out hk.size)
        have CB5 := Lib.hid (fun j (hj : j < L) => (hk.cell (p := ⟨gb, j, none⟩) lB9.out (by simp)).trans (CB9.out j hj))
        have lB5 := Lib.hid (Nat.lt_of_lt_of_le lB9.out hk.size)
        have HK5 := Lib.hid (HK4.out.trans hk (by simp))
        clear S4 T4 Z4 B9 CZ4 lZ4 CB9 lB9 HK4
        clear hk hq
        obtain ⟨hcb1, hcb2⟩ := HCB.out
        have hL1 : 1 ≤ L := by omega
        have HE : Hid (Sl ((w5.alloc (.cells #[] 3)).drew) w5.heap.size (.slice (some ⟨w5.heap.size, 0, none⟩) 0 0) []) := Lib.hid ((Sl.empty3 w5).stay ((Kept.refl [] _).drew))
        have hka : Kept [] w5 ((w5.alloc (.cells #[] 3)).drew) := ((Kept.refl _ _).alloc _).drew
        have HKA := Lib.hid hka
        have HC1 : Hid (∀ j, j < L → ((w5.alloc (.cells #[] 3)).drew).cell? ⟨gZ, 0 + j, none⟩ = some (.int .i64 (zs.getD j 0))) := Lib.hid (fun j hj => (hka.cell (p := ⟨gZ, 0 + j, none⟩) lZ5.out (by simp)).trans (by rw [Nat.zero_add]; exact CZ5.out j hj))
        have HRL : Hid ((zs.reverse.drop 1).length = L - 1) := Lib.hid (by rw [List.length_drop, HBL.out])
        have HC2 : Hid (∀ j, j < L - 1 → ((w5.alloc (.cells #[] 3)).drew).cell? ⟨gb, 1 + j, none⟩ = some (.int .i64 ((zs.reverse.drop 1).getD j 0))) := Lib.hid (fun j hj => (hka.cell (p := ⟨gb, 1 + j, none⟩) lB5.out (by simp)).trans (by rw [drop_get]; exact CB5.out (1 + j) (by omega)))
        have hlb : gb < w5.heap.size := lB5.out
        have HLB8 : Hid (gb < ((w5.alloc (.cells #[] 3)).drew).heap.size) := Lib.hid (Nat.lt_of_lt_of_le hlb hka.size)
        have HLN0 : Hid (([] : List Int).length + L ≤ 1000000) := Lib.hid (by simp; omega)
        have HLN1 : Hid (zs.length + (L - 1) ≤ 1000000) := Lib.hid (by rw [HLZ.out]; omega)
        have HBS0 : Hid (w5.heap.size ≤ ((w5.alloc (.cells #[] 3)).drew).heap.size) := Lib.hid hka.size
        clear hka
        by_cases hcb : cb = 1
        · subst hcb
          have hL' : L = 1 := by omega
          subst hL'
          have hbd := HBD.out
          have d5 : decide (-1 < N) = true := decide_eq_true (by omega)
          have d6 : decide (N < 1) = true := decide_eq_true (by omega)
          clear hbd
          have HRL' : Hid ((zs.reverse.drop 1).length = 0) := HRL
          have HLN' : Hid (zs.length + 0 ≤ 1000000) := HLN1
          have HD2 : Hid (∀ j, j < 0 → ((w5.alloc (.cells #[] 3)).drew).cell? ⟨gb, 0 + j, none⟩ = some (.int .i64 ((zs.reverse.drop 1).getD j 0))) := Lib.hid (fun j hj => absurd hj (by omega))
          go_wp2_with fail
          go_region_law (first
            | (refine step_app_any rfl _ _ rfl w5.heap.size _ [] HE.out rfl gZ 0 1 capZ zs HLZ.out rfl HC1.out HLN0.out HBS0.out ?_; intro u20 w20 hs20 hk20; have HX20 : Hid (Sl w20 w5.heap.size u20 zs) := Lib.hid (by simpa using hs20); have HC20 : Hid (∀ j, j < 0 → w20.cell? ⟨gb, 0 + j, none⟩ = some (.int .i64 ((zs.reverse.drop 1).getD j 0))) := Lib.hid (fun j hj => (hk20.cell (p := ⟨gb, 0 + j, none⟩) HLB8.out (by simp [Value.ownBlock]; omega)).trans (HD2.out j hj)); have HKO20 := Lib.hid (HKA.out.own hk20 (fun g hg => by simp [Value.ownBlock] at hg; omega)); have HBS1 := Lib.hid HKO20.out.size; clear hs20 hk20)
            | (refine step_app_any rfl _ _ rfl w5.heap.size _ zs HX20.out rfl gb 0 (0) (0) (zs.reverse.drop 1) HRL'.out rfl HC20.out HLN'.out HBS1.out ?_; intro u21 w21 hs21 hk21; have HX21 := Lib.hid hs21; have HKO21 := Lib.hid (HKO20.out.own hk21 (fun g hg => (HX20.out.block hg).1)); clear hs21 hk21))
          all_goals
            have hk := HKO21.out
            have S21 := Lib.hid (S5.out.stay hk)
            have T21 := Lib.hid (T5.out.stay hk)
            have Z21 := Lib.hid (Z5.out.stay hk)
            have B21 := Lib.hid (B5.out.stay hk)
            have CZ21 := Lib.hid (fun j (hj : j < 1) => (hk.cell (p := ⟨gZ, j, none⟩) lZ5.out (by simp)).trans (CZ5.out j hj))
            have lZ21 := Lib.hid (Nat.lt_of_lt_of_le lZ5.out hk.size)
            have CB21 := Lib.hid (fun j (hj : j < 1) => (hk.cell (p := ⟨gb, j, none⟩) lB5.out (by simp)).trans (CB5.out j hj))
            have lB21 := Lib.hid (Nat.lt_of_lt_of_le lB5.out hk.size)
            have HK21 := Lib.hid (HK5.out.trans hk (by simp))
            clear S5 T5 Z5 B5 CZ5 lZ5 CB5 lB5 HK5
            clear hk
            go_wp2_with fail
            refine (iClimbOf_any _ _ _ _ _ _ _ _ _ _ S21.out T21.out HX21.out).mono ?_
            rintro e w22 ⟨rfl, hq⟩
            rw [HT3.out]
            have hk := hq.kept
            have S22 := Lib.hid (S21.out.stay hk)
            have T22 := Lib.hid (T21.out.stay hk)
            have Z22 := Lib.hid (Z21.out.stay hk)
            have B22 := Lib.hid (B21.out.stay hk)
            have CZ22 := Lib.hid (fun j (hj : j < 1) => (hk.cell (p := ⟨gZ, j, none⟩) lZ21.out (by simp)).trans (CZ21.out j hj))
            have lZ22 := Lib.hid (Nat.lt_of_lt_of_le lZ21.out hk.size)
            have CB22 := Lib.hid (fun j (hj : j < 1) => (hk.cell (p := ⟨gb, j, none⟩) lB21.out (by simp)).trans (CB21.out j hj))
            have lB22 := Lib.hid (Nat.lt_of_lt_of_le lB21.out hk.size)
            have HK22 := Lib.hid (HK21.out.trans hk (by simp))
            clear S21 T21 Z21 B21 CZ21 lZ21 CB21 lB21 HK21
            clear hk hq
            generalize Nt.climbB (Nt.nats ns) (Nt.nats ks) (zs ++ zs.reverse.drop 1) = may at *
            cases may
            all_goals
              go_wp2
              go_ret
              exact ⟨rfl, HK22.out⟩
        · have HRL' := HRL
          have HLN' := HLN1
          have HD2 := HC2
          have hcc : ¬ cb = 1 := hcb
          have hcl : 1 ≤ cb := by omega
          have hLi : (1 : Int) ≤ (L : Int) := by omega
          go_wp2_with fail
          go_region_law (first
            | (refine step_app_any rfl _ _ rfl w5.heap.size _ [] HE.out rfl gZ 0 L capZ zs HLZ.out rfl HC1.out HLN0.out HBS0.out ?_; intro u20 w20 hs20 hk20; have HX20 : Hid (Sl w20 w5.heap.size u20 zs) := Lib.hid (by simpa using hs20); have HC20 : Hid (∀ j, j < L - 1 → w20.cell? ⟨gb, 1 + j, none⟩ = some (.int .i64 ((zs.reverse.drop 1).getD j 0))) := Lib.hid (fun j hj => (hk20.cell (p := ⟨gb, 1 + j, none⟩) HLB8.out (by simp [Value.ownBlock]; omega)).trans (HD2.out j hj)); have HKO20 := Lib.hid (HKA.out.own hk20 (fun g hg => by simp [Value.ownBlock] at hg; omega)); have HBS1 := Lib.hid HKO20.out.size; clear hs20 hk20)
            | (refine step_app_any rfl _ _ rfl w5.heap.size _ zs HX20.out rfl gb 1 (L - 1) (cb - 1) (zs.reverse.drop 1) HRL'.out rfl HC20.out HLN'.out HBS1.out ?_; intro u21 w21 hs21 hk21; have HX21 := Lib.hid hs21; have HKO21 := Lib.hid (HKO20.out.own hk21 (fun g hg => (HX20.out.block hg).1)); clear hs21 hk21))
          all_goals
            have hk := HKO21.out
            have S21 := Lib.hid (S5.out.stay hk)
            have T21 := Lib.hid (T5.out.stay hk)
            have Z21 := Lib.hid (Z5.out.stay hk)
            have B21 := Lib.hid (B5.out.stay hk)
            have CZ21 := Lib.hid (fun j (hj : j < L) => (hk.cell (p := ⟨gZ, j, none⟩) lZ5.out (by simp)).trans (CZ5.out j hj))
            have lZ21 := Lib.hid (Nat.lt_of_lt_of_le lZ5.out hk.size)
            have CB21 := Lib.hid (fun j (hj : j < L) => (hk.cell (p := ⟨gb, j, none⟩) lB5.out (by simp)).trans (CB5.out j hj))
            have lB21 := Lib.hid (Nat.lt_of_lt_of_le lB5.out hk.size)
            have HK21 := Lib.hid (HK5.out.trans hk (by simp))
            clear S5 T5 Z5 B5 CZ5 lZ5 CB5 lB5 HK5
            clear hk
            go_wp2_with fail
            refine (iClimbOf_any _ _ _ _ _ _ _ _ _ _ S21.out T21.out HX21.out).mono ?_
            rintro e w22 ⟨rfl, hq⟩
            rw [HT3.out]
            have hk := hq.kept
            have S22 := Lib.hid (S21.out.stay hk)
            have T22 := Lib.hid (T21.out.stay hk)
            have Z22 := Lib.hid (Z21.out.stay hk)
            have B22 := Lib.hid (B21.out.stay hk)
            have CZ22 := Lib.hid (fun j (hj : j < L) => (hk.cell (p := ⟨gZ, j, none⟩) lZ21.out (by simp)).trans (CZ21.out j hj))
            have lZ22 := Lib.hid (Nat.lt_of_lt_of_le lZ21.out hk.size)
            have CB22 := Lib.hid (fun j (hj : j < L) => (hk.cell (p := ⟨gb, j, none⟩) lB21.out (by simp)).trans (CB21.out j hj))
            have lB22 := Lib.hid (Nat.lt_of_lt_of_le lB21.out hk.size)
            have HK22 := Lib.hid (HK21.out.trans hk (by simp))
            clear S21 T21 Z21 B21 CZ21 lZ21 CB21 lB21 HK21
            clear hk hq
            generalize Nt.climbB (Nt.nats ns) (Nt.nats ks) (zs ++ zs.reverse.drop 1) = may at *
            cases may
            all_goals
              go_wp2
              go_ret
              exact ⟨rfl, HK22.out⟩
end Go.Proofs.Ythhnhnfflmmmlaa
