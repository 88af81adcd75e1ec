/-
  The law WindTwice, walked.
-/
import Derived.Test.YtjpnepjpkgffpaaDD
import Derived.Test.YtjpnepjpkgffpaaL1
import Derived.Test.YtjpnepjpkgffpaaXP
import Derived.Test.YtjpnepjpkgffpaaPureXV
import Derived.Test.YtjpnepjpkgffpaaD21
namespace Go.Proofs.Ytjpnepjpkgffpaa
open Go.RowKit

set_option maxHeartbeats 4000000 in
set_option maxRecDepth 100000 in
theorem FnWindTwice_calls (w : World) (v : Value) (ha : ArgB w v) :
    Calls Try.prog 8 #[v] w fun e w' => e = .returned (.bool true) ∧ Kept [] w w' := by
  have HA := Lib.hid ha
  obtain ⟨a, len, cap, rfl, hlc, hcm, _⟩ := ha
  by_cases hbig : 1048576 < len
  · have hb : (1048576 : Int) < (len : Int) := by omega
    clear hbig
    go_enter Try.func8, Try.ntmps8
    go_wp2
    go_ret
    exact ⟨rfl, Kept.refl _ _⟩
  have hb : ¬ (1048576 : Int) < (len : Int) := by omega
  clear hbig
  go_enter Try.func8, Try.ntmps8
  go_wp2_with fail
  refine (drawWindingOf_any _ _ HA.out).mono ?_
  rintro e w1 ⟨u, xs, v, ys, z, zs, rfl, hs, ht, hz, hl1, hl2, hz1, hz2, hk⟩
  have S1 := Lib.hid hs
  have T1 := Lib.hid ht
  have Z1 := Lib.hid hz
  have HK := Lib.hid hk
  clear hk hb
  obtain ⟨bS, capS, rfl, _, _, _⟩ := hs.any
  obtain ⟨bT, capT, rfl, _, _, _⟩ := ht.any
  obtain ⟨L, hL⟩ : ∃ L, zs.length = L := ⟨_, rfl⟩
  rw [hL] at hz1 hz2
  obtain ⟨gZ, capZ, rfl, _, hgZ⟩ := hz.shape hL (by omega)
  have HCA := Lib.hid hz.caps
  have CZ1 := Lib.hid (fun j (hj : j < L) => (hz.at j (by omega)).1)
  have lZ1 := Lib.hid hgZ
  have HLZ := Lib.hid hL
  clear hs ht hz hL hgZ
  cases hB : Nt.windB xs ys zs
  · have HF := Lib.hid (Nt.windOf_no hB)
    clear hl1 hl2
    go_wp2_with fail
    refine (iWind_any _ _ _ _ _ _ _ _ _ _ S1.out T1.out Z1.out).mono ?_
    rintro e w2 ⟨rfl, hq⟩
    rw [hB, HF.out]
    have hk := hq.kept
    have S2 := Lib.hid (S1.out.stay hk)
    have T2 := Lib.hid (T1.out.stay hk)
    have Z2 := Lib.hid (Z1.out.stay hk)
    have HK2 := Lib.hid (HK.out.trans hk (by simp))
    clear S1 T1 Z1 HK
    clear hk hq
    go_wp2_with fail
    refine (alive_any _).mono ?_
    rintro e w3 ⟨rfl, hk⟩
    have S3 := Lib.hid (S2.out.stay hk)
    have T3 := Lib.hid (T2.out.stay hk)
    have Z3 := Lib.hid (Z2.out.stay hk)
    have HK3 := Lib.hid (HK2.out.trans hk (by simp))
    clear S2 T2 Z2 HK2
    clear hk
    go_wp2
    go_ret
    exact ⟨rfl, HK3.out⟩
  · obtain ⟨ns, ks, tr, rfl, rfl, hzt, ok, st, hl, htr, hrd⟩ := Nt.windB_ok hB
    have htl : tr.length = L := by rw [← HLZ.out, hzt, Nt.nats_length]
    obtain ⟨q1, q2, q3⟩ := Nt.wind_small st htr hrd
    have HF : Hid (Nt.windOf (Nt.nats ns) (Nt.nats ks) zs = Nt.climb ks tr / 3) := Lib.hid (by rw [hzt]; exact Nt.windOf_ok ok st hl htr hrd)
    have htb := Nt.tour_back ok htr
    have hrb := Nt.round_back hrd htr.some
    have HB2 : Hid (Nt.windB (Nt.nats ns) (Nt.nats ks) zs.reverse = true) := Lib.hid (by rw [hzt, ← nats_reverse]; exact Nt.windB_yes ok st hl htb hrb)
    have HT2 : Hid (Nt.windOf (Nt.nats ns) (Nt.nats ks) zs.reverse = - (Nt.climb ks tr / 3)) := Lib.hid (by
      rw [hzt, ← nats_reverse, Nt.windOf_ok ok st hl htb hrb, Nt.climb_back ks htr.some]
      omega)
    have htw : zs ++ zs.drop 1 = Nt.nats (tr ++ tr.drop 1) := by rw [hzt]; simp [Nt.nats]
    have HM1 : Hid (Nt.windB (Nt.nats ns) (Nt.nats ks) (zs ++ zs.drop 1) = true → Nt.windOf (Nt.nats ns) (Nt.nats ks) (zs ++ zs.drop 1) = 2 * (Nt.climb ks tr / 3)) := Lib.hid (fun h => by
      rw [htw] at h ⊢
      obtain ⟨ns', ks', tr', e1, e2, e3, ok', st', hl', ht', hr'⟩ := Nt.windB_ok h
      have e1' := Nt.nats_inj e1
      have e2' := Nt.nats_inj e2
      have e3' := Nt.nats_inj e3
      subst e1' e2' e3'
      rw [Nt.windOf_ok ok st hl ht' hr', Nt.climb_twice ks htr.some hrd]
      omega)
    have HM2 : Hid (Nt.windB (Nt.nats ns) (Nt.nats ks) (zs ++ zs.drop 1) = false → 12 < L + (L - 1)) := Lib.hid (fun h => by
      apply Classical.byContradiction
      intro hle
      have h12 : (tr ++ tr.drop 1).length ≤ 12 := by rw [List.length_append, List.length_drop, htl]; omega
      have h2 := Nt.windB_yes ok st hl (Nt.twice_tour htr hrd h12) (Nt.twice_round htr.some hrd)
      rw [htw, h2] at h
      exact absurd h (by simp))
    generalize Nt.climb ks tr / 3 = N at *
    clear ok st hl htr hrd htb hrb htl hzt htw q3 hl1 hl2
    have d2 : (-N == -N) = true := by simp
    have d3 : (2 * N == 2 * N) = true := by simp
    have s1 : IntKind.i64.wrap (-N) = -N := IntWalk.i64_in _ (by omega)
    have s2 : IntKind.i64.wrap (2 * N) = 2 * N := IntWalk.i64_in _ (by omega)
    go_wp2_with fail
    refine (iWind_any _ _ _ _ _ _ _ _ _ _ S1.out T1.out Z1.out).mono ?_
    rintro e w2 ⟨rfl, hq⟩
    rw [hB, HF.out]
    have hk := hq.kept
    have S2 := Lib.hid (S1.out.stay hk)
    have T2 := Lib.hid (T1.out.stay hk)
    have Z2 := Lib.hid (Z1.out.stay hk)
    have CZ2 := Lib.hid (fun j (hj : j < L) => (hk.cell (p := ⟨gZ, j, none⟩) lZ1.out (by simp)).trans (CZ1.out j hj))
    have lZ2 := Lib.hid (Nat.lt_of_lt_of_le lZ1.out hk.size)
    have HK2 := Lib.hid (HK.out.trans hk (by simp))
    clear S1 T1 Z1 CZ1 lZ1 HK
    clear hk hq
    go_wp2_with fail
    go_loopw [8, 9] (fun u i wr => ∃ k gb cb : Nat, k ≤ L ∧ i = .int .i64 k ∧ u = .slice (some ⟨gb, 0, none⟩) k cb ∧ Sl wr w2.heap.size u (zs.take k).reverse ∧ gb < wr.heap.size ∧ Kept [] w2 wr) (fun _ i _ => L - (intOf i).toNat)
    case atStart => exact ⟨0, w2.heap.size, 0, Nat.zero_le _, rfl, rfl, Sl.empty3 w2, by simp, (Kept.refl _ _).alloc _⟩
    case round =>
      obtain ⟨k, gb, cb, hk, rfl, rfl, hsl, hgb, hkept⟩ := hrel
      have HSL := Lib.hid hsl
      have HK9 := Lib.hid hkept
      by_cases hlt : k < L
      · have ck := (hkept.cell (p := ⟨gZ, k, none⟩) lZ2.out (by simp)).trans (CZ2.out k hlt)
        have HRT := Lib.hid (rev_take zs (k := k) (by rw [HLZ.out]; exact hlt))
        have HVL : Hid ((zs.take k).reverse.length = k) := Lib.hid (by rw [List.length_reverse, List.length_take, HLZ.out]; omega)
        generalize zs.getD k 0 = x at *
        have HLIT : Hid (Sl (wr.alloc (.cells #[.int .i64 x] 3)) wr.heap.size (.slice (some ⟨wr.heap.size, 0, none⟩) 1 1) [x]) := Lib.hid (Sl.lit wr [x] (by simp))
        have hka : Kept [] wr (wr.alloc (.cells #[.int .i64 x] 3)) := (Kept.refl _ _).alloc _
        have HBC : Hid (∀ j, j < k → (wr.alloc (.cells #[.int .i64 x] 3)).cell? ⟨gb, 0 + j, none⟩ = some (.int .i64 ((zs.take k).reverse.getD j 0))) := Lib.hid (fun j hj => (hka.cell (p := ⟨gb, 0 + j, none⟩) hgb (by simp)).trans (by rw [Nat.zero_add]; exact (hsl.at j (by rw [HVL.out]; exact hj)).1))
        have HKA := Lib.hid hka
        have hws : w2.heap.size ≤ wr.heap.size := hkept.size
        clear hka hsl hkept
        go_wp2_with (at_builtin; refine app_cut rfl _ _ rfl wr.heap.size _ [x] HLIT.out rfl gb 0 k cb (zs.take k).reverse HVL.out rfl HBC.out (by simp; omega) (by simp) ?_; intro u8 w8 hs8 hk8; have HS8 := Lib.hid hs8; have HK8 := Lib.hid (HKA.out.own hk8 (fun g hg => by simp [Value.ownBlock] at hg; omega)); clear hs8 hk8)
        obtain ⟨g9, c9, rfl, hg9, hg9l⟩ := HS8.out.shape (n := k + 1) (by rw [List.length_append, HVL.out]; simp; omega) (by omega)
        go_roundw
        case rel => exact ⟨k + 1, g9, c9, by omega, by go_num, rfl, by rw [← HRT.out]; exact HS8.out.mono hws, hg9l, HK9.out.trans HK8.out (by simp)⟩
        case measure => simp [intOf]; omega
      · have hk' : L = k := by omega
        subst hk'
        have hfull : (zs.take L).reverse = zs.reverse := by rw [List.take_of_length_le (by rw [HLZ.out]; exact Nat.le_refl _)]
        have HBL : Hid (zs.reverse.length = L) := Lib.hid (by rw [List.length_reverse, HLZ.out])
        rw [hfull] at hsl
        have B9 := Lib.hid hsl
        have HCB := Lib.hid hsl.caps
        have CB9 := Lib.hid (fun j (hj : j < L) => (hsl.at j (by rw [HBL.out]; exact hj)).1)
        have lB9 := Lib.hid hgb
        have hk := hkept
        clear HSL hlt hfull
        obtain ⟨w3, hwn⟩ : ∃ w3, w3 = wr := ⟨_, rfl⟩
        subst hwn
        have S3 := Lib.hid (S2.out.stay hk)
        have T3 := Lib.hid (T2.out.stay hk)
        have Z3 := Lib.hid (Z2.out.stay hk)
        have CZ3 := Lib.hid (fun j (hj : j < L) => (hk.cell (p := ⟨gZ, j, none⟩) lZ2.out (by simp)).trans (CZ2.out j hj))
        have lZ3 := Lib.hid (Nat.lt_of_lt_of_le lZ2.out hk.size)
        have HK3 := Lib.hid (HK2.out.trans hk (by simp))
        clear S2 T2 Z2 CZ2 lZ2 HK2
        clear hk hkept hsl hgb HK9
        obtain ⟨hca1, hca2⟩ := HCA.out
        have hL1 : 1 ≤ L := by omega
        have HE : Hid (Sl ((w3.alloc (.cells #[] 3)).drew) w3.heap.size (.slice (some ⟨w3.heap.size, 0, none⟩) 0 0) []) := Lib.hid ((Sl.empty3 w3).stay ((Kept.refl [] _).drew))
        have hka : Kept [] w3 ((w3.alloc (.cells #[] 3)).drew) := ((Kept.refl _ _).alloc _).drew
        have HKA := Lib.hid hka
        have HC1 : Hid (∀ j, j < L → ((w3.alloc (.cells #[] 3)).drew).cell? ⟨gZ, 0 + j, none⟩ = some (.int .i64 (zs.getD j 0))) := Lib.hid (fun j hj => (hka.cell (p := ⟨gZ, 0 + j, none⟩) lZ3.out (by simp)).trans (by rw [Nat.zero_add]; exact CZ3.out j hj))
        have HRL : Hid ((zs.drop 1).length = L - 1) := Lib.hid (by rw [List.length_drop, HLZ.out])
        have HC2 : Hid (∀ j, j < L - 1 → ((w3.alloc (.cells #[] 3)).drew).cell? ⟨gZ, 1 + j, none⟩ = some (.int .i64 ((zs.drop 1).getD j 0))) := Lib.hid (fun j hj => (hka.cell (p := ⟨gZ, 1 + j, none⟩) lZ3.out (by simp)).trans (by rw [drop_get]; exact CZ3.out (1 + j) (by omega)))
        have hlz : gZ < w3.heap.size := lZ3.out
        have HLB8 : Hid (gZ < ((w3.alloc (.cells #[] 3)).drew).heap.size) := Lib.hid (Nat.lt_of_lt_of_le hlz hka.size)
        have HLN0 : Hid (([] : List Int).length + L ≤ 1000000) := Lib.hid (by simp; omega)
        have HLN1 : Hid (zs.length + (L - 1) ≤ 1000000) := Lib.hid (by rw [HLZ.out]; omega)
        have HBS0 : Hid (w3.heap.size ≤ ((w3.alloc (.cells #[] 3)).drew).heap.size) := Lib.hid hka.size
        clear hka
        by_cases hcb : capZ = 1
        · have hL' : L = 1 := by omega
          subst hL'
          have HRL' : Hid ((zs.drop 1).length = 0) := HRL
          have HLN' : Hid (zs.length + 0 ≤ 1000000) := HLN1
          have HD2 : Hid (∀ j, j < 0 → ((w3.alloc (.cells #[] 3)).drew).cell? ⟨gZ, 0 + j, none⟩ = some (.int .i64 ((zs.drop 1).getD j 0))) := Lib.hid (fun j hj => absurd hj (by omega))
          subst hcb
          go_wp2_with fail
          go_region_law (first
            | (refine step_app_any rfl _ _ rfl w3.heap.size _ [] HE.out rfl gZ 0 1 _ zs HLZ.out rfl HC1.out HLN0.out HBS0.out ?_; intro u20 w20 hs20 hk20; have HX20 : Hid (Sl w20 w3.heap.size u20 zs) := Lib.hid (by simpa using hs20); have HC20 : Hid (∀ j, j < 0 → w20.cell? ⟨gZ, 0 + j, none⟩ = some (.int .i64 ((zs.drop 1).getD j 0))) := Lib.hid (fun j hj => (hk20.cell (p := ⟨gZ, 0 + j, none⟩) HLB8.out (by simp [Value.ownBlock]; omega)).trans (HD2.out j hj)); have HKO20 := Lib.hid (HKA.out.own hk20 (fun g hg => by simp [Value.ownBlock] at hg; omega)); have HBS1 := Lib.hid HKO20.out.size; clear hs20 hk20)
            | (refine step_app_any rfl _ _ rfl w3.heap.size _ zs HX20.out rfl gZ 0 (0) (0) (zs.drop 1) HRL'.out rfl HC20.out HLN'.out HBS1.out ?_; intro u21 w21 hs21 hk21; have HX21 := Lib.hid hs21; have HKO21 := Lib.hid (HKO20.out.own hk21 (fun g hg => (HX20.out.block hg).1)); clear hs21 hk21))
          all_goals
            have hk := HKO21.out
            have S21 := Lib.hid (S3.out.stay hk)
            have T21 := Lib.hid (T3.out.stay hk)
            have Z21 := Lib.hid (Z3.out.stay hk)
            have B21 := Lib.hid (B9.out.stay hk)
            have HK21 := Lib.hid (HK3.out.trans hk (by simp))
            clear S3 T3 Z3 B9 HK3
            clear hk
            obtain ⟨gX, capX, rfl, _, _⟩ := HX21.out.shape (n := 1 + (1 - 1)) (by rw [List.length_append, HLZ.out, List.length_drop, HLZ.out]) (by omega)
            go_wp2_with fail
            refine (iWind_any _ _ _ _ _ _ _ _ _ _ S21.out T21.out B21.out).mono ?_
            rintro e w22 ⟨rfl, hq⟩
            rw [HB2.out, HT2.out]
            have hk := hq.kept
            have S22 := Lib.hid (S21.out.stay hk)
            have T22 := Lib.hid (T21.out.stay hk)
            have Z22 := Lib.hid (Z21.out.stay hk)
            have B22 := Lib.hid (B21.out.stay hk)
            have X22 := Lib.hid (HX21.out.stay hk)
            have HK22 := Lib.hid (HK21.out.trans hk (by simp))
            clear S21 T21 Z21 B21 HX21 HK21
            clear hk hq
            go_wp2_with fail
            refine (iWind_any _ _ _ _ _ _ _ _ _ _ S22.out T22.out X22.out).mono ?_
            rintro e w23 ⟨rfl, hq⟩
            have hk := hq.kept
            have S23 := Lib.hid (S22.out.stay hk)
            have T23 := Lib.hid (T22.out.stay hk)
            have Z23 := Lib.hid (Z22.out.stay hk)
            have B23 := Lib.hid (B22.out.stay hk)
            have X23 := Lib.hid (X22.out.stay hk)
            have HK23 := Lib.hid (HK22.out.trans hk (by simp))
            clear S22 T22 Z22 B22 X22 HK22
            clear hk hq
            generalize hmay : Nt.windB (Nt.nats ns) (Nt.nats ks) (zs ++ zs.drop 1) = may at *
            generalize Nt.windOf (Nt.nats ns) (Nt.nats ks) (zs ++ zs.drop 1) = o at *
            clear hmay
            cases may
            · exact absurd (HM2.out rfl) (by omega)
            · have ho := HM1.out rfl
              subst ho
              clear HM1 HM2
              go_wp2_with fail
              refine (alive_any _).mono ?_
              rintro e w44 ⟨rfl, hk⟩
              have S44 := Lib.hid (S23.out.stay hk)
              have T44 := Lib.hid (T23.out.stay hk)
              have Z44 := Lib.hid (Z23.out.stay hk)
              have B44 := Lib.hid (B23.out.stay hk)
              have X44 := Lib.hid (X23.out.stay hk)
              have HK44 := Lib.hid (HK23.out.trans hk (by simp))
              clear S23 T23 Z23 B23 X23 HK23
              clear hk
              go_wp2
              go_ret
              exact ⟨rfl, HK44.out⟩
        · have HRL' := HRL
          have HLN' := HLN1
          have HD2 := HC2
          have hcc : ¬ capZ = 1 := hcb
          have hcl : 1 ≤ capZ := by omega
          have hLi : (1 : Int) ≤ (L : Int) := by omega
          go_wp2_with fail
          go_region_law (first
            | (refine step_app_any rfl _ _ rfl w3.heap.size _ [] HE.out rfl gZ 0 L _ zs HLZ.out rfl HC1.out HLN0.out HBS0.out ?_; intro u20 w20 hs20 hk20; have HX20 : Hid (Sl w20 w3.heap.size u20 zs) := Lib.hid (by simpa using hs20); have HC20 : Hid (∀ j, j < L - 1 → w20.cell? ⟨gZ, 1 + j, none⟩ = some (.int .i64 ((zs.drop 1).getD j 0))) := Lib.hid (fun j hj => (hk20.cell (p := ⟨gZ, 1 + j, none⟩) HLB8.out (by simp [Value.ownBlock]; omega)).trans (HD2.out j hj)); have HKO20 := Lib.hid (HKA.out.own hk20 (fun g hg => by simp [Value.ownBlock] at hg; omega)); have HBS1 := Lib.hid HKO20.out.size; clear hs20 hk20)
            | (refine step_app_any rfl _ _ rfl w3.heap.size _ zs HX20.out rfl gZ 1 (L - 1) (capZ - 1) (zs.drop 1) HRL'.out rfl HC20.out HLN'.out HBS1.out ?_; intro u21 w21 hs21 hk21; have HX21 := Lib.hid hs21; have HKO21 := Lib.hid (HKO20.out.own hk21 (fun g hg => (HX20.out.block hg).1)); clear hs21 hk21))
          all_goals
            have hk := HKO21.out
            have S21 := Lib.hid (S3.out.stay hk)
            have T21 := Lib.hid (T3.out.stay hk)
            have Z21 := Lib.hid (Z3.out.stay hk)
            have B21 := Lib.hid (B9.out.stay hk)
            have HK21 := Lib.hid (HK3.out.trans hk (by simp))
            clear S3 T3 Z3 B9 HK3
            clear hk
            obtain ⟨gX, capX, rfl, _, _⟩ := HX21.out.shape (n := L + (L - 1)) (by rw [List.length_append, HLZ.out, List.length_drop, HLZ.out]) (by omega)
            go_wp2_with fail
            refine (iWind_any _ _ _ _ _ _ _ _ _ _ S21.out T21.out B21.out).mono ?_
            rintro e w22 ⟨rfl, hq⟩
            rw [HB2.out, HT2.out]
            have hk := hq.kept
            have S22 := Lib.hid (S21.out.stay hk)
            have T22 := Lib.hid (T21.out.stay hk)
            have Z22 := Lib.hid (Z21.out.stay hk)
            have B22 := Lib.hid (B21.out.stay hk)
            have X22 := Lib.hid (HX21.out.stay hk)
            have HK22 := Lib.hid (HK21.out.trans hk (by simp))
            clear S21 T21 Z21 B21 HX21 HK21
            clear hk hq
            go_wp2_with fail
            refine (iWind_any _ _ _ _ _ _ _ _ _ _ S22.out T22.out X22.out).mono ?_
            rintro e w23 ⟨rfl, hq⟩
            have hk := hq.kept
            have S23 := Lib.hid (S22.out.stay hk)
            have T23 := Lib.hid (T22.out.stay hk)
            have Z23 := Lib.hid (Z22.out.stay hk)
            have B23 := Lib.hid (B22.out.stay hk)
            have X23 := Lib.hid (X22.out.stay hk)
            have HK23 := Lib.hid (HK22.out.trans hk (by simp))
            clear S22 T22 Z22 B22 X22 HK22
            clear hk hq
            generalize hmay : Nt.windB (Nt.nats ns) (Nt.nats ks) (zs ++ zs.drop 1) = may at *
            generalize Nt.windOf (Nt.nats ns) (Nt.nats ks) (zs ++ zs.drop 1) = o at *
            clear hmay
            cases may
            · have h5 := HM2.out rfl
              have d5 : decide (12 < (L : Int) + ((L - 1 : Nat) : Int)) = true := decide_eq_true (by omega)
              clear HM1 HM2 h5
              go_wp2_with fail
              refine (alive_any _).mono ?_
              rintro e w34 ⟨rfl, hk⟩
              have S34 := Lib.hid (S23.out.stay hk)
              have T34 := Lib.hid (T23.out.stay hk)
              have Z34 := Lib.hid (Z23.out.stay hk)
              have B34 := Lib.hid (B23.out.stay hk)
              have X34 := Lib.hid (X23.out.stay hk)
              have HK34 := Lib.hid (HK23.out.trans hk (by simp))
              clear S23 T23 Z23 B23 X23 HK23
              clear hk
              go_wp2
              go_ret
              exact ⟨rfl, HK34.out⟩
            · have ho := HM1.out rfl
              subst ho
              clear HM1 HM2
              go_wp2_with fail
              refine (alive_any _).mono ?_
              rintro e w44 ⟨rfl, hk⟩
              have S44 := Lib.hid (S23.out.stay hk)
              have T44 := Lib.hid (T23.out.stay hk)
              have Z44 := Lib.hid (Z23.out.stay hk)
              have B44 := Lib.hid (B23.out.stay hk)
              have X44 := Lib.hid (X23.out.stay hk)
              have HK44 := Lib.hid (HK23.out.trans hk (by simp))
              clear S23 T23 Z23 B23 X23 HK23
              clear hk
              go_wp2
              go_ret
              exact ⟨rfl, HK44.out⟩
end Go.Proofs.Ytjpnepjpkgffpaa
