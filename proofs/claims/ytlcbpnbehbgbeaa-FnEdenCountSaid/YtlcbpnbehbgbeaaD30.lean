/-
  Walks: what is drawn for censuses: small nets, kinds, states.
-/
import Derived.Test.YtlcbpnbehbgbeaaDC
import Derived.Test.YtlcbpnbehbgbeaaDE
import Derived.Test.YtlcbpnbehbgbeaaNB
import Derived.Test.YtlcbpnbehbgbeaaFA
namespace Go.Proofs.Ytlcbpnbehbgbeaa
open Go.RowKit

/-- A small net is drawn. -/
def DrawsSm (w : World) (B R P : Nat) (e : Ending) (w' : World) : Prop :=
  ∃ u xs, e = .returned u ∧ Sl w' w.heap.size u xs ∧ xs.length ≤ 5 ∧ Rd w' B R (P + 10) ∧ Kept [R] w w'

set_option maxHeartbeats 4000000 in
set_option maxRecDepth 100000 in
theorem small_any (B R P : Nat) (hP : P ≤ 80000) (m : Int) (hm : m ≤ 400) (hm0 : 0 ≤ m) (w : World) (hr : Rd w B R P) :
    Calls Try.prog 36 #[.pointer (some ⟨R, 0, none⟩), .int .i64 m] w (DrawsSm w B R P) := by
  have HR := Lib.hid hr
  have hlt := hr.lt
  have hBR := hr.1
  clear hr
  go_enter Try.func36, Try.ntmps36
  go_wp2_with fail
  refine (pick_any B R P (by omega) 4 (by omega) _ HR.out).mono ?_
  rintro e w1 ⟨x, rfl, h0x, h1x, hr1, hk1⟩
  have hx : x = 0 ∨ x = 1 ∨ x = 2 ∨ x = 3 := by omega
  have HR1 := Lib.hid hr1
  have HK1 := Lib.hid hk1
  clear hr1 hk1 HR h0x h1x
  rcases hx with rfl | rfl | rfl | rfl
  · go_wp2_with fail
    refine (sPath_any 1 _).mono ?_
    rintro e w2 ⟨u2, rfl, hs2, hk2⟩
    have HS2 := Lib.hid (hs2.mono HK1.out.size)
    have HR2 := Lib.hid (HR1.out.kept hk2 (by simp))
    have HK2 := Lib.hid (HK1.out.trans hk2 (by simp))
    clear hs2 hk2 HR1 HK1
    go_wp2_with fail
    refine (odd_any B R _ (by omega) m (by omega) hm0 _ HR2.out).mono ?_
    rintro e w8 ⟨o, rfl, hr8, hk8⟩
    have HR8 := Lib.hid hr8
    have HS8 := Lib.hid ((HS2.out).past hk8 hlt)
    have HK8 := Lib.hid ((HK2.out).trans hk8 (by simp))
    clear hr8 hk8
    cases o
    · go_wp2
      go_ret
      exact ⟨_, _, rfl, HS8.out, by decide, HR8.out.mono (by omega), HK8.out⟩
    · go_wp2_with fail
      refine (pick_any B R _ (by omega) 2 (by omega) _ HR8.out).mono ?_
      rintro e w9 ⟨y, rfl, h0y, h1y, hr9, hk9⟩
      have HR9 := Lib.hid hr9
      have HK9 := Lib.hid (HK8.out.trans hk9 (by simp))
      clear hr9 hk9 HR8 HS8 HK8
      by_cases hy : y = 0
      · subst hy
        clear h0y h1y
        go_wp2_with fail
        refine (sPath_any 5 _).mono ?_
        rintro e w10 ⟨u10, rfl, hs10, hk10⟩
        have HS10 := Lib.hid (hs10.mono HK9.out.size)
        have HR10 := Lib.hid (HR9.out.kept hk10 (by simp))
        have HK10 := Lib.hid (HK9.out.trans hk10 (by simp))
        clear hs10 hk10 HR9 HK9
        go_wp2
        go_ret
        exact ⟨_, _, rfl, HS10.out, by decide, HR10.out.mono (by omega), HK10.out⟩
      · have hy' : (y == 0) = false := by simp; omega
        have HE := Lib.hid ((Sl.empty3 w9).mono HK9.out.size)
        have HRE := Lib.hid (HR9.out.kept ((Kept.refl [] w9).alloc (.cells #[] 3)) (by simp))
        have HKE := Lib.hid (HK9.out.alloc (.cells #[] 3))
        clear h0y h1y
        go_wp2
        go_ret
        exact ⟨_, _, rfl, HE.out, by decide, HRE.out.mono (by omega), HKE.out⟩
  · go_wp2_with fail
    refine (sPath_any 2 _).mono ?_
    rintro e w2 ⟨u2, rfl, hs2, hk2⟩
    have HS2 := Lib.hid (hs2.mono HK1.out.size)
    have HR2 := Lib.hid (HR1.out.kept hk2 (by simp))
    have HK2 := Lib.hid (HK1.out.trans hk2 (by simp))
    clear hs2 hk2 HR1 HK1
    go_wp2_with fail
    refine (odd_any B R _ (by omega) m (by omega) hm0 _ HR2.out).mono ?_
    rintro e w8 ⟨o, rfl, hr8, hk8⟩
    have HR8 := Lib.hid hr8
    have HS8 := Lib.hid ((HS2.out).past hk8 hlt)
    have HK8 := Lib.hid ((HK2.out).trans hk8 (by simp))
    clear hr8 hk8
    cases o
    · go_wp2
      go_ret
      exact ⟨_, _, rfl, HS8.out, by decide, HR8.out.mono (by omega), HK8.out⟩
    · go_wp2_with fail
      refine (pick_any B R _ (by omega) 2 (by omega) _ HR8.out).mono ?_
      rintro e w9 ⟨y, rfl, h0y, h1y, hr9, hk9⟩
      have HR9 := Lib.hid hr9
      have HK9 := Lib.hid (HK8.out.trans hk9 (by simp))
      clear hr9 hk9 HR8 HS8 HK8
      by_cases hy : y = 0
      · subst hy
        clear h0y h1y
        go_wp2_with fail
        refine (sPath_any 5 _).mono ?_
        rintro e w10 ⟨u10, rfl, hs10, hk10⟩
        have HS10 := Lib.hid (hs10.mono HK9.out.size)
        have HR10 := Lib.hid (HR9.out.kept hk10 (by simp))
        have HK10 := Lib.hid (HK9.out.trans hk10 (by simp))
        clear hs10 hk10 HR9 HK9
        go_wp2
        go_ret
        exact ⟨_, _, rfl, HS10.out, by decide, HR10.out.mono (by omega), HK10.out⟩
      · have hy' : (y == 0) = false := by simp; omega
        have HE := Lib.hid ((Sl.empty3 w9).mono HK9.out.size)
        have HRE := Lib.hid (HR9.out.kept ((Kept.refl [] w9).alloc (.cells #[] 3)) (by simp))
        have HKE := Lib.hid (HK9.out.alloc (.cells #[] 3))
        clear h0y h1y
        go_wp2
        go_ret
        exact ⟨_, _, rfl, HE.out, by decide, HRE.out.mono (by omega), HKE.out⟩
  · go_wp2_with fail
    refine (sPath_any 3 _).mono ?_
    rintro e w2 ⟨u2, rfl, hs2, hk2⟩
    have HS2 := Lib.hid (hs2.mono HK1.out.size)
    have HR2 := Lib.hid (HR1.out.kept hk2 (by simp))
    have HK2 := Lib.hid (HK1.out.trans hk2 (by simp))
    clear hs2 hk2 HR1 HK1
    go_wp2_with fail
    refine (pick_any B R _ (by omega) 2 (by omega) _ HR2.out).mono ?_
    rintro e w3 ⟨q, rfl, h0q, h1q, hr3, hk3⟩
    have HR3 := Lib.hid hr3
    have HS3 := Lib.hid (HS2.out.past hk3 hlt)
    have HK3 := Lib.hid (HK2.out.trans hk3 (by simp))
    clear hr3 hk3 HR2 HS2 HK2
    by_cases hq : q = 0
    · subst hq
      clear h0q h1q HS3
      go_wp2_with fail
      refine (sRing_any 3 _).mono ?_
      rintro e w4 ⟨u4, rfl, hs4, hk4⟩
      have HS4 := Lib.hid (hs4.mono HK3.out.size)
      have HR4 := Lib.hid (HR3.out.kept hk4 (by simp))
      have HK4 := Lib.hid (HK3.out.trans hk4 (by simp))
      clear hs4 hk4 HR3 HK3
      go_wp2_with fail
      refine (odd_any B R _ (by omega) m (by omega) hm0 _ HR4.out).mono ?_
      rintro e w8 ⟨o, rfl, hr8, hk8⟩
      have HR8 := Lib.hid hr8
      have HS8 := Lib.hid ((HS4.out).past hk8 hlt)
      have HK8 := Lib.hid ((HK4.out).trans hk8 (by simp))
      clear hr8 hk8
      cases o
      · go_wp2
        go_ret
        exact ⟨_, _, rfl, HS8.out, by decide, HR8.out.mono (by omega), HK8.out⟩
      · go_wp2_with fail
        refine (pick_any B R _ (by omega) 2 (by omega) _ HR8.out).mono ?_
        rintro e w9 ⟨y, rfl, h0y, h1y, hr9, hk9⟩
        have HR9 := Lib.hid hr9
        have HK9 := Lib.hid (HK8.out.trans hk9 (by simp))
        clear hr9 hk9 HR8 HS8 HK8
        by_cases hy : y = 0
        · subst hy
          clear h0y h1y
          go_wp2_with fail
          refine (sPath_any 5 _).mono ?_
          rintro e w10 ⟨u10, rfl, hs10, hk10⟩
          have HS10 := Lib.hid (hs10.mono HK9.out.size)
          have HR10 := Lib.hid (HR9.out.kept hk10 (by simp))
          have HK10 := Lib.hid (HK9.out.trans hk10 (by simp))
          clear hs10 hk10 HR9 HK9
          go_wp2
          go_ret
          exact ⟨_, _, rfl, HS10.out, by decide, HR10.out.mono (by omega), HK10.out⟩
        · have hy' : (y == 0) = false := by simp; omega
          have HE := Lib.hid ((Sl.empty3 w9).mono HK9.out.size)
          have HRE := Lib.hid (HR9.out.kept ((Kept.refl [] w9).alloc (.cells #[] 3)) (by simp))
          have HKE := Lib.hid (HK9.out.alloc (.cells #[] 3))
          clear h0y h1y
          go_wp2
          go_ret
          exact ⟨_, _, rfl, HE.out, by decide, HRE.out.mono (by omega), HKE.out⟩
    · have hq' : (q == 0) = false := by simp; omega
      clear h0q h1q
      go_wp2_with fail
      refine (odd_any B R _ (by omega) m (by omega) hm0 _ HR3.out).mono ?_
      rintro e w8 ⟨o, rfl, hr8, hk8⟩
      have HR8 := Lib.hid hr8
      have HS8 := Lib.hid ((HS3.out).past hk8 hlt)
      have HK8 := Lib.hid ((HK3.out).trans hk8 (by simp))
      clear hr8 hk8
      cases o
      · go_wp2
        go_ret
        exact ⟨_, _, rfl, HS8.out, by decide, HR8.out.mono (by omega), HK8.out⟩
      · go_wp2_with fail
        refine (pick_any B R _ (by omega) 2 (by omega) _ HR8.out).mono ?_
        rintro e w9 ⟨y, rfl, h0y, h1y, hr9, hk9⟩
        have HR9 := Lib.hid hr9
        have HK9 := Lib.hid (HK8.out.trans hk9 (by simp))
        clear hr9 hk9 HR8 HS8 HK8
        by_cases hy : y = 0
        · subst hy
          clear h0y h1y
          go_wp2_with fail
          refine (sPath_any 5 _).mono ?_
          rintro e w10 ⟨u10, rfl, hs10, hk10⟩
          have HS10 := Lib.hid (hs10.mono HK9.out.size)
          have HR10 := Lib.hid (HR9.out.kept hk10 (by simp))
          have HK10 := Lib.hid (HK9.out.trans hk10 (by simp))
          clear hs10 hk10 HR9 HK9
          go_wp2
          go_ret
          exact ⟨_, _, rfl, HS10.out, by decide, HR10.out.mono (by omega), HK10.out⟩
        · have hy' : (y == 0) = false := by simp; omega
          have HE := Lib.hid ((Sl.empty3 w9).mono HK9.out.size)
          have HRE := Lib.hid (HR9.out.kept ((Kept.refl [] w9).alloc (.cells #[] 3)) (by simp))
          have HKE := Lib.hid (HK9.out.alloc (.cells #[] 3))
          clear h0y h1y
          go_wp2
          go_ret
          exact ⟨_, _, rfl, HE.out, by decide, HRE.out.mono (by omega), HKE.out⟩
  · go_wp2_with fail
    refine (sPath_any 4 _).mono ?_
    rintro e w2 ⟨u2, rfl, hs2, hk2⟩
    have HS2 := Lib.hid (hs2.mono HK1.out.size)
    have HR2 := Lib.hid (HR1.out.kept hk2 (by simp))
    have HK2 := Lib.hid (HK1.out.trans hk2 (by simp))
    clear hs2 hk2 HR1 HK1
    go_wp2_with fail
    refine (pick_any B R _ (by omega) 2 (by omega) _ HR2.out).mono ?_
    rintro e w3 ⟨q, rfl, h0q, h1q, hr3, hk3⟩
    have HR3 := Lib.hid hr3
    have HS3 := Lib.hid (HS2.out.past hk3 hlt)
    have HK3 := Lib.hid (HK2.out.trans hk3 (by simp))
    clear hr3 hk3 HR2 HS2 HK2
    by_cases hq : q = 0
    · subst hq
      clear h0q h1q HS3
      go_wp2_with fail
      refine (sRing_any 4 _).mono ?_
      rintro e w4 ⟨u4, rfl, hs4, hk4⟩
      have HS4 := Lib.hid (hs4.mono HK3.out.size)
      have HR4 := Lib.hid (HR3.out.kept hk4 (by simp))
      have HK4 := Lib.hid (HK3.out.trans hk4 (by simp))
      clear hs4 hk4 HR3 HK3
      go_wp2_with fail
      refine (pick_any B R _ (by omega) 3 (by omega) _ HR4.out).mono ?_
      rintro e w5 ⟨z, rfl, h0z, h1z, hr5, hk5⟩
      have HR5 := Lib.hid hr5
      have HS5 := Lib.hid (HS4.out.past hk5 hlt)
      have HK5 := Lib.hid (HK4.out.trans hk5 (by simp))
      clear hr5 hk5 HR4 HS4 HK4
      by_cases hz : z = 0
      · subst hz
        clear h0z h1z
        obtain ⟨g, cap4, rfl, hwg, hgg⟩ := HS5.out.shape (n := 4) (by decide) (by omega)
        obtain ⟨c0, f0⟩ := HS5.out.at 0 (by decide)
        obtain ⟨c2, f2⟩ := HS5.out.at 2 (by decide)
        have c2' : ∀ q, (w5.setCell ⟨g, 0, none⟩ q).cell? ⟨g, 2, none⟩ = some (.int .i64 ((Nt.ringOf 4).getD 2 0)) := fun q => by
          rw [World.cell?_setCell_other w5 ⟨g, 0, none⟩ ⟨g, 2, none⟩ q (by simp)]; exact c2
        have f2' : ∀ q : Int, (w5.setCell ⟨g, 0, none⟩ (.int .i64 q)).frozen? ⟨g, 2, none⟩ = false := fun q => ((HS5.out.set rfl 0 q).at 2 (by rw [List.length_set]; decide)).2
        have HSS := Lib.hid (fun (a b : Int) => ((HS5.out.set (by decide) 0 a).set (by rw [List.length_set]; decide) 2 b))
        have HKS := Lib.hid (fun (a b : Int) => ((HK5.out.setCell (p := ⟨g, 0, none⟩) (.inr hwg) (.int .i64 a)).setCell (p := ⟨g, 2, none⟩) (.inr hwg) (.int .i64 b)))
        have HRS := Lib.hid (fun (a b : Int) => HR5.out.kept (((Kept.refl [g] w5).setCell (p := ⟨g, 0, none⟩) (.inl (by simp)) (.int .i64 a)).setCell (p := ⟨g, 2, none⟩) (.inl (by simp)) (.int .i64 b)) (by simp; omega))
        clear c2 HS5 HK5 HR5
        go_wp2_with fail
        refine (odd_any B R _ (by omega) m (by omega) hm0 _ (HRS.out _ _)).mono ?_
        rintro e w8 ⟨o, rfl, hr8, hk8⟩
        have HR8 := Lib.hid hr8
        have HS8 := Lib.hid ((HSS.out _ _).past hk8 hlt)
        have HK8 := Lib.hid ((HKS.out _ _).trans hk8 (by simp))
        clear hr8 hk8
        cases o
        · go_wp2
          go_ret
          exact ⟨_, _, rfl, HS8.out, by rw [List.length_set, List.length_set]; decide, HR8.out.mono (by omega), HK8.out⟩
        · go_wp2_with fail
          refine (pick_any B R _ (by omega) 2 (by omega) _ HR8.out).mono ?_
          rintro e w9 ⟨y, rfl, h0y, h1y, hr9, hk9⟩
          have HR9 := Lib.hid hr9
          have HK9 := Lib.hid (HK8.out.trans hk9 (by simp))
          clear hr9 hk9 HR8 HS8 HK8
          by_cases hy : y = 0
          · subst hy
            clear h0y h1y
            go_wp2_with fail
            refine (sPath_any 5 _).mono ?_
            rintro e w10 ⟨u10, rfl, hs10, hk10⟩
            have HS10 := Lib.hid (hs10.mono HK9.out.size)
            have HR10 := Lib.hid (HR9.out.kept hk10 (by simp))
            have HK10 := Lib.hid (HK9.out.trans hk10 (by simp))
            clear hs10 hk10 HR9 HK9
            go_wp2
            go_ret
            exact ⟨_, _, rfl, HS10.out, by decide, HR10.out.mono (by omega), HK10.out⟩
          · have hy' : (y == 0) = false := by simp; omega
            have HE := Lib.hid ((Sl.empty3 w9).mono HK9.out.size)
            have HRE := Lib.hid (HR9.out.kept ((Kept.refl [] w9).alloc (.cells #[] 3)) (by simp))
            have HKE := Lib.hid (HK9.out.alloc (.cells #[] 3))
            clear h0y h1y
            go_wp2
            go_ret
            exact ⟨_, _, rfl, HE.out, by decide, HRE.out.mono (by omega), HKE.out⟩
      · have hz' : (z == 0) = false := by simp; omega
        clear h0z h1z
        go_wp2_with fail
        refine (odd_any B R _ (by omega) m (by omega) hm0 _ HR5.out).mono ?_
        rintro e w8 ⟨o, rfl, hr8, hk8⟩
        have HR8 := Lib.hid hr8
        have HS8 := Lib.hid ((HS5.out).past hk8 hlt)
        have HK8 := Lib.hid ((HK5.out).trans hk8 (by simp))
        clear hr8 hk8
        cases o
        · go_wp2
          go_ret
          exact ⟨_, _, rfl, HS8.out, by decide, HR8.out.mono (by omega), HK8.out⟩
        · go_wp2_with fail
          refine (pick_any B R _ (by omega) 2 (by omega) _ HR8.out).mono ?_
          rintro e w9 ⟨y, rfl, h0y, h1y, hr9, hk9⟩
          have HR9 := Lib.hid hr9
          have HK9 := Lib.hid (HK8.out.trans hk9 (by simp))
          clear hr9 hk9 HR8 HS8 HK8
          by_cases hy : y = 0
          · subst hy
            clear h0y h1y
            go_wp2_with fail
            refine (sPath_any 5 _).mono ?_
            rintro e w10 ⟨u10, rfl, hs10, hk10⟩
            have HS10 := Lib.hid (hs10.mono HK9.out.size)
            have HR10 := Lib.hid (HR9.out.kept hk10 (by simp))
            have HK10 := Lib.hid (HK9.out.trans hk10 (by simp))
            clear hs10 hk10 HR9 HK9
            go_wp2
            go_ret
            exact ⟨_, _, rfl, HS10.out, by decide, HR10.out.mono (by omega), HK10.out⟩
          · have hy' : (y == 0) = false := by simp; omega
            have HE := Lib.hid ((Sl.empty3 w9).mono HK9.out.size)
            have HRE := Lib.hid (HR9.out.kept ((Kept.refl [] w9).alloc (.cells #[] 3)) (by simp))
            have HKE := Lib.hid (HK9.out.alloc (.cells #[] 3))
            clear h0y h1y
            go_wp2
            go_ret
            exact ⟨_, _, rfl, HE.out, by decide, HRE.out.mono (by omega), HKE.out⟩
    · have hq' : (q == 0) = false := by simp; omega
      clear h0q h1q
      go_wp2_with fail
      refine (pick_any B R _ (by omega) 3 (by omega) _ HR3.out).mono ?_
      rintro e w5 ⟨z, rfl, h0z, h1z, hr5, hk5⟩
      have HR5 := Lib.hid hr5
      have HS5 := Lib.hid (HS3.out.past hk5 hlt)
      have HK5 := Lib.hid (HK3.out.trans hk5 (by simp))
      clear hr5 hk5 HR3 HS3 HK3
      by_cases hz : z = 0
      · subst hz
        clear h0z h1z
        obtain ⟨g, cap4, rfl, hwg, hgg⟩ := HS5.out.shape (n := 4) (by decide) (by omega)
        obtain ⟨c0, f0⟩ := HS5.out.at 0 (by decide)
        obtain ⟨c2, f2⟩ := HS5.out.at 2 (by decide)
        have c2' : ∀ q, (w5.setCell ⟨g, 0, none⟩ q).cell? ⟨g, 2, none⟩ = some (.int .i64 ((Nt.pathOf 4).getD 2 0)) := fun q => by
          rw [World.cell?_setCell_other w5 ⟨g, 0, none⟩ ⟨g, 2, none⟩ q (by simp)]; exact c2
        have f2' : ∀ q : Int, (w5.setCell ⟨g, 0, none⟩ (.int .i64 q)).frozen? ⟨g, 2, none⟩ = false := fun q => ((HS5.out.set rfl 0 q).at 2 (by rw [List.length_set]; decide)).2
        have HSS := Lib.hid (fun (a b : Int) => ((HS5.out.set (by decide) 0 a).set (by rw [List.length_set]; decide) 2 b))
        have HKS := Lib.hid (fun (a b : Int) => ((HK5.out.setCell (p := ⟨g, 0, none⟩) (.inr hwg) (.int .i64 a)).setCell (p := ⟨g, 2, none⟩) (.inr hwg) (.int .i64 b)))
        have HRS := Lib.hid (fun (a b : Int) => HR5.out.kept (((Kept.refl [g] w5).setCell (p := ⟨g, 0, none⟩) (.inl (by simp)) (.int .i64 a)).setCell (p := ⟨g, 2, none⟩) (.inl (by simp)) (.int .i64 b)) (by simp; omega))
        clear c2 HS5 HK5 HR5
        go_wp2_with fail
        refine (odd_any B R _ (by omega) m (by omega) hm0 _ (HRS.out _ _)).mono ?_
        rintro e w8 ⟨o, rfl, hr8, hk8⟩
        have HR8 := Lib.hid hr8
        have HS8 := Lib.hid ((HSS.out _ _).past hk8 hlt)
        have HK8 := Lib.hid ((HKS.out _ _).trans hk8 (by simp))
        clear hr8 hk8
        cases o
        · go_wp2
          go_ret
          exact ⟨_, _, rfl, HS8.out, by rw [List.length_set, List.length_set]; decide, HR8.out.mono (by omega), HK8.out⟩
        · go_wp2_with fail
          refine (pick_any B R _ (by omega) 2 (by omega) _ HR8.out).mono ?_
          rintro e w9 ⟨y, rfl, h0y, h1y, hr9, hk9⟩
          have HR9 := Lib.hid hr9
          have HK9 := Lib.hid (HK8.out.trans hk9 (by simp))
          clear hr9 hk9 HR8 HS8 HK8
          by_cases hy : y = 0
          · subst hy
            clear h0y h1y
            go_wp2_with fail
            refine (sPath_any 5 _).mono ?_
            rintro e w10 ⟨u10, rfl, hs10, hk10⟩
            have HS10 := Lib.hid (hs10.mono HK9.out.size)
            have HR10 := Lib.hid (HR9.out.kept hk10 (by simp))
            have HK10 := Lib.hid (HK9.out.trans hk10 (by simp))
            clear hs10 hk10 HR9 HK9
            go_wp2
            go_ret
            exact ⟨_, _, rfl, HS10.out, by decide, HR10.out.mono (by omega), HK10.out⟩
          · have hy' : (y == 0) = false := by simp; omega
            have HE := Lib.hid ((Sl.empty3 w9).mono HK9.out.size)
            have HRE := Lib.hid (HR9.out.kept ((Kept.refl [] w9).alloc (.cells #[] 3)) (by simp))
            have HKE := Lib.hid (HK9.out.alloc (.cells #[] 3))
            clear h0y h1y
            go_wp2
            go_ret
            exact ⟨_, _, rfl, HE.out, by decide, HRE.out.mono (by omega), HKE.out⟩
      · have hz' : (z == 0) = false := by simp; omega
        clear h0z h1z
        go_wp2_with fail
        refine (odd_any B R _ (by omega) m (by omega) hm0 _ HR5.out).mono ?_
        rintro e w8 ⟨o, rfl, hr8, hk8⟩
        have HR8 := Lib.hid hr8
        have HS8 := Lib.hid ((HS5.out).past hk8 hlt)
        have HK8 := Lib.hid ((HK5.out).trans hk8 (by simp))
        clear hr8 hk8
        cases o
        · go_wp2
          go_ret
          exact ⟨_, _, rfl, HS8.out, by decide, HR8.out.mono (by omega), HK8.out⟩
        · go_wp2_with fail
          refine (pick_any B R _ (by omega) 2 (by omega) _ HR8.out).mono ?_
          rintro e w9 ⟨y, rfl, h0y, h1y, hr9, hk9⟩
          have HR9 := Lib.hid hr9
          have HK9 := Lib.hid (HK8.out.trans hk9 (by simp))
          clear hr9 hk9 HR8 HS8 HK8
          by_cases hy : y = 0
          · subst hy
            clear h0y h1y
            go_wp2_with fail
            refine (sPath_any 5 _).mono ?_
            rintro e w10 ⟨u10, rfl, hs10, hk10⟩
            have HS10 := Lib.hid (hs10.mono HK9.out.size)
            have HR10 := Lib.hid (HR9.out.kept hk10 (by simp))
            have HK10 := Lib.hid (HK9.out.trans hk10 (by simp))
            clear hs10 hk10 HR9 HK9
            go_wp2
            go_ret
            exact ⟨_, _, rfl, HS10.out, by decide, HR10.out.mono (by omega), HK10.out⟩
          · have hy' : (y == 0) = false := by simp; omega
            have HE := Lib.hid ((Sl.empty3 w9).mono HK9.out.size)
            have HRE := Lib.hid (HR9.out.kept ((Kept.refl [] w9).alloc (.cells #[] 3)) (by simp))
            have HKE := Lib.hid (HK9.out.alloc (.cells #[] 3))
            clear h0y h1y
            go_wp2
            go_ret
            exact ⟨_, _, rfl, HE.out, by decide, HRE.out.mono (by omega), HKE.out⟩

/-- A net is drawn, and nothing else has turned. -/
def DrawnSm (w : World) (e : Ending) (w' : World) : Prop := ∃ u xs, e = .returned u ∧ Sl w' w.heap.size u xs ∧ Kept [] w w'
def DrawnSmK (w : World) (e : Ending) (w' : World) : Prop := ∃ u xs, ∃ c : Int, e = .returned (.tuple #[u, .int .i64 c]) ∧ Sl w' w.heap.size u xs ∧ Kept [] w w'
def DrawnSmS (w : World) (e : Ending) (w' : World) : Prop := ∃ u xs, ∃ v ys, ∃ c : Int, e = .returned (.tuple #[u, .int .i64 c, v]) ∧ Sl w' w.heap.size u xs ∧ Sl w' w.heap.size v ys ∧ Kept [] w w'

set_option maxHeartbeats 1000000 in
set_option maxRecDepth 100000 in
theorem drawFlatCount_any (w : World) (v : Value) (ha : ArgB w v) : Calls Try.prog 29 #[v] w (DrawnSm w) := by
  have HA := Lib.hid ha
  obtain ⟨a, n, cap, rfl, _, _, _⟩ := ha
  go_enter Try.func29, Try.ntmps29
  go_wp2_with fail
  refine (open_any _ _ HA.out).mono ?_
  rintro e w1 ⟨rfl, hr, hk⟩
  have HR := Lib.hid hr
  have HK := Lib.hid hk
  clear hr hk
  go_wp2_with fail
  refine (small_any _ _ _ (by omega) 9 (by omega) (by omega) _ HR.out).mono ?_
  rintro e w2 ⟨u, xs, rfl, hs, _, _, hk2⟩
  have HS := Lib.hid (hs.mono HK.out.size)
  have HK2 := Lib.hid (HK.out.trans hk2 (fun x hx => by right; simp at hx; omega))
  clear hs hk2
  go_wp2
  go_ret
  exact ⟨_, _, rfl, HS.out, HK2.out⟩

set_option maxHeartbeats 1000000 in
set_option maxRecDepth 100000 in
theorem drawEdenCount_any (w : World) (v : Value) (ha : ArgB w v) : Calls Try.prog 18 #[v] w (DrawnSmK w) := by
  have HA := Lib.hid ha
  obtain ⟨a, n, cap, rfl, _, _, _⟩ := ha
  go_enter Try.func18, Try.ntmps18
  go_wp2_with fail
  refine (open_any _ _ HA.out).mono ?_
  rintro e w1 ⟨rfl, hr, hk⟩
  have HR := Lib.hid hr
  have HK := Lib.hid hk
  clear hr hk
  go_wp2_with fail
  refine (small_any _ _ _ (by omega) 9 (by omega) (by omega) _ HR.out).mono ?_
  rintro e w2 ⟨u, xs, rfl, hs, _, hr2, hk2⟩
  have HSB := Lib.hid (fun g hg => (hs.block (g := g) hg).1)
  have HS := Lib.hid (hs.mono HK.out.size)
  have HR2 := Lib.hid hr2
  have HK2 := Lib.hid (HK.out.trans hk2 (fun x hx => by right; simp at hx; omega))
  have hRlt := HR.out.lt
  clear hs hr2 hk2
  go_wp2_with fail
  refine (pick_any _ _ _ (by omega) 2 (by omega) _ HR2.out).mono ?_
  rintro e w3 ⟨x, rfl, hx0, hx, hr3, hk3⟩
  have hx2 : x < 2 := by omega
  have HR3 := Lib.hid hr3
  have HS3 := Lib.hid (HS.out.kept hk3 (fun g hg hm => by have := HSB.out g hg; simp at hm; omega))
  have HK3 := Lib.hid (HK2.out.trans hk3 (fun x hx => by right; simp at hx; omega))
  clear hr3 hk3 HR2 HS HK2 hx
  go_wp2_with fail
  refine (pick_any _ _ _ (by omega) 40 (by omega) _ HR3.out).mono ?_
  rintro e w4 ⟨y, rfl, hy0, hy, hr4, hk4⟩
  have hy60 : y ≤ 100 := by omega
  obtain ⟨d0, d1⟩ := tdiv_small hy0 hy60 (d := 39) (by omega)
  have HS4 := Lib.hid (HS3.out.kept hk4 (fun g hg hm => by have := HSB.out g hg; simp at hm; omega))
  have HK4 := Lib.hid (HK3.out.trans hk4 (fun x hx => by right; simp at hx; omega))
  clear hr4 hk4 HR3 HS3 HK3 hy
  go_wp2
  go_ret2
  exact ⟨_, _, _, rfl, HS4.out, HK4.out⟩

set_option maxHeartbeats 400000 in
set_option maxRecDepth 100000 in
theorem drawDyingCount_any (w : World) (v : Value) (ha : ArgB w v) : Calls Try.prog 21 #[v] w (DrawnSmK w) := by
  have HA := Lib.hid ha
  obtain ⟨a, n, cap, rfl, _, _, _⟩ := ha
  go_enter Try.func21, Try.ntmps21
  go_wp2_with fail
  refine (drawEdenCount_any _ _ HA.out).mono ?_
  rintro e w1 ⟨u, xs, c, rfl, hs, hk⟩
  have HS := Lib.hid hs
  have HK := Lib.hid hk
  clear hs hk
  go_wp2
  go_ret2
  exact ⟨_, _, _, rfl, HS.out, HK.out⟩

set_option maxHeartbeats 400000 in
set_option maxRecDepth 100000 in
theorem drawLoopCount_any (w : World) (v : Value) (ha : ArgB w v) : Calls Try.prog 26 #[v] w (DrawnSmK w) := by
  have HA := Lib.hid ha
  obtain ⟨a, n, cap, rfl, _, _, _⟩ := ha
  go_enter Try.func26, Try.ntmps26
  go_wp2_with fail
  refine (drawEdenCount_any _ _ HA.out).mono ?_
  rintro e w1 ⟨u, xs, c, rfl, hs, hk⟩
  have HS := Lib.hid hs
  have HK := Lib.hid hk
  clear hs hk
  go_wp2
  go_ret2
  exact ⟨_, _, _, rfl, HS.out, HK.out⟩

set_option maxHeartbeats 2000000 in
set_option maxRecDepth 100000 in
theorem drawBeforeCount_any (w : World) (v : Value) (ha : ArgB w v) : Calls Try.prog 11 #[v] w (DrawnSmS w) := by
  have HA := Lib.hid ha
  obtain ⟨a, n0, cap, rfl, _, _, _⟩ := ha
  go_enter Try.func11, Try.ntmps11
  go_wp2_with fail
  refine (open_any _ _ HA.out).mono ?_
  rintro e w1 ⟨rfl, hr, hk⟩
  have HR := Lib.hid hr
  have HK := Lib.hid hk
  clear hr hk
  go_wp2_with fail
  refine (small_any _ _ _ (by omega) 12 (by omega) (by omega) _ HR.out).mono ?_
  rintro e w2 ⟨u, xs, rfl, hs, hl5, hr2, hk2⟩
  have HSB := Lib.hid (fun g hg => (hs.block (g := g) hg).1)
  obtain ⟨b, cap1, rfl, _, _, _⟩ := hs.any
  have HS := Lib.hid (hs.mono HK.out.size)
  have HR2 := Lib.hid hr2
  have HK2 := Lib.hid (HK.out.trans hk2 (fun x hx => by right; simp at hx; omega))
  have hRlt := HR.out.lt
  obtain ⟨n, hn⟩ : ∃ n, n = xs.length := ⟨_, rfl⟩
  have HN := Lib.hid hn
  have hn5 : n ≤ 5 := by omega
  rw [← hn] at HS HSB ⊢
  clear hs hr2 hk2 hn hl5
  go_wp2_with fail
  refine (pick_any _ _ _ (by omega) 2 (by omega) _ HR2.out).mono ?_
  rintro e w3 ⟨x, rfl, hx0, hx, hr3, hk3⟩
  have hx2 : x < 2 := by omega
  have HR3 := Lib.hid hr3
  have HS3 := Lib.hid (HS.out.kept hk3 (fun g hg hm => by have := HSB.out g hg; simp at hm; omega))
  have HK3 := Lib.hid (HK2.out.trans hk3 (fun x hx => by right; simp at hx; omega))
  clear hr3 hk3 HR2 HS HK2 hx
  go_wp2_with fail
  all_goals
    first
    | (with_reducible refine (state_any _ _ _ (by omega) n (by omega) (by omega) (3 + x) (by omega) (by omega) 14 (by omega) (by omega) _ HR3.out).mono ?_)
    | (refine (state_any _ _ _ (by omega) 1 (by omega) (by omega) (3 + x) (by omega) (by omega) 14 (by omega) (by omega) _ HR3.out).mono ?_)
    rintro e w4 ⟨v, ys, rfl, hs4, hl4, hr4, hk4⟩
    have HR4 := Lib.hid hr4
    have HS4 := Lib.hid (HS3.out.kept hk4 (fun g hg hm => by have := HSB.out g hg; simp at hm; omega))
    have HTB := Lib.hid (fun g hg => (hs4.block (g := g) hg).1)
    obtain ⟨b4, cap4, rfl, _, _, _⟩ := hs4.any
    have hRs := HR3.out.lt
    have HT4 := Lib.hid (hs4.mono HK3.out.size)
    have HK4 := Lib.hid (HK3.out.trans hk4 (fun x hx => by right; simp at hx; omega))
    clear hs4 hr4 hk4 HR3 HS3 HK3
    go_wp2_with fail
    refine (pick_any _ _ _ (by omega) 2 (by omega) _ HR4.out).mono ?_
    rintro e w5 ⟨y, rfl, hy0, hy, hr5, hk5⟩
    have HS5 := Lib.hid (HS4.out.kept hk5 (fun g hg hm => by have := HSB.out g hg; simp at hm; omega))
    have HT5 := Lib.hid (HT4.out.kept hk5 (fun g hg hm => by have := HTB.out g hg; simp at hm; omega))
    have HK5 := Lib.hid (HK4.out.trans hk5 (fun x hx => by right; simp at hx; omega))
    clear hr5 hk5 HR4 HS4 HT4 HK4 HSB HTB
    by_cases hy1 : y = 0
    · subst hy1
      clear hy0 hy
      go_wp2_with fail
      refine (l3Ok_any xs (3 + x) ys _ _ _ _ _ HS5.out HT5.out).mono ?_
      rintro e w6 ⟨rfl, hq⟩
      have HS6 := Lib.hid (hq.sl HS5.out)
      have HT6 := Lib.hid (hq.sl HT5.out)
      have HK6 := Lib.hid (HK5.out.trans hq.kept (by simp))
      clear hq HS5 HT5 HK5
      cases hf : Nt.fireB xs (3 + x) ys
      · go_wp2
        go_ret3
        exact ⟨_, _, _, _, _, rfl, HS6.out, HT6.out, HK6.out⟩
      · obtain ⟨ns, c, ks, rfl, hc, rfl, ok, st, hl⟩ := Nt.fireB_ok hf
        have HST := Lib.hid (fun (w' : World) v base u base' hs ht => l3Step_any ns c ks ok st hl w' v base u base' hs ht)
        rw [← hc] at HST
        have HC := Lib.hid hc
        clear hf hc ok st hl
        go_wp2_with fail
        refine (HST.out _ _ _ _ _ HS6.out HT6.out).mono ?_
        rintro e w7 ⟨z, rfl, hz, hk7⟩
        have HZ := Lib.hid (hz.mono HK6.out.size)
        have HS7 := Lib.hid (HS6.out.stay hk7)
        have HK7 := Lib.hid (HK6.out.trans hk7 (by simp))
        clear hz hk7
        go_wp2
        go_ret3
        exact ⟨_, _, _, _, _, rfl, HS7.out, HZ.out, HK7.out⟩
    · have hy2 : (y == 0) = false := by simp; omega
      clear hy0 hy
      go_wp2
      go_ret3
      exact ⟨_, _, _, _, _, rfl, HS5.out, HT5.out, HK5.out⟩

end Go.Proofs.Ytlcbpnbehbgbeaa
