/-
  Walks: scripts drawn that are as they should be, and their texts cut up.
-/
import Derived.Test.YtilbdpcijdcffaaDoorDS
import Derived.Test.YtilbdpcijdcffaaDoorSM5
namespace Go.Proofs.YtilbdpcijdcffaaDoor
open Go.RowKit

/-- Lights drawn so far: as they should be, the last one told. -/
def LInv (n : Int) (ls : List (Int × Int)) (t d : Int) : Prop := Nt.lTo n ls ls.length ∧ 0 ≤ t ∧ t ≤ 4 * (ls.length : Int) ∧ -1 ≤ d ∧ d < n ∧ (0 < ls.length → Nt.at2 ls (ls.length - 1) = (t, d))
theorem LInv.start {n : Int} (h : 1 ≤ n) : LInv n [] 0 (-1) := ⟨fun i hi => absurd hi (by simp), by omega, by simp, by omega, by omega, fun h => by simp at h⟩
theorem LInv.bounds {n : Int} {ls : List (Int × Int)} {t d : Int} (h : LInv n ls t d) : 0 ≤ t ∧ t ≤ 4 * (ls.length : Int) ∧ -1 ≤ d ∧ d < n := ⟨h.2.1, h.2.2.1, h.2.2.2.1, h.2.2.2.2.1⟩
theorem at2_snoc_old {ls : List (Int × Int)} {p : Int × Int} {i : Nat} (h : i < ls.length) : Nt.at2 (ls ++ [p]) i = Nt.at2 ls i := by
  simp [Nt.at2, List.getD_eq_getElem?_getD, List.getElem?_append_left h]
theorem at2_snoc_new (ls : List (Int × Int)) (p : Int × Int) : Nt.at2 (ls ++ [p]) ls.length = p := by
  simp [Nt.at2, List.getD_eq_getElem?_getD]
theorem LInv.add {n : Int} {ls : List (Int × Int)} {t d t' d' : Int} (h : LInv n ls t d) (h5 : ls.length ≤ 5) (ht : 0 ≤ t' ∧ t' ≤ 4 * ((ls.length : Int) + 1)) (hd : 0 ≤ d' ∧ d' < n) (ha : t < t' ∨ t = t' ∧ d < d') : LInv n (ls ++ [(t', d')]) t' d' := by
  obtain ⟨h1, h2, h3, h4, h6, h7⟩ := h
  refine ⟨fun i hi => ?_, ht.1, by rw [List.length_append]; show _ ≤ 4 * ((ls.length + 1 : Nat) : Int); omega, by omega, hd.2, fun _ => by rw [List.length_append]; exact at2_snoc_new ls _⟩
  rw [List.length_append] at hi
  have hi' : i < ls.length + 1 := hi
  unfold Nt.lOk
  by_cases e : i = ls.length
  · subst e
    rw [at2_snoc_new]
    refine ⟨⟨ht.1, by show t' ≤ 59; omega, hd.1, hd.2⟩, fun h0 => ?_⟩
    rw [at2_snoc_old (by omega), h7 h0]
    exact ha
  · have hil : i < ls.length := by omega
    have h8 := h1 i hil
    unfold Nt.lOk at h8
    rw [at2_snoc_old hil]
    refine ⟨h8.1, fun h0 => ?_⟩
    rw [at2_snoc_old (by omega)]
    exact h8.2 h0
theorem LInv.later {n : Int} {ls : List (Int × Int)} {t d q r : Int} (h : LInv n ls t d) (h0 : 0 ≤ q) (hq : q ≤ 3) (hr : 0 ≤ r) (hrn : r < n) (h5 : ls.length ≤ 5) : LInv n (ls ++ [(t + 1 + q, r)]) (t + 1 + q) r :=
  h.add h5 (by have := h.bounds; omega) ⟨hr, hrn⟩ (.inl (by omega))
theorem LInv.same {n : Int} {ls : List (Int × Int)} {t d y : Int} (h : LInv n ls t d) (h0 : 0 ≤ y) (hn : d + 1 + y < n) (h5 : ls.length ≤ 5) : LInv n (ls ++ [(t, d + 1 + y)]) t (d + 1 + y) :=
  h.add h5 (by have := h.bounds; omega) (by have := h.bounds; omega) (.inr ⟨rfl, by omega⟩)
theorem LInv.ok {n : Int} {ls : List (Int × Int)} {t d : Int} (h : LInv n ls t d) (h1 : 1 ≤ n) (h6 : n ≤ 6) (h5 : ls.length ≤ 5) : Nt.scB n ls = true := Nt.scB_iff.2 ⟨⟨h1, h6⟩, by omega, h.1⟩
/-- A script is drawn that is as it should be. -/
def DrawsSc0 (w : World) (B R P : Nat) (n : Int) (e : Ending) (w' : World) : Prop :=
  ∃ u ls, e = .returned u ∧ Sg w' w.heap.size u ls ∧ Nt.scB n ls = true ∧ Rd w' B R (P + 40) ∧ Kept [R] w w'

set_option maxHeartbeats 400000 in
set_option maxRecDepth 100000 in
theorem odd0_any (B R P : Nat) (_ : P ≤ 100000) (w : World) (hr : Rd w B R P) :
    Calls Tryd.prog 28 #[.pointer (some ⟨R, 0, none⟩), .int .i64 0] w fun e w' => e = .returned (.bool false) ∧ Rd w' B R (P + 1) ∧ Kept [R] w w' := by
  have HR := Lib.hid hr
  clear hr
  go_enter Tryd.func28, Tryd.ntmps28
  go_wp2
  go_ret
  exact ⟨rfl, HR.out.mono (by omega), Kept.refl _ _⟩

set_option maxHeartbeats 4000000 in
set_option maxRecDepth 100000 in
theorem script0_any (B R P : Nat) (hP : P ≤ 90000) (nodes : Int) (hn0 : 1 ≤ nodes) (hn1 : nodes ≤ 6) (w : World) (hr : Rd w B R P) :
    Calls Tryd.prog 16 #[.pointer (some ⟨R, 0, none⟩), .int .i64 nodes, .int .i64 0] w (DrawsSc0 w B R P nodes) := by
  have HR := Lib.hid hr
  have hlt := hr.lt
  have hBR := hr.1
  clear hr
  go_enter Tryd.func16, Tryd.ntmps16
  go_wp2_with fail
  refine (pick_any B R P (by omega) 6 (by omega) _ (HR.out.kept ((Kept.refl [] w).alloc _) (by simp))).mono ?_
  rintro e w1 ⟨k0, rfl, hk0, hk6, hr1, hk1⟩
  obtain ⟨k0, rfl⟩ := Int.eq_ofNat_of_zero_le hk0
  have hk5 : k0 ≤ 5 := by omega
  have HR1 := Lib.hid hr1
  have HS1 := Lib.hid ((Sg.empty w).past hk1 hlt)
  have HK1 := Lib.hid (((Kept.refl [R] w).alloc (.cells #[] 41)).trans hk1 (by simp))
  clear hr1 hk1 hk0 hk6 HR
  go_wp2
  go_loopw [7, 8, 9, 10] (fun u ti no i wr => ∃ (j : Nat) (ls : List (Int × Int)) (t d : Int), i = .int .i64 j ∧ ti = .int .i64 t ∧ no = .int .i64 d ∧ Sg wr w.heap.size u ls ∧ ls.length + j ≤ 5 ∧ LInv nodes ls t d ∧ Rd wr B R (P + 1 + 4 * ls.length) ∧ Kept [R] w wr) (fun _ _ _ i _ => (intOf i).toNat)
  case atStart => exact ⟨k0, [], 0, -1, rfl, rfl, rfl, HS1.out, by simpa using hk5, LInv.start hn0, HR1.out.mono (by simp), HK1.out⟩
  case round =>
    clear HS1 HR1 HK1
    obtain ⟨j, ls, t, d, rfl, rfl, rfl, hsl, hlen, hinv, hrd, hkept⟩ := hrel
    have HINV := Lib.hid hinv
    obtain ⟨ht0, ht1, hd0, hd1⟩ := hinv.bounds
    clear hinv
    have HSL := Lib.hid hsl
    have HRD := Lib.hid hrd
    have HK := Lib.hid hkept
    have hll : ls.length ≤ 5 := by omega
    clear hsl hrd hkept
    by_cases hj : 0 < j
    · by_cases hnn : 0 < nodes
      · go_wp2_with fail
        refine (pick_any B R _ (by omega) 2 (by omega) _ HRD.out).mono ?_
        rintro e w2 ⟨y, rfl, h0y, h1y, hrx, hkx⟩
        have hy2 : y ≤ 2 := by omega
        have HR2 := Lib.hid hrx
        have HS2 := Lib.hid (HSL.out.past hkx hlt)
        have HK2 := Lib.hid (HK.out.trans hkx (by simp))
        clear hrx hkx
        by_cases hge : nodes ≤ d + 1 + y
        · go_wp2_with fail
          refine (pick_any B R _ (by omega) 4 (by omega) _ HR2.out).mono ?_
          rintro e w4 ⟨q, rfl, h0q, h1q, hrx, hkx⟩
          have hq4 : q ≤ 3 := by omega
          have HR4 := Lib.hid hrx
          have HS4 := Lib.hid (HS2.out.past hkx hlt)
          have HK4 := Lib.hid (HK2.out.trans hkx (by simp))
          clear hrx hkx
          go_wp2_with fail
          refine (pick_any B R _ (by omega) nodes (by omega) _ HR4.out).mono ?_
          rintro e w5 ⟨r, rfl, h0r, h1r, hrx, hkx⟩
          have hr5 : r < nodes := by omega
          have HR5 := Lib.hid hrx
          have HS5 := Lib.hid (HS4.out.past hkx hlt)
          have HK5 := Lib.hid (HK4.out.trans hkx (by simp))
          clear hrx hkx
          have hsz9 := HK5.out.size
          go_wp2_with (at_builtin; refine app_light _ _ rfl _ _ rfl w.heap.size _ _ HS5.out rfl rfl (by omega) hsz9 ?_; intro u9 w9 hs9 hk9; have HS9 := Lib.hid hs9; have HK9 := Lib.hid hk9; clear hs9 hk9)
          go_roundw
          case rel => exact ⟨j - 1, _, _, _, by go_num, rfl, rfl, HS9.out, by rw [List.length_append]; show ls.length + 1 + (j - 1) ≤ 5; omega, HINV.out.later (by omega) (by omega) h0r hr5 (by omega), by rw [List.length_append]; exact (HR5.out.own HK9.out (fun g hg => (HS5.out.block hg).1) hlt (by omega)).mono (by show _ ≤ P + 1 + 4 * (ls.length + 1); omega), HK5.out.ownR HK9.out (fun g hg => (HS5.out.block hg).1)⟩
          case measure => simp [intOf]; omega
        · go_wp2_with fail
          refine (pick_any B R _ (by omega) 3 (by omega) _ HR2.out).mono ?_
          rintro e w3 ⟨z, rfl, h0z, h1z, hrx, hkx⟩
          have hz3 : z ≤ 3 := by omega
          have HR3 := Lib.hid hrx
          have HS3 := Lib.hid (HS2.out.past hkx hlt)
          have HK3 := Lib.hid (HK2.out.trans hkx (by simp))
          clear hrx hkx
          by_cases hz : 0 < z
          · go_wp2_with fail
            refine (pick_any B R _ (by omega) 4 (by omega) _ HR3.out).mono ?_
            rintro e w4 ⟨q, rfl, h0q, h1q, hrx, hkx⟩
            have hq4 : q ≤ 3 := by omega
            have HR4 := Lib.hid hrx
            have HS4 := Lib.hid (HS3.out.past hkx hlt)
            have HK4 := Lib.hid (HK3.out.trans hkx (by simp))
            clear hrx hkx
            go_wp2_with fail
            refine (pick_any B R _ (by omega) nodes (by omega) _ HR4.out).mono ?_
            rintro e w5 ⟨r, rfl, h0r, h1r, hrx, hkx⟩
            have hr5 : r < nodes := by omega
            have HR5 := Lib.hid hrx
            have HS5 := Lib.hid (HS4.out.past hkx hlt)
            have HK5 := Lib.hid (HK4.out.trans hkx (by simp))
            clear hrx hkx
            have hsz9 := HK5.out.size
            go_wp2_with (at_builtin; refine app_light _ _ rfl _ _ rfl w.heap.size _ _ HS5.out rfl rfl (by omega) hsz9 ?_; intro u9 w9 hs9 hk9; have HS9 := Lib.hid hs9; have HK9 := Lib.hid hk9; clear hs9 hk9)
            go_roundw
            case rel => exact ⟨j - 1, _, _, _, by go_num, rfl, rfl, HS9.out, by rw [List.length_append]; show ls.length + 1 + (j - 1) ≤ 5; omega, HINV.out.later (by omega) (by omega) h0r hr5 (by omega), by rw [List.length_append]; exact (HR5.out.own HK9.out (fun g hg => (HS5.out.block hg).1) hlt (by omega)).mono (by show _ ≤ P + 1 + 4 * (ls.length + 1); omega), HK5.out.ownR HK9.out (fun g hg => (HS5.out.block hg).1)⟩
            case measure => simp [intOf]; omega
          · have hsz9 := HK3.out.size
            go_wp2_with (at_builtin; refine app_light _ _ rfl _ _ rfl w.heap.size _ _ HS3.out rfl rfl (by omega) hsz9 ?_; intro u9 w9 hs9 hk9; have HS9 := Lib.hid hs9; have HK9 := Lib.hid hk9; clear hs9 hk9)
            go_roundw
            case rel => exact ⟨j - 1, _, _, _, by go_num, rfl, rfl, HS9.out, by rw [List.length_append]; show ls.length + 1 + (j - 1) ≤ 5; omega, HINV.out.same (by omega) (by omega) (by omega), by rw [List.length_append]; exact (HR3.out.own HK9.out (fun g hg => (HS3.out.block hg).1) hlt (by omega)).mono (by show _ ≤ P + 1 + 4 * (ls.length + 1); omega), HK3.out.ownR HK9.out (fun g hg => (HS3.out.block hg).1)⟩
            case measure => simp [intOf]; omega
      · omega
    · have hj0 : j = 0 := by omega
      subst hj0
      go_wp2_with fail
      refine (odd0_any B R _ (by omega) _ HRD.out).mono ?_
      rintro e w2 ⟨rfl, hr2, hk2⟩
      have HR2 := Lib.hid hr2
      have HS2 := Lib.hid (HSL.out.past hk2 hlt)
      have HK2 := Lib.hid (HK.out.trans hk2 (by simp))
      clear hr2 hk2 HRD HSL HK
      go_wp2
      go_ret
      exact ⟨_, ls, rfl, HS2.out, HINV.out.ok hn0 hn1 (by omega), HR2.out.mono (by omega), HK2.out⟩
end Go.Proofs.YtilbdpcijdcffaaDoor
