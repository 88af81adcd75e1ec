/-
  The law of StateOk, walked.
-/
import Derived.Test.YtjogkppgmomggaaD10
import Derived.Test.YtjogkppgmomggaaL1
import Derived.Test.YtjogkppgmomggaaS1
namespace Go.Proofs.Ytjogkppgmomggaa
open Go.RowKit

theorem st_zeros {c : Int} (h : 3 ≤ c ∧ c ≤ 5) {n : Nat} (h1 : 1 ≤ n) (h6 : n ≤ 6) : Nt.stB c (List.replicate n 0) = true := by
  refine Nt.stB_iff.2 ⟨h, by simp; omega, fun i hi => ?_⟩
  have : (List.replicate n (0 : Int)).getD i 0 = 0 := by
    rw [List.getD_eq_getElem?_getD, List.getElem?_replicate]; split <;> rfl
  rw [this]
  omega
theorem st_none (c : Int) : Nt.stB c [] = false := Nt.stB_no (fun h => by have := h.2.1.1; simp at this)
theorem st_more {c : Int} {xs : List Int} (h : Nt.stB c xs = true) (hc : c ≤ 4) : Nt.stB (c + 1) xs = true := by
  obtain ⟨h1, h2, h3⟩ := Nt.stB_iff.1 h
  exact Nt.stB_iff.2 ⟨by omega, h2, fun i hi => by have := h3 i hi; omega⟩

set_option maxHeartbeats 2000000 in
theorem FnStateOk_calls (w : World) (v : Value) (ha : ArgB w v) :
    Calls Try.prog 3 #[v] w fun e w' => e = .returned (.bool true) ∧ Kept [] w w' := by
  have HA := Lib.hid ha
  obtain ⟨a, len, cap, rfl, hlc, hcm, _⟩ := ha
  by_cases hbig : 1048576 < len
  · have hb : (1048576 : Int) < (len : Int) := by omega
    clear hbig
    go_enter Try.func3, Try.ntmps3
    go_wp2
    go_ret
    exact ⟨rfl, Kept.refl _ _⟩
  have hb : ¬ (1048576 : Int) < (len : Int) := by omega
  clear hbig
  go_enter Try.func3, Try.ntmps3
  go_wp2_with fail
  refine (drawStateOk_any _ _ HA.out).mono ?_
  rintro e w1 ⟨u, xs, c, rfl, hc0, hc1, hs, hl, hk⟩
  have HS := Lib.hid hs
  have HK := Lib.hid hk
  obtain ⟨b, cap1, rfl, _, _, _⟩ := hs.any
  clear hk hb hs
  go_wp2_with fail
  refine (iStateOk_any c xs _ _ _ HS.out).mono ?_
  rintro e w' ⟨rfl, rfl⟩
  go_wp2_with fail
  refine (sStateOk_any c xs _ _ _ HS.out).mono ?_
  rintro e w' ⟨rfl, rfl⟩
  by_cases hcc : 3 ≤ c ∧ c ≤ 5
  · have HZ := Lib.hid (st_zeros hcc (n := 6) (by omega) (by omega))
    have HN := Lib.hid (st_none c)
    have HM := Lib.hid (fun h => st_more (c := c) (xs := xs) h)
    obtain ⟨c3, c5⟩ := hcc
    go_wp2_with (at_make; refine make_int _ 6 rfl _ _ rfl rfl rfl ?_ ?_)
    · omega
    · intro w2 hs2 hk2 _
      have HS2 := Lib.hid hs2
      have HK2 := Lib.hid (HK.out.trans hk2 (by simp))
      have HX2 := Lib.hid (HS.out.stay hk2)
      clear hs2 hk2 HK HS
      go_wp2_with fail
      refine (iStateOk_any c (List.replicate 6 0) _ _ _ HS2.out).mono ?_
      rintro e w' ⟨rfl, rfl⟩
      rw [HZ.out]
      go_wp2_with fail
      refine (iStateOk_any c [] _ _ _ (Sl.empty3 w2)).mono ?_
      rintro e w' ⟨rfl, rfl⟩
      rw [HN.out]
      have HK3 := Lib.hid (HK2.out.alloc (.cells #[] 3))
      have HX3 := Lib.hid (HX2.out.stay ((Kept.refl [] w2).alloc (.cells #[] 3)))
      clear HK2 HX2 HS2
      generalize w2.alloc (.cells #[] 3) = w3 at *
      cases hb : Nt.stB c xs
      · go_wp2_with (go_at_call 13; refine (alive_any _).mono ?_; rintro e w5 ⟨rfl, hk⟩; have HK5 := Lib.hid (HK3.out.trans hk (by simp)); clear hk)
        go_ret
        exact ⟨rfl, HK5.out⟩
      · by_cases h5 : c = 5
        · have h5' : (c == 5) = true := by simp [h5]
          clear h5
          go_wp2_with (go_at_call 13; refine (alive_any _).mono ?_; rintro e w5 ⟨rfl, hk⟩; have HK5 := Lib.hid (HK3.out.trans hk (by simp)); clear hk)
          go_ret
          exact ⟨rfl, HK5.out⟩
        · have h5' : (c == 5) = false := by simp [h5]
          have HB := Lib.hid (HM.out hb (by omega))
          clear h5 hb
          go_wp2_with (first | (go_at_call 11; refine (iStateOk_any (c + 1) xs _ _ _ HX3.out).mono ?_; rintro e w' ⟨rfl, rfl⟩; rw [HB.out]) | (go_at_call 13; refine (alive_any _).mono ?_; rintro e w5 ⟨rfl, hk⟩; have HK5 := Lib.hid (HK3.out.trans hk (by simp)); clear hk))
          go_ret
          exact ⟨rfl, HK5.out⟩
  · have hno : Nt.stB c xs = false := Nt.stB_no (fun h => hcc h.1)
    rw [hno]
    by_cases h3 : c < 3
    · clear hcc hno
      go_wp2_with (go_at_call 13; refine (alive_any _).mono ?_; rintro e w5 ⟨rfl, hk⟩; have HK5 := Lib.hid (HK.out.trans hk (by simp)); clear hk)
      go_ret
      exact ⟨rfl, HK5.out⟩
    · have h5 : 5 < c := by omega
      clear hcc hno
      go_wp2_with (go_at_call 13; refine (alive_any _).mono ?_; rintro e w5 ⟨rfl, hk⟩; have HK5 := Lib.hid (HK.out.trans hk (by simp)); clear hk)
      go_ret
      exact ⟨rfl, HK5.out⟩
end Go.Proofs.Ytjogkppgmomggaa
