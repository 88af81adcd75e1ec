/-
  Walks: windings, by the program and by the model.
-/
import Derived.Test.YtllbdhfckdljgaaH1
import Derived.Test.YtllbdhfckdljgaaXA
namespace Go.Proofs.Ytllbdhfckdljgaa
open Go.RowKit

set_option maxHeartbeats 1000000 in
set_option maxRecDepth 100000 in
theorem iWind_any (xs ys zs : List Int) (w : World) (v : Value) (base : Nat) (u : Value) (base' : Nat) (t : Value) (base2 : Nat) (hs : Sl w base v xs) (ht : Sl w base' u ys) (hz : Sl w base2 t zs) :
    Calls Try.prog 26 #[v, u, t] w fun e w' => e = .returned (.tuple #[.int .i64 (Nt.windOf xs ys zs), .bool (Nt.windB xs ys zs)]) ∧ Qt w w' := by
  have HS := Lib.hid hs
  have HT := Lib.hid ht
  have HZ := Lib.hid hz
  obtain ⟨a, cap, rfl, _, hm, _⟩ := hs.any
  obtain ⟨a', cap', rfl, _, hm', _⟩ := ht.any
  obtain ⟨a2, cap2, rfl, _, hm2, _⟩ := hz.any
  clear hs ht hz
  go_enter Try.func26, Try.ntmps26
  go_wp2_with fail
  refine (iClimbOf_any xs ys zs _ _ _ _ _ _ _ HS.out HT.out HZ.out).mono ?_
  rintro e w1 ⟨rfl, hq⟩
  have HQ1 := Lib.hid hq
  have HZ1 := Lib.hid (hq.sl HZ.out)
  clear hq HS HT HZ
  cases h1 : Nt.climbB xs ys zs
  · have HB := Lib.hid (Nt.windB_no1 h1)
    have HF := Lib.hid (Nt.windOf_no HB.out)
    generalize Nt.climbOf xs ys zs = c at *
    clear HZ1
    go_wp2_with fail
    go_quiet (fail)
    go_wp2
    go_ret2
    exact ⟨by rw [HB.out, HF.out]; rfl, HQ1.out.draw _⟩
  · obtain ⟨ns, ks, tr, rfl, rfl, rfl, ok, st, hl, htr⟩ := Nt.climbB_ok h1
    have HCO := Lib.hid (Nt.climbOf_ok ok st hl htr)
    obtain ⟨m, hL⟩ : ∃ m, m + 1 = tr.length := ⟨tr.length - 1, by have := htr.some; omega⟩
    have hL2 := htr.few
    rw [← hL] at hL2
    obtain ⟨g2, cp2, e2, _, hcz⟩ := HZ1.out.row hL.symm (by omega)
    rw [e2]
    have c0 := hcz 0 (by omega)
    have c1 := hcz m (by omega)
    have s1 : IntKind.i64.wrap (((m + 1 : Nat) : Int) - 1) = (m : Int) := by rw [IntWalk.i64_in _ (by omega)]; omega
    have hmm : m < m + 1 := by omega
    by_cases h2 : tr.getD 0 0 = tr.getD m 0
    · have hr : Nt.Round tr := by unfold Nt.Round; rw [← hL]; exact h2
      have HB := Lib.hid (Nt.windB_yes ok st hl htr hr)
      have HF := Lib.hid (Nt.windOf_ok ok st hl htr hr)
      obtain ⟨q1, q2, q3⟩ := Nt.wind_small st htr hr
      clear hcz ok st hl htr hr hL e2 HZ1 hm hm' hm2 h1
      rw [HCO.out]
      generalize Nt.climb ks tr / 3 = q at *
      rw [q3]
      have d1 : (((tr.getD 0 0 : Nat) : Int) != ((tr.getD m 0 : Nat) : Int)) = false := by rw [h2]; simp
      have s2 : (3 * q).tdiv 3 = q := Int.mul_tdiv_cancel_left q (by omega)
      have s3 : IntKind.i64.wrap q = q := IntWalk.i64_in _ (by omega)
      clear q3 HCO
      generalize tr.getD 0 0 = x at *
      generalize tr.getD m 0 = y at *
      clear h2
      go_wp2_with fail
      go_quiet (fail)
      go_wp2
      go_ret2
      exact ⟨by rw [HB.out, HF.out]; first | rfl | (rw [s2, s3]; done) | (rw [s2]; done), HQ1.out.draw _⟩
    · have HB : Hid (Nt.windB (Nt.nats ns) (Nt.nats ks) (Nt.nats tr) = false) := Lib.hid (Nt.windB_no2 (by
        rw [Nt.nats_length, Nt.nats_get, Nt.nats_get, ← hL]
        show ¬ ((tr.getD 0 0 : Nat) : Int) = ((tr.getD (m + 1 - 1) 0 : Nat) : Int)
        rw [show m + 1 - 1 = m by omega]
        omega))
      have HF := Lib.hid (Nt.windOf_no HB.out)
      have d1 : (((tr.getD 0 0 : Nat) : Int) != ((tr.getD m 0 : Nat) : Int)) = true := bne_iff_ne.2 (fun e => h2 (by omega))
      generalize Nt.climbOf (Nt.nats ns) (Nt.nats ks) (Nt.nats tr) = c at *
      clear hcz ok st hl htr hL e2 HZ1 hm hm' hm2 h1 HCO
      generalize tr.getD 0 0 = x at *
      generalize tr.getD m 0 = y at *
      clear h2
      go_wp2_with fail
      go_quiet (fail)
      go_wp2
      go_ret2
      exact ⟨by rw [HB.out, HF.out]; rfl, HQ1.out.draw _⟩

set_option maxHeartbeats 1000000 in
set_option maxRecDepth 100000 in
theorem sWind_any (xs ys zs : List Int) (w : World) (v : Value) (base : Nat) (u : Value) (base' : Nat) (t : Value) (base2 : Nat) (hs : Sl w base v xs) (ht : Sl w base' u ys) (hz : Sl w base2 t zs) :
    Calls Try.prog 53 #[v, u, t] w fun e w' => e = .returned (.tuple #[.int .i64 (Nt.windOf xs ys zs), .bool (Nt.windB xs ys zs)]) ∧ Qt w w' := by
  have HS := Lib.hid hs
  have HT := Lib.hid ht
  have HZ := Lib.hid hz
  obtain ⟨a, cap, rfl, _, hm, _⟩ := hs.any
  obtain ⟨a', cap', rfl, _, hm', _⟩ := ht.any
  obtain ⟨a2, cap2, rfl, _, hm2, _⟩ := hz.any
  clear hs ht hz
  go_enter Try.func53, Try.ntmps53
  go_wp2_with fail
  refine (sClimbOf_any xs ys zs _ _ _ _ _ _ _ HS.out HT.out HZ.out).mono ?_
  rintro e w1 ⟨rfl, hq⟩
  have HQ1 := Lib.hid hq
  have HZ1 := Lib.hid (hq.sl HZ.out)
  clear hq HS HT HZ
  cases h1 : Nt.climbB xs ys zs
  · have HB := Lib.hid (Nt.windB_no1 h1)
    have HF := Lib.hid (Nt.windOf_no HB.out)
    generalize Nt.climbOf xs ys zs = c at *
    clear HZ1
    go_wp2_with fail
    go_quiet (fail)
    go_wp2
    go_ret2
    exact ⟨by rw [HB.out, HF.out]; rfl, HQ1.out.draw _⟩
  · obtain ⟨ns, ks, tr, rfl, rfl, rfl, ok, st, hl, htr⟩ := Nt.climbB_ok h1
    have HCO := Lib.hid (Nt.climbOf_ok ok st hl htr)
    obtain ⟨m, hL⟩ : ∃ m, m + 1 = tr.length := ⟨tr.length - 1, by have := htr.some; omega⟩
    have hL2 := htr.few
    rw [← hL] at hL2
    obtain ⟨g2, cp2, e2, _, hcz⟩ := HZ1.out.row hL.symm (by omega)
    rw [e2]
    have c0 := hcz 0 (by omega)
    have c1 := hcz m (by omega)
    have s1 : IntKind.i64.wrap (((m + 1 : Nat) : Int) - 1) = (m : Int) := by rw [IntWalk.i64_in _ (by omega)]; omega
    have hmm : m < m + 1 := by omega
    by_cases h2 : tr.getD 0 0 = tr.getD m 0
    · have hr : Nt.Round tr := by unfold Nt.Round; rw [← hL]; exact h2
      have HB := Lib.hid (Nt.windB_yes ok st hl htr hr)
      have HF := Lib.hid (Nt.windOf_ok ok st hl htr hr)
      obtain ⟨q1, q2, q3⟩ := Nt.wind_small st htr hr
      clear hcz ok st hl htr hr hL e2 HZ1 hm hm' hm2 h1
      rw [HCO.out]
      generalize Nt.climb ks tr / 3 = q at *
      rw [q3]
      have d1 : (((tr.getD 0 0 : Nat) : Int) != ((tr.getD m 0 : Nat) : Int)) = false := by rw [h2]; simp
      have s2 : (3 * q).tdiv 3 = q := Int.mul_tdiv_cancel_left q (by omega)
      have s3 : IntKind.i64.wrap q = q := IntWalk.i64_in _ (by omega)
      clear q3 HCO
      generalize tr.getD 0 0 = x at *
      generalize tr.getD m 0 = y at *
      clear h2
      go_wp2_with fail
      go_quiet (fail)
      go_wp2
      go_ret2
      exact ⟨by rw [HB.out, HF.out]; first | rfl | (rw [s2, s3]; done) | (rw [s2]; done), HQ1.out.draw _⟩
    · have HB : Hid (Nt.windB (Nt.nats ns) (Nt.nats ks) (Nt.nats tr) = false) := Lib.hid (Nt.windB_no2 (by
        rw [Nt.nats_length, Nt.nats_get, Nt.nats_get, ← hL]
        show ¬ ((tr.getD 0 0 : Nat) : Int) = ((tr.getD (m + 1 - 1) 0 : Nat) : Int)
        rw [show m + 1 - 1 = m by omega]
        omega))
      have HF := Lib.hid (Nt.windOf_no HB.out)
      have d1 : (((tr.getD 0 0 : Nat) : Int) != ((tr.getD m 0 : Nat) : Int)) = true := bne_iff_ne.2 (fun e => h2 (by omega))
      generalize Nt.climbOf (Nt.nats ns) (Nt.nats ks) (Nt.nats tr) = c at *
      clear hcz ok st hl htr hL e2 HZ1 hm hm' hm2 h1 HCO
      generalize tr.getD 0 0 = x at *
      generalize tr.getD m 0 = y at *
      clear h2
      go_wp2_with fail
      go_quiet (fail)
      go_wp2
      go_ret2
      exact ⟨by rw [HB.out, HF.out]; rfl, HQ1.out.draw _⟩
end Go.Proofs.Ytllbdhfckdljgaa
