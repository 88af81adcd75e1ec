/-
  The law SquareTours, walked.
-/
import Derived.Test.YtllbdhfckdljgaaGP
import Derived.Test.YtllbdhfckdljgaaD31
import Derived.Test.YtllbdhfckdljgaaL1
import Derived.Test.YtllbdhfckdljgaaH1
namespace Go.Proofs.Ytllbdhfckdljgaa
open Go.RowKit

/-- Rows: where they lie, and their cells. -/
theorem rowsForm {w : World} {base n : Nat} {v : Value} {vs : List Value} {s : Nat → List Nat} (h : Rw w base v vs s) (hn : vs.length = n) :
    ∃ (a : Option Addr) (cap : Nat), v = .slice a n cap ∧ ∀ k, k < n → ∃ g, a = some ⟨g, 0, none⟩ ∧ w.cell? ⟨g, k, none⟩ = some (vs.getD k undef) ∧ g < w.heap.size := by
  by_cases h0 : 0 < n
  · obtain ⟨g, cap, rfl, _, hg, _, _, hc⟩ := h.form hn h0
    exact ⟨_, cap, rfl, fun k hk => ⟨g, rfl, hc k hk, hg⟩⟩
  · rcases h.1.2 with ⟨rfl, he⟩ | ⟨g, cap, cur, rfl, _⟩
    · exact ⟨none, 0, by rw [← hn, he], fun k hk => by omega⟩
    · exact ⟨_, cap, by rw [← hn], fun k hk => by omega⟩

set_option maxHeartbeats 4000000 in
set_option maxRecDepth 100000 in
theorem FnSquareTours_calls (w : World) (v : Value) (ha : ArgB w v) :
    Calls Try.prog 4 #[v] w fun e w' => e = .returned (.bool true) ∧ Kept [] w w' := by
  have HA := Lib.hid ha
  obtain ⟨a, len, cap, rfl, hlc, hcm, _⟩ := ha
  by_cases hbig : 1048576 < len
  · have hb : (1048576 : Int) < (len : Int) := by omega
    clear hbig
    go_enter Try.func4, Try.ntmps4
    go_wp2
    go_ret
    exact ⟨rfl, Kept.refl _ _⟩
  have hb : ¬ (1048576 : Int) < (len : Int) := by omega
  clear hbig
  go_enter Try.func4, Try.ntmps4
  go_wp2_with fail
  refine (drawSquareTours_any _ _ HA.out).mono ?_
  rintro e w1 ⟨x, y, rfl, h1, h2, hk⟩
  have HK1 := Lib.hid hk
  clear hk hb
  go_wp2_with fail
  refine (iSquares_any _ _ _).mono ?_
  rintro e w2 ⟨u2, vs, rfl, hvl, hrw, hap, hk⟩
  have HI2 := Lib.hid hrw
  have HK2 := Lib.hid (HK1.out.trans hk (by simp))
  have HVL := Lib.hid hvl
  clear hrw hk HK1 h1 h2 hap hvl
  go_wp2_with fail
  refine (sSquares_any _ _ _).mono ?_
  rintro e w3 ⟨u3, ws, rfl, hwl, hrw, hap, hk⟩
  have HS3 := Lib.hid hrw
  have HI3 := Lib.hid (HI2.out.stay hk)
  have HK3 := Lib.hid (HK2.out.trans hk (by simp))
  have HWL := Lib.hid hwl
  clear hrw hk HI2 HK2 hap hwl
  obtain ⟨n, hn⟩ : ∃ n, n = (Nt.sqsOf (x : Int) (y : Int)).length := ⟨_, rfl⟩
  have hn6 : n ≤ 6 := by rw [hn]; exact Nt.sqsOf_small _ _
  rw [← hn] at HVL HWL
  have HN := Lib.hid hn
  obtain ⟨ga, gcap, rfl, hga⟩ := rowsForm HI3.out HVL.out
  obtain ⟨gb, hcap, rfl, hgb⟩ := rowsForm HS3.out HWL.out
  have HGA := Lib.hid hga
  have HGB := Lib.hid hgb
  clear hn hga hgb
  go_wp2_with fail
  refine (iGrid_any _ _ _).mono ?_
  rintro e w4 ⟨u4, rfl, hs, hk⟩
  have HG4 := Lib.hid hs
  have HI4 := Lib.hid (HI3.out.stay hk)
  have HS4 := Lib.hid (HS3.out.stay hk)
  have HK4 := Lib.hid (HK3.out.trans hk (by simp))
  have HC4 := Lib.hid hk
  obtain ⟨gg, ggcap, rfl, _, _, _⟩ := hs.any
  clear hs hk HI3 HS3 HK3
  go_wp2
  go_loopw [8] (fun i wr => ∃ k : Nat, k ≤ n ∧ i = .int .i64 k ∧ Qt w4 wr) (fun i _ => n - (intOf i).toNat)
  case atStart => exact ⟨0, Nat.zero_le _, rfl, Qt.refl _⟩
  case round =>
    obtain ⟨k, hk, rfl, hq⟩ := hrel
    have HQ := Lib.hid hq
    clear hq
    by_cases hlt : k < n
    · have hB : Nt.grB (x : Int) (y : Int) = true := by
        cases h : Nt.grB (x : Int) (y : Int)
        · have h2 := HN.out; rw [Nt.sqsOf_no h] at h2; simp at h2; omega
        · rfl
      obtain ⟨p, q, ex, ey, hp, hq, hp6, hq6, hpq⟩ := Nt.grB_ok hB
      have e1 : x = p := by omega
      have e2 : y = q := by omega
      subst e1
      subst e2
      have hk2 : k < (Nt.squares x y).length := by have h := HN.out; rw [Nt.sqsOf_ok hp hq hpq] at h; omega
      have hmem : (Nt.sqsOf (x : Int) (y : Int)).getD k [] ∈ Nt.squares x y := by
        rw [Nt.sqsOf_ok hp hq hpq, List.getD_eq_getElem?_getD, List.getElem?_eq_getElem hk2]; exact List.getElem_mem hk2
      obtain ⟨ht, h5, hr⟩ := Nt.square_tour hp hq hpq hmem
      have HT : Hid (Nt.tourB (Nt.gridOf (x : Int) (y : Int)) (Nt.nats ((Nt.sqsOf (x : Int) (y : Int)).getD k [])) = true) := Lib.hid (by rw [Nt.gridOf_ok hp hq hpq]; exact Nt.tour_tourB (Nt.grid_ok hp hq hpq) ht)
      obtain ⟨b1, rfl, ca, hba⟩ := HGA.out k hlt
      obtain ⟨b2, rfl, cb, hbb⟩ := HGB.out k hlt
      have sa := HI4.out.2 k (by rw [HVL.out]; exact hlt)
      have sb := HS4.out.2 k (by rw [HWL.out]; exact hlt)
      have da := (HQ.out.cell ⟨b1, k, none⟩).trans ((HC4.out.cell (p := ⟨b1, k, none⟩) hba (by simp)).trans ca)
      have db := (HQ.out.cell ⟨b2, k, none⟩).trans ((HC4.out.cell (p := ⟨b2, k, none⟩) hbb (by simp)).trans cb)
      generalize vs.getD k undef = p1 at *
      generalize ws.getD k undef = p2 at *
      simp only at sa sb
      generalize (Nt.sqsOf (x : Int) (y : Int)).getD k [] = tr at *
      obtain ⟨ta, tcap, rfl, hta, hca⟩ := sa.row h5 (by omega)
      obtain ⟨tb, tcap2, rfl, _, _⟩ := sb.row h5 (by omega)
      have c0 := (HQ.out.cell ⟨ta, 0, none⟩).trans (hca 0 (by omega))
      have c4 := (HQ.out.cell ⟨ta, 4, none⟩).trans (hca 4 (by omega))
      have hro : tr.getD 0 0 = tr.getD 4 0 := by unfold Nt.Round at hr; rw [h5] at hr; exact hr
      rw [← hro] at c4
      have HSM := Lib.hid (fun d => sameInts_any (Nt.nats tr) (Nt.nats tr) (wr.drewN d) _ _ _ _ ((HQ.out.draw d).sl sa) ((HQ.out.draw d).sl sb))
      have HTO := Lib.hid (fun d => iTourOk_any (Nt.gridOf (x : Int) (y : Int)) (Nt.nats tr) (wr.drewN d) _ _ _ _ ((HQ.out.draw d).sl HG4.out) ((HQ.out.draw d).sl sa))
      rw [dec_of (rfl : Nt.nats tr = Nt.nats tr)] at HSM
      rw [HT.out] at HTO
      generalize tr.getD 0 0 = z at *
      have n0 : (0 : Int) ≤ (k : Int) := by omega
      have n1 : (k : Int) < (n : Int) := by omega
      have e1 : ((z : Int) != (z : Int)) = false := by simp
      clear ht h5 hr hca hta sa sb ca cb hba hbb hmem hk2 hB ex ey hpq hro
      go_wp2_with fail
      go_quiet (first | (go_at_call 14; exact quietQ (HSM.out _)) | (go_at_call 22; exact quietL (HTO.out _)))
      go_wp2
      go_roundw
      case rel => exact ⟨k + 1, by omega, by go_num, HQ.out.draw _⟩
      case measure => simp [intOf]; omega
    · have hk' : k = n := by omega
      subst hk'
      clear hlt hk
      cases hB : Nt.grB (x : Int) (y : Int)
      · have hG := Lib.hid (Nt.gridOf_no hB)
        have hlen : (Nt.gridOf (x : Int) (y : Int)).length = 0 := by rw [hG.out]; rfl
        rw [hlen] at HG4 ⊢
        go_wp2_with (go_at_call 16; refine (alive_any _).mono ?_; rintro e w9 ⟨rfl, hk⟩; have HK9 := Lib.hid (HK4.out.trans (HQ.out.kept.trans hk (by simp)) (by simp)); clear hk)
        go_ret
        exact ⟨rfl, HK9.out⟩
      · obtain ⟨p, q, ex, ey, hp, hq, hp6, hq6, hpq⟩ := Nt.grB_ok hB
        have e1 : x = p := by omega
        have e2 : y = q := by omega
        subst e1
        subst e2
        obtain ⟨m, hm⟩ : ∃ m, m = x * y := ⟨_, rfl⟩
        have hm1 : 1 ≤ m := by rw [hm]; exact Nat.mul_le_mul hp hq
        have hlen : (Nt.gridOf (x : Int) (y : Int)).length = m := by rw [Nt.gridOf_ok hp hq hpq, Nt.nats_length, Nt.gridN_length, hm]
        have hm0 : ((m : Int) == 0) = false := by rw [beq_eq_false_iff_ne]; omega
        have hsq : k = (x - 1) * (y - 1) := by have h := HN.out; rw [Nt.sqsOf_ok hp hq hpq, Nt.squares_many hp hq hpq] at h; exact h
        have e3 : ((x : Int) - 1) * ((y : Int) - 1) = (k : Int) := by rw [hsq, Int.natCast_mul]; congr 1 <;> omega
        have HMUL : Hid (wrap64 (((x : Int) - 1) * ((y : Int) - 1)) = (k : Int)) := Lib.hid (by rw [e3]; exact IntWalk.wrap64_in _ (by omega))
        have S3 := Lib.hid (show wrap64 ((y : Int) - 1) = (y : Int) - 1 from IntWalk.wrap64_in _ (by omega))
        have S4 := Lib.hid (show wrap64 ((x : Int) - 1) = (x : Int) - 1 from IntWalk.wrap64_in _ (by omega))
        rw [hlen] at HG4 ⊢
        clear hm hm1 hlen hsq e3 hp hq hp6 hq6 hpq hB ex ey hn6
        have s3 := S3.out
        have s4 := S4.out
        have hmul := HMUL.out
        go_wp2_with (go_at_call 16; refine (alive_any _).mono ?_; rintro e w9 ⟨rfl, hk⟩; have HK9 := Lib.hid (HK4.out.trans (HQ.out.kept.trans hk (by simp)) (by simp)); clear hk)
        go_ret
        exact ⟨by first | rfl | simp, HK9.out⟩
end Go.Proofs.Ytllbdhfckdljgaa
