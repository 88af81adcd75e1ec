/-
  The law of FarthestOf, walked.
-/
import Derived.Test.YtjogkppgmomggacD6
import Derived.Test.YtjogkppgmomggacL1
import Derived.Test.YtjogkppgmomggacN4
import Derived.Test.YtjogkppgmomggacW17
import Derived.Deep.RegionHeld3
namespace Go.Proofs.Ytjogkppgmomggac
open Go.RowKit

set_option maxHeartbeats 4000000 in
set_option maxRecDepth 100000 in
theorem FnFarthestOf_calls (w : World) (v : Value) (ha : ArgB w v) :
    Calls Try.prog 7 #[v] w fun e w' => e = .returned (.bool true) ∧ Kept [] w w' := by
  have HA := Lib.hid ha
  obtain ⟨a, len, cap, rfl, hlc, hcm, _⟩ := ha
  by_cases hbig : 1048576 < len
  · have hb : (1048576 : Int) < (len : Int) := by omega
    clear hbig
    go_enter Try.func7, Try.ntmps7
    go_wp2
    go_ret
    exact ⟨rfl, Kept.refl _ _⟩
  have hb : ¬ (1048576 : Int) < (len : Int) := by omega
  clear hbig
  go_enter Try.func7, Try.ntmps7
  go_wp2_with fail
  refine (drawFarthestOf_any _ _ HA.out).mono ?_
  rintro e w1 ⟨u, xs, node, rfl, hs, hl, hk⟩
  have HS := Lib.hid hs
  have HK := Lib.hid hk
  clear hk hb
  by_cases hin : Nt.okB xs = true ∧ 0 ≤ node ∧ node < xs.length
  · obtain ⟨ns, rfl, hok⟩ := Nt.okB_ok hin.1
    obtain ⟨m, rfl⟩ := Int.eq_ofNat_of_zero_le hin.2.1
    have hm0 := hin.2.2
    rw [Nt.nats_length] at hm0
    obtain ⟨n, hn⟩ : ∃ n, n = ns.length := ⟨_, rfl⟩
    rw [← hn] at hm0
    have hm : m < n := by omega
    have hp := hok.some
    have h6 := hok.few
    rw [← hn] at hp h6
    have hmn : m < ns.length := by rw [← hn]; exact hm
    obtain ⟨g, cap1, rfl, hg, _⟩ := hs.row hn.symm hp
    have HOK := Lib.hid hok
    have HN := Lib.hid hn
    have HV := Lib.hid (Nt.farthestOf_ok hok hmn)
    have HVK := Lib.hid (fun k (hk : k < ns.length) => Nt.farthestOf_ok hok hk)
    have HTRI := Lib.hid (fun k (hk : k < ns.length) h => Nt.farthest_tri hok hmn hk h)
    have HGE := Lib.hid (fun k (hk : k < ns.length) => Nt.farthest_ge (net := ns) (node := m) hk)
    have hfew := Nt.farthest_few hok hmn
    have hf0 : 0 ≤ Nt.farthest ns m := Nt.maxTo_nonneg _ _
    have HFO := Lib.hid (Nt.farOf_ok hok (Nt.two_pow_lt hmn))
    have HE := Lib.hid (pow_wrap (k := m) (by omega))
    have HFK := Lib.hid (fun k => show 0 ≤ Nt.farthest ns k from Nt.maxTo_nonneg _ _)
    rw [← hn] at hfew
    clear hs hok hn hin hg hmn hm0
    go_wp2_with fail
    refine (iFarthest_any (Nt.nats ns) (m : Int) _ _ _ HS.out).mono ?_
    rintro e w2 ⟨rfl, hk2⟩
    have HS2 := Lib.hid (HS.out.stay hk2)
    have HK2 := Lib.hid (HK.out.trans hk2 (by simp))
    clear hk2 HS HK
    go_wp2_with fail
    refine (sFarthest_any (Nt.nats ns) (m : Int) _ _ _ HS2.out).mono ?_
    rintro e w3 ⟨rfl, hk3⟩
    have HS3 := Lib.hid (HS2.out.stay hk3)
    have HK3 := Lib.hid (HK2.out.trans hk3 (by simp))
    clear hk3 HS2 HK2
    rw [HV.out]
    clear HV
    generalize Nt.farthest ns m = fv at *
    have hneg : ¬ fv < 0 := by omega
    go_wp2_with fail
    rw [HE.out]
    refine (iFar_any (Nt.nats ns) ((2 ^ m : Nat) : Int) _ _ _ HS3.out).mono ?_
    rintro e w4 ⟨u4, rfl, hs4, hk4⟩
    rw [HFO.out] at hs4
    obtain ⟨g4, cap4, rfl, _, hg4⟩ := hs4.shape (n := n) (by rw [Nt.far_length]; exact HN.out.symm) hp
    have HD := Lib.hid (fun j (hj : j < n) => ((hs4.at j (by rw [Nt.far_length, ← HN.out]; exact hj)).1).trans (by rw [Nt.far_get _ _ (by rw [← HN.out]; exact hj)]))
    have HS4 := Lib.hid (HS3.out.stay hk4)
    have HK4 := Lib.hid (HK3.out.trans hk4 (by simp))
    clear hs4 hk4 HS3 HK3 HE HFO
    go_wp2
    go_loopw [7] (fun i wr => ∃ k : Nat, k ≤ n ∧ i = .int .i64 k ∧ Kept [] w4 wr) (fun i _ => n - (intOf i).toNat)
    case atStart => exact ⟨0, Nat.zero_le _, rfl, Kept.refl _ _⟩
    case round =>
      obtain ⟨k, hk, rfl, hkept⟩ := hrel
      have HKR := Lib.hid hkept
      by_cases hlt : k < n
      · have HKN : Hid (k < ns.length) := Lib.hid (by rw [← HN.out]; exact hlt)
        have c1 := (hkept.cell (p := ⟨g4, k, none⟩) hg4 (by simp)).trans (HD.out k hlt)
        have h1 := HGE.out k HKN.out
        have h2 := HTRI.out k HKN.out
        have h3 := HFK.out k
        have HSR : Hid (Sl wr.drew w1.heap.size (.slice (some ⟨g, 0, none⟩) n cap1) (Nt.nats ns) ∨ True) := Lib.hid (.inr trivial)
        have HSRX := Lib.hid (HS4.out.stay hkept.drew)
        have hrange := Nt.dist_range (net := ns) (2 ^ m) k
        have HG4 : Hid (g4 < wr.heap.size) := Lib.hid (Nat.lt_of_lt_of_le hg4 hkept.size)
        clear hkept HSR
        generalize Nt.dist ns (2 ^ m) 64 k = d at *
        generalize hfk : Nt.farthest ns k = fk at *
        have HFKE := Lib.hid hfk
        clear hfk
        have g1 : decide (fv < d) = false := dec_not (by omega)
        by_cases hd : 0 ≤ d
        · have g2 : decide (0 ≤ d) = true := dec_of hd
          have h2' := h2 hd
          have g3 : decide (fv + d < fk) = false := dec_not (by omega)
          have ew : IntKind.i64.wrap (fv + d) = fv + d := IntWalk.i64_in _ (by omega)
          have ew2 : wrap64 (fv + d) = fv + d := IntWalk.wrap64_in _ (by omega)
          clear h1 h2 h2' hrange
          go_wp2_with fail
          have hc0 : wr.drew.cell? ⟨g4, k, none⟩ = some (.int .i64 d) := c1
          have HC0 := Lib.hid hc0
          clear hc0
          go_region_held3 (fun w' => w'.cell? ⟨g4, k, none⟩ = some (.int .i64 d))
            (first
              | exact HC0.out
              | exact c2
              | go_keep)
            (first
              | (go_simp; go_at_call 28; refine (iFarthest_any (Nt.nats ns) (k : Int) _ _ _ HSRX.out).mono ?_; rintro e w5 ⟨rfl, hk5⟩; rw [HVK.out k HKN.out, HFKE.out]; have c2 := (hk5.cell (p := ⟨g4, k, none⟩) HG4.out (by simp)).trans c1; have HK5 := Lib.hid hk5; clear hk5))
          all_goals (go_wp2; go_roundw)
          any_goals (simp [intOf]; omega)
          all_goals exact ⟨k + 1, by omega, by go_num, HKR.out.drew.trans HK5.out (by simp)⟩
        · have g2 : decide (0 ≤ d) = false := dec_not hd
          clear h1 h2 hrange
          go_wp2_with fail
          go_quiet (fail)
          go_wp2
          go_roundw
          case rel => exact ⟨k + 1, by omega, by go_num, HKR.out.trans (Qt.kept ⟨_, rfl⟩) (by simp)⟩
          case measure => simp [intOf]; omega
      · have hk' : k = n := by omega
        subst hk'
        clear hkept
        go_wp2
        go_ret
        exact ⟨by simp, HK4.out.trans HKR.out (by simp)⟩
  · have HV := Lib.hid (Nt.farthestOf_no (xs := xs) (node := node) hin)
    obtain ⟨b, cap1, rfl, _, _, _⟩ := hs.any
    clear hs hin
    go_wp2_with fail
    refine (iFarthest_any xs node _ _ _ HS.out).mono ?_
    rintro e w2 ⟨rfl, hk2⟩
    have HS2 := Lib.hid (HS.out.stay hk2)
    have HK2 := Lib.hid (HK.out.trans hk2 (by simp))
    clear hk2 HS HK
    go_wp2_with fail
    refine (sFarthest_any xs node _ _ _ HS2.out).mono ?_
    rintro e w3 ⟨rfl, hk3⟩
    have HK3 := Lib.hid (HK2.out.trans hk3 (by simp))
    clear hk3 HS2 HK2
    rw [HV.out]
    go_wp2_with fail
    refine (alive_any _).mono ?_
    rintro e w5 ⟨rfl, hk⟩
    have HK5 := Lib.hid (HK3.out.trans hk (by simp))
    clear hk
    go_wp2
    go_ret
    exact ⟨rfl, HK5.out⟩
end Go.Proofs.Ytjogkppgmomggac
