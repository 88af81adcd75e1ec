/-
  The law of DistancesFrom, walked.
-/
import Derived.Test.YteogfoelidiffaaD5
import Derived.Test.YteogfoelidiffaaL1
import Derived.Test.YteogfoelidiffaaW10
import Derived.Test.YteogfoelidiffaaPureB
namespace Go.Proofs.Yteogfoelidiffaa
open Go.RowKit

/-- A neighbour below j that is one nearer. -/
def nearB (ns : List Nat) (set k j : Nat) : Bool := (List.range j).any fun i => (ns.getD k 0).testBit i && (Nt.dist ns set 64 i + 1 == Nt.dist ns set 64 k)

theorem nearB_succ (ns : List Nat) (set k j : Nat) : nearB ns set k (j + 1) = (nearB ns set k j || ((ns.getD k 0).testBit j && (Nt.dist ns set 64 j + 1 == Nt.dist ns set 64 k))) := by
  unfold nearB
  rw [List.range_succ, List.any_append]
  simp

theorem nearB_yes {ns : List Nat} (h : Nt.Ok ns) {set k : Nat} (hk : k < ns.length) (hd : 0 < Nt.dist ns set 64 k) : nearB ns set k ns.length = true := by
  obtain ⟨t, ht⟩ := Int.eq_ofNat_of_zero_le (show 0 ≤ Nt.dist ns set 64 k - 1 by omega)
  obtain ⟨j, hj, h1, h2⟩ := Nt.dist_back (set := set) (t := t) h hk (by omega)
  unfold nearB
  rw [List.any_eq_true]
  refine ⟨j, by simpa using hj, ?_⟩
  rw [h1, h2, Bool.true_and, beq_iff_eq]
  omega

theorem near_told {ns : List Nat} (h : Nt.Ok ns) {set : Nat} (hs : set < 2 ^ ns.length) {k j : Nat} (hk : k < ns.length) (hj : j < ns.length) (hb : (ns.getD k 0).testBit j = true) :
    (Nt.dist ns set 64 k < 0 ∧ Nt.dist ns set 64 j < 0) ∨ (0 ≤ Nt.dist ns set 64 k ∧ 0 ≤ Nt.dist ns set 64 j ∧ Nt.dist ns set 64 j ≤ Nt.dist ns set 64 k + 1) := by
  by_cases h1 : Nt.dist ns set 64 k < 0
  · left
    refine ⟨h1, ?_⟩
    apply Classical.byContradiction
    intro h2
    obtain ⟨t, ht⟩ := Int.eq_ofNat_of_zero_le (show 0 ≤ Nt.dist ns set 64 j by omega)
    have := Nt.dist_near h hs hj (by rw [h.both j k hj hk]; exact hb) ht
    omega
  · right
    obtain ⟨t, ht⟩ := Int.eq_ofNat_of_zero_le (show 0 ≤ Nt.dist ns set 64 k by omega)
    have := Nt.dist_near h hs hk hb ht
    omega

set_option maxHeartbeats 4000000 in
set_option maxRecDepth 100000 in
theorem FnDistancesFrom_calls (w : World) (v : Value) (ha : ArgB w v) :
    Calls Try.prog 5 #[v] w fun e w' => e = .returned (.bool true) ∧ Kept [] w w' := by
  have HA := Lib.hid ha
  obtain ⟨a, len, cap, rfl, hlc, hcm, _⟩ := ha
  by_cases hbig : 1048576 < len
  · have hb : (1048576 : Int) < (len : Int) := by omega
    clear hbig
    go_enter Try.func5, Try.ntmps5
    go_wp2
    go_ret
    exact ⟨rfl, Kept.refl _ _⟩
  have hb : ¬ (1048576 : Int) < (len : Int) := by omega
  clear hbig
  go_enter Try.func5, Try.ntmps5
  go_wp2_with fail
  refine (drawDistancesFrom_any _ _ HA.out).mono ?_
  rintro e w1 ⟨u, xs, set, rfl, hs, hl, hk⟩
  obtain ⟨b, cap1, rfl, _, _, _⟩ := hs.any
  have HS := Lib.hid hs
  have HK := Lib.hid hk
  clear hs hk
  go_wp2_with fail
  refine (iFar_any xs set _ _ _ HS.out).mono ?_
  rintro e w2 ⟨u2, rfl, hs, hk⟩
  have HR2 := Lib.hid hs
  have HS2 := Lib.hid (HS.out.stay hk)
  have HK2 := Lib.hid (HK.out.trans hk (by simp))
  clear hs hk HS HK
  go_wp2_with fail
  refine (sFar_any xs set _ _ _ HS2.out).mono ?_
  rintro e w3 ⟨u3, rfl, hs, hk⟩
  have HT3 := Lib.hid hs
  have HR3 := Lib.hid (HR2.out.stay hk)
  have HS3 := Lib.hid (HS2.out.stay hk)
  have HK3 := Lib.hid (HK2.out.trans hk (by simp))
  clear hs hk HS2 HK2 HR2
  go_wp2_with fail
  refine (sameInts_any _ _ _ _ _ _ _ HR3.out HT3.out).mono ?_
  rintro e w4 ⟨rfl, hq⟩
  have HR4 := Lib.hid (hq.sl HR3.out)
  have HS4 := Lib.hid (hq.sl HS3.out)
  have HK4 := Lib.hid (HK3.out.trans hq.kept (by simp))
  clear hq HS3 HK3 HR3 HT3
  by_cases hin : Nt.okB xs = true ∧ 0 ≤ set ∧ set < 2 ^ xs.length
  · obtain ⟨ns, rfl, hok⟩ := Nt.okB_ok hin.1
    obtain ⟨m, rfl⟩ := Int.eq_ofNat_of_zero_le hin.2.1
    have hm : m < 2 ^ ns.length := by have := hin.2.2; rw [Nt.nats_length] at this; exact_mod_cast this
    have hr4 := HR4.out
    rw [Nt.farOf_ok hok hm] at hr4
    have HOK := Lib.hid hok
    have HM := Lib.hid hm
    have HL := Lib.hid (Nt.nats_length ns)
    have hpos : 0 < ns.length := hok.some
    obtain ⟨g5, cap5, rfl, _, _⟩ := hr4.shape (Nt.far_length ns m) hpos
    have HD := Lib.hid (fun k (hk : k < ns.length) => ((hr4.at k (by rw [Nt.far_length]; exact hk)).1).trans (by rw [Nt.far_get m k hk]))
    obtain ⟨g, cap2, hb2, _, _, _, hc⟩ := HS4.out.net hpos
    have HC := Lib.hid hc
    simp only [Value.slice.injEq] at hb2
    obtain ⟨rfl, hbl, rfl⟩ := hb2
    have hne0 : ((ns.length : Int) == 0) = false := beq_eq_false_iff_ne.2 (by omega)
    clear hin hok hm hc hbl hr4 HR4
    go_wp2
    go_loopw [6, 7, 8] (fun i _ _ wr => ∃ k : Nat, k ≤ ns.length ∧ i = .int .i64 k ∧ Qt w4 wr) (fun i _ _ _ => ns.length - (intOf i).toNat)
    case atStart => exact ⟨0, Nat.zero_le _, rfl, Qt.refl _⟩
    case round =>
      obtain ⟨k, hk, rfl, hq⟩ := hrel
      have HQ := Lib.hid hq
      clear hq
      have HLE : Hid ((Nt.nats ns).length = ns.length) := HL
      by_cases hlt : k < (Nt.nats ns).length
      · have hkn : k < ns.length := by rw [← HL.out]; exact hlt
        go_wp2
        go_loopw [7, 8] (fun nb i wr => ∃ j : Nat, j ≤ ns.length ∧ i = .int .i64 j ∧ nb = .bool (nearB ns m k j) ∧ Qt w4 wr) (fun _ i _ => ns.length - (intOf i).toNat)
        case atStart => exact ⟨0, Nat.zero_le _, rfl, rfl, HQ.out⟩
        case round =>
          clear HQ
          obtain ⟨j, hj, rfl, rfl, hq⟩ := hrel
          have HQ := Lib.hid hq
          by_cases hjlt : j < (Nt.nats ns).length
          · have hjn : j < ns.length := by rw [← HL.out]; exact hjlt
            have c1 := (hq.cell _).trans (HC.out k hkn)
            have d1 := (hq.cell _).trans (HD.out k hkn)
            have d2 := (hq.cell _).trans (HD.out j hjn)
            have p1 := shr_nonneg (ns.getD k 0) j
            have e1 := shr_bit (ns.getD k 0) j
            have HB := Lib.hid (nearB_succ ns m k j)
            have HN := Lib.hid (fun h => near_told HOK.out HM.out hkn hjn h)
            have r1 := Nt.dist_range (net := ns) m k
            have r2 := Nt.dist_range (net := ns) m j
            clear hq
            generalize hx : ns.getD k 0 = x at *
            have HX := Lib.hid hx
            clear hx
            generalize hdk : Nt.dist ns m 64 k = dk at *
            have HDK := Lib.hid hdk
            clear hdk
            cases hbit : x.testBit j
            · rw [hbit] at e1
              simp only [Bool.false_eq_true, if_false] at e1
              have HBIT := Lib.hid hbit
              clear hbit d1 d2 r1 r2
              generalize hnb : nearB ns m k j = nb at *
              have HNB := Lib.hid hnb
              clear hnb
              go_wp2
              go_roundw
              case rel => exact ⟨j + 1, by omega, by go_num, by rw [HB.out, HBIT.out]; simp, HQ.out⟩
              case measure => simp [intOf]; omega
            · rw [hbit] at e1
              simp only [if_true] at e1
              have HBIT := Lib.hid hbit
              have hn := HN.out hbit
              clear hbit
              by_cases hjk : j = k
              · exfalso
                have h1 := HBIT.out
                rw [← HX.out, hjk, HOK.out.own k hkn] at h1
                exact absurd h1 (by simp)
              · generalize hdj : Nt.dist ns m 64 j = dj at *
                have HDJ := Lib.hid hdj
                clear hdj hjk
                have a1 : IntKind.i64.wrap (dk + 1) = dk + 1 := IntWalk.i64_in _ (by omega)
                have a2 : IntKind.i64.wrap (dj + 1) = dj + 1 := IntWalk.i64_in _ (by omega)
                generalize hnb : nearB ns m k j = nb at *
                have HNB := Lib.hid hnb
                clear hnb
                have HE := Lib.hid (show nearB ns m k (j + 1) = (nb || (dj + 1 == dk)) by rw [HB.out, HBIT.out]; simp)
                clear HB HN
                have hq3 : (decide (dk < 0) = true ∧ decide (dj < 0) = true ∧ decide (dk + 1 < dj) = false) ∨ (decide (dk < 0) = false ∧ decide (dj < 0) = false ∧ decide (dk + 1 < dj) = false) := by
                  rcases hn with ⟨n1, n2⟩ | ⟨n1, n2, n3⟩
                  · exact .inl ⟨dec_of n1, dec_of n2, dec_not (by omega)⟩
                  · exact .inr ⟨dec_not (by omega), dec_not (by omega), dec_not (by omega)⟩
                clear hn
                rcases hq3 with ⟨n1, n2, n3⟩ | ⟨n1, n2, n3⟩
                all_goals
                  cases nb <;> cases he : (dj + 1 == dk)
                  all_goals
                    rw [he] at HE
                    go_wp2_with fail
                    go_quiet (fail)
                    go_wp2_with fail
                    go_quiet (fail)
                    clear a1 a2 e1 p1
                    go_wp2
                    go_roundw
                    case rel => exact ⟨j + 1, by omega, by go_num, by rw [HE.out]; rfl, HQ.out.draw _⟩
                    case measure => simp [intOf]; omega
          · have hj' : j = ns.length := by have := HL.out; omega
            subst hj'
            have d1 := (hq.cell _).trans (HD.out k hkn)
            have p2 := shr_nonneg m k
            have e3 := shr_bit m k
            have HZ := Lib.hid (Nt.dist_zero (net := ns) (set := m) (k := k))
            have HY := Lib.hid (nearB_yes HOK.out (set := m) hkn)
            clear hq
            generalize hdk : Nt.dist ns m 64 k = dk at *
            have HDK := Lib.hid hdk
            clear hdk
            by_cases z0 : dk = 0
            · have hbm := HZ.out.1 z0
              rw [if_pos hbm] at e3
              subst z0
              generalize nearB ns m k ns.length = nb at *
              clear hbm
              go_wp2_with fail
              go_quiet (fail)
              clear e3 p2
              go_wp2
              go_roundw
              case rel => exact ⟨k + 1, by omega, by go_num, HQ.out.draw _⟩
              case measure => simp [intOf]; omega
            · have hbm : ¬ m.testBit k = true := fun h => z0 (HZ.out.2 h)
              rw [if_neg hbm] at e3
              have z0' : (dk == 0) = false := beq_eq_false_iff_ne.2 z0
              by_cases z1 : 0 < dk
              · rw [HY.out z1]
                clear hbm
                go_wp2_with fail
                go_quiet (fail)
                clear e3 p2
                go_wp2
                go_roundw
                case rel => exact ⟨k + 1, by omega, by go_num, HQ.out.draw _⟩
                case measure => simp [intOf]; omega
              · have z1' : decide (0 < dk) = false := dec_not z1
                generalize nearB ns m k ns.length = nb at *
                clear hbm
                go_wp2_with fail
                go_quiet (fail)
                clear e3 p2
                go_wp2
                go_roundw
                case rel => exact ⟨k + 1, by omega, by go_num, HQ.out.draw _⟩
                case measure => simp [intOf]; omega
      · have hk' : k = ns.length := by have := HL.out; omega
        subst hk'
        have hll : ((ns.length : Int) == ((Nt.nats ns).length : Int)) = true := by rw [HL.out]; simp
        go_wp2
        go_ret
        exact ⟨by simp, HK4.out.trans HQ.out.kept (by simp)⟩
  · have hr4 := HR4.out
    rw [Nt.farOf_no hin] at hr4
    obtain ⟨b4, cap4, rfl, _, _, _⟩ := hr4.any
    clear hin hr4
    go_wp2_with (go_at_call 19; refine (alive_any _).mono ?_; rintro e w5 ⟨rfl, hk⟩; have HK5 := Lib.hid (HK4.out.trans hk (by simp)); clear hk)
    go_ret
    exact ⟨rfl, HK5.out⟩
end Go.Proofs.Yteogfoelidiffaa
