/-
  The law of NearOf, walked.
-/
import Derived.Test.YteogfoelidiffaaD5
import Derived.Test.YteogfoelidiffaaL1
namespace Go.Proofs.Yteogfoelidiffaa
open Go.RowKit

/-- A node is a neighbour of some node of a set just if its own neighbours meet the set. -/
theorem near_meets {ns : List Nat} (h : Nt.Ok ns) {set k : Nat} (hs : set < 2 ^ ns.length) (hk : k < ns.length) :
    (Nt.near ns set).testBit k = true ↔ (ns.getD k 0 &&& set) ≠ 0 := by
  rw [Nt.testBit_near]
  constructor
  · rintro ⟨j, hj, h1, h2⟩ h0
    have h3 : (ns.getD k 0 &&& set).testBit j = true := by
      rw [Nat.testBit_and, h1, h.both k j hk hj, h2]; rfl
    rw [h0] at h3
    simp at h3
  · intro h0
    obtain ⟨j, hj⟩ := Nat.exists_testBit_of_ne_zero h0
    rw [Nat.testBit_and, Bool.and_eq_true] at hj
    have hjl : j < ns.length := by
      apply Classical.byContradiction
      intro hge
      rw [Nat.testBit_lt_two_pow (Nat.lt_of_lt_of_le hs (Nat.pow_le_pow_right (by omega) (by omega)))] at hj
      exact absurd hj.2 (by simp)
    exact ⟨j, hjl, hj.2, by rw [← h.both k j hk hjl]; exact hj.1⟩

theorem near_none (ns : List Nat) : Nt.near ns 0 = 0 := by
  apply Nat.eq_of_testBit_eq
  intro i
  cases e : (Nt.near ns 0).testBit i
  · simp
  · obtain ⟨k, _, hk, _⟩ := Nt.testBit_near.1 e; simp at hk

set_option maxHeartbeats 2000000 in
theorem FnNearOf_calls (w : World) (v : Value) (ha : ArgB w v) :
    Calls Try.prog 4 #[v] w fun e w' => e = .returned (.bool true) ∧ Kept [] w w' := by
  have HA := Lib.hid ha
  obtain ⟨a, len, cap, rfl, hlc, hcm, _⟩ := ha
  by_cases hbig : 1048576 < len
  · have hb : (1048576 : Int) < (len : Int) := by omega
    clear hbig
    go_enter Try.func4, Try.ntmps4
    go_wp2
    go_ret
    exact ⟨rfl, Kept.refl _ _⟩
  have hb : ¬ (1048576 : Int) < (len : Int) := by omega
  clear hbig
  go_enter Try.func4, Try.ntmps4
  go_wp2_with fail
  refine (drawNearOf_any _ _ HA.out).mono ?_
  rintro e w1 ⟨u, xs, set, rfl, hs, hl, hk⟩
  obtain ⟨b, cap1, rfl, _, _, _⟩ := hs.any
  have HS := Lib.hid hs
  have HK := Lib.hid hk
  clear hs hk
  go_wp2_with fail
  refine (iNearOf_any xs set _ _ _ HS.out).mono ?_
  rintro e w' ⟨rfl, rfl⟩
  go_wp2_with fail
  refine (sNearOf_any xs set _ _ _ HS.out).mono ?_
  rintro e w2 ⟨rfl, hq⟩
  have HS2 := Lib.hid (hq.sl HS.out)
  have HK2 := Lib.hid (HK.out.trans hq.kept (by simp))
  clear hq HS HK
  by_cases hin : Nt.okB xs = true ∧ 0 ≤ set ∧ set < 2 ^ xs.length
  · obtain ⟨ns, rfl, hok⟩ := Nt.okB_ok hin.1
    obtain ⟨m, rfl⟩ := Int.eq_ofNat_of_zero_le hin.2.1
    have hm : m < 2 ^ ns.length := by have := hin.2.2; rw [Nt.nats_length] at this; exact_mod_cast this
    have hm6 := Nat.lt_of_lt_of_le hm (Nt.pow_le hok.few)
    have hn6 := Nat.lt_of_lt_of_le (Nt.near_lt hok m) (Nt.pow_le hok.few)
    have hnl := Nt.near_lt hok m
    have HV := Lib.hid (Nt.nearOf_ok hok hm)
    have HM := Lib.hid (fun k (hk : k < ns.length) => near_meets hok hm hk)
    have HOK := Lib.hid hok
    have HL := Lib.hid (Nt.nats_length ns)
    have HPOS := Lib.hid (fun k => shr_nonneg (Nt.near ns m) k)
    have HBIT := Lib.hid (fun k => shr_bit (Nt.near ns m) k)
    have h0v : Nt.nearOf (Nt.nats ns) 0 = 0 := by
      have h := Nt.nearOf_ok hok (set := 0) (Nat.two_pow_pos _)
      rw [near_none ns] at h
      exact h
    have HZ := Lib.hid h0v
    have hlast : ((Nt.near ns m : Nat) : Int) < wrap64 (2 ^ (Nt.nats ns).length) := by
      have h := wrap_pow (Nt.nats ns).length (by omega) (by omega)
      rw [Int.toNat_natCast] at h
      rw [h, Nt.nats_length]
      exact_mod_cast hnl
    obtain ⟨g, cap2, hb2, _, _, _, hc⟩ := HS2.out.net (by have := hok.some; omega)
    have HC := Lib.hid hc
    simp only [Value.slice.injEq] at hb2
    obtain ⟨rfl, hbl, rfl⟩ := hb2
    rw [HV.out]
    clear hin hok hm h0v hc hnl hbl
    generalize hnv : Nt.near ns m = nv at *
    have HNV := Lib.hid hnv
    clear hnv
    go_wp2
    go_loopw [6] (fun i wr => ∃ k : Nat, k ≤ (Nt.nats ns).length ∧ i = .int .i64 k ∧ Qt w2 wr) (fun i _ => (Nt.nats ns).length - (intOf i).toNat)
    case atStart => exact ⟨0, Nat.zero_le _, rfl, Qt.refl _⟩
    case round =>
      obtain ⟨k, hk, rfl, hq⟩ := hrel
      have HQ := Lib.hid hq
      by_cases hlt : k < (Nt.nats ns).length
      · have hkn : k < ns.length := by rw [← HL.out]; exact hlt
        have hcell := (hq.cell _).trans (HC.out k hkn)
        have hx := HOK.out.get_lt k
        have p1 := HPOS.out k
        have e1 := HBIT.out k
        have e2 := bits_and_nat (ns.getD k 0) m (by omega) (by omega)
        have HM1 := Lib.hid (HM.out k hkn)
        clear hq hlast
        generalize ns.getD k 0 = x at *
        by_cases hx0 : (x &&& m) = 0
        · have hbit : nv.testBit k = false := by
            cases e : nv.testBit k
            · rfl
            · exact absurd hx0 (HM1.out.1 e)
          rw [hbit] at e1
          simp only [Bool.false_eq_true, if_false] at e1
          rw [hx0] at e2
          have e3 : bits .and .i64 (x : Int) (m : Int) = 0 := e2
          clear e2 hx0 hbit
          go_wp2_with fail
          go_quiet (fail)
          clear e1 p1 e3
          go_wp2
          go_roundw
          case rel => exact ⟨k + 1, by omega, by go_num, HQ.out.draw _⟩
          case measure => simp [intOf]; omega
        · have hbit : nv.testBit k = true := HM1.out.2 hx0
          rw [hbit] at e1
          simp only [if_true] at e1
          obtain ⟨y, hy⟩ : ∃ y : Nat, y = x &&& m := ⟨_, rfl⟩
          rw [← hy] at e2
          have hy0 : ((y : Int) == 0) = false := by simp; rw [hy]; exact hx0
          have hy1 : ((y : Int) != 0) = true := by simp; rw [hy]; exact hx0
          clear hx0 hbit hy
          go_wp2_with fail
          go_quiet (fail)
          clear e1 p1 e2 hy0 hy1
          go_wp2
          go_roundw
          case rel => exact ⟨k + 1, by omega, by go_num, HQ.out.draw _⟩
          case measure => simp [intOf]; omega
      · have hk' : k = (Nt.nats ns).length := by omega
        subst hk'
        clear hq
        have HLAST := Lib.hid hlast
        go_wp2_with (go_at_call 17; refine (iNearOf_any (Nt.nats ns) 0 _ _ _ (HQ.out.sl HS2.out)).mono ?_; rintro e w' ⟨rfl, rfl⟩; rw [HZ.out])
        go_ret
        exact ⟨by simp, HK2.out.trans HQ.out.kept (by simp)⟩
  · have HV := Lib.hid (Nt.nearOf_no hin)
    rw [HV.out]
    clear hin
    go_wp2_with (go_at_call 19; refine (alive_any _).mono ?_; rintro e w3 ⟨rfl, hk⟩; have HK3 := Lib.hid (HK2.out.trans hk (by simp)); clear hk)
    go_ret
    exact ⟨rfl, HK3.out⟩
end Go.Proofs.Yteogfoelidiffaa
