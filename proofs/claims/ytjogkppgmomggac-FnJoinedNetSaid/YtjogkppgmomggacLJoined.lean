/-
  The law of JoinedNet, walked.
-/
import Derived.Test.YtjogkppgmomggacD6
import Derived.Test.YtjogkppgmomggacL1
import Derived.Test.YtjogkppgmomggacB2
import Derived.Test.YtjogkppgmomggacPureD
import Derived.Test.YtjogkppgmomggacW10
import Derived.Test.YtjogkppgmomggacW19
namespace Go.Proofs.Ytjogkppgmomggac
open Go.RowKit

theorem pow_wrapJ {k : Nat} (h : k ≤ 6) : wrap64 (2 ^ k) = ((2 ^ k : Nat) : Int) := by
  have h := wrap_pow k (by omega) (by omega)
  rw [Int.toNat_natCast] at h
  rw [h]
  exact (Int.natCast_pow 2 k).symm

theorem pow_predJ {k : Nat} (h : k ≤ 6) : wrap64 (wrap64 (2 ^ k) - 1) = ((2 ^ k - 1 : Nat) : Int) := by
  rw [pow_wrapJ h]
  have h1 := Nat.two_pow_pos k
  have h2 := Nt.pow_le h
  rw [IntWalk.wrap64_in _ (by omega)]
  omega

theorem canJoin_cases {xs ys : List Int} (h : Nt.canJoin xs ys = true) : ∃ ms bs, xs = Nt.nats ms ∧ ys = Nt.nats bs ∧ Nt.Ok ms ∧ Nt.Ok bs ∧ ms.length + bs.length ≤ 6 := by
  unfold Nt.canJoin at h
  rw [Bool.and_eq_true, Bool.and_eq_true, decide_eq_true_eq] at h
  obtain ⟨ms, rfl, h1⟩ := Nt.okB_ok h.1.1
  obtain ⟨bs, rfl, h2⟩ := Nt.okB_ok h.1.2
  have h3 := h.2
  rw [Nt.nats_length, Nt.nats_length] at h3
  exact ⟨ms, bs, rfl, rfl, h1, h2, h3⟩

theorem joinedL_joined {ms bs : List Nat} (h : Nt.Ok ms) (k : Nt.Ok bs) (hl : ms.length + bs.length ≤ 6) : Nt.joinedL (Nt.nats ms) (Nt.nats bs) = Nt.nats (Nt.joined ms bs) := by
  unfold Nt.joinedL
  rw [if_pos (Nt.canJoin_yes h k hl), Nt.nats_toNat, Nt.nats_toNat]

set_option maxHeartbeats 4000000 in
set_option maxRecDepth 100000 in
theorem FnJoinedNet_calls (w : World) (v : Value) (ha : ArgB w v) :
    Calls Try.prog 4 #[v] w fun e w' => e = .returned (.bool true) ∧ Kept [] w w' := by
  have HA := Lib.hid ha
  obtain ⟨a, len, cap, rfl, hlc, hcm, _⟩ := ha
  by_cases hbig : 1048576 < len
  · have hb : (1048576 : Int) < (len : Int) := by omega
    clear hbig
    go_enter Try.func4, Try.ntmps4
    go_wp2
    go_ret
    exact ⟨rfl, Kept.refl _ _⟩
  have hb : ¬ (1048576 : Int) < (len : Int) := by omega
  clear hbig
  go_enter Try.func4, Try.ntmps4
  go_wp2_with fail
  refine (drawJoinedNet_any _ _ HA.out).mono ?_
  rintro e w1 ⟨u, xs, v, ys, rfl, hs, ht, hl, hk⟩
  have HS := Lib.hid hs
  have HT := Lib.hid ht
  have HK := Lib.hid hk
  clear hk hb
  by_cases hj : Nt.canJoin xs ys = true
  · obtain ⟨ms, bs, rfl, rfl, hok1, hok2, hsum⟩ := canJoin_cases hj
    obtain ⟨m, hm⟩ : ∃ m, m = ms.length := ⟨_, rfl⟩
    obtain ⟨b, hbb⟩ : ∃ b, b = bs.length := ⟨_, rfl⟩
    have hm1 := hok1.some
    have hb1 := hok2.some
    obtain ⟨s, hsm⟩ : ∃ s, s = m + b := ⟨_, rfl⟩
    have HJL := Lib.hid (joinedL_joined hok1 hok2 hsum)
    have hokj := Nt.joined_ok hok1 hok2 hsum
    have HOKJ := Lib.hid hokj
    have HOKB := Lib.hid (Nt.ok_okB hokj)
    have HJ := Lib.hid hj
    have HLJ : Hid ((Nt.joined ms bs).length = s) := Lib.hid (by rw [Nt.joined_length, hsm, hm, hbb])
    have HF1 : Hid (Nt.farOf (Nt.nats (Nt.joined ms bs)) ((2 ^ m - 1 : Nat) : Int) = Nt.far (Nt.joined ms bs) (2 ^ m - 1)) := Lib.hid (Nt.farOf_ok hokj (by
      rw [Nt.joined_length, hm]
      have h1 := Nat.two_pow_pos ms.length
      have h2 : 2 ^ ms.length ≤ 2 ^ (ms.length + bs.length) := Nat.pow_le_pow_right (by omega) (by omega)
      omega))
    have HF2 : Hid (Nt.farOf (Nt.nats (Nt.joined ms bs)) ((2 ^ m : Nat) : Int) = Nt.far (Nt.joined ms bs) (2 ^ m)) := Lib.hid (Nt.farOf_ok hokj (by
      rw [Nt.joined_length, hm]
      exact Nt.two_pow_lt (by omega)))
    have HF3 : Hid (Nt.farOf (Nt.nats bs) 1 = Nt.far bs 1) := Lib.hid (by
      have h := Nt.farOf_ok hok2 (set := 1) (Nat.one_lt_two_pow (by omega))
      exact h)
    have HD1 : Hid (∀ k, Nt.dist (Nt.joined ms bs) (2 ^ m - 1) 64 (m + k) = -1) := Lib.hid (fun k => by
      rw [hm]
      exact Nt.dist_first ms bs hok1.fit (by have := Nat.two_pow_pos ms.length; omega) k 64)
    have HD2 : Hid (∀ k, Nt.dist (Nt.joined ms bs) (2 ^ m) 64 (m + k) = Nt.dist bs 1 64 k) := Lib.hid (fun k => by
      have h := Nt.dist_second ms bs hok1.fit 1 k 64
      rw [Nat.one_mul] at h
      rw [hm]
      exact h)
    rw [← hm] at hm1
    rw [← hbb] at hb1
    rw [← hm, ← hbb] at hsum
    obtain ⟨g, cap1, rfl, _, _⟩ := hs.row hm.symm hm1
    obtain ⟨g2, cap2, rfl, _, _⟩ := ht.row hbb.symm hb1
    have HB := Lib.hid hbb
    have HE1 := Lib.hid (pow_predJ (k := m) (by omega))
    have HE2 := Lib.hid (pow_wrapJ (k := m) (by omega))
    have hs2 : 2 ≤ s := by omega
    have hs6 : s ≤ 6 := by omega
    have HMJ := Lib.hid (fun j (hj : j < b) => show m + j < s by omega)
    have HSM := Lib.hid hsm
    clear hs ht hok1 hok2 hokj hm hbb hj hl hsm
    go_wp2_with fail
    refine (iJoined_any (Nt.nats ms) (Nt.nats bs) _ _ _ _ _ HS.out HT.out).mono ?_
    rintro e w2 ⟨u2, rfl, hx, hk2⟩
    rw [HJ.out]
    rw [HJL.out] at hx
    obtain ⟨gx, capx, rfl, _, _⟩ := hx.row HLJ.out (by omega)
    have HX := Lib.hid hx
    have HS2 := Lib.hid (HS.out.stay hk2)
    have HT2 := Lib.hid (HT.out.stay hk2)
    have HK2 := Lib.hid (HK.out.trans hk2 (by simp))
    clear hx hk2 HS HT HK
    go_wp2_with fail
    refine (sJoined_any (Nt.nats ms) (Nt.nats bs) _ _ _ _ _ HS2.out HT2.out).mono ?_
    rintro e w3 ⟨u3, rfl, hy, hk3⟩
    rw [HJ.out]
    rw [HJL.out] at hy
    have HY := Lib.hid hy
    have HX3 := Lib.hid (HX.out.stay hk3)
    have HT3 := Lib.hid (HT2.out.stay hk3)
    have HK3 := Lib.hid (HK2.out.trans hk3 (by simp))
    clear hy hk3 HS2 HT2 HK2 HX
    go_wp2_with fail
    refine (sameInts_any _ _ _ _ _ _ _ HX3.out HY.out).mono ?_
    rintro e w4 ⟨rfl, hq⟩
    rw [dec_of rfl]
    have HX4 := Lib.hid (hq.sl HX3.out)
    have HT4 := Lib.hid (hq.sl HT3.out)
    have HK4 := Lib.hid (HK3.out.trans hq.kept (by simp))
    clear hq HX3 HT3 HK3 HY
    go_wp2_with fail
    rw [HE1.out]
    refine (iFar_any (Nt.nats (Nt.joined ms bs)) ((2 ^ m - 1 : Nat) : Int) _ _ _ HX4.out).mono ?_
    rintro e w5 ⟨u5, rfl, h5, hk5⟩
    rw [HF1.out] at h5
    obtain ⟨g5, cap5, rfl, _, hg5⟩ := h5.shape (n := s) (by rw [Nt.far_length]; exact HLJ.out) (by omega)
    have HA5 := Lib.hid (fun j (hj : j < b) => ((h5.at (m + j) (by rw [Nt.far_length, HLJ.out]; exact HMJ.out j hj)).1).trans (by rw [Nt.far_get _ _ (by rw [HLJ.out]; exact HMJ.out j hj), HD1.out]))
    have HX5 := Lib.hid (HX4.out.stay hk5)
    have HT5 := Lib.hid (HT4.out.stay hk5)
    have HK5 := Lib.hid (HK4.out.trans hk5 (by simp))
    clear h5 hk5 HX4 HT4 HK4
    go_wp2_with fail
    rw [HE2.out]
    refine (iFar_any (Nt.nats (Nt.joined ms bs)) ((2 ^ m : Nat) : Int) _ _ _ HX5.out).mono ?_
    rintro e w6 ⟨u6, rfl, h6, hk6⟩
    rw [HF2.out] at h6
    obtain ⟨g6, cap6, rfl, _, hg6⟩ := h6.shape (n := s) (by rw [Nt.far_length]; exact HLJ.out) (by omega)
    have HA6 := Lib.hid (fun j (hj : j < b) => (hk6.cell (p := ⟨g5, m + j, none⟩) hg5 (by simp)).trans (HA5.out j hj))
    have HB6 := Lib.hid (fun j (hj : j < b) => ((h6.at (m + j) (by rw [Nt.far_length, HLJ.out]; exact HMJ.out j hj)).1).trans (by rw [Nt.far_get _ _ (by rw [HLJ.out]; exact HMJ.out j hj), HD2.out]))
    have HX6 := Lib.hid (HX5.out.stay hk6)
    have HT6 := Lib.hid (HT5.out.stay hk6)
    have HK6 := Lib.hid (HK5.out.trans hk6 (by simp))
    have hg56 := Nat.lt_of_lt_of_le hg5 hk6.size
    clear h6 hk6 HX5 HT5 HK5 HA5 hg5
    go_wp2_with fail
    refine (iFar_any (Nt.nats bs) 1 _ _ _ HT6.out).mono ?_
    rintro e w7 ⟨u7, rfl, h7, hk7⟩
    rw [HF3.out] at h7
    obtain ⟨g7, cap7, rfl, _, hg7⟩ := h7.shape (n := b) (by rw [Nt.far_length]; exact HB.out.symm) hb1
    have HA7 := Lib.hid (fun j (hj : j < b) => (hk7.cell (p := ⟨g5, m + j, none⟩) hg56 (by simp)).trans (HA6.out j hj))
    have HB7 := Lib.hid (fun j (hj : j < b) => (hk7.cell (p := ⟨g6, m + j, none⟩) hg6 (by simp)).trans (HB6.out j hj))
    have HC7 := Lib.hid (fun j (hj : j < b) => ((h7.at j (by rw [Nt.far_length, ← HB.out]; exact hj)).1).trans (by rw [Nt.far_get _ _ (by rw [← HB.out]; exact hj)]))
    have HX7 := Lib.hid (HX6.out.stay hk7)
    have HK7 := Lib.hid (HK6.out.trans hk7 (by simp))
    clear h7 hk7 HX6 HT6 HK6 HA6 HB6 hg56 hg6
    go_wp2
    go_loopw [12] (fun i wr => ∃ k : Nat, k ≤ b ∧ i = .int .i64 k ∧ Qt w7 wr) (fun i _ => b - (intOf i).toNat)
    case atStart => exact ⟨0, Nat.zero_le _, rfl, Qt.refl _⟩
    case round =>
      obtain ⟨k, hk, rfl, hq⟩ := hrel
      have HQ := Lib.hid hq
      by_cases hlt : k < b
      · have c1 := (hq.cell _).trans (HA7.out k hlt)
        have c2 := (hq.cell _).trans (HB7.out k hlt)
        have c3 := (hq.cell _).trans (HC7.out k hlt)
        clear hq
        generalize Nt.dist bs 1 64 k = d at *
        have hmk : (m : Int) + (k : Int) < (s : Int) := by have := HMJ.out k hlt; omega
        have ei : IntKind.i64.wrap ((m : Int) + (k : Int)) = (m : Int) + (k : Int) := IntWalk.i64_in _ (by omega)
        have q1 : ((-1 : Int) != -1) = false := by simp
        have q2 : (d != d) = false := by simp
        go_wp2_with fail
        go_quiet (fail)
        go_wp2
        go_roundw
        case rel => exact ⟨k + 1, by omega, by go_num, HQ.out.draw _⟩
        case measure => simp [intOf]; omega
      · have hk' : k = b := by omega
        subst hk'
        have HX8 := Lib.hid (hq.sl HX7.out)
        clear hq
        have hes : ((s : Int) == (m : Int) + (k : Int)) = true := by have := HSM.out; simp; omega
        go_wp2_with fail
        refine (iNetOk_any (Nt.nats (Nt.joined ms bs)) _ _ _ HX8.out).mono ?_
        rintro e w' ⟨rfl, rfl⟩
        rw [HOKB.out]
        go_wp2
        go_ret
        exact ⟨by simp, HK7.out.trans HQ.out.kept (by simp)⟩
  · have hj' : Nt.canJoin xs ys = false := by simpa using hj
    have HJ := Lib.hid hj'
    have HJL := Lib.hid (Nt.joinedL_no hj')
    obtain ⟨b, cap1, rfl, _, _, _⟩ := hs.any
    obtain ⟨b2, cap2, rfl, _, _, _⟩ := ht.any
    clear hs ht hj hj'
    go_wp2_with fail
    refine (iJoined_any xs ys _ _ _ _ _ HS.out HT.out).mono ?_
    rintro e w2 ⟨u2, rfl, hx, hk2⟩
    rw [HJ.out]
    rw [HJL.out] at hx
    have HX := Lib.hid hx
    obtain ⟨b3, cap3, rfl, _, _, _⟩ := hx.any
    have HS2 := Lib.hid (HS.out.stay hk2)
    have HT2 := Lib.hid (HT.out.stay hk2)
    have HK2 := Lib.hid (HK.out.trans hk2 (by simp))
    clear hx hk2 HS HT HK
    go_wp2_with fail
    refine (sJoined_any xs ys _ _ _ _ _ HS2.out HT2.out).mono ?_
    rintro e w3 ⟨u3, rfl, hy, hk3⟩
    rw [HJ.out]
    rw [HJL.out] at hy
    have HY := Lib.hid hy
    have HX3 := Lib.hid (HX.out.stay hk3)
    have HK3 := Lib.hid (HK2.out.trans hk3 (by simp))
    clear hy hk3 HS2 HT2 HK2 HX
    go_wp2_with fail
    refine (sameInts_any _ _ _ _ _ _ _ HX3.out HY.out).mono ?_
    rintro e w4 ⟨rfl, hq⟩
    rw [dec_of rfl]
    have HK4 := Lib.hid (HK3.out.trans hq.kept (by simp))
    clear hq HX3 HK3 HY
    go_wp2_with fail
    refine (alive_any _).mono ?_
    rintro e w5 ⟨rfl, hk⟩
    have HK5 := Lib.hid (HK4.out.trans hk (by simp))
    clear hk
    go_wp2
    go_ret
    exact ⟨rfl, HK5.out⟩
end Go.Proofs.Ytjogkppgmomggac
