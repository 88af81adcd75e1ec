/-
  The law of NamedNet, walked.
-/
import Derived.Test.YtjogkppgmomggacD8
import Derived.Test.YtjogkppgmomggacL1
import Derived.Test.YtjogkppgmomggacN2
import Derived.Test.YtjogkppgmomggacW10
namespace Go.Proofs.Ytjogkppgmomggac
open Go.RowKit

theorem pow_wrapN {k : Nat} (h : k ≤ 6) : wrap64 (2 ^ k) = ((2 ^ k : Nat) : Int) := by
  have h := wrap_pow k (by omega) (by omega)
  rw [Int.toNat_natCast] at h
  rw [h]
  exact (Int.natCast_pow 2 k).symm

theorem canName_cases {xs ys : List Int} (h : Nt.canName xs ys = true) : ∃ ns os, xs = Nt.nats ns ∧ ys = Nt.nats os ∧ Nt.Ok ns ∧ Nt.Ord ns.length os := by
  unfold Nt.canName at h
  rw [Bool.and_eq_true] at h
  obtain ⟨ns, rfl, h1⟩ := Nt.okB_ok h.1
  obtain ⟨os, rfl, h2⟩ := Nt.ordB_ord h.2
  rw [Nt.nats_length] at h2
  exact ⟨ns, os, rfl, rfl, h1, h2⟩

set_option maxHeartbeats 4000000 in
set_option maxRecDepth 100000 in
theorem FnNamedNet_calls (w : World) (v : Value) (ha : ArgB w v) :
    Calls Try.prog 5 #[v] w fun e w' => e = .returned (.bool true) ∧ Kept [] w w' := by
  have HA := Lib.hid ha
  obtain ⟨a, len, cap, rfl, hlc, hcm, _⟩ := ha
  by_cases hbig : 1048576 < len
  · have hb : (1048576 : Int) < (len : Int) := by omega
    clear hbig
    go_enter Try.func5, Try.ntmps5
    go_wp2
    go_ret
    exact ⟨rfl, Kept.refl _ _⟩
  have hb : ¬ (1048576 : Int) < (len : Int) := by omega
  clear hbig
  go_enter Try.func5, Try.ntmps5
  go_wp2_with fail
  refine (drawNamedNet_any _ _ HA.out).mono ?_
  rintro e w1 ⟨u, xs, v, ys, rfl, hs, ht, hl, hk⟩
  have HS := Lib.hid hs
  have HT := Lib.hid ht
  have HK := Lib.hid hk
  clear hk hb
  by_cases hj : Nt.canName xs ys = true
  · obtain ⟨ns, os, rfl, rfl, hok, hord⟩ := canName_cases hj
    obtain ⟨n, hn⟩ : ∃ n, n = ns.length := ⟨_, rfl⟩
    have hp := hok.some
    have h6 := hok.few
    have HJL := Lib.hid (Nt.namedL_ok hok hord)
    have HOKB := Lib.hid (Nt.ok_okB (Nt.named_ok hok hord))
    have HJ := Lib.hid hj
    have HNL : Hid ((Nt.named ns os).length = n) := Lib.hid (by rw [Nt.named_length, hn])
    have ho0 : os.getD 0 0 < n := by rw [hn]; exact hord.lt 0 (by omega)
    have HF1 : Hid (Nt.farOf (Nt.nats ns) 1 = Nt.far ns 1) := Lib.hid (by
      have h := Nt.farOf_ok hok (set := 1) (Nat.one_lt_two_pow (by omega))
      exact h)
    have HF2 : Hid (Nt.farOf (Nt.nats (Nt.named ns os)) ((2 ^ os.getD 0 0 : Nat) : Int) = Nt.far (Nt.named ns os) (2 ^ os.getD 0 0)) := Lib.hid (Nt.farOf_ok (Nt.named_ok hok hord) (by
      rw [Nt.named_length]
      exact Nt.two_pow_lt (hord.lt 0 (by omega))))
    have HD : Hid (∀ k, k < n → Nt.dist (Nt.named ns os) (2 ^ os.getD 0 0) 64 (os.getD k 0) = Nt.dist ns 1 64 k) := Lib.hid (fun k hk => by
      have h := Nt.dist_named hok hord 1 (k := k) (by rw [← hn]; exact hk) 64
      have e := Nt.nset_one hord (k := 0) (by omega)
      rw [show (2 : Nat) ^ 0 = 1 from rfl] at e
      rw [e] at h
      exact h)
    have HLT : Hid (∀ k, k < n → os.getD k 0 < n) := Lib.hid (fun k hk => by rw [hn]; exact hord.lt k (by rw [← hn]; exact hk))
    have hol := hord.len
    rw [← hn] at hp h6 hol
    obtain ⟨g, cap1, rfl, _, _⟩ := hs.row hn.symm hp
    obtain ⟨g2, cap2, rfl, hg2, hc2⟩ := ht.row hol hp
    have HC := Lib.hid hc2
    have HN := Lib.hid hn
    clear hs ht hok hord hn hj hl hc2 hol
    go_wp2_with fail
    refine (iNamed_any (Nt.nats ns) (Nt.nats os) _ _ _ _ _ HS.out HT.out).mono ?_
    rintro e w2 ⟨u2, rfl, hx, hk2⟩
    rw [HJ.out]
    rw [HJL.out] at hx
    obtain ⟨gx, capx, rfl, _, _⟩ := hx.row HNL.out hp
    have HX := Lib.hid hx
    have HS2 := Lib.hid (HS.out.stay hk2)
    have HT2 := Lib.hid (HT.out.stay hk2)
    have HC2 := Lib.hid (fun k (hk : k < n) => (hk2.cell (p := ⟨g2, k, none⟩) hg2 (by simp)).trans (HC.out k hk))
    have hg22 := Nat.lt_of_lt_of_le hg2 hk2.size
    have HK2 := Lib.hid (HK.out.trans hk2 (by simp))
    clear hx hk2 HS HT HK HC hg2
    go_wp2_with fail
    refine (sNamed_any (Nt.nats ns) (Nt.nats os) _ _ _ _ _ HS2.out HT2.out).mono ?_
    rintro e w3 ⟨u3, rfl, hy, hk3⟩
    rw [HJ.out]
    rw [HJL.out] at hy
    have HY := Lib.hid hy
    have HX3 := Lib.hid (HX.out.stay hk3)
    have HS3 := Lib.hid (HS2.out.stay hk3)
    have HC3 := Lib.hid (fun k (hk : k < n) => (hk3.cell (p := ⟨g2, k, none⟩) hg22 (by simp)).trans (HC2.out k hk))
    have hg23 := Nat.lt_of_lt_of_le hg22 hk3.size
    have HK3 := Lib.hid (HK2.out.trans hk3 (by simp))
    clear hy hk3 HS2 HT2 HK2 HX HC2 hg22
    go_wp2_with fail
    refine (sameInts_any _ _ _ _ _ _ _ HX3.out HY.out).mono ?_
    rintro e w4 ⟨rfl, hq⟩
    rw [dec_of rfl]
    have HX4 := Lib.hid (hq.sl HX3.out)
    have HS4 := Lib.hid (hq.sl HS3.out)
    have HC4 := Lib.hid (fun k (hk : k < n) => (hq.cell ⟨g2, k, none⟩).trans (HC3.out k hk))
    have hg24 : g2 < w4.heap.size := by rw [hq.heap]; exact hg23
    have HK4 := Lib.hid (HK3.out.trans hq.kept (by simp))
    clear hq HX3 HS3 HK3 HY HC3 hg23
    go_wp2_with fail
    refine (iFar_any (Nt.nats ns) 1 _ _ _ HS4.out).mono ?_
    rintro e w5 ⟨u5, rfl, h5, hk5⟩
    rw [HF1.out] at h5
    obtain ⟨g5, cap5, rfl, _, hg5⟩ := h5.shape (n := n) (by rw [Nt.far_length]; exact HN.out.symm) hp
    have HA5 := Lib.hid (fun j (hj : j < n) => ((h5.at j (by rw [Nt.far_length, ← HN.out]; exact hj)).1).trans (by rw [Nt.far_get _ _ (by rw [← HN.out]; exact hj)]))
    have HX5 := Lib.hid (HX4.out.stay hk5)
    have HC5 := Lib.hid (fun k (hk : k < n) => (hk5.cell (p := ⟨g2, k, none⟩) hg24 (by simp)).trans (HC4.out k hk))
    have hg25 := Nat.lt_of_lt_of_le hg24 hk5.size
    have HK5 := Lib.hid (HK4.out.trans hk5 (by simp))
    clear h5 hk5 HX4 HS4 HK4 HC4 hg24
    have c0 := HC5.out 0 (by omega)
    have HE := Lib.hid (pow_wrapN (k := os.getD 0 0) (by omega))
    generalize ho0v : os.getD 0 0 = o0 at *
    have HO0 := Lib.hid ho0v
    clear ho0v
    go_wp2_with fail
    rw [HE.out]
    refine (iFar_any (Nt.nats (Nt.named ns os)) ((2 ^ o0 : Nat) : Int) _ _ _ HX5.out).mono ?_
    rintro e w6 ⟨u6, rfl, h6', hk6⟩
    rw [HF2.out] at h6'
    obtain ⟨g6, cap6, rfl, _, hg6⟩ := h6'.shape (n := n) (by rw [Nt.far_length]; exact HNL.out) hp
    have HA6 := Lib.hid (fun j (hj : j < n) => (hk6.cell (p := ⟨g5, j, none⟩) hg5 (by simp)).trans (HA5.out j hj))
    have HB6 := Lib.hid (fun j (hj : j < n) => ((h6'.at (os.getD j 0) (by rw [Nt.far_length, HNL.out]; exact HLT.out j hj)).1).trans (by rw [Nt.far_get _ _ (by rw [HNL.out]; exact HLT.out j hj), HD.out j hj]))
    have HC6 := Lib.hid (fun k (hk : k < n) => (hk6.cell (p := ⟨g2, k, none⟩) hg25 (by simp)).trans (HC5.out k hk))
    have HX6 := Lib.hid (HX5.out.stay hk6)
    have HK6 := Lib.hid (HK5.out.trans hk6 (by simp))
    clear h6' hk6 HX5 HK5 HA5 HC5 hg25 c0
    go_wp2
    go_loopw [11] (fun i wr => ∃ k : Nat, k ≤ n ∧ i = .int .i64 k ∧ Qt w6 wr) (fun i _ => n - (intOf i).toNat)
    case atStart => exact ⟨0, Nat.zero_le _, rfl, Qt.refl _⟩
    case round =>
      obtain ⟨k, hk, rfl, hq⟩ := hrel
      have HQ := Lib.hid hq
      by_cases hlt : k < n
      · have c1 := (hq.cell _).trans (HA6.out k hlt)
        have c2 := (hq.cell _).trans (HB6.out k hlt)
        have c3 := (hq.cell _).trans (HC6.out k hlt)
        have hlk := HLT.out k hlt
        clear hq
        generalize Nt.dist ns 1 64 k = d at *
        generalize os.getD k 0 = y at *
        have q2 : (d != d) = false := by simp
        go_wp2_with fail
        go_quiet (fail)
        go_wp2
        go_roundw
        case rel => exact ⟨k + 1, by omega, by go_num, HQ.out.draw _⟩
        case measure => simp [intOf]; omega
      · have hk' : k = n := by omega
        subst hk'
        have HX8 := Lib.hid (hq.sl HX6.out)
        clear hq
        go_wp2_with fail
        refine (iNetOk_any (Nt.nats (Nt.named ns os)) _ _ _ HX8.out).mono ?_
        rintro e w' ⟨rfl, rfl⟩
        rw [HOKB.out]
        go_wp2
        go_ret
        exact ⟨by simp, HK6.out.trans HQ.out.kept (by simp)⟩
  · have hj' : Nt.canName xs ys = false := by simpa using hj
    have HJ := Lib.hid hj'
    have HJL := Lib.hid (Nt.namedL_no hj')
    obtain ⟨b, cap1, rfl, _, _, _⟩ := hs.any
    obtain ⟨b2, cap2, rfl, _, _, _⟩ := ht.any
    clear hs ht hj hj'
    go_wp2_with fail
    refine (iNamed_any xs ys _ _ _ _ _ HS.out HT.out).mono ?_
    rintro e w2 ⟨u2, rfl, hx, hk2⟩
    rw [HJ.out]
    rw [HJL.out] at hx
    have HX := Lib.hid hx
    obtain ⟨b3, cap3, rfl, _, _, _⟩ := hx.any
    have HS2 := Lib.hid (HS.out.stay hk2)
    have HT2 := Lib.hid (HT.out.stay hk2)
    have HK2 := Lib.hid (HK.out.trans hk2 (by simp))
    clear hx hk2 HS HT HK
    go_wp2_with fail
    refine (sNamed_any xs ys _ _ _ _ _ HS2.out HT2.out).mono ?_
    rintro e w3 ⟨u3, rfl, hy, hk3⟩
    rw [HJ.out]
    rw [HJL.out] at hy
    have HY := Lib.hid hy
    have HX3 := Lib.hid (HX.out.stay hk3)
    have HK3 := Lib.hid (HK2.out.trans hk3 (by simp))
    clear hy hk3 HS2 HT2 HK2 HX
    go_wp2_with fail
    refine (sameInts_any _ _ _ _ _ _ _ HX3.out HY.out).mono ?_
    rintro e w4 ⟨rfl, hq⟩
    rw [dec_of rfl]
    have HK4 := Lib.hid (HK3.out.trans hq.kept (by simp))
    clear hq HX3 HK3 HY
    go_wp2_with fail
    refine (alive_any _).mono ?_
    rintro e w5 ⟨rfl, hk⟩
    have HK5 := Lib.hid (HK4.out.trans hk (by simp))
    clear hk
    go_wp2
    go_ret
    exact ⟨rfl, HK5.out⟩
end Go.Proofs.Ytjogkppgmomggac
