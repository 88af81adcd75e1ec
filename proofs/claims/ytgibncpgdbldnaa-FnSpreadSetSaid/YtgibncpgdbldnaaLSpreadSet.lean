/-
  The law SpreadSet, walked.
-/
import Derived.Test.YtgibncpgdbldnaaDE
import Derived.Test.YtgibncpgdbldnaaL1
import Derived.Test.YtgibncpgdbldnaaZP
import Derived.Test.YtgibncpgdbldnaaZM
import Derived.Test.YtgibncpgdbldnaaPureQV
namespace Go.Proofs.Ytgibncpgdbldnaa
open Go.RowKit

set_option maxHeartbeats 4000000 in
set_option maxRecDepth 100000 in
theorem FnSpreadSet_calls (w : World) (v v' : Value) (ha : ArgB w v) (ha' : ArgB w v') :
    Calls Try.prog 5 #[v, v'] w fun e w' => e = .returned (.bool true) ∧ Kept [] w w' := by
  have HA := Lib.hid ha
  have HA' := Lib.hid ha'
  obtain ⟨a, len, cap, rfl, hlc, hcm, _⟩ := ha
  obtain ⟨a', len', cap', rfl, hlc', hcm', _⟩ := ha'
  by_cases hbig : 1048576 < len
  · have hb : (1048576 : Int) < (len : Int) := by omega
    clear hbig
    go_enter Try.func5, Try.ntmps5
    go_wp2
    go_ret
    exact ⟨rfl, Kept.refl _ _⟩
  have hb : ¬ (1048576 : Int) < (len : Int) := by omega
  clear hbig
  by_cases hbig : 1048576 < len'
  · have hb' : (1048576 : Int) < (len' : Int) := by omega
    clear hbig
    go_enter Try.func5, Try.ntmps5
    go_wp2
    go_ret
    exact ⟨rfl, Kept.refl _ _⟩
  have hb' : ¬ (1048576 : Int) < (len' : Int) := by omega
  clear hbig
  go_enter Try.func5, Try.ntmps5
  go_wp2_with fail
  refine (drawSpreadSet_any _ _ HA.out).mono ?_
  rintro e w1 ⟨u, xs, v2, nds, x, rfl, hs, hd, _, _, hk⟩
  have S1 := Lib.hid hs
  have D1 := Lib.hid hd
  have HK := Lib.hid hk
  clear hk
  cases h1 : Nt.sprB xs nds x
  · have HV := Lib.hid (Nt.sprOf_no h1)
    have HV2 := Lib.hid (Nt.sprN_no h1)
    clear h1 hb hb'
    obtain ⟨bS, capS, rfl, _, _, _⟩ := hs.any
    obtain ⟨bD, capD, rfl, _, _, _⟩ := hd.any
    clear hs hd
    go_wp2_with fail
    refine (iSpread_any _ _ _ _ _ _ _ _ S1.out D1.out).mono ?_
    rintro e w2 ⟨rfl, hk⟩
    rw [HV.out, HV2.out]
    have S2 := Lib.hid (S1.out.stay hk)
    have D2 := Lib.hid (D1.out.stay hk)
    have HK2 := Lib.hid (HK.out.trans hk (by simp))
    clear S1 D1 HK
    clear hk
    go_wp2_with fail
    refine (sSpread_any _ _ _ _ _ _ _ _ S2.out D2.out).mono ?_
    rintro e w3 ⟨rfl, hq⟩
    rw [HV.out, HV2.out]
    have hk := hq.kept
    have S3 := Lib.hid (S2.out.stay hk)
    have D3 := Lib.hid (D2.out.stay hk)
    have HK3 := Lib.hid (HK2.out.trans hk (by simp))
    clear S2 D2 HK2
    clear hk hq
    go_wp2_with fail
    refine (alive_any _).mono ?_
    rintro e w4 ⟨rfl, hk⟩
    have S4 := Lib.hid (S3.out.stay hk)
    have D4 := Lib.hid (D3.out.stay hk)
    have HK4 := Lib.hid (HK3.out.trans hk (by simp))
    clear S3 D3 HK3
    clear hk
    go_wp2
    go_ret
    exact ⟨rfl, HK4.out⟩
  · obtain ⟨ns, nd, s, rfl, rfl, rfl, ok, hn, hs2⟩ := Nt.sprB_ok h1
    obtain ⟨n, hnn⟩ : ∃ n, n = ns.length := ⟨_, rfl⟩
    have hp : 0 < n := by have := ok.some; omega
    have h6n : n ≤ 6 := by have := ok.few; omega
    have h64 : 2 ^ ns.length ≤ 64 := Nt.pow_le ok.few
    have hs3 : s < 64 := by omega
    have h64n : 2 ^ n ≤ 64 := Nt.pow_le h6n
    have hz := Nt.spread_lt (nd := nd) hs2
    have HV := Lib.hid (Nt.sprOf_ok ok hn hs2)
    have HV2 := Lib.hid (Nt.sprN_ok ok hn hs2)
    have HA1 : Hid (Nt.sprOf (Nt.nats ns) (Nt.nats nd) ((Nt.spread ns nd s : Nat) : Int) = ((Nt.spread ns nd s : Nat) : Int)) := Lib.hid (by rw [Nt.sprOf_ok ok hn hz, Nt.spread_spread hs2])
    have HA2 : Hid (Nt.sprN (Nt.nats ns) (Nt.nats nd) ((Nt.spread ns nd s : Nat) : Int) = 0) := Lib.hid (by rw [Nt.sprN_ok ok hn hz, Nt.spN_spread hs2]; rfl)
    have HWS : Hid (∀ b, Nt.sprOf (Nt.nats ns) (Nt.nats nd) ((s ||| (b % 2 ^ n) : Nat) : Int) = ((Nt.spread ns nd (s ||| (b % 2 ^ n)) : Nat) : Int)) := Lib.hid (fun b => by rw [hnn]; exact Nt.sprOf_ok ok hn (Nt.or_wide hs2))
    have HWA : Hid (∀ b, bits .and .i64 ((Nt.spread ns nd (s ||| (b % 2 ^ n)) : Nat) : Int) ((Nt.spread ns nd s : Nat) : Int) = ((Nt.spread ns nd s : Nat) : Int)) := Lib.hid (fun b => by
      have h1 := Nt.spread_lt (nd := nd) (Nt.or_wide (b := b) hs2)
      rw [hnn, bits_and_nat _ _ (by omega) (by omega), Nt.spread_wide hs2])
    have HWO : Hid (∀ b, bits .or .i64 (s : Int) ((b % 2 ^ n : Nat) : Int) = ((s ||| (b % 2 ^ n) : Nat) : Int)) := Lib.hid (fun b => by
      have h1 := Nat.mod_lt b (Nat.two_pow_pos n)
      exact bits_or_nat _ _ (by omega) (by omega))
    have HAS : Hid (bits .and .i64 ((Nt.spread ns nd s : Nat) : Int) (s : Int) = (s : Int)) := Lib.hid (by rw [bits_and_nat _ _ (by omega) (by omega), Nt.spread_has])
    have HAA : Hid (bits .and .i64 ((Nt.spread ns nd s : Nat) : Int) ((Nt.spread ns nd s : Nat) : Int) = ((Nt.spread ns nd s : Nat) : Int)) := Lib.hid (by rw [bits_and_nat _ _ (by omega) (by omega), Nat.and_self])
    have hT : ((Nt.spN ns nd s : Nat) : Int) ≤ (n : Int) := by have := Nt.spN_le (nd := nd) hs2; omega
    have HT := Lib.hid hT
    have EP : Hid (wrap64 (2 ^ n) = ((2 ^ n : Nat) : Int)) := Lib.hid (by
      have h := wrap_pow n (by omega) (by omega)
      rw [Int.toNat_natCast] at h
      rw [h]; exact (pow_int n).symm)
    have ht0 : ¬ 2 ^ n = 0 := Nat.ne_of_gt (Nat.two_pow_pos n)
    have HT0 := Lib.hid ht0
    obtain ⟨gS, capS, rfl, _, _⟩ := hs.row (n := n) hnn.symm hp
    obtain ⟨gD, capD, rfl, _, _⟩ := hd.row (n := n) (by rw [hn.len, hnn]) hp
    clear hs hd h1 hb hb' ok hn hs2 h64 hz hnn hT ht0 hs3 h64n
    generalize Nt.spN ns nd s = T at *
    generalize hz : Nt.spread ns nd s = z at *
    have d0 : decide ((z : Int) < 0) = false := decide_eq_false (by omega)
    have d1 : ((z : Int) != (z : Int)) = false := by simp
    have d2 : ((T : Int) != (T : Int)) = false := by simp
    have d3 : ((z : Int) == (z : Int)) = true := by simp
    have d4 : ((s : Int) == (s : Int)) = true := by simp
    go_wp2_with fail
    refine (iSpread_any _ _ _ _ _ _ _ _ S1.out D1.out).mono ?_
    rintro e w2 ⟨rfl, hk⟩
    rw [HV.out, HV2.out]
    have S2 := Lib.hid (S1.out.stay hk)
    have D2 := Lib.hid (D1.out.stay hk)
    have HK2 := Lib.hid (HK.out.trans hk (by simp))
    clear S1 D1 HK
    clear hk
    go_wp2_with fail
    refine (sSpread_any _ _ _ _ _ _ _ _ S2.out D2.out).mono ?_
    rintro e w3 ⟨rfl, hq⟩
    rw [HV.out, HV2.out]
    have hk := hq.kept
    have S3 := Lib.hid (S2.out.stay hk)
    have D3 := Lib.hid (D2.out.stay hk)
    have HK3 := Lib.hid (HK2.out.trans hk (by simp))
    clear S2 D2 HK2
    clear hk hq
    by_cases hl0 : 0 < len'
    · obtain ⟨a9, l9, c9, e9, _, _, hc9⟩ := HA'.out
      simp at e9
      obtain ⟨rfl, rfl, rfl⟩ := e9
      obtain ⟨b9, off9, u9, rfl, hb9, hu9, hc10⟩ := hc9 0 hl0
      have cm := (HK3.out.cell (p := ⟨b9, off9 + 0, none⟩) hb9 (by simp)).trans hc10
      rw [Nat.add_zero] at cm
      have HX1 := Lib.hid (HWS.out u9)
      have HX2 := Lib.hid (HWA.out u9)
      have HX3 := Lib.hid (HWO.out u9)
      have e1 := tmod_nat u9 (2 ^ n)
      have ep := EP.out
      have ht0 := HT0.out
      have d5 : decide (0 < len') = true := decide_eq_true hl0
      have d6 : decide ((0 : Int) < (len' : Int)) = true := decide_eq_true (by omega)
      generalize u9 % 2 ^ n = m at *
      generalize 2 ^ n = top at *
      have x3 := HX3.out
      generalize s ||| m = W at *
      generalize Nt.spread ns nd W = f at *
      generalize Nt.sprN (Nt.nats ns) (Nt.nats nd) (W : Int) = y at *
      clear hc9 hc10
      go_wp2_with fail
      go_quiet (fail)
      have hk : Kept [] w3 (w3.drewN nq) := Qt.kept ⟨nq, rfl⟩
      have S4 := Lib.hid (S3.out.stay hk)
      have D4 := Lib.hid (D3.out.stay hk)
      have HK4 := Lib.hid (HK3.out.trans hk (by simp))
      clear S3 D3 HK3
      clear hk
      go_wp2_with fail
      refine (iSpread_any _ _ _ _ _ _ _ _ S4.out D4.out).mono ?_
      rintro e w5 ⟨rfl, hk⟩
      rw [HA1.out, HA2.out]
      have S5 := Lib.hid (S4.out.stay hk)
      have D5 := Lib.hid (D4.out.stay hk)
      have HK5 := Lib.hid (HK4.out.trans hk (by simp))
      clear S4 D4 HK4
      clear hk
      go_wp2_with fail
      refine (iSpread_any _ _ _ _ _ _ _ _ S5.out D5.out).mono ?_
      rintro e w6 ⟨rfl, hk⟩
      rw [HX1.out]
      have S6 := Lib.hid (S5.out.stay hk)
      have D6 := Lib.hid (D5.out.stay hk)
      have HK6 := Lib.hid (HK5.out.trans hk (by simp))
      clear S5 D5 HK5
      clear hk
      have a1 := HAS.out
      have a2 := HX2.out
      have hT := HT.out
      go_wp2
      go_ret
      exact ⟨rfl, HK6.out⟩
    · have d5 : decide (0 < len') = false := decide_eq_false hl0
      have d6 : decide ((0 : Int) < (len' : Int)) = false := decide_eq_false (by omega)
      go_wp2_with fail
      refine (iSpread_any _ _ _ _ _ _ _ _ S3.out D3.out).mono ?_
      rintro e w4 ⟨rfl, hk⟩
      rw [HA1.out, HA2.out]
      have S4 := Lib.hid (S3.out.stay hk)
      have D4 := Lib.hid (D3.out.stay hk)
      have HK4 := Lib.hid (HK3.out.trans hk (by simp))
      clear S3 D3 HK3
      clear hk
      go_wp2_with fail
      refine (iSpread_any _ _ _ _ _ _ _ _ S4.out D4.out).mono ?_
      rintro e w5 ⟨rfl, hk⟩
      rw [HV.out, HV2.out]
      have S5 := Lib.hid (S4.out.stay hk)
      have D5 := Lib.hid (D4.out.stay hk)
      have HK5 := Lib.hid (HK4.out.trans hk (by simp))
      clear S4 D4 HK4
      clear hk
      have a1 := HAS.out
      have a2 := HAA.out
      have hT := HT.out
      go_wp2
      go_ret
      exact ⟨rfl, HK5.out⟩
end Go.Proofs.Ytgibncpgdbldnaa
