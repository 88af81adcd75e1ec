/-
  The law TreesFlat, walked.
-/
import Derived.Test.YtjpnepjpkgffpaaD22
import Derived.Test.YtjpnepjpkgffpaaL1
import Derived.Test.YtjpnepjpkgffpaaXP
import Derived.Test.YtjpnepjpkgffpaaXM
import Derived.Test.YtjpnepjpkgffpaaPureXV
import Derived.Test.YtjpnepjpkgffpaaFC
import Derived.Test.YtjpnepjpkgffpaaNC
import Derived.Test.YtjpnepjpkgffpaaW16
namespace Go.Proofs.Ytjpnepjpkgffpaa
open Go.RowKit

set_option maxHeartbeats 4000000 in
set_option maxRecDepth 100000 in
theorem FnTreesFlat_calls (w : World) (v : Value) (ha : ArgB w v) :
    Calls Try.prog 9 #[v] w fun e w' => e = .returned (.bool true) ∧ Kept [] w w' := by
  have HA := Lib.hid ha
  obtain ⟨a, len, cap, rfl, hlc, hcm, _⟩ := ha
  by_cases hbig : 1048576 < len
  · have hb : (1048576 : Int) < (len : Int) := by omega
    clear hbig
    go_enter Try.func9, Try.ntmps9
    go_wp2
    go_ret
    exact ⟨rfl, Kept.refl _ _⟩
  have hb : ¬ (1048576 : Int) < (len : Int) := by omega
  clear hbig
  go_enter Try.func9, Try.ntmps9
  go_wp2_with fail
  refine (drawFlatOk_any _ _ HA.out).mono ?_
  rintro e w1 ⟨u, xs, v, ys, rfl, hs, ht, hl1, hl2, hk⟩
  have S1 := Lib.hid hs
  have T1 := Lib.hid ht
  have HK := Lib.hid hk
  clear hk hb
  by_cases ho : Nt.fireB xs 3 ys = true
  · obtain ⟨ns, ks, rfl, rfl, ok, st, hl⟩ := Nt.fireB3_ok ho
    obtain ⟨n, hn⟩ : ∃ n, n = ks.length := ⟨_, rfl⟩
    have hp := st.some
    have h6 := st.few
    have HN := Lib.hid hn
    obtain ⟨ra, rb, hLL⟩ := Nt.loopIs_ex (Nt.nats ns) 3 (Nt.nats ks)
    have HLL := Lib.hid hLL
    have HE := Lib.hid (Nt.ends_flat hLL)
    have HOB := Lib.hid (Nt.ok_okB ok)
    have HSB := Lib.hid (Nt.st_stB3 st)
    have HPO := Lib.hid (Nt.partsOf_ok ok)
    have HPL : Hid ((Nt.parts ns).length = n) := Lib.hid (by rw [Nt.parts_length ok]; omega)
    have HV := Lib.hid (Nt.wiresOf_ok ok)
    have HRP : Hid (Nt.reps (Nt.parts ns) = Nt.sumTo (fun i => if (Nt.parts ns).getD i 0 = i then 1 else 0) n) := Lib.hid (by unfold Nt.reps; rw [HPL.out])
    have hrw : n ≤ Nt.reps (Nt.parts ns) + Nt.wires ns := by rw [hn, hl]; exact Nt.wires_parts ns
    have HFT : Hid (Nt.reps (Nt.parts ns) + Nt.wires ns ≤ n → Nt.flatOf (Nt.nats ns) (Nt.nats ks) = true) := Lib.hid (fun h => Nt.flatOf_yes ok st hl (Nt.trees_flat ok hl (by omega)))
    have HRN : Hid (∀ k, Nt.sumTo (fun i => if (Nt.parts ns).getD i 0 = i then 1 else 0) k ≤ k * 1) := Lib.hid (fun k => Nt.sumTo_le k (fun i _ => by split <;> omega))
    have HRS : Hid (∀ k, Nt.sumTo (fun i => if (Nt.parts ns).getD i 0 = i then 1 else 0) (k + 1) = Nt.sumTo (fun i => if (Nt.parts ns).getD i 0 = i then 1 else 0) k + (if (Nt.parts ns).getD k 0 = k then 1 else 0)) := Lib.hid (fun _ => rfl)
    have hw18 : Nt.wires ns ≤ 18 := by
      have h1 := Nt.ends_few ns (k := ns.length) ok.few
      have h2 := Nt.ends_wires ok
      omega
    rw [HRP.out] at hrw HFT
    have HS0 : Hid (Nt.sumTo (fun i => if (Nt.parts ns).getD i 0 = i then 1 else 0) 0 = 0) := Lib.hid rfl
    have hln : (Nt.nats ns).length = n := by rw [Nt.nats_length]; omega
    have hlk : (Nt.nats ks).length = n := by rw [Nt.nats_length]; omega
    have hnn : ((n : Int) != (n : Int)) = false := by simp
    rw [← hn] at hp h6
    obtain ⟨gS, capS, rfl, hgS, hcS⟩ := hs.row (n := n) (by omega) hp
    obtain ⟨gT, capT, rfl, _, _⟩ := ht.row hn.symm hp
    clear hs ht ok st hl hn ho hl1 hl2 hLL hgS hcS hln hlk
    generalize Nt.wires ns = wv at *
    generalize (fun i => if (Nt.parts ns).getD i 0 = i then 1 else 0) = F at *
    go_wp2_with fail
    refine (sNetOk_any _ _ _ _ S1.out).mono ?_
    rintro e w2 ⟨rfl, hq⟩
    rw [HOB.out]
    have hk := hq.kept
    have S2 := Lib.hid (S1.out.stay hk)
    have T2 := Lib.hid (T1.out.stay hk)
    have HK2 := Lib.hid (HK.out.trans hk (by simp))
    clear S1 T1 HK
    clear hk hq
    go_wp2_with fail
    refine (sStateOk_any 3 _ _ _ _ T2.out).mono ?_
    rintro e w' ⟨rfl, rfl⟩
    rw [HSB.out]
    go_wp2_with fail
    refine (iParts_any _ _ _ _ S2.out).mono ?_
    rintro e w3 ⟨u3, rfl, hs, hk⟩
    rw [HPO.out] at hs
    have P3 := Lib.hid hs
    obtain ⟨gP, capP, rfl, hgP, hcP⟩ := hs.row HPL.out hp
    have CP3 := Lib.hid hcP
    have lP3 := Lib.hid hgP
    clear hgP hcP
    have S3 := Lib.hid (S2.out.stay hk)
    have T3 := Lib.hid (T2.out.stay hk)
    have HK3 := Lib.hid (HK2.out.trans hk (by simp))
    clear S2 T2 HK2
    clear hs hk
    go_wp2_with fail
    go_loopw [6, 7] (fun c i wr => ∃ k : Nat, k ≤ n ∧ i = .int .i64 k ∧ c = .int .i64 ((Nt.sumTo F k : Nat) : Int) ∧ w3 = wr) (fun _ i _ => n - (intOf i).toNat)
    case atStart => exact ⟨0, Nat.zero_le _, rfl, by rw [HS0.out]; rfl, rfl⟩
    case round =>
      obtain ⟨k, hk, rfl, rfl, rfl⟩ := hrel
      have HNX := Lib.hid (HRS.out k)
      have hrn := HRN.out k
      by_cases hlt : k < n
      · have kP := CP3.out k hlt
        generalize hsm : Nt.sumTo F k = sm at *
        clear hsm
        generalize (Nt.parts ns).getD k 0 = p at *
        by_cases hpk : p = k
        · have d1 : ((p : Int) == (k : Int)) = true := by simp [hpk]
          have HV2 : Hid (((Nt.sumTo F (k + 1) : Nat) : Int) = (sm : Int) + 1) := Lib.hid (by rw [HNX.out, if_pos hpk]; omega)
          clear HNX hpk
          go_wp2
          go_roundw
          case rel => exact ⟨k + 1, by omega, by go_num, by rw [HV2.out], by first | rfl | trivial⟩
          case measure => simp [intOf]; omega
        · have d1 : ((p : Int) == (k : Int)) = false := beq_eq_false_iff_ne.2 (by omega)
          have HV2 : Hid (((Nt.sumTo F (k + 1) : Nat) : Int) = (sm : Int)) := Lib.hid (by rw [HNX.out, if_neg hpk]; omega)
          clear HNX hpk
          go_wp2
          go_roundw
          case rel => exact ⟨k + 1, by omega, by go_num, by rw [HV2.out], by first | rfl | trivial⟩
          case measure => simp [intOf]; omega
      · have hk' : k = n := by omega
        subst hk'
        clear HNX hlt
        generalize Nt.sumTo F k = sm at *
        have s1 : IntKind.i64.wrap ((k : Int) - (sm : Int)) = (k : Int) - (sm : Int) := IntWalk.i64_in _ (by omega)
        go_wp2_with fail
        refine (iWires_any _ _ _ _ S3.out).mono ?_
        rintro e w' ⟨rfl, rfl⟩
        rw [HV.out]
        by_cases hq : (wv : Int) = (k : Int) - (sm : Int)
        · have d1 : ((wv : Int) != (k : Int) - (sm : Int)) = false := by simp [hq]
          have hfl := HFT.out (by omega)
          have hE := HE.out
          rw [hfl] at hE
          have HFL := Lib.hid hfl
          clear hq hfl
          go_wp2_with fail
          refine (alive_any _).mono ?_
          rintro e w21 ⟨rfl, hk⟩
          have S21 := Lib.hid (S3.out.stay hk)
          have T21 := Lib.hid (T3.out.stay hk)
          have P21 := Lib.hid (P3.out.stay hk)
          have HK21 := Lib.hid (HK3.out.trans hk (by simp))
          clear S3 T3 P3 HK3
          clear hk
          go_wp2_with fail
          refine (iFlat_any _ _ _ _ _ _ _ S21.out T21.out).mono ?_
          rintro e w22 ⟨rfl, hk⟩
          rw [HFL.out]
          have S22 := Lib.hid (S21.out.stay hk)
          have T22 := Lib.hid (T21.out.stay hk)
          have P22 := Lib.hid (P21.out.stay hk)
          have HK22 := Lib.hid (HK21.out.trans hk (by simp))
          clear S21 T21 P21 HK21
          clear hk
          go_wp2_with fail
          refine (iEnds_any _ _ _ HLL.out _ _ _ _ _ S22.out T22.out).mono ?_
          rintro e w23 ⟨rfl, hk⟩
          have S23 := Lib.hid (S22.out.stay hk)
          have T23 := Lib.hid (T22.out.stay hk)
          have P23 := Lib.hid (P22.out.stay hk)
          have HK23 := Lib.hid (HK22.out.trans hk (by simp))
          clear S22 T22 P22 HK22
          clear hk
          go_wp2
          go_ret
          exact ⟨by first | rfl | simp, HK23.out⟩
        · have d1 : ((wv : Int) != (k : Int) - (sm : Int)) = true := bne_iff_ne.2 hq
          have d2 : decide ((k : Int) - (sm : Int) < (wv : Int)) = true := decide_eq_true (by omega)
          clear hq
          go_wp2_with fail
          refine (iWires_any _ _ _ _ S3.out).mono ?_
          rintro e w' ⟨rfl, rfl⟩
          rw [HV.out]
          go_wp2_with fail
          refine (alive_any _).mono ?_
          rintro e w31 ⟨rfl, hk⟩
          have S31 := Lib.hid (S3.out.stay hk)
          have T31 := Lib.hid (T3.out.stay hk)
          have P31 := Lib.hid (P3.out.stay hk)
          have HK31 := Lib.hid (HK3.out.trans hk (by simp))
          clear S3 T3 P3 HK3
          clear hk
          go_wp2
          go_ret
          exact ⟨by first | rfl | simp, HK31.out⟩
  · have ho' : Nt.fireB xs 3 ys = false := by simpa using ho
    have HB := Lib.hid (Nt.flatOf_no1 ho')
    have HO : Hid (Nt.okB xs = true → Nt.stB 3 ys = true → ¬ ys.length = xs.length) := Lib.hid (fun h1 h2 h3 => by
      unfold Nt.fireB at ho'
      rw [h1, h2, decide_eq_true h3] at ho'
      exact absurd ho' (by simp))
    clear ho ho'
    obtain ⟨bS, capS, rfl, _, _, _⟩ := hs.any
    obtain ⟨bT, capT, rfl, _, _, _⟩ := ht.any
    clear hs ht hl1 hl2
    go_wp2_with fail
    refine (sNetOk_any xs _ _ _ S1.out).mono ?_
    rintro e w2 ⟨rfl, hq⟩
    have hk := hq.kept
    have S2 := Lib.hid (S1.out.stay hk)
    have T2 := Lib.hid (T1.out.stay hk)
    have HK2 := Lib.hid (HK.out.trans hk (by simp))
    clear S1 T1 HK
    clear hk hq
    cases hob : Nt.okB xs
    · clear hob
      go_wp2_with fail
      refine (iFlat_any _ _ _ _ _ _ _ S2.out T2.out).mono ?_
      rintro e w21 ⟨rfl, hk⟩
      rw [HB.out]
      have S21 := Lib.hid (S2.out.stay hk)
      have T21 := Lib.hid (T2.out.stay hk)
      have HK21 := Lib.hid (HK2.out.trans hk (by simp))
      clear S2 T2 HK2
      clear hk
      go_wp2_with fail
      refine (alive_any _).mono ?_
      rintro e w22 ⟨rfl, hk⟩
      have S22 := Lib.hid (S21.out.stay hk)
      have T22 := Lib.hid (T21.out.stay hk)
      have HK22 := Lib.hid (HK21.out.trans hk (by simp))
      clear S21 T21 HK21
      clear hk
      go_wp2
      go_ret
      exact ⟨rfl, HK22.out⟩
    · go_wp2_with fail
      refine (sStateOk_any 3 ys _ _ _ T2.out).mono ?_
      rintro e w' ⟨rfl, rfl⟩
      cases hsb : Nt.stB 3 ys
      · clear hob hsb
        go_wp2_with fail
        refine (iFlat_any _ _ _ _ _ _ _ S2.out T2.out).mono ?_
        rintro e w41 ⟨rfl, hk⟩
        rw [HB.out]
        have S41 := Lib.hid (S2.out.stay hk)
        have T41 := Lib.hid (T2.out.stay hk)
        have HK41 := Lib.hid (HK2.out.trans hk (by simp))
        clear S2 T2 HK2
        clear hk
        go_wp2_with fail
        refine (alive_any _).mono ?_
        rintro e w42 ⟨rfl, hk⟩
        have S42 := Lib.hid (S41.out.stay hk)
        have T42 := Lib.hid (T41.out.stay hk)
        have HK42 := Lib.hid (HK41.out.trans hk (by simp))
        clear S41 T41 HK41
        clear hk
        go_wp2
        go_ret
        exact ⟨rfl, HK42.out⟩
      · have hne := HO.out hob hsb
        have d1 : ((ys.length : Int) != (xs.length : Int)) = true := bne_iff_ne.2 (by omega)
        clear hob hsb hne
        go_wp2_with fail
        refine (iFlat_any _ _ _ _ _ _ _ S2.out T2.out).mono ?_
        rintro e w51 ⟨rfl, hk⟩
        rw [HB.out]
        have S51 := Lib.hid (S2.out.stay hk)
        have T51 := Lib.hid (T2.out.stay hk)
        have HK51 := Lib.hid (HK2.out.trans hk (by simp))
        clear S2 T2 HK2
        clear hk
        go_wp2_with fail
        refine (alive_any _).mono ?_
        rintro e w52 ⟨rfl, hk⟩
        have S52 := Lib.hid (S51.out.stay hk)
        have T52 := Lib.hid (T51.out.stay hk)
        have HK52 := Lib.hid (HK51.out.trans hk (by simp))
        clear S51 T51 HK51
        clear hk
        go_wp2
        go_ret
        exact ⟨rfl, HK52.out⟩
end Go.Proofs.Ytjpnepjpkgffpaa
