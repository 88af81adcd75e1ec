/-
  The law SpreadWave, walked.
-/
import Derived.Test.YtgibncpgdbldnaaDE
import Derived.Test.YtgibncpgdbldnaaL1
import Derived.Test.YtgibncpgdbldnaaZP
import Derived.Test.YtgibncpgdbldnaaZM
import Derived.Test.YtgibncpgdbldnaaPureQV
import Derived.Test.YtgibncpgdbldnaaNB
namespace Go.Proofs.Ytgibncpgdbldnaa
open Go.RowKit

set_option maxHeartbeats 4000000 in
set_option maxRecDepth 100000 in
theorem FnSpreadWave_calls (w : World) (v : Value) (ha : ArgB w v) :
    Calls Try.prog 9 #[v] w fun e w' => e = .returned (.bool true) ∧ Kept [] w w' := by
  have HA := Lib.hid ha
  obtain ⟨a, len, cap, rfl, hlc, hcm, _⟩ := ha
  by_cases hbig : 1048576 < len
  · have hb : (1048576 : Int) < (len : Int) := by omega
    clear hbig
    go_enter Try.func9, Try.ntmps9
    go_wp2
    go_ret
    exact ⟨rfl, Kept.refl _ _⟩
  have hb : ¬ (1048576 : Int) < (len : Int) := by omega
  clear hbig
  go_enter Try.func9, Try.ntmps9
  go_wp2_with fail
  refine (drawSpreadSet_any _ _ HA.out).mono ?_
  rintro e w1 ⟨u, xs, v2, nds, x, rfl, hs, _, _, _, hk⟩
  have S1 := Lib.hid hs
  have HK := Lib.hid hk
  clear hk
  cases h1 : Nt.sprB xs (Nt.nats (Nt.ones xs.length)) x
  · have HV := Lib.hid (Nt.sprOf_no h1)
    have HV2 := Lib.hid (Nt.sprN_no h1)
    clear h1 hb
    obtain ⟨bS, capS, rfl, _, _, _⟩ := hs.any
    clear hs
    go_wp2_with fail
    have HQ0 : Hid (Sl (w1.alloc (.cells #[] 3)) w1.heap.size (.slice (some ⟨w1.heap.size, 0, none⟩) 0 0) (Nt.nats (Nt.ones 0))) := Lib.hid (Sl.empty3 w1)
    go_loopw [6, 7] (fun u i wr => ∃ k : Nat, k ≤ xs.length ∧ i = .int .i64 k ∧ Sl wr w1.heap.size u (Nt.nats (Nt.ones k)) ∧ Kept [] w1 wr) (fun _ i _ => xs.length - (intOf i).toNat)
    case atStart => exact ⟨0, Nat.zero_le _, rfl, HQ0.out, (Kept.refl _ _).alloc _⟩
    case round =>
      clear HQ0
      obtain ⟨k, hk, rfl, hsl, hkept⟩ := hrel
      have HSL := Lib.hid hsl
      have HK9 := Lib.hid hkept
      have hsz := hkept.size
      by_cases hlt : k < xs.length
      · have HL : Hid ((Nt.nats (Nt.ones k)).length ≤ 1000000) := Lib.hid (by rw [Nt.nats_length, Nt.ones_length]; omega)
        clear hsl hkept
        go_wp2_with (at_builtin; refine app_int _ rfl _ _ rfl w1.heap.size _ _ HSL.out rfl rfl HL.out (by omega) ?_; intro u' w9 hs9 hk9; have HS9 := Lib.hid hs9; have HK10 := Lib.hid (HK9.out.own hk9 (fun g hg => (HSL.out.block hg).1)); clear hs9 hk9)
        go_roundw
        case rel => exact ⟨k + 1, by omega, by go_num, HS9.out.val rfl (Nt.ones_more k), HK10.out⟩
        case measure => simp [intOf]; omega
      · have hk' : xs.length = k := by omega
        subst hk'
        have hQL : (Nt.nats (Nt.ones (xs.length))).length = xs.length := by rw [Nt.nats_length, Nt.ones_length]
        have hQQ := HSL.out
        obtain ⟨bQ, capQ, rfl, _, _, _⟩ := hQQ.any
        rw [hQL] at hQQ ⊢
        have NQ := Lib.hid hQQ
        have hk := HK9.out
        clear hlt hsz HSL HK9 hkept hQL hQQ hsl
        obtain ⟨w30, hw30⟩ : ∃ w30, w30 = wr := ⟨_, rfl⟩
        subst hw30
        have S30 := Lib.hid (S1.out.stay hk)
        have HK30 := Lib.hid (HK.out.trans hk (by simp))
        clear S1 HK
        clear hk
        go_wp2_with fail
        refine (iSpread_any _ _ _ _ _ _ _ _ S30.out NQ.out).mono ?_
        rintro e w31 ⟨rfl, hk⟩
        rw [HV.out, HV2.out]
        have S31 := Lib.hid (S30.out.stay hk)
        have Q31 := Lib.hid (NQ.out.stay hk)
        have HK31 := Lib.hid (HK30.out.trans hk (by simp))
        clear S30 NQ HK30
        clear hk
        go_wp2_with fail
        refine (sSpread_any _ _ _ _ _ _ _ _ S31.out Q31.out).mono ?_
        rintro e w32 ⟨rfl, hq⟩
        rw [HV.out, HV2.out]
        have hk := hq.kept
        have S32 := Lib.hid (S31.out.stay hk)
        have Q32 := Lib.hid (Q31.out.stay hk)
        have HK32 := Lib.hid (HK31.out.trans hk (by simp))
        clear S31 Q31 HK31
        clear hk hq
        go_wp2_with fail
        refine (alive_any _).mono ?_
        rintro e w33 ⟨rfl, hk⟩
        have S33 := Lib.hid (S32.out.stay hk)
        have Q33 := Lib.hid (Q32.out.stay hk)
        have HK33 := Lib.hid (HK32.out.trans hk (by simp))
        clear S32 Q32 HK32
        clear hk
        go_wp2
        go_ret
        exact ⟨rfl, HK33.out⟩
  · obtain ⟨ns, nd, s, rfl, _, rfl, ok, _, hs2⟩ := Nt.sprB_ok h1
    obtain ⟨n, hnn⟩ : ∃ n, n = ns.length := ⟨_, rfl⟩
    have HN := Lib.hid hnn
    have hp : 0 < n := by have := ok.some; omega
    have h6n : n ≤ 6 := by have := ok.few; omega
    have HV : Hid (Nt.sprOf (Nt.nats ns) (Nt.nats (Nt.ones n)) (s : Int) = ((Nt.spread ns (Nt.ones n) s : Nat) : Int)) := Lib.hid (by rw [hnn]; exact Nt.sprOf_ok ok (Nt.Nd.ones ns) hs2)
    have HV2 : Hid (Nt.sprN (Nt.nats ns) (Nt.nats (Nt.ones n)) (s : Int) = ((Nt.spN ns (Nt.ones n) s : Nat) : Int)) := Lib.hid (by rw [hnn]; exact Nt.sprN_ok ok (Nt.Nd.ones ns) hs2)
    have HFA := Lib.hid (Nt.farOf_ok ok hs2)
    have HMX : Hid (Nt.maxTo (Nt.far ns s) n = ((Nt.spN ns (Nt.ones n) s : Nat) : Int)) := Lib.hid (by rw [hnn]; exact Nt.wave_steps ok hs2)
    have HBT : Hid (∀ k, (Nt.spread ns (Nt.ones n) s).testBit k = decide (0 ≤ Nt.dist ns s 64 k)) := Lib.hid (fun k => by
      rw [Bool.eq_iff_iff, decide_eq_true_iff, hnn]; exact Nt.spread_dist ok hs2)
    have HMS : Hid (∀ k, k < n → Nt.maxTo (Nt.far ns s) (k + 1) = max (Nt.maxTo (Nt.far ns s) k) (Nt.dist ns s 64 k)) := Lib.hid (fun k hk => by
      rw [← Nt.far_get (ns := ns) s k (by omega)]; rfl)
    have HM0 : Hid (Nt.maxTo (Nt.far ns s) 0 = 0) := Lib.hid rfl
    obtain ⟨gS, capS, rfl, _, _⟩ := hs.row (n := n) hnn.symm hp
    clear hs h1 hb ok hs2 hnn
    generalize Nt.spread ns (Nt.ones n) s = z at *
    generalize Nt.spN ns (Nt.ones n) s = T at *
    have d0 : decide ((z : Int) < 0) = false := decide_eq_false (by omega)
    have dn : ((n : Int) != (n : Int)) = false := by simp
    have dT : ((T : Int) == (T : Int)) = true := by simp
    go_wp2_with fail
    have HQ0 : Hid (Sl (w1.alloc (.cells #[] 3)) w1.heap.size (.slice (some ⟨w1.heap.size, 0, none⟩) 0 0) (Nt.nats (Nt.ones 0))) := Lib.hid (Sl.empty3 w1)
    go_loopw [6, 7] (fun u i wr => ∃ k : Nat, k ≤ n ∧ i = .int .i64 k ∧ Sl wr w1.heap.size u (Nt.nats (Nt.ones k)) ∧ Kept [] w1 wr) (fun _ i _ => n - (intOf i).toNat)
    case atStart => exact ⟨0, Nat.zero_le _, rfl, HQ0.out, (Kept.refl _ _).alloc _⟩
    case round =>
      clear HQ0
      obtain ⟨k, hk, rfl, hsl, hkept⟩ := hrel
      have HSL := Lib.hid hsl
      have HK9 := Lib.hid hkept
      have hsz := hkept.size
      by_cases hlt : k < n
      · have HL : Hid ((Nt.nats (Nt.ones k)).length ≤ 1000000) := Lib.hid (by rw [Nt.nats_length, Nt.ones_length]; omega)
        clear hsl hkept
        go_wp2_with (at_builtin; refine app_int _ rfl _ _ rfl w1.heap.size _ _ HSL.out rfl rfl HL.out (by omega) ?_; intro u' w9 hs9 hk9; have HS9 := Lib.hid hs9; have HK10 := Lib.hid (HK9.out.own hk9 (fun g hg => (HSL.out.block hg).1)); clear hs9 hk9)
        go_roundw
        case rel => exact ⟨k + 1, by omega, by go_num, HS9.out.val rfl (Nt.ones_more k), HK10.out⟩
        case measure => simp [intOf]; omega
      · have hk' : n = k := by omega
        subst hk'
        have hQL : (Nt.nats (Nt.ones (n))).length = n := by rw [Nt.nats_length, Nt.ones_length]
        have hQQ := HSL.out
        obtain ⟨gQ, capQ, rfl, _, _⟩ := hQQ.shape (n := n) hQL hp
        have NQ := Lib.hid hQQ
        have hk := HK9.out
        clear hlt hsz HSL HK9 hkept hQL hQQ hsl
        obtain ⟨w30, hw30⟩ : ∃ w30, w30 = wr := ⟨_, rfl⟩
        subst hw30
        have S30 := Lib.hid (S1.out.stay hk)
        have HK30 := Lib.hid (HK.out.trans hk (by simp))
        clear S1 HK
        clear hk
        go_wp2_with fail
        refine (iSpread_any _ _ _ _ _ _ _ _ S30.out NQ.out).mono ?_
        rintro e w31 ⟨rfl, hk⟩
        rw [HV.out, HV2.out]
        have S31 := Lib.hid (S30.out.stay hk)
        have Q31 := Lib.hid (NQ.out.stay hk)
        have HK31 := Lib.hid (HK30.out.trans hk (by simp))
        clear S30 NQ HK30
        clear hk
        clear Q31
        go_wp2_with fail
        refine (iFar_any _ _ _ _ _ S31.out).mono ?_
        rintro e w32 ⟨u32, rfl, hs, hk⟩
        rw [HFA.out] at hs
        have X32 := Lib.hid hs
        obtain ⟨gX, capX, rfl, _, hgX⟩ := hs.shape (n := n) (by rw [Nt.far_length]; exact HN.out.symm) hp
        have CX32 := Lib.hid (fun j (hj : j < n) => ((hs.at j (by rw [Nt.far_length, ← HN.out]; exact hj)).1).trans (by rw [Nt.far_get _ _ (by rw [← HN.out]; exact hj)]))
        have lX32 := Lib.hid hgX
        clear hgX
        have S32 := Lib.hid (S31.out.stay hk)
        have HK32 := Lib.hid (HK31.out.trans hk (by simp))
        clear S31 HK31
        clear hs hk
        go_wp2_with fail
        go_loopw [13, 14] (fun m i wr => ∃ k : Nat, k ≤ n ∧ i = .int .i64 k ∧ m = .int .i64 (Nt.maxTo (Nt.far ns s) k) ∧ Qt w32 wr) (fun _ i _ => n - (intOf i).toNat)
        case atStart => exact ⟨0, Nat.zero_le _, rfl, by rw [HM0.out], Qt.refl _⟩
        case round =>
          obtain ⟨k, hk, rfl, rfl, hq⟩ := hrel
          have HQ := Lib.hid hq
          by_cases hlt : k < n
          · have cX := (hq.cell _).trans (CX32.out k hlt)
            have HMN := Lib.hid (HMS.out k hlt)
            have HBN := Lib.hid (HBT.out k)
            have p1 := shr_nonneg z k
            have e1 := shr_rem z k
            clear hq
            generalize Nt.dist ns s 64 k = d at *
            generalize Nt.maxTo (Nt.far ns s) k = m at *
            by_cases hd : 0 ≤ d
            · rw [HBN.out, decide_eq_true hd] at e1
              simp only [if_true] at e1
              have d1 : decide (0 ≤ d) = true := decide_eq_true hd
              clear hd
              go_wp2_with fail
              go_quiet (fail)
              have cX2 : (wr.drewN nq).cell? ⟨gX, k, none⟩ = some (.int .i64 d) := cX
              have HQ2 := Lib.hid (HQ.out.draw nq)
              clear cX HQ
              generalize wr.drewN nq = w50 at *
              go_wp2
              go_roundw
              case rel => exact ⟨k + 1, by omega, by go_num, by rw [HMN.out, show max m d = (if m < d then d else m) by split <;> omega], HQ2.out⟩
              case measure => simp [intOf]; omega
            · rw [HBN.out, decide_eq_false hd] at e1
              simp only [Bool.false_eq_true, if_false] at e1
              have d1 : decide (0 ≤ d) = false := decide_eq_false hd
              clear hd
              go_wp2_with fail
              go_quiet (fail)
              have cX2 : (wr.drewN nq).cell? ⟨gX, k, none⟩ = some (.int .i64 d) := cX
              have HQ2 := Lib.hid (HQ.out.draw nq)
              clear cX HQ
              generalize wr.drewN nq = w50 at *
              go_wp2
              go_roundw
              case rel => exact ⟨k + 1, by omega, by go_num, by rw [HMN.out, show max m d = (if m < d then d else m) by split <;> omega], HQ2.out⟩
              case measure => simp [intOf]; omega
          · have hk' : n = k := by omega
            subst hk'
            rw [HMX.out]
            have KQ := Lib.hid (HK32.out.trans hq.kept (by simp))
            clear hq HQ hlt hk
            go_wp2_with fail
            refine (alive_any _).mono ?_
            rintro e w61 ⟨rfl, hk⟩
            have HK61 := Lib.hid (KQ.out.trans hk (by simp))
            clear KQ
            clear hk
            go_wp2
            go_ret
            exact ⟨rfl, HK61.out⟩
end Go.Proofs.Ytgibncpgdbldnaa
