/-
  Walks: heights, by the model.
  Walks: rows of heights, flat states, stands and peaks, by the model.
-/
import Derived.Test.YtlcbpnbehbgbeaaUM
import Derived.Test.YtlcbpnbehbgbeaaXA
import Derived.Test.YtlcbpnbehbgbeaaNC
import Derived.Test.YtlcbpnbehbgbeaaFC
import Derived.Test.YtlcbpnbehbgbeaaOpsC
namespace Go.Proofs.Ytlcbpnbehbgbeaa
open Go.RowKit

theorem shr_is0 {x j : Nat} (h : x.testBit j = false) : (x : Int) / 2 ^ j % 2 = 0 := by rw [shr_bit, h]; rfl
theorem shr_is1 {x j : Nat} (h : x.testBit j = true) : (x : Int) / 2 ^ j % 2 = 1 := by rw [shr_bit, h]; rfl
theorem shr_rem0 {x j : Nat} (h : x.testBit j = false) : ((x : Int) / 2 ^ j).tmod 2 = 0 := by rw [shr_rem, h]; rfl
theorem shr_rem1 {x j : Nat} (h : x.testBit j = true) : ((x : Int) / 2 ^ j).tmod 2 = 1 := by rw [shr_rem, h]; rfl
def flagOf : Value → Nat
  | .bool true => 1
  | _ => 0

set_option maxHeartbeats 4000000 in
set_option maxRecDepth 100000 in
theorem l7Heights_any (ns ks : List Nat) (ok : Nt.Ok ns) (st : Nt.St 3 ks) (hl : ks.length = ns.length) (w : World) (v : Value) (base : Nat) (u : Value) (base' : Nat) (hs : Sl w base v (Nt.nats ns)) (hu : Sl w base' u (Nt.nats ks))
    (b0 : Bool) (L0 : List Int) (hb0 : Nt.flatB ns ks = b0) (hL1 : b0 = true → L0 = Nt.hgtL ns ks) (hL2 : b0 = false → L0 = []) :
    Calls Try.prog 95 #[v, u] w fun e w' => ∃ z, e = .returned (.tuple #[z, .bool b0]) ∧ Sl w' w.heap.size z L0 ∧ Kept [] w w' := by
  have HB0 := Lib.hid hb0
  have HL1 := Lib.hid hL1
  have HL2 := Lib.hid hL2
  clear hb0 hL1 hL2
  obtain ⟨n, hn⟩ : ∃ n, n = ks.length := ⟨_, rfl⟩
  have hp := st.some
  have h6 := st.few
  have HOK := Lib.hid ok
  have HST := Lib.hid st
  have HL := Lib.hid hl
  have HN := Lib.hid hn
  have HLT := Lib.hid (fun k (hk : k < n) => st.lt k (by omega))
  have HZ0 : Hid (Nt.Laid ns ks 0 0 (List.replicate n 0)) := Lib.hid (by rw [hn]; exact Nt.laid_start ns ks)
  have HA0 := Lib.hid (Nt.all_start ns ks 0)
  rw [← hn] at hp h6
  obtain ⟨g1, cap1, rfl, hg1, hc1⟩ := hs.row (n := n) (by omega) hp
  obtain ⟨g, cap, rfl, hg, hc⟩ := hu.row hn.symm hp
  have HC1 := Lib.hid hc1
  have HC := Lib.hid hc
  clear hs hu ok st hl hc1 hc hn
  go_enter Try.func95, Try.ntmps95
  go_wp2_with (at_make; refine make_int _ n rfl _ _ rfl rfl rfl ?_ ?_)
  · omega
  · intro w1 hs1 hk1 _
    have HS1 := Lib.hid hs1
    have HK1 := Lib.hid hk1
    clear hs1 hk1
    go_wp2_with fail
    go_loopw [7, 8] (fun s i wr => ∃ (m seen : Nat) (out : List Int), m ≤ n ∧ i = .int .i64 m ∧ s = .int .i64 (seen : Int) ∧ Nt.Laid ns ks m seen out ∧ Nt.AllTo ns ks m seen ∧ Sl wr w.heap.size (.slice (some ⟨w.heap.size, 0, none⟩) n n) out ∧ Kept [] w wr) (fun _ i _ => n - (intOf i).toNat)
    case atStart => exact ⟨0, 0, _, Nat.zero_le _, rfl, rfl, HZ0.out, HA0.out, HS1.out, HK1.out⟩
    case round =>
      clear HS1 HK1 HZ0 HA0
      obtain ⟨m, seen, out, hm, rfl, rfl, hld, hall, hsl, hkept⟩ := hrel
      have HLD := Lib.hid hld
      have HAL := Lib.hid hall
      have HSL := Lib.hid hsl
      have HK := Lib.hid hkept
      clear hld hall hsl hkept
      by_cases hlt : m < n
      · have p1 := shr_nonneg seen m
        cases hb : seen.testBit m
        · have e1 := shr_is0 hb
          have HLY := Lib.hid (Nt.Lay.start HOK.out HL.out HLD.out HAL.out (by rw [← HN.out]; exact hlt) hb)
          have HE := Lib.hid (or_shl seen m (Nat.lt_of_lt_of_le HLD.out.fit (Nt.pow_le HST.out.few)) (by omega))
          clear hb HLD HAL
          generalize hs0 : seen ||| 2 ^ m = s0 at *
          clear hs0
          go_wp2_with fail
          rw [HE.out]
          clear HE p1 e1
          go_loopw [7, 9] (fun s f wx => ∃ (b : Bool) (sn : Nat) (ou : List Int), f = .bool b ∧ s = .int .i64 (sn : Int) ∧ Nt.Lay ns ks m sn ou ∧ (b = false → Nt.CloseTo ns ks sn n 0) ∧ Sl wx w.heap.size (.slice (some ⟨w.heap.size, 0, none⟩) n n) ou ∧ Kept [] w wx) (fun s f _ => 2 * (64 - (intOf s).toNat) + flagOf f)
          case atStart => exact ⟨true, _, _, rfl, rfl, HLY.out, fun h => absurd h (by simp), HSL.out, HK.out⟩
          case round =>
            clear HLY HSL HK
            obtain ⟨b, sn, ou, rfl, rfl, hly, hcl, hsl, hkept⟩ := hrel
            have HLY := Lib.hid hly
            have HSL := Lib.hid hsl
            have HK := Lib.hid hkept
            have h64 := hly.fit HST.out
            cases b
            · have HD := Lib.hid (hly.done HOK.out HL.out (by rw [← HN.out]; exact hcl rfl))
              clear hly hcl hsl hkept
              go_wp2_with fail
              go_roundw
              case rel => exact ⟨m + 1, sn, ou, by omega, by go_num, rfl, HD.out.1, HD.out.2, HSL.out, HK.out⟩
              case measure => simp [intOf]; omega
            · have HC0 := Lib.hid (Nt.close_start ns ks sn)
              clear hly hcl hsl hkept
              go_wp2_with fail
              go_loopw [7, 9, 10] (fun s f i wy => ∃ (b : Bool) (se : Nat) (ov : List Int) (k : Nat), k ≤ n ∧ i = .int .i64 k ∧ f = .bool b ∧ s = .int .i64 (se : Int) ∧ Nt.Lay ns ks m se ov ∧ sn ≤ se ∧ (b = true → sn < se) ∧ (b = false → Nt.CloseTo ns ks se k 0) ∧ Sl wy w.heap.size (.slice (some ⟨w.heap.size, 0, none⟩) n n) ov ∧ Kept [] w wy) (fun _ _ i _ => n - (intOf i).toNat)
              case atStart => exact ⟨false, _, _, 0, Nat.zero_le _, rfl, rfl, rfl, HLY.out, Nat.le_refl _, fun h => absurd h (by simp), fun _ => HC0.out, HSL.out, HK.out⟩
              case round =>
                clear HLY HSL HK HC0
                obtain ⟨b, se, ov, k, hk, rfl, rfl, rfl, hly, hse, hmo, hcl, hsl, hkept⟩ := hrel
                have HLY := Lib.hid hly
                have HMO := Lib.hid hmo
                have HCL := Lib.hid hcl
                have HSL := Lib.hid hsl
                have HK := Lib.hid hkept
                have hse64 := hly.fit HST.out
                clear hly hmo hcl hsl hkept
                by_cases hltk : k < n
                · go_wp2_with fail
                  go_loopw [7, 9, 11] (fun s f i wz => ∃ (b : Bool) (sf : Nat) (ow : List Int) (j : Nat), j ≤ n ∧ i = .int .i64 j ∧ f = .bool b ∧ s = .int .i64 (sf : Int) ∧ Nt.Lay ns ks m sf ow ∧ sn ≤ sf ∧ (b = true → sn < sf) ∧ (b = false → Nt.CloseTo ns ks sf k j) ∧ Sl wz w.heap.size (.slice (some ⟨w.heap.size, 0, none⟩) n n) ow ∧ Kept [] w wz) (fun _ _ i _ => n - (intOf i).toNat)
                  case atStart => exact ⟨b, _, _, 0, Nat.zero_le _, rfl, rfl, rfl, HLY.out, hse, HMO.out, HCL.out, HSL.out, HK.out⟩
                  case round =>
                    clear HLY HSL HK HMO HCL hse hse64
                    obtain ⟨b, sf, ow, j, hj, rfl, rfl, rfl, hly, hsf, hmo, hcl, hsl, hkept⟩ := hrel
                    have HLY := Lib.hid hly
                    have HMO := Lib.hid hmo
                    have HCL := Lib.hid hcl
                    have HSL := Lib.hid hsl
                    have HK := Lib.hid hkept
                    have hsf64 := hly.fit HST.out
                    by_cases hltj : j < n
                    · have q1 := shr_nonneg sf k
                      cases hbk : sf.testBit k
                      · have e1 := shr_is0 hbk
                        have HX := Lib.hid (fun h => Nt.close_off (hcl h) hbk)
                        clear hly hmo hcl hsl hkept hbk
                        go_wp2_with fail
                        go_roundw
                        case rel => exact ⟨b, sf, ow, k + 1, by omega, by go_num, rfl, rfl, HLY.out, hsf, HMO.out, HX.out, HSL.out, HK.out⟩
                        case measure => simp [intOf]; omega
                      · have e1 := shr_is1 hbk
                        have ck := (hkept.cell (p := ⟨g1, k, none⟩) hg1 (by simp)).trans (HC1.out k hltk)
                        have q2 := shr_nonneg (ns.getD k 0) j
                        cases hbj : (ns.getD k 0).testBit j
                        · have e2 := shr_is0 hbj
                          have HX := Lib.hid (fun h => Nt.close_next (hcl h) (fun h1 _ => by rw [hbj] at h1; exact absurd h1 (by simp)))
                          clear hly hmo hcl hsl hkept hbk hbj
                          generalize ns.getD k 0 = r at *
                          go_wp2_with fail
                          go_roundw
                          case rel => exact ⟨b, sf, ow, j + 1, by omega, by go_num, rfl, rfl, HLY.out, hsf, HMO.out, HX.out, HSL.out, HK.out⟩
                          case measure => simp [intOf]; omega
                        · have e2 := shr_is1 hbj
                          have q3 := shr_nonneg sf j
                          cases hbs : sf.testBit j
                          · have e3 := shr_is0 hbs
                            have HX := Lib.hid (hly.more HOK.out HL.out (k := k) (j := j) (by rw [← HN.out]; exact hltk) (by rw [← HN.out]; exact hltj) hbk hbs hbj)
                            have HMR := Lib.hid (Nt.or_grows hbs)
                            have HE := Lib.hid (or_shl sf j hsf64 (by omega))
                            have HOL : Hid (ow.length = n) := Lib.hid (hly.laid.len.trans HN.out.symm)
                            obtain ⟨co, _⟩ := hsl.at k (by rw [HOL.out]; exact hltk)
                            obtain ⟨cz, fz⟩ := hsl.at j (by rw [HOL.out]; exact hltj)
                            have cs := (hkept.cell (p := ⟨g, k, none⟩) hg (by simp)).trans (HC.out k hltk)
                            have csj := (hkept.cell (p := ⟨g, j, none⟩) hg (by simp)).trans (HC.out j hltj)
                            have hx := HLT.out k hltk
                            have hy := HLT.out j hltj
                            have b1 := Nt.laid_small HST.out hly.laid (k := k) (by rw [← HN.out]; exact hltk)
                            clear hly hmo hcl hsl hkept hbk hbj hbs HMO HCL
                            generalize ow.getD k 0 = a at *
                            generalize ow.getD j 0 = z at *
                            generalize ns.getD k 0 = r at *
                            generalize ks.getD k 0 = x at *
                            generalize ks.getD j 0 = y at *
                            have r1 := @Nt.rise_lo x y
                            have r2 := @Nt.rise_hi x y
                            have HR := Lib.hid (fun w => (l6Rise_any x y hx hy w).mono (fun _ _ e => (⟨e.1, e.2.symm⟩ : _ ∧ _ = w)))
                            generalize Nt.rise x y = c at *
                            have s1 : IntKind.i64.wrap (a + c) = a + c := IntWalk.i64_in _ (by omega)
                            have HSLd : Hid (Sl wr.drew w.heap.size (.slice (some ⟨w.heap.size, 0, none⟩) n n) ow) := HSL
                            have HKd := Lib.hid HK.out.drew
                            have cz2 : wr.drew.cell? ⟨w.heap.size, j, none⟩ = some (.int .i64 z) := cz
                            have fz2 : wr.drew.frozen? ⟨w.heap.size, j, none⟩ = false := fz
                            go_wp2_with fail
                            go_still_tail 17, (by kernel_rfl)
                            still_call (HR.out _)
                            repeat still_step
                            refine wpStill_nil ?_
                            change wpList _ _ _ _ _ wr.drew
                            clear cz fz HSL HK ck cs csj co HR q1 e1 q2 e2 q3 e3
                            generalize wr.drew = w5 at *
                            go_wp2_with fail
                            rw [HE.out]
                            go_roundw
                            case rel => exact ⟨true, _, _, j + 1, by omega, by go_num, rfl, rfl, HX.out, by have := HMR.out; omega, fun _ => by have := HMR.out; omega, fun h => absurd h (by simp), HSLd.out.set HOL.out.symm j _, HKd.out.setCell (.inr (Nat.le_refl _)) _⟩
                            case measure => simp [intOf]; omega
                          · have e3 := shr_is1 hbs
                            have HX := Lib.hid (fun h => Nt.close_next (hcl h) (fun _ _ => hbs))
                            clear hly hmo hcl hsl hkept hbk hbj hbs
                            generalize ns.getD k 0 = r at *
                            go_wp2_with fail
                            go_roundw
                            case rel => exact ⟨b, sf, ow, j + 1, by omega, by go_num, rfl, rfl, HLY.out, hsf, HMO.out, HX.out, HSL.out, HK.out⟩
                            case measure => simp [intOf]; omega
                    · have hj' : j = n := by omega
                      subst hj'
                      have HX := Lib.hid (fun h => Nt.close_row (by rw [← HN.out]; exact hcl h))
                      clear hly hmo hcl hsl hkept
                      go_wp2_with fail
                      go_roundw
                      case rel => exact ⟨b, sf, ow, k + 1, by omega, by go_num, rfl, rfl, HLY.out, hsf, HMO.out, HX.out, HSL.out, HK.out⟩
                      case measure => simp [intOf]; omega
                · have hk' : k = n := by omega
                  subst hk'
                  go_wp2_with fail
                  go_roundw
                  case rel => exact ⟨b, se, ov, rfl, rfl, HLY.out, HCL.out, HSL.out, HK.out⟩
                  case measure =>
                    have hmo := HMO.out
                    cases b
                    · simp [intOf, flagOf]; omega
                    · have := hmo rfl
                      simp [intOf, flagOf]; omega
        · have e1 := shr_is1 hb
          have HA := Lib.hid (Nt.all_skip HOK.out HL.out HLD.out HAL.out (by rw [← HN.out]; exact hlt) hb)
          have HM := Lib.hid HLD.out.mono
          clear hb HLD HAL
          go_wp2_with fail
          go_roundw
          case rel => exact ⟨m + 1, seen, out, by omega, by go_num, rfl, HM.out, HA.out, HSL.out, HK.out⟩
          case measure => simp [intOf]; omega
      · have hm' : m = n := by omega
        subst hm'
        have HFU : Hid (Nt.Full ns ks out) := Lib.hid ⟨⟨seen, by rw [← HN.out]; exact ⟨HLD.out, HAL.out⟩⟩⟩
        have HOL : Hid (out.length = m) := Lib.hid (HFU.out.len.trans HN.out.symm)
        have HCO : Hid (∀ k, k < m → wr.cell? ⟨w.heap.size, k, none⟩ = some (.int .i64 (out.getD k 0))) := Lib.hid (fun k hk => (HSL.out.at k (by rw [HOL.out]; exact hk)).1)
        have HC1W := Lib.hid (fun k (hk : k < m) => (HK.out.cell (p := ⟨g1, k, none⟩) hg1 (by simp)).trans (HC1.out k hk))
        have HCW := Lib.hid (fun k (hk : k < m) => (HK.out.cell (p := ⟨g, k, none⟩) hg (by simp)).trans (HC.out k hk))
        have HSM : Hid (∀ k, k < m → -6 < out.getD k 0 ∧ out.getD k 0 < 6) := Lib.hid (fun k hk => HFU.out.small HST.out (by rw [← HN.out]; exact hk))
        have HF0 := Lib.hid (Nt.fit_start ns ks out)
        clear HLD HAL HC1 HC hlt
        obtain ⟨wa, hwa⟩ : ∃ wa, wa = wr := ⟨_, rfl⟩
        subst hwa
        go_wp2_with fail
        go_loopw [12] (fun i wx => ∃ k : Nat, k ≤ m ∧ i = .int .i64 k ∧ Nt.FitTo ns ks out k 0 ∧ Qt wa wx) (fun i _ => m - (intOf i).toNat)
        case atStart => exact ⟨0, Nat.zero_le _, rfl, HF0.out, Qt.refl _⟩
        case round =>
          clear HF0
          obtain ⟨k, hk, rfl, hf, hq⟩ := hrel
          have HFT := Lib.hid hf
          have HQ := Lib.hid hq
          clear hf hq
          by_cases hltk : k < m
          · go_wp2_with fail
            go_loopw [13] (fun i wy => ∃ j : Nat, j ≤ m ∧ i = .int .i64 j ∧ Nt.FitTo ns ks out k j ∧ Qt wa wy) (fun i _ => m - (intOf i).toNat)
            case atStart => exact ⟨0, Nat.zero_le _, rfl, HFT.out, HQ.out⟩
            case round =>
              clear HFT HQ
              obtain ⟨j, hj, rfl, hf, hq⟩ := hrel
              have HFT := Lib.hid hf
              have HQ := Lib.hid hq
              by_cases hltj : j < m
              · have ck := (hq.cell _).trans (HC1W.out k hltk)
                have co := (hq.cell _).trans (HCO.out k hltk)
                have coj := (hq.cell _).trans (HCO.out j hltj)
                have cs := (hq.cell _).trans (HCW.out k hltk)
                have csj := (hq.cell _).trans (HCW.out j hltj)
                have hx := HLT.out k hltk
                have hy := HLT.out j hltj
                have b1 := HSM.out k hltk
                have b2 := HSM.out j hltj
                have HNX := Lib.hid (fun h => Nt.fit_next (j := j) hf h)
                have HNO := Lib.hid (fun hb hne => Nt.Full.not HOK.out HST.out HL.out HFU.out (k := k) (j := j) (by rw [← HN.out]; exact hltk) (by rw [← HN.out]; exact hltj) hb hne)
                clear hf hq
                generalize ns.getD k 0 = r at *
                generalize ks.getD k 0 = x at *
                generalize ks.getD j 0 = y at *
                generalize out.getD k 0 = a at *
                generalize out.getD j 0 = d at *
                have s1 : IntKind.i64.wrap (d - a) = d - a := IntWalk.i64_in _ (by omega)
                have HR := Lib.hid (fun w => l6Rise_any x y hx hy w)
                generalize Nt.rise x y = c at *
                cases hb : r.testBit j
                · have f1 := shr_rem0 hb
                  have HX := Lib.hid (HNX.out (fun h => by rw [hb] at h; exact absurd h (by simp)))
                  clear HNX HNO hb HR
                  go_wp2_with fail
                  go_quiet (fail)
                  go_wp2
                  go_roundw
                  case rel => exact ⟨j + 1, by omega, by go_num, HX.out, HQ.out.draw _⟩
                  case measure => simp [intOf]; omega
                · have f1 := shr_rem1 hb
                  by_cases he : d - a = c
                  · have HX := Lib.hid (HNX.out (fun _ => he))
                    have d1 : (d - a != c) = false := by simp [he]
                    clear HNX HNO hb he
                    go_wp2_with fail
                    go_quiet ((go_at_call 111; exact quietL (HR.out _)))
                    go_wp2
                    go_roundw
                    case rel => exact ⟨j + 1, by omega, by go_num, HX.out, HQ.out.draw _⟩
                    case measure => simp [intOf]; omega
                  · have HX := Lib.hid (HB0.out.symm.trans (HNO.out hb he))
                    have d1 : (d - a != c) = true := bne_iff_ne.2 he
                    clear HNX HNO hb he
                    go_wp2_with fail
                    go_quiet ((go_at_call 111; exact quietL (HR.out _)))
                    have HQ2 := Lib.hid ((HK.out.trans (HQ.out.draw nq).kept (by simp)))
                    generalize wr.drewN nq = w7 at *
                    go_wp2_with fail
                    go_ret2
                    exact ⟨_, by rw [HX.out]; rfl, by rw [HL2.out HX.out]; exact (Sl.empty3 w7).mono HQ2.out.size, HQ2.out.alloc _⟩
              · have hj' : j = m := by omega
                subst hj'
                have HX := Lib.hid (Nt.fit_row (by rw [← HN.out]; exact hf))
                clear hf hq
                go_wp2
                go_roundw
                case rel => exact ⟨k + 1, by omega, by go_num, HX.out, HQ.out⟩
                case measure => simp [intOf]; omega
          · have hk' : k = m := by omega
            subst hk'
            have HX : Hid (Nt.flatB ns ks = true) := Lib.hid (Nt.Full.yes (out := out) HOK.out HST.out HL.out (fun a b ha hb hw => HFT.out.1 a b (by rw [HN.out]; exact ha) hb hw))
            have HE := Lib.hid (HFU.out.flat HOK.out HST.out HL.out HX.out)
            have HBT := Lib.hid (HB0.out.symm.trans HX.out)
            clear HX
            have HKF := Lib.hid (HK.out.trans HQ.out.kept (by simp))
            have HSF := Lib.hid (HQ.out.sl HSL.out)
            go_wp2
            go_ret2
            exact ⟨_, by rw [HBT.out]; rfl, by rw [HL1.out HBT.out, ← HE.out]; exact HSF.out, HKF.out⟩
end Go.Proofs.Ytlcbpnbehbgbeaa

namespace Go.Proofs.Ytlcbpnbehbgbeaa
open Go.RowKit

theorem takeP_succ (xs : List Int) (k : Nat) (h : k < xs.length) : xs.take (k + 1) = xs.take k ++ [xs.getD k 0] := by
  rw [List.take_succ_eq_append_getElem h]
  simp [List.getD_eq_getElem?_getD, h]

set_option maxHeartbeats 1000000 in
set_option maxRecDepth 100000 in
theorem sFlat_any (xs : List Int) (ys : List Int) (w : World) (v : Value) (base : Nat) (u : Value) (base' : Nat) (hs : Sl w base v xs) (ht : Sl w base' u ys) :
    Calls Try.prog 67 #[v, u] w fun e w' => e = .returned (.bool (Nt.flatOf xs ys)) ∧ Kept [] w w' := by
  have HS := Lib.hid hs
  have HT := Lib.hid ht
  obtain ⟨a, cap, rfl, _, hm, _⟩ := hs.any
  obtain ⟨a', cap', rfl, _, hm', _⟩ := ht.any
  clear hs ht
  go_enter Try.func67, Try.ntmps67
  go_wp2_with fail
  refine (l3Ok_any xs 3 ys _ _ _ _ _ HS.out HT.out).mono ?_
  rintro e w1 ⟨rfl, hq⟩
  have HK1 := Lib.hid hq.kept
  have HS1 := Lib.hid (hq.sl HS.out)
  have HT1 := Lib.hid (hq.sl HT.out)
  clear hq HS HT
  cases h1 : Nt.fireB xs 3 ys
  · have HB := Lib.hid (Nt.flatOf_no1 h1)
    clear h1
    go_wp2
    go_ret
    exact ⟨by rw [HB.out]; rfl, HK1.out⟩
  · obtain ⟨ns, ks, rfl, rfl, ok, st, hl⟩ := Nt.fireB3_ok h1
    have HO := Lib.hid (And.intro ok (And.intro st hl))
    have HFO := Lib.hid (Nt.flatOf_ok ok st hl).symm
    have HY := Lib.hid (fun h => Nt.heightsOf_yes (ns := ns) (ks := ks) h)
    have HNO := Lib.hid (fun h => Nt.heightsOf_no (xs := Nt.nats ns) (ys := Nt.nats ks) h)
    clear h1 ok st hl
    go_wp2_with fail
    refine (l7Heights_any ns ks HO.out.1 HO.out.2.1 HO.out.2.2 _ _ _ _ _ HS1.out HT1.out (Nt.flatOf (Nt.nats ns) (Nt.nats ks)) (Nt.heightsOf (Nt.nats ns) (Nt.nats ks)) HFO.out HY.out HNO.out).mono ?_
    rintro e w2 ⟨z, rfl, _, hk2⟩
    have HK2 := Lib.hid (HK1.out.trans hk2 (by simp))
    clear hk2 HK1 HFO HY HNO
    generalize hb : Nt.flatOf (Nt.nats ns) (Nt.nats ks) = b at *
    have HB := Lib.hid hb
    clear hb
    go_wp2
    go_ret
    exact ⟨by rw [HB.out]; rfl, HK2.out⟩

end Go.Proofs.Ytlcbpnbehbgbeaa
