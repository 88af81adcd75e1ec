/-
  Walks: heights, by the model.
  Walks: rows of heights, flat states, stands and peaks, by the model.
-/
import Derived.Test.YtjpnepjpkgffpaaUM
import Derived.Test.YtjpnepjpkgffpaaXA
import Derived.Test.YtjpnepjpkgffpaaNC
import Derived.Test.YtjpnepjpkgffpaaFC
import Derived.Test.YtjpnepjpkgffpaaOpsC
namespace Go.Proofs.Ytjpnepjpkgffpaa
open Go.RowKit

theorem shr_is0 {x j : Nat} (h : x.testBit j = false) : (x : Int) / 2 ^ j % 2 = 0 := by rw [shr_bit, h]; rfl
theorem shr_is1 {x j : Nat} (h : x.testBit j = true) : (x : Int) / 2 ^ j % 2 = 1 := by rw [shr_bit, h]; rfl
theorem shr_rem0 {x j : Nat} (h : x.testBit j = false) : ((x : Int) / 2 ^ j).tmod 2 = 0 := by rw [shr_rem, h]; rfl
theorem shr_rem1 {x j : Nat} (h : x.testBit j = true) : ((x : Int) / 2 ^ j).tmod 2 = 1 := by rw [shr_rem, h]; rfl
def flagOf : Value → Nat
  | .bool true => 1
  | _ => 0

set_option maxHeartbeats 4000000 in
set_option maxRecDepth 100000 in
theorem l7Heights_any (ns ks : List Nat) (ok : Nt.Ok ns) (st : Nt.St 3 ks) (hl : ks.length = ns.length) (w : World) (v : Value) (base : Nat) (u : Value) (base' : Nat) (hs : Sl w base v (Nt.nats ns)) (hu : Sl w base' u (Nt.nats ks))
    (b0 : Bool) (L0 : List Int) (hb0 : Nt.flatB ns ks = b0) (hL1 : b0 = true → L0 = Nt.hgtL ns ks) (hL2 : b0 = false → L0 = []) :
    Calls Try.prog 55 #[v, u] w fun e w' => ∃ z, e = .returned (.tuple #[z, .bool b0]) ∧ Sl w' w.heap.size z L0 ∧ Kept [] w w' := by
  have HB0 := Lib.hid hb0
  have HL1 := Lib.hid hL1
  have HL2 := Lib.hid hL2
  clear hb0 hL1 hL2
  obtain ⟨n, hn⟩ : ∃ n, n = ks.length := ⟨_, rfl⟩
  have hp := st.some
  have h6 := st.few
  have HOK := Lib.hid ok
  have HST := Lib.hid st
  have HL := Lib.hid hl
  have HN := Lib.hid hn
  have HLT := Lib.hid (fun k (hk : k < n) => st.lt k (by omega))
  have HZ0 : Hid (Nt.Laid ns ks 0 0 (List.replicate n 0)) := Lib.hid (by rw [hn]; exact Nt.laid_start ns ks)
  have HA0 := Lib.hid (Nt.all_start ns ks 0)
  rw [← hn] at hp h6
  obtain ⟨g1, cap1, rfl, hg1, hc1⟩ := hs.row (n := n) (by omega) hp
  obtain ⟨g, cap, rfl, hg, hc⟩ := hu.row hn.symm hp
  have HC1 := Lib.hid hc1
  have HC := Lib.hid hc
  clear hs hu ok st hl hc1 hc hn
  go_enter Try.func55, Try.ntmps55
  go_wp2_with (at_make; refine make_int _ n rfl _ _ rfl rfl rfl ?_ ?_)
  · omega
  · intro w1 hs1 hk1 _
    have HS1 := Lib.hid hs1
    have HK1 := Lib.hid hk1
    clear hs1 hk1
    go_wp2_with fail
    go_loopw [7, 8] (fun s i wr => ∃ (m seen : Nat) (out : List Int), m ≤ n ∧ i = .int .i64 m ∧ s = .int .i64 (seen : Int) ∧ Nt.Laid ns ks m seen out ∧ Nt.AllTo ns ks m seen ∧ Sl wr w.heap.size (.slice (some ⟨w.heap.size, 0, none⟩) n n) out ∧ Kept [] w wr) (fun _ i _ => n - (intOf i).toNat)
    case atStart => exact ⟨0, 0, _, Nat.zero_le _, rfl, rfl, HZ0.out, HA0.out, HS1.out, HK1.out⟩
    case round =>
      clear HS1 HK1 HZ0 HA0
      obtain ⟨m, seen, out, hm, rfl, rfl, hld, hall, hsl, hkept⟩ := hrel
      have HLD := Lib.hid hld
      have HAL := Lib.hid hall
      have HSL := Lib.hid hsl
      have HK := Lib.hid hkept
      clear hld hall hsl hkept
      by_cases hlt : m < n
      · have p1 := shr_nonneg seen m
        cases hb : seen.testBit m
        · have e1 := shr_is0 hb
          have HLY := Lib.hid (Nt.Lay.start HOK.out HL.out HLD.out HAL.out (by rw [← HN.out]; exact hlt) hb)
          have HE := Lib.hid (or_shl seen m (Nat.lt_of_lt_of_le HLD.out.fit (Nt.pow_le HST.out.few)) (by omega))
          clear hb HLD HAL
          generalize hs0 : seen ||| 2 ^ m = s0 at *
          clear hs0
          go_wp2_with fail
          rw [HE.out]
          clear HE p1 e1
          go_loopw [7, 9] (fun s f wx => ∃ (b : Bool) (sn : Nat) (ou : List Int), f = .bool b ∧ s = .int .i64 (sn : Int) ∧ Nt.Lay ns ks m sn ou ∧ (b = false → Nt.CloseTo ns ks sn n 0) ∧ Sl wx w.heap.size (.slice (some ⟨w.heap.size, 0, none⟩) n n) ou ∧ Kept [] w wx) (fun s f _ => 2 * (64 - (intOf s).toNat) + flagOf f)
          case atStart => exact ⟨true, _, _, rfl, rfl, HLY.out, fun h => absurd h (by simp), HSL.out, HK.out⟩
          case round =>
            clear HLY HSL HK
            obtain ⟨b, sn, ou, rfl, rfl, hly, hcl, hsl, hkept⟩ := hrel
            have HLY := Lib.hid hly
            have HSL := Lib.hid hsl
            have HK := Lib.hid hkept
            have h64 := hly.fit HST.out
            cases b
            · have HD := Lib.hid (hly.done HOK.out HL.out (by rw [← HN.out]; exact hcl rfl))
              clear hly hcl hsl hkept
              go_wp2_with fail
              go_roundw
              case rel => exact ⟨m + 1, sn, ou, by omega, by go_num, rfl, HD.out.1, HD.out.2, HSL.out, HK.out⟩
              case measure => simp [intOf]; omega
            · have HC0 := Lib.hid (Nt.close_start ns ks sn)
              clear hly hcl hsl hkept
              go_wp2_with fail
              go_loopw [7, 9, 10] (fun s f i wy => ∃ (b : Bool) (se : Nat) (ov : List Int) (k : Nat), k ≤ n ∧ i = .int .i64 k ∧ f = .bool b ∧ s = .int .i64 (se : Int) ∧ Nt.Lay ns ks m se ov ∧ sn ≤ se ∧ (b = true → sn < se) ∧ (b = false → Nt.CloseTo ns ks se k 0) ∧ Sl wy w.heap.size (.slice (some ⟨w.heap.size, 0, none⟩) n n) ov ∧ Kept [] w wy) (fun _ _ i _ => n - (intOf i).toNat)
              case atStart => exact ⟨false, _, _, 0, Nat.zero_le _, rfl, rfl, rfl, HLY.out, Nat.le_refl _, fun h => absurd h (by simp), fun _ => HC0.out, HSL.out, HK.out⟩
              case round =>
                clear HLY HSL HK HC0
                obtain ⟨b, se, ov, k, hk, rfl, rfl, rfl, hly, hse, hmo, hcl, hsl, hkept⟩ := hrel
                have HLY := Lib.hid hly
                have HMO := Lib.hid hmo
                have HCL := Lib.hid hcl
                have HSL := Lib.hid hsl
                have HK := Lib.hid hkept
                have hse64 := hly.fit HST.out
                clear hly hmo hcl hsl hkept
                by_cases hltk : k < n
                · go_wp2_with fail
                  go_loopw [7, 9, 11] (fun s f i wz => ∃ (b : Bool) (sf : Nat) (ow : List Int) (j : Nat), j ≤ n ∧ i = .int .i64 j ∧ f = .bool b ∧ s = .int .i64 (sf : Int) ∧ Nt.Lay ns ks m sf ow ∧ sn ≤ sf ∧ (b = true → sn < sf) ∧ (b = false → Nt.CloseTo ns ks sf k j) ∧ Sl wz w.heap.size (.slice (some ⟨w.heap.size, 0, none⟩) n n) ow ∧ Kept [] w wz) (fun _ _ i _ => n - (intOf i).toNat)
                  case atStart => exact ⟨b, _, _, 0, Nat.zero_le _, rfl, rfl, rfl, HLY.out, hse, HMO.out, HCL.out, HSL.out, HK.out⟩
                  case round =>
                    clear HLY HSL HK HMO HCL hse hse64
                    obtain ⟨b, sf, ow, j, hj, rfl, rfl, rfl, hly, hsf, hmo, hcl, hsl, hkept⟩ := hrel
                    have HLY := Lib.hid hly
                    have HMO := Lib.hid hmo
                    have HCL := Lib.hid hcl
                    have HSL := Lib.hid hsl
                    have HK := Lib.hid hkept
                    have hsf64 := hly.fit HST.out
                    by_cases hltj : j < n
                    · have q1 := shr_nonneg sf k
                      cases hbk : sf.testBit k
                      · have e1 := shr_is0 hbk
                        have HX := Lib.hid (fun h => Nt.close_off (hcl h) hbk)
                        clear hly hmo hcl hsl hkept hbk
                        go_wp2_with fail
                        go_roundw
                        case rel => exact ⟨b, sf, ow, k + 1, by omega, by go_num, rfl, rfl, HLY.out, hsf, HMO.out, HX.out, HSL.out, HK.out⟩
                        case measure => simp [intOf]; omega
                      · have e1 := shr_is1 hbk
                        have ck := (hkept.cell (p := ⟨g1, k, none⟩) hg1 (by simp)).trans (HC1.out k hltk)
                        have q2 := shr_nonneg (ns.getD k 0) j
                        cases hbj : (ns.getD k 0).testBit j
                        · have e2 := shr_is0 hbj
                          have HX := Lib.hid (fun h => Nt.close_next (hcl h) (fun h1 _ => by rw [hbj] at h1; exact absurd h1 (by simp)))
                          clear hly hmo hcl hsl hkept hbk hbj
                          generalize ns.getD k 0 = r at *
                          go_wp2_with fail
                          go_roundw
                          case rel => exact ⟨b, sf, ow, j + 1, by omega, by go_num, rfl, rfl, HLY.out, hsf, HMO.out, HX.out, HSL.out, HK.out⟩
                          case measure => simp [intOf]; omega
                        · have e2 := shr_is1 hbj
                          have q3 := shr_nonneg sf j
                          cases hbs : sf.testBit j
                          · have e3 := shr_is0 hbs
                            have HX := Lib.hid (hly.more HOK.out HL.out (k := k) (j := j) (by rw [← HN.out]; exact hltk) (by rw [← HN.out]; exact hltj) hbk hbs hbj)
                            have HMR := Lib.hid (Nt.or_grows hbs)
                            have HE := Lib.hid (or_shl sf j hsf64 (by omega))
                            have HOL : Hid (ow.length = n) := Lib.hid (hly.laid.len.trans HN.out.symm)
                            obtain ⟨co, _⟩ := hsl.at k (by rw [HOL.out]; exact hltk)
                            obtain ⟨cz, fz⟩ := hsl.at j (by rw [HOL.out]; exact hltj)
                            have cs := (hkept.cell (p := ⟨g, k, none⟩) hg (by simp)).trans (HC.out k hltk)
                            have csj := (hkept.cell (p := ⟨g, j, none⟩) hg (by simp)).trans (HC.out j hltj)
                            have hx := HLT.out k hltk
                            have hy := HLT.out j hltj
                            have b1 := Nt.laid_small HST.out hly.laid (k := k) (by rw [← HN.out]; exact hltk)
                            clear hly hmo hcl hsl hkept hbk hbj hbs HMO HCL
                            generalize ow.getD k 0 = a at *
                            generalize ow.getD j 0 = z at *
                            generalize ns.getD k 0 = r at *
                            generalize ks.getD k 0 = x at *
                            generalize ks.getD j 0 = y at *
                            have r1 := @Nt.rise_lo x y
                            have r2 := @Nt.rise_hi x y
                            have HR := Lib.hid (fun w => (l6Rise_any x y hx hy w).mono (fun _ _ e => (⟨e.1, e.2.symm⟩ : _ ∧ _ = w)))
                            generalize Nt.rise x y = c at *
                            have s1 : IntKind.i64.wrap (a + c) = a + c := IntWalk.i64_in _ (by omega)
                            have HSLd : Hid (Sl wr.drew w.heap.size (.slice (some ⟨w.heap.size, 0, none⟩) n n) ow) := HSL
                            have HKd := Lib.hid HK.out.drew
                            have cz2 : wr.drew.cell? ⟨w.heap.size, j, none⟩ = some (.int .i64 z) := cz
                            have fz2 : wr.drew.frozen? ⟨w.heap.size, j, none⟩ = false := fz
                            go_wp2_with fail
                            go_still_tail 17, (by kernel_rfl)
                            still_call (HR.out _)
                            repeat still_step
                            refine wpStill_nil ?_
                            change wpList _ _ _ _ _ wr.drew
                            clear cz fz HSL HK ck cs csj co HR q1 e1 q2 e2 q3 e3
                            generalize wr.drew = w5 at *
                            go_wp2_with fail
                            rw [HE.out]
                            go_roundw
                            case rel => exact ⟨true, _, _, j + 1, by omega, by go_num, rfl, rfl, HX.out, by have := HMR.out; omega, fun _ => by have := HMR.out; omega, fun h => absurd h (by simp), HSLd.out.set HOL.out.symm j _, HKd.out.setCell (.inr (Nat.le_refl _)) _⟩
                            case measure => simp [intOf]; omega
                          · have e3 := shr_is1 hbs
                            have HX := Lib.hid (fun h => Nt.close_next (hcl h) (fun _ _ => hbs))
                            clear hly hmo hcl hsl hkept hbk hbj hbs
                            generalize ns.getD k 0 = r at *
                            go_wp2_with fail
                            go_roundw
                            case rel => exact ⟨b, sf, ow, j + 1, by omega, by go_num, rfl, rfl, HLY.out, hsf, HMO.out, HX.out, HSL.out, HK.out⟩
                            case measure => simp [intOf]; omega
                    · have hj' : j = n := by omega
                      subst hj'
                      have HX := Lib.hid (fun h => Nt.close_row (by rw [← HN.out]; exact hcl h))
                      clear hly hmo hcl hsl hkept
                      go_wp2_with fail
                      go_roundw
                      case rel => exact ⟨b, sf, ow, k + 1, by omega, by go_num, rfl, rfl, HLY.out, hsf, HMO.out, HX.out, HSL.out, HK.out⟩
                      case measure => simp [intOf]; omega
                · have hk' : k = n := by omega
                  subst hk'
                  go_wp2_with fail
                  go_roundw
                  case rel => exact ⟨b, se, ov, rfl, rfl, HLY.out, HCL.out, HSL.out, HK.out⟩
                  case measure =>
                    have hmo := HMO.out
                    cases b
                    · simp [intOf, flagOf]; omega
                    · have := hmo rfl
                      simp [intOf, flagOf]; omega
        · have e1 := shr_is1 hb
          have HA := Lib.hid (Nt.all_skip HOK.out HL.out HLD.out HAL.out (by rw [← HN.out]; exact hlt) hb)
          have HM := Lib.hid HLD.out.mono
          clear hb HLD HAL
          go_wp2_with fail
          go_roundw
          case rel => exact ⟨m + 1, seen, out, by omega, by go_num, rfl, HM.out, HA.out, HSL.out, HK.out⟩
          case measure => simp [intOf]; omega
      · have hm' : m = n := by omega
        subst hm'
        have HFU : Hid (Nt.Full ns ks out) := Lib.hid ⟨⟨seen, by rw [← HN.out]; exact ⟨HLD.out, HAL.out⟩⟩⟩
        have HOL : Hid (out.length = m) := Lib.hid (HFU.out.len.trans HN.out.symm)
        have HCO : Hid (∀ k, k < m → wr.cell? ⟨w.heap.size, k, none⟩ = some (.int .i64 (out.getD k 0))) := Lib.hid (fun k hk => (HSL.out.at k (by rw [HOL.out]; exact hk)).1)
        have HC1W := Lib.hid (fun k (hk : k < m) => (HK.out.cell (p := ⟨g1, k, none⟩) hg1 (by simp)).trans (HC1.out k hk))
        have HCW := Lib.hid (fun k (hk : k < m) => (HK.out.cell (p := ⟨g, k, none⟩) hg (by simp)).trans (HC.out k hk))
        have HSM : Hid (∀ k, k < m → -6 < out.getD k 0 ∧ out.getD k 0 < 6) := Lib.hid (fun k hk => HFU.out.small HST.out (by rw [← HN.out]; exact hk))
        have HF0 := Lib.hid (Nt.fit_start ns ks out)
        clear HLD HAL HC1 HC hlt
        obtain ⟨wa, hwa⟩ : ∃ wa, wa = wr := ⟨_, rfl⟩
        subst hwa
        go_wp2_with fail
        go_loopw [12] (fun i wx => ∃ k : Nat, k ≤ m ∧ i = .int .i64 k ∧ Nt.FitTo ns ks out k 0 ∧ Qt wa wx) (fun i _ => m - (intOf i).toNat)
        case atStart => exact ⟨0, Nat.zero_le _, rfl, HF0.out, Qt.refl _⟩
        case round =>
          clear HF0
          obtain ⟨k, hk, rfl, hf, hq⟩ := hrel
          have HFT := Lib.hid hf
          have HQ := Lib.hid hq
          clear hf hq
          by_cases hltk : k < m
          · go_wp2_with fail
            go_loopw [13] (fun i wy => ∃ j : Nat, j ≤ m ∧ i = .int .i64 j ∧ Nt.FitTo ns ks out k j ∧ Qt wa wy) (fun i _ => m - (intOf i).toNat)
            case atStart => exact ⟨0, Nat.zero_le _, rfl, HFT.out, HQ.out⟩
            case round =>
              clear HFT HQ
              obtain ⟨j, hj, rfl, hf, hq⟩ := hrel
              have HFT := Lib.hid hf
              have HQ := Lib.hid hq
              by_cases hltj : j < m
              · have ck := (hq.cell _).trans (HC1W.out k hltk)
                have co := (hq.cell _).trans (HCO.out k hltk)
                have coj := (hq.cell _).trans (HCO.out j hltj)
                have cs := (hq.cell _).trans (HCW.out k hltk)
                have csj := (hq.cell _).trans (HCW.out j hltj)
                have hx := HLT.out k hltk
                have hy := HLT.out j hltj
                have b1 := HSM.out k hltk
                have b2 := HSM.out j hltj
                have HNX := Lib.hid (fun h => Nt.fit_next (j := j) hf h)
                have HNO := Lib.hid (fun hb hne => Nt.Full.not HOK.out HST.out HL.out HFU.out (k := k) (j := j) (by rw [← HN.out]; exact hltk) (by rw [← HN.out]; exact hltj) hb hne)
                clear hf hq
                generalize ns.getD k 0 = r at *
                generalize ks.getD k 0 = x at *
                generalize ks.getD j 0 = y at *
                generalize out.getD k 0 = a at *
                generalize out.getD j 0 = d at *
                have s1 : IntKind.i64.wrap (d - a) = d - a := IntWalk.i64_in _ (by omega)
                have HR := Lib.hid (fun w => l6Rise_any x y hx hy w)
                generalize Nt.rise x y = c at *
                cases hb : r.testBit j
                · have f1 := shr_rem0 hb
                  have HX := Lib.hid (HNX.out (fun h => by rw [hb] at h; exact absurd h (by simp)))
                  clear HNX HNO hb HR
                  go_wp2_with fail
                  go_quiet (fail)
                  go_wp2
                  go_roundw
                  case rel => exact ⟨j + 1, by omega, by go_num, HX.out, HQ.out.draw _⟩
                  case measure => simp [intOf]; omega
                · have f1 := shr_rem1 hb
                  by_cases he : d - a = c
                  · have HX := Lib.hid (HNX.out (fun _ => he))
                    have d1 : (d - a != c) = false := by simp [he]
                    clear HNX HNO hb he
                    go_wp2_with fail
                    go_quiet ((go_at_call 79; exact quietL (HR.out _)))
                    go_wp2
                    go_roundw
                    case rel => exact ⟨j + 1, by omega, by go_num, HX.out, HQ.out.draw _⟩
                    case measure => simp [intOf]; omega
                  · have HX := Lib.hid (HB0.out.symm.trans (HNO.out hb he))
                    have d1 : (d - a != c) = true := bne_iff_ne.2 he
                    clear HNX HNO hb he
                    go_wp2_with fail
                    go_quiet ((go_at_call 79; exact quietL (HR.out _)))
                    have HQ2 := Lib.hid ((HK.out.trans (HQ.out.draw nq).kept (by simp)))
                    generalize wr.drewN nq = w7 at *
                    go_wp2_with fail
                    go_ret2
                    exact ⟨_, by rw [HX.out]; rfl, by rw [HL2.out HX.out]; exact (Sl.empty3 w7).mono HQ2.out.size, HQ2.out.alloc _⟩
              · have hj' : j = m := by omega
                subst hj'
                have HX := Lib.hid (Nt.fit_row (by rw [← HN.out]; exact hf))
                clear hf hq
                go_wp2
                go_roundw
                case rel => exact ⟨k + 1, by omega, by go_num, HX.out, HQ.out⟩
                case measure => simp [intOf]; omega
          · have hk' : k = m := by omega
            subst hk'
            have HX : Hid (Nt.flatB ns ks = true) := Lib.hid (Nt.Full.yes (out := out) HOK.out HST.out HL.out (fun a b ha hb hw => HFT.out.1 a b (by rw [HN.out]; exact ha) hb hw))
            have HE := Lib.hid (HFU.out.flat HOK.out HST.out HL.out HX.out)
            have HBT := Lib.hid (HB0.out.symm.trans HX.out)
            clear HX
            have HKF := Lib.hid (HK.out.trans HQ.out.kept (by simp))
            have HSF := Lib.hid (HQ.out.sl HSL.out)
            go_wp2
            go_ret2
            exact ⟨_, by rw [HBT.out]; rfl, by rw [HL1.out HBT.out, ← HE.out]; exact HSF.out, HKF.out⟩
end Go.Proofs.Ytjpnepjpkgffpaa

namespace Go.Proofs.Ytjpnepjpkgffpaa
open Go.RowKit

theorem takeP_succ (xs : List Int) (k : Nat) (h : k < xs.length) : xs.take (k + 1) = xs.take k ++ [xs.getD k 0] := by
  rw [List.take_succ_eq_append_getElem h]
  simp [List.getD_eq_getElem?_getD, h]

set_option maxHeartbeats 1000000 in
set_option maxRecDepth 100000 in
theorem sHeight_any (xs : List Int) (ys : List Int) (w : World) (v : Value) (base : Nat) (u : Value) (base' : Nat) (hs : Sl w base v xs) (ht : Sl w base' u ys) :
    Calls Try.prog 19 #[v, u] w fun e w' => ∃ z, e = .returned (.tuple #[z, .bool (Nt.flatOf xs ys)]) ∧ Sl w' w.heap.size z (Nt.heightsOf xs ys) ∧ Kept [] w w' := by
  have HS := Lib.hid hs
  have HT := Lib.hid ht
  obtain ⟨a, cap, rfl, _, hm, _⟩ := hs.any
  obtain ⟨a', cap', rfl, _, hm', _⟩ := ht.any
  clear hs ht
  go_enter Try.func19, Try.ntmps19
  go_wp2_with fail
  refine (l3Ok_any xs 3 ys _ _ _ _ _ HS.out HT.out).mono ?_
  rintro e w1 ⟨rfl, hq⟩
  have HK1 := Lib.hid hq.kept
  have HS1 := Lib.hid (hq.sl HS.out)
  have HT1 := Lib.hid (hq.sl HT.out)
  clear hq HS HT
  cases h1 : Nt.fireB xs 3 ys
  · have HB := Lib.hid (Nt.flatOf_no1 h1)
    have HF := Lib.hid (Nt.heightsOf_no HB.out)
    clear h1
    go_wp2
    go_ret2
    exact ⟨_, by rw [HB.out]; rfl, by rw [HF.out]; exact (Sl.empty3 w1).mono HK1.out.size, HK1.out.alloc _⟩
  · obtain ⟨ns, ks, rfl, rfl, ok, st, hl⟩ := Nt.fireB3_ok h1
    have HO := Lib.hid (And.intro ok (And.intro st hl))
    have HFO := Lib.hid (Nt.flatOf_ok ok st hl).symm
    have HY := Lib.hid (fun h => Nt.heightsOf_yes (ns := ns) (ks := ks) h)
    have HNO := Lib.hid (fun h => Nt.heightsOf_no (xs := Nt.nats ns) (ys := Nt.nats ks) h)
    clear h1 ok st hl
    go_wp2_with fail
    refine (l7Heights_any ns ks HO.out.1 HO.out.2.1 HO.out.2.2 _ _ _ _ _ HS1.out HT1.out (Nt.flatOf (Nt.nats ns) (Nt.nats ks)) (Nt.heightsOf (Nt.nats ns) (Nt.nats ks)) HFO.out HY.out HNO.out).mono ?_
    rintro e w2 ⟨z, rfl, hs2, hk2⟩
    have HZ2 := Lib.hid (hs2.mono HK1.out.size)
    have HK2 := Lib.hid (HK1.out.trans hk2 (by simp))
    clear hs2 hk2 HK1 HFO HY HNO
    generalize hb : Nt.flatOf (Nt.nats ns) (Nt.nats ks) = b at *
    have HB := Lib.hid hb
    clear hb
    go_wp2
    go_ret2
    exact ⟨_, by rw [HB.out]; rfl, HZ2.out, HK2.out⟩

set_option maxHeartbeats 1000000 in
set_option maxRecDepth 100000 in
theorem sFlat_any (xs : List Int) (ys : List Int) (w : World) (v : Value) (base : Nat) (u : Value) (base' : Nat) (hs : Sl w base v xs) (ht : Sl w base' u ys) :
    Calls Try.prog 26 #[v, u] w fun e w' => e = .returned (.bool (Nt.flatOf xs ys)) ∧ Kept [] w w' := by
  have HS := Lib.hid hs
  have HT := Lib.hid ht
  obtain ⟨a, cap, rfl, _, hm, _⟩ := hs.any
  obtain ⟨a', cap', rfl, _, hm', _⟩ := ht.any
  clear hs ht
  go_enter Try.func26, Try.ntmps26
  go_wp2_with fail
  refine (l3Ok_any xs 3 ys _ _ _ _ _ HS.out HT.out).mono ?_
  rintro e w1 ⟨rfl, hq⟩
  have HK1 := Lib.hid hq.kept
  have HS1 := Lib.hid (hq.sl HS.out)
  have HT1 := Lib.hid (hq.sl HT.out)
  clear hq HS HT
  cases h1 : Nt.fireB xs 3 ys
  · have HB := Lib.hid (Nt.flatOf_no1 h1)
    clear h1
    go_wp2
    go_ret
    exact ⟨by rw [HB.out]; rfl, HK1.out⟩
  · obtain ⟨ns, ks, rfl, rfl, ok, st, hl⟩ := Nt.fireB3_ok h1
    have HO := Lib.hid (And.intro ok (And.intro st hl))
    have HFO := Lib.hid (Nt.flatOf_ok ok st hl).symm
    have HY := Lib.hid (fun h => Nt.heightsOf_yes (ns := ns) (ks := ks) h)
    have HNO := Lib.hid (fun h => Nt.heightsOf_no (xs := Nt.nats ns) (ys := Nt.nats ks) h)
    clear h1 ok st hl
    go_wp2_with fail
    refine (l7Heights_any ns ks HO.out.1 HO.out.2.1 HO.out.2.2 _ _ _ _ _ HS1.out HT1.out (Nt.flatOf (Nt.nats ns) (Nt.nats ks)) (Nt.heightsOf (Nt.nats ns) (Nt.nats ks)) HFO.out HY.out HNO.out).mono ?_
    rintro e w2 ⟨z, rfl, _, hk2⟩
    have HK2 := Lib.hid (HK1.out.trans hk2 (by simp))
    clear hk2 HK1 HFO HY HNO
    generalize hb : Nt.flatOf (Nt.nats ns) (Nt.nats ks) = b at *
    have HB := Lib.hid hb
    clear hb
    go_wp2
    go_ret
    exact ⟨by rw [HB.out]; rfl, HK2.out⟩

set_option maxHeartbeats 1000000 in
set_option maxRecDepth 100000 in
theorem sStands_any (xs : List Int) (ys : List Int) (w : World) (v : Value) (base : Nat) (u : Value) (base' : Nat) (hs : Sl w base v xs) (ht : Sl w base' u ys) :
    Calls Try.prog 30 #[v, u] w fun e w' => e = .returned (.int .i64 (Nt.standsOf xs ys)) ∧ Kept [] w w' := by
  have HS := Lib.hid hs
  have HT := Lib.hid ht
  obtain ⟨a, cap, rfl, _, hm, _⟩ := hs.any
  obtain ⟨a', cap', rfl, _, hm', _⟩ := ht.any
  clear hs ht
  go_enter Try.func30, Try.ntmps30
  go_wp2_with fail
  refine (sFlat_any xs ys _ _ _ _ _ HS.out HT.out).mono ?_
  rintro e w1 ⟨rfl, hk1⟩
  have HK1 := Lib.hid hk1
  have HS1 := Lib.hid (HS.out.stay hk1)
  have HT1 := Lib.hid (HT.out.stay hk1)
  clear hk1 HS HT
  cases h1 : Nt.flatOf xs ys
  · have HF := Lib.hid (Nt.standsOf_no h1)
    clear h1
    go_wp2
    go_ret
    exact ⟨by rw [HF.out]; rfl, HK1.out⟩
  · obtain ⟨ns, ks, rfl, rfl, ok, st, hl, hf⟩ := Nt.flatOf_is h1
    have HO := Lib.hid (And.intro ok (And.intro st hl))
    have HF := Lib.hid (Nt.standsOf_yes h1)
    have HSTL := Lib.hid (Nt.stand_still ok st hl hf)
    have HLS := Lib.hid (fun s h => Nt.stand_least (net := ns) (ks := ks) (s := s) h)
    have hsf := Nt.stand_few ns ks
    have HSTT := Lib.hid (fun t => Nt.turns_st ns st t)
    have HLT := Lib.hid (fun t => (Nt.turns_length ns ks t).trans hl)
    have HLL : Hid (∀ t, (Nt.nats (Nt.turn ns (Nt.turns ns ks t))).length = (Nt.nats (Nt.turns ns ks t)).length) := Lib.hid (fun t => by rw [Nt.nats_length, Nt.nats_length, Nt.turn_length])
    obtain ⟨n, hn⟩ : ∃ n, n = ks.length := ⟨_, rfl⟩
    have hp := st.some
    have h6 := st.few
    rw [← hn] at hp h6
    have HX : Hid ((Nt.nats ks).length = n) := Lib.hid (by rw [Nt.nats_length, hn])
    have HE := Lib.hid (Sl.empty3 w1)
    have hka : Kept [] w1 (w1.alloc (.cells #[] 3)) := (Kept.refl [] w1).alloc _
    have HT2 := Lib.hid (HT1.out.stay hka)
    have HKA := Lib.hid hka
    clear h1 ok st hl hf hn hka HT1
    generalize hT : Nt.stand ns ks = T at *
    clear hT
    go_wp2_with (at_builtin; refine app_sl rfl _ _ rfl w1.heap.size _ [] HE.out rfl _ _ (Nt.nats ks) HT2.out (by rw [HX.out]; exact hp) rfl (by rw [HX.out]; simp; omega) (by simp) ?_; intro z w2 hs2 hk2; have HZ := Lib.hid hs2; have HK2 := Lib.hid (HKA.out.own hk2 (fun g' hg' => by simp [Value.ownBlock] at hg'; omega)); clear hs2 hk2)
    have HZ2 : Hid (Sl w2 w1.heap.size z (Nt.nats (Nt.turns ns ks 0))) := Lib.hid (by have h := HZ.out; rw [List.nil_append] at h; exact h)
    have HS2 := Lib.hid (HS1.out.stay HK2.out)
    have HK2' := Lib.hid (HK1.out.trans HK2.out (by simp))
    have HW12 := Lib.hid HK2.out.size
    clear HZ HE HT2 HKA HS1 HK2
    go_loopw [5, 6] (fun u i wr => ∃ t : Nat, t ≤ T ∧ i = .int .i64 t ∧ Sl wr w1.heap.size u (Nt.nats (Nt.turns ns ks t)) ∧ Kept [] w2 wr) (fun _ i _ => T - (intOf i).toNat)
    case atStart => exact ⟨0, Nat.zero_le _, rfl, HZ2.out, Kept.refl _ _⟩
    case round =>
      clear HZ2
      obtain ⟨t, ht, rfl, hsl, hkept⟩ := hrel
      have HSL := Lib.hid hsl
      have HK := Lib.hid hkept
      have HSW := Lib.hid (HS2.out.stay hkept)
      clear hsl hkept
      go_wp2_with fail
      refine (l5Step_any ns (Nt.turns ns ks t) HO.out.1 (HSTT.out t) (HLT.out t) _ _ _ _ _ HSW.out HSL.out).mono ?_
      rintro e w3 ⟨z3, rfl, hs3, hk3⟩
      have HZ3 := Lib.hid hs3
      have HSL3 := Lib.hid (HSL.out.stay hk3)
      have HSW3 := Lib.hid (HSW.out.stay hk3)
      have HK3 := Lib.hid (HK.out.trans hk3 (by simp))
      clear hs3 hk3 HSL HK HSW
      go_wp2_with fail
      refine (l3Same_any _ _ (HLL.out t) _ _ _ _ _ HZ3.out HSL3.out).mono ?_
      rintro e w4 ⟨rfl, hq⟩
      rw [dec_nats]
      have HSL4 := Lib.hid (hq.sl HSL3.out)
      have HSW4 := Lib.hid (hq.sl HSW3.out)
      have HK4 := Lib.hid (HK3.out.trans hq.kept (by simp))
      clear hq HSL3 HSW3 HK3 HZ3
      by_cases hlt : t < T
      · rw [decide_eq_false (HLS.out t hlt)]
        go_wp2_with fail
        refine (l5Step_any ns (Nt.turns ns ks t) HO.out.1 (HSTT.out t) (HLT.out t) _ _ _ _ _ HSW4.out HSL4.out).mono ?_
        rintro e w5 ⟨z5, rfl, hs5, hk5⟩
        have HK5 := Lib.hid (HK4.out.trans hk5 (by simp))
        have HZ5 : Hid (Sl w5 w1.heap.size z5 (Nt.nats (Nt.turns ns ks (t + 1)))) := Lib.hid (hs5.mono (Nat.le_trans HW12.out HK4.out.size))
        clear hs5 hk5
        go_wp2_with fail
        go_roundw
        case rel => exact ⟨t + 1, by omega, by go_num, HZ5.out, HK5.out⟩
        case measure => simp [intOf]; omega
      · have ht' : t = T := by omega
        subst ht'
        rw [decide_eq_true HSTL.out]
        have HKE := Lib.hid (HK2'.out.trans HK4.out (by simp))
        go_wp2
        go_ret
        exact ⟨by rw [HF.out]; rfl, HKE.out⟩

set_option maxHeartbeats 2000000 in
set_option maxRecDepth 100000 in
theorem sPeak_any (xs : List Int) (ys : List Int) (w : World) (v : Value) (base : Nat) (u : Value) (base' : Nat) (hs : Sl w base v xs) (ht : Sl w base' u ys) :
    Calls Try.prog 35 #[v, u] w fun e w' => ∃ z, e = .returned z ∧ Sl w' w.heap.size z (Nt.peaksOf xs ys) ∧ Kept [] w w' := by
  obtain ⟨a, cap, rfl, _, hm, _⟩ := hs.any
  obtain ⟨a', cap', rfl, _, hm', _⟩ := ht.any
  have hka : Kept [] w (w.alloc (.cells #[] 3)) := (Kept.refl [] w).alloc _
  have HE0 := Lib.hid (Sl.empty3 w)
  have HS := Lib.hid (hs.stay hka)
  have HT := Lib.hid (ht.stay hka)
  have HKA := Lib.hid hka
  have HWA : Hid (w.heap.size < (w.alloc (.cells #[] 3)).heap.size) := Lib.hid (by simp)
  clear hs ht hka
  go_enter Try.func35, Try.ntmps35
  go_wp2_with fail
  generalize w.alloc (.cells #[] 3) = w0 at *
  refine (sHeight_any xs ys _ _ _ _ _ HS.out HT.out).mono ?_
  rintro e w1 ⟨z1, rfl, hs1, hk1⟩
  have HH1 := Lib.hid hs1
  have HS1 := Lib.hid (HS.out.stay hk1)
  have HE1 := Lib.hid (HE0.out.stay hk1)
  have HK1 := Lib.hid (HKA.out.trans hk1 (by simp))
  obtain ⟨bz, capz, rfl, _, _, _⟩ := hs1.any
  clear hs1 hk1 HS HT HE0
  cases h1 : Nt.flatOf xs ys
  · have HF := Lib.hid (Nt.peaksOf_no h1)
    clear h1
    go_wp2_with fail
    refine (sParts_any xs _ _ _ HS1.out).mono ?_
    rintro e w2 ⟨z2, rfl, hs2, hk2⟩
    have HE2 := Lib.hid (HE1.out.stay hk2)
    have HK2 := Lib.hid (HK1.out.trans hk2 (by simp))
    clear hs2 hk2 HE1 HK1
    go_wp2_with fail
    go_loopw [5, 9] (fun u i wr => i = .int .i64 0 ∧ u = .slice (some ⟨w.heap.size, 0, none⟩) 0 0 ∧ w2 = wr) (fun _ _ _ => 0)
    case atStart => exact ⟨rfl, rfl, rfl⟩
    case round =>
      obtain ⟨rfl, rfl, rfl⟩ := hrel
      by_cases h0 : 0 < xs.length
      · have d1 : decide (0 < xs.length) = true := decide_eq_true h0
        have d2 : decide ((0 : Int) < (xs.length : Int)) = true := decide_eq_true (by omega)
        clear h0
        go_wp2
        go_ret
        exact ⟨_, rfl, by rw [HF.out]; exact HE2.out, HK2.out⟩
      · have d1 : decide (0 < xs.length) = false := decide_eq_false h0
        have d2 : decide ((0 : Int) < (xs.length : Int)) = false := decide_eq_false (by omega)
        clear h0
        go_wp2
        go_ret
        exact ⟨_, rfl, by rw [HF.out]; exact HE2.out, HK2.out⟩
  · obtain ⟨ns, ks, rfl, rfl, ok, st, hl, hf⟩ := Nt.flatOf_is h1
    have HF := Lib.hid (Nt.peaksOf_yes h1)
    have hh1 := HH1.out
    rw [Nt.heightsOf_yes h1] at hh1
    have HY1 := Lib.hid hh1
    rw [Nt.heightsOf_yes h1]
    obtain ⟨n, hn⟩ : ∃ n, n = ks.length := ⟨_, rfl⟩
    have hp := st.some
    have h6 := st.few
    rw [← hn] at hp h6
    have hhl : (Nt.hgtL ns ks).length = n := by rw [Nt.hgtL_length, hn]
    have HHL := Lib.hid hhl
    have HPO := Lib.hid (Nt.partsOf_ok ok)
    have HPL : Hid ((Nt.parts ns).length = n) := Lib.hid (by rw [Nt.parts_length ok]; omega)
    have HKL : Hid ((Nt.peakL ns ks).length = n) := Lib.hid (by rw [Nt.peakL_length, hn])
    have HKG : Hid (∀ k, k < n → (Nt.peakL ns ks).getD k 0 = Nt.overTo (fun j => (Nt.hgtL ns ks).getD j 0) (fun j => decide ((Nt.parts ns).getD j 0 = (Nt.parts ns).getD k 0)) ((Nt.hgtL ns ks).getD k 0) n) := Lib.hid (fun k hk => by
      rw [Nt.peakL_get ns ks (by omega)]
      unfold Nt.peakK
      rw [hn]
      exact Nt.overTo_cong (Nt.hgtL_get ns ks (by omega)).symm _ (fun j hj => (Nt.hgtL_get ns ks (by omega)).symm))
    have HHS : Hid (∀ k, k < n → -5 ≤ (Nt.hgtL ns ks).getD k 0 ∧ (Nt.hgtL ns ks).getD k 0 ≤ 5) := Lib.hid (fun k hk => by rw [Nt.hgtL_get ns ks (by omega)]; exact Nt.hgt_small ok st hl hf (by omega))
    have hln : (Nt.nats ns).length = n := by rw [Nt.nats_length]; omega
    rw [hln, hhl]
    rw [hln] at HS1
    rw [hhl] at HY1
    have HTP := Lib.hid (fun k (hk : k < n) => takeP_succ (Nt.peakL ns ks) k (by rw [HKL.out]; exact hk))
    clear ok st hl hf hn h1 hln hhl hh1 hm hm' HH1
    generalize Nt.hgtL ns ks = hs at *
    go_wp2_with fail
    refine (sParts_any (Nt.nats ns) _ _ _ HS1.out).mono ?_
    rintro e w2 ⟨z2, rfl, hs2, hk2⟩
    rw [HPO.out] at hs2
    obtain ⟨gp, capp, rfl, hgp, hcp⟩ := hs2.row HPL.out hp
    have HCP := Lib.hid hcp
    have HY2 := Lib.hid (HY1.out.stay hk2)
    have HE2 := Lib.hid (HE1.out.stay hk2)
    have HK2 := Lib.hid (HK1.out.trans hk2 (by simp))
    obtain ⟨gh, caph, e3, _, hgh⟩ := HY2.out.shape HHL.out hp
    simp at e3
    obtain ⟨rfl, rfl⟩ := e3
    have HCH : Hid (∀ k, k < n → w2.cell? ⟨gh, k, none⟩ = some (.int .i64 (hs.getD k 0))) := Lib.hid (fun k hk => (HY2.out.at k (by rw [HHL.out]; exact hk)).1)
    have HGH : Hid (w.heap.size < gh) := Lib.hid (by have h1 := (HY1.out.block rfl).1; have h2 := HWA.out; omega)
    have HGP : Hid (w.heap.size < gp) := Lib.hid (by have h1 : w1.heap.size ≤ gp := (hs2.block rfl).1; have h4 : w.heap.size < w1.heap.size := (HE1.out.block rfl).2; omega)
    have HP0 : Hid (Sl w2 w.heap.size (.slice (some ⟨w.heap.size, 0, none⟩) 0 0) ((Nt.peakL ns ks).take 0)) := Lib.hid (by rw [List.take_zero]; exact HE2.out)
    clear hs2 hk2 HE1 HE2 HK1 HS1 hcp HY1 HY2
    go_wp2_with fail
    go_loopw [5, 9] (fun u i wr => ∃ k : Nat, k ≤ n ∧ i = .int .i64 k ∧ Sl wr w.heap.size u ((Nt.peakL ns ks).take k) ∧ Kept [] w wr ∧ Kept [w.heap.size] w2 wr ∧ (∀ g, u.ownBlock = some g → g = w.heap.size ∨ w2.heap.size ≤ g)) (fun _ i _ => n - (intOf i).toNat)
    case atStart => exact ⟨0, Nat.zero_le _, rfl, HP0.out, HK2.out, Kept.refl _ _, fun g hg => by simp [Value.ownBlock] at hg; exact .inl hg.symm⟩
    case round =>
      clear HP0
      obtain ⟨k, hk, rfl, hsl, hkept, hk3, hblk⟩ := hrel
      have HSL := Lib.hid hsl
      have HK := Lib.hid hkept
      have HKW := Lib.hid hk3
      have HBL := Lib.hid hblk
      by_cases hlt : k < n
      · have hgh1 := HGH.out
        have hgp1 := HGP.out
        have ch := (hk3.cell (p := ⟨gh, k, none⟩) hgh (by simp; omega)).trans (HCH.out k hlt)
        have cp := (hk3.cell (p := ⟨gp, k, none⟩) hgp (by simp; omega)).trans (HCP.out k hlt)
        have HCHW := Lib.hid (fun j (hj : j < n) => (hk3.cell (p := ⟨gh, j, none⟩) hgh (by simp; omega)).trans (HCH.out j hj))
        have HCPW := Lib.hid (fun j (hj : j < n) => (hk3.cell (p := ⟨gp, j, none⟩) hgp (by simp; omega)).trans (HCP.out j hj))
        have HT := Lib.hid (HTP.out k hlt)
        have HA := Lib.hid (HKG.out k hlt)
        have HLL : Hid (((Nt.peakL ns ks).take k).length ≤ 1000000) := Lib.hid (by rw [List.length_take]; omega)
        have HOS : Hid (∀ j, Nt.overTo (fun j => hs.getD j 0) (fun j => decide ((Nt.parts ns).getD j 0 = (Nt.parts ns).getD k 0)) (hs.getD k 0) (j + 1) = if decide ((Nt.parts ns).getD j 0 = (Nt.parts ns).getD k 0) = true then max (Nt.overTo (fun j => hs.getD j 0) (fun j => decide ((Nt.parts ns).getD j 0 = (Nt.parts ns).getD k 0)) (hs.getD k 0) j) (hs.getD j 0) else Nt.overTo (fun j => hs.getD j 0) (fun j => decide ((Nt.parts ns).getD j 0 = (Nt.parts ns).getD k 0)) (hs.getD k 0) j) := Lib.hid (fun _ => rfl)
        have HO0 : Hid (Nt.overTo (fun j => hs.getD j 0) (fun j => decide ((Nt.parts ns).getD j 0 = (Nt.parts ns).getD k 0)) (hs.getD k 0) 0 = hs.getD k 0) := Lib.hid rfl
        clear hsl hkept hk3 hblk hgh1 hgp1
        generalize Nt.overTo (fun j => hs.getD j 0) (fun j => decide ((Nt.parts ns).getD j 0 = (Nt.parts ns).getD k 0)) (hs.getD k 0) = O at *
        generalize hs.getD k 0 = h at *
        generalize hy : (Nt.parts ns).getD k 0 = y at *
        clear hy
        obtain ⟨wa, hwa⟩ : ∃ wa, wa = wr := ⟨_, rfl⟩
        subst hwa
        have CP := Lib.hid cp
        clear cp
        go_wp2_with fail
        go_loopw [10, 11] (fun q i wx => ∃ j : Nat, j ≤ n ∧ i = .int .i64 j ∧ q = .int .i64 (O j) ∧ Qt wa wx) (fun _ i _ => n - (intOf i).toNat)
        case atStart => exact ⟨0, Nat.zero_le _, rfl, by rw [HO0.out], Qt.refl _⟩
        case round =>
          obtain ⟨j, hj, rfl, rfl, hq⟩ := hrel
          have HQ := Lib.hid hq
          by_cases hltj : j < n
          · have c1 := (hq.cell _).trans CP.out
            have c2 := (hq.cell _).trans (HCPW.out j hltj)
            have HST := Lib.hid (HOS.out j)
            have c3 := (hq.cell _).trans (HCHW.out j hltj)
            clear hq
            generalize O j = o at *
            generalize hs.getD j 0 = d at *
            generalize (Nt.parts ns).getD j 0 = x at *
            by_cases hxy : x = y
            · have HX : Hid (O (j + 1) = if o < d then d else o) := Lib.hid (by rw [HST.out, decide_eq_true hxy, if_pos rfl]; split <;> omega)
              have d1 : ((x : Int) == (y : Int)) = true := by simp [hxy]
              clear HST hxy
              go_wp2_with fail
              go_quiet (fail)
              have HQ2 := Lib.hid (HQ.out.draw nq)
              have c3' : (wr.drewN nq).cell? ⟨gh, j, none⟩ = some (.int .i64 d) := c3
              clear c1 c2 c3
              generalize wr.drewN nq = w5 at *
              go_wp2
              go_roundw
              case rel => exact ⟨j + 1, by omega, by go_num, by rw [HX.out], HQ2.out⟩
              case measure => simp [intOf]; omega
            · have HX : Hid (O (j + 1) = o) := Lib.hid (by rw [HST.out, decide_eq_false hxy]; rfl)
              have d1 : ((x : Int) == (y : Int)) = false := beq_eq_false_iff_ne.2 (by omega)
              clear HST hxy
              go_wp2_with fail
              go_quiet (fail)
              go_wp2
              go_roundw
              case rel => exact ⟨j + 1, by omega, by go_num, by rw [HX.out], HQ.out.draw _⟩
              case measure => simp [intOf]; omega
          · have hj' : j = n := by omega
            subst hj'
            have HSLX := Lib.hid (hq.sl HSL.out)
            have HKX0 := Lib.hid (HK.out.trans hq.kept (by simp))
            have HKWX := Lib.hid (HKW.out.trans (rows' := []) hq.kept (by simp))
            have HAO : Hid (O j = (Nt.peakL ns ks).getD k 0) := Lib.hid HA.out.symm
            have hszx := HKX0.out.size
            clear hq HSL HK HKW
            generalize O j = o at *
            go_wp2_with (at_builtin; refine app_int_at _ rfl _ _ rfl w.heap.size _ _ HSLX.out rfl rfl HLL.out (by omega) ?_; intro u' wx hsx hkx hbx; have HSX := Lib.hid hsx; have HKX := Lib.hid hkx; have HBX := Lib.hid hbx; clear hsx hkx hbx)
            go_roundw
            case rel =>
              refine ⟨k + 1, by omega, by go_num, HSX.out.val HAO.out HT.out, HKX0.out.own HKX.out (fun g hg => (HSLX.out.block hg).1), ?_, ?_⟩
              · exact HKWX.out.trans HKX.out (fun x hx => by
                  rcases HBL.out x (by simpa using hx) with h | h
                  · exact .inl (by simp [h])
                  · exact .inr h)
              · intro g hg
                rcases HBX.out g hg with h | h
                · exact HBL.out g h
                · exact .inr (Nat.le_trans HKWX.out.size h)
            case measure => simp [intOf]; omega
      · have hk' : k = n := by omega
        subst hk'
        clear hsl hkept hk3 hblk
        go_wp2
        go_ret
        exact ⟨_, rfl, by have h := HSL.out; rw [List.take_of_length_le (by rw [HKL.out]; exact Nat.le_refl _)] at h; rw [HF.out]; exact h, HK.out⟩
end Go.Proofs.Ytjpnepjpkgffpaa
