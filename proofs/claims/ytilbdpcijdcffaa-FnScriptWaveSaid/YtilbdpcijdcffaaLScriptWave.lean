/-
  The law ScriptWave, walked.
-/
import Derived.Test.YtilbdpcijdcffaaDS
import Derived.Test.YtilbdpcijdcffaaL1
import Derived.Test.YtilbdpcijdcffaaSP3
import Derived.Test.YtilbdpcijdcffaaSP4
import Derived.Test.YtilbdpcijdcffaaSM
import Derived.Test.YtilbdpcijdcffaaFB
import Derived.Test.YtilbdpcijdcffaaNB
namespace Go.Proofs.Ytilbdpcijdcffaa
open Go.RowKit

set_option maxHeartbeats 4000000 in
set_option maxRecDepth 100000 in
theorem FnScriptWave_calls (w : World) (v : Value) (ha : ArgB w v) :
    Calls Try.prog 7 #[v] w fun e w' => e = .returned (.bool true) ∧ Kept [] w w' := by
  have HA := Lib.hid ha
  obtain ⟨a, len, cap, rfl, hlc, hcm, _⟩ := ha
  by_cases hbig : 1048576 < len
  · have hb : (1048576 : Int) < (len : Int) := by omega
    clear hbig
    go_enter Try.func7, Try.ntmps7
    go_wp2
    go_ret
    exact ⟨rfl, Kept.refl _ _⟩
  have hb : ¬ (1048576 : Int) < (len : Int) := by omega
  clear hbig
  go_enter Try.func7, Try.ntmps7
  go_wp2_with fail
  refine (drawNearOf_any _ _ HA.out).mono ?_
  rintro e w1 ⟨u, xs, x, rfl, hs, hl6, hk⟩
  have S1 := Lib.hid hs
  have HK := Lib.hid hk
  clear hk hb
  by_cases hv : Nt.okB xs = true ∧ 0 ≤ x ∧ x < 2 ^ xs.length
  · obtain ⟨ho, hx0, hx2⟩ := hv
    obtain ⟨ns, rfl, ok⟩ := Nt.okB_ok ho
    obtain ⟨s, rfl⟩ := Int.eq_ofNat_of_zero_le hx0
    have hs2 : s < 2 ^ ns.length := by
      rw [Nt.nats_length] at hx2
      have h9 : ((2 ^ ns.length : Nat) : Int) = (2 : Int) ^ ns.length := Int.natCast_pow 2 _
      omega
    obtain ⟨n, hnn⟩ : ∃ n, n = ns.length := ⟨_, rfl⟩
    have hp : 0 < n := by have := ok.some; omega
    have h6n : n ≤ 6 := by have := ok.few; omega
    obtain ⟨gS, capS, rfl, _, _⟩ := hs.row (n := n) hnn.symm hp
    have HN := Lib.hid hnn
    have HRZ : Hid (List.replicate n (0 : Int) = Nt.nats (Nt.rest n)) := Lib.hid (by unfold Nt.nats Nt.rest; rw [List.map_replicate]; rfl)
    have HSF : Hid (Nt.sfiredOf (Nt.nats ns) 3 (Nt.nats (Nt.rest n)) (Nt.prs (Nt.firstS s n)) 12 = Nt.nats (Nt.firedSL ns 3 (Nt.rest n) (Nt.firstS s n) 12)) := Lib.hid (by
      rw [hnn]
      exact Nt.sfiredOf_ok (c := 3) (t := 12) ok (Nt.rest_st (by omega) (by omega) ok.some ok.few) (Nt.rest_length _) (Nt.firstS_ok ok.some ok.few) (by omega))
    have HRL : Hid ((Nt.firedSL ns 3 (Nt.rest n) (Nt.firstS s n) 12).length = n) := Lib.hid (by rw [Nt.firedSL_length, hnn])
    have HFF : Hid (Nt.farOf (Nt.nats ns) ((s : Nat) : Int) = Nt.far ns s) := Lib.hid (Nt.farOf_ok ok hs2)
    have HALL : Hid (∀ k, k < n → (Nt.firedSL ns 3 (Nt.rest n) (Nt.firstS s n) 12).getD k 0 = if 0 ≤ Nt.dist ns s 64 k then 1 else 0) := Lib.hid (fun k hk => by
      rw [Nt.firedSL_get _ _ _ _ _ (by rw [← hnn]; exact hk), hnn, Nt.first_fired ok (by omega) hs2 (by rw [← hnn]; exact hk) 11]
      have hr := Nt.dist_range (net := ns) s k
      have hf := Nt.dist_few ok hs2 k
      have h6 := ok.few
      by_cases h0 : 0 ≤ Nt.dist ns s 64 k
      · rw [if_pos h0, if_pos ⟨h0, by omega⟩]
      · rw [if_neg h0, if_neg (fun h => h0 h.1)])
    have HNX : Hid (∀ k, Nt.prs (Nt.firstS s (k + 1)) = if s.testBit k = true then Nt.prs (Nt.firstS s k) ++ [((0 : Int), (k : Int))] else Nt.prs (Nt.firstS s k)) := Lib.hid (fun k => by
      rw [Nt.firstS]
      split
      · rw [Nt.prs_append]; rfl
      · rfl)
    have HPL : Hid (∀ k, (Nt.prs (Nt.firstS s k)).length ≤ k) := Lib.hid (fun k => by rw [Nt.prs_length]; exact Nt.firstS_length s k)
    have HZ0 : Hid (Sg (w1.alloc (.cells #[] 35)) w1.heap.size (.slice (some ⟨w1.heap.size, 0, none⟩) 0 0) (Nt.prs (Nt.firstS s 0))) := Lib.hid (Sg.empty w1)
    have hnn' : ((n : Int) != (n : Int)) = false := by simp
    have hne0 : ((n : Int) == 0) = false := beq_eq_false_iff_ne.2 (by omega)
    clear hs ho hx0 hx2 ok hs2 hnn hl6
    go_wp2_with fail
    go_loopw [5, 6] (fun u i wr => ∃ k : Nat, k ≤ n ∧ i = .int .i64 k ∧ Sg wr w1.heap.size u (Nt.prs (Nt.firstS s k)) ∧ Kept [] w1 wr) (fun _ i _ => n - (intOf i).toNat)
    case atStart => exact ⟨0, Nat.zero_le _, rfl, HZ0.out, (Kept.refl _ _).alloc _⟩
    case round =>
      clear HZ0
      obtain ⟨k, hk, rfl, hsl, hkept⟩ := hrel
      have HSL := Lib.hid hsl
      have HK9 := Lib.hid hkept
      have hsz := hkept.size
      by_cases hlt : k < n
      · have hll := HPL.out k
        have p1 := shr_nonneg s k
        have e1 := shr_bit s k
        have hnx := HNX.out k
        clear hsl hkept
        by_cases hb : s.testBit k = true
        · rw [if_pos hb] at e1 hnx
          have HNX9 := Lib.hid hnx
          clear hnx hb
          go_wp2_with (at_builtin; refine app_light _ _ rfl _ _ rfl w1.heap.size _ _ HSL.out rfl rfl (by omega) (by omega) ?_; intro u' w9 hs9 hk9; have HS9 := Lib.hid hs9; have HK10 := Lib.hid (HK9.out.own hk9 (fun g hg => (HSL.out.block hg).1)); clear hs9 hk9)
          go_roundw
          case rel => exact ⟨k + 1, by omega, by go_num, by rw [HNX9.out]; exact HS9.out, HK10.out⟩
          case measure => simp [intOf]; omega
        · rw [if_neg hb] at e1 hnx
          have HNX9 := Lib.hid hnx
          clear hnx hb
          go_wp2
          go_roundw
          case rel => exact ⟨k + 1, by omega, by go_num, by rw [HNX9.out]; exact HSL.out, HK9.out⟩
          case measure => simp [intOf]; omega
      · have hk' : n = k := by omega
        subst hk'
        have ZS := Lib.hid hsl
        obtain ⟨bZ, capZ, rfl, _, _, _⟩ := hsl.any
        have hk := HK9.out
        clear hlt hsz HSL HK9 hkept hsl HNX HPL
        obtain ⟨w30, hw30⟩ : ∃ w30, w30 = wr := ⟨_, rfl⟩
        subst hw30
        have S30 := Lib.hid (S1.out.stay hk)
        have HK30 := Lib.hid (HK.out.trans hk (by simp))
        clear S1 HK
        clear hk
        go_wp2_with (at_make; refine make_int _ n rfl _ _ rfl rfl rfl ?_ ?_)
        · exact Nat.le_trans h6n (by decide)
        · intro w31 hs hk _
          rw [HRZ.out] at hs
          have Z31 := Lib.hid hs
          have S31 := Lib.hid (S30.out.stay hk)
          have G31 := Lib.hid (ZS.out.stay hk)
          have HK31 := Lib.hid (HK30.out.trans hk (by simp))
          clear S30 ZS HK30
          clear hs hk
          go_wp2_with fail
          refine (iScriptFired_any _ _ _ _ _ _ _ _ _ _ _ _ S31.out Z31.out G31.out).mono ?_
          rintro e w32 ⟨u32, rfl, hs, hk⟩
          rw [HSF.out] at hs
          have F32 := Lib.hid hs
          obtain ⟨gF, capF, rfl, hgF, hcF⟩ := hs.row HRL.out hp
          have CF32 := Lib.hid hcF
          have lF32 := Lib.hid hgF
          clear hgF hcF
          have S32 := Lib.hid (S31.out.stay hk)
          have G32 := Lib.hid (G31.out.stay hk)
          have Z32 := Lib.hid (Z31.out.stay hk)
          have HK32 := Lib.hid (HK31.out.trans hk (by simp))
          clear S31 G31 Z31 HK31
          clear hs hk
          go_wp2_with fail
          refine (iFar_any _ _ _ _ _ S32.out).mono ?_
          rintro e w33 ⟨u33, rfl, hs, hk⟩
          rw [HFF.out] at hs
          have D33 := Lib.hid hs
          obtain ⟨gD, capD, rfl, _, hgD⟩ := hs.shape (n := n) (by rw [Nt.far_length]; exact HN.out.symm) hp
          have CD33 := Lib.hid (fun j (hj : j < n) => ((hs.at j (by rw [Nt.far_length, ← HN.out]; exact hj)).1).trans (by rw [Nt.far_get _ _ (by rw [← HN.out]; exact hj)]))
          have lD33 := Lib.hid hgD
          clear hgD
          have S33 := Lib.hid (S32.out.stay hk)
          have G33 := Lib.hid (G32.out.stay hk)
          have Z33 := Lib.hid (Z32.out.stay hk)
          have F33 := Lib.hid (F32.out.stay hk)
          have CF33 := Lib.hid (fun j (hj : j < n) => (hk.cell (p := ⟨gF, j, none⟩) lF32.out (by simp)).trans (CF32.out j hj))
          have lF33 := Lib.hid (Nat.lt_of_lt_of_le lF32.out hk.size)
          have HK33 := Lib.hid (HK32.out.trans hk (by simp))
          clear S32 G32 Z32 F32 CF32 lF32 HK32
          clear hs hk
          go_wp2_with fail
          go_loop [9] (fun i => ∃ k : Nat, k ≤ n ∧ i = .int .i64 k) (fun i => n - (intOf i).toNat)
          case atStart => exact ⟨0, Nat.zero_le _, rfl⟩
          case round =>
            obtain ⟨k, hk, rfl⟩ := hrel
            by_cases hlt : k < n
            · have kF := CF33.out k hlt
              have kD := CD33.out k hlt
              have hall := HALL.out k hlt
              generalize (Nt.firedSL ns 3 (Nt.rest n) (Nt.firstS s n) 12).getD k 0 = r at *
              generalize Nt.dist ns s 64 k = d at *
              by_cases hd : 0 ≤ d
              · rw [if_pos hd] at hall
                subst hall
                go_wp2
                go_round
                case rel => exact ⟨k + 1, by omega, by go_num⟩
                case measure => simp [intOf]; omega
              · rw [if_neg hd] at hall
                subst hall
                go_wp2
                go_round
                case rel => exact ⟨k + 1, by omega, by go_num⟩
                case measure => simp [intOf]; omega
            · have hk' : n = k := by omega
              subst hk'
              clear hlt hk
              go_wp2_with fail
              refine (alive_any _).mono ?_
              rintro e w99 ⟨rfl, hk⟩
              go_wp2
              go_ret
              exact ⟨rfl, HK33.out.trans hk (by simp)⟩
  · have HFF := Lib.hid (Nt.farOf_no hv)
    obtain ⟨bS, capS, rfl, _, _, _⟩ := hs.any
    have HZ0 : Hid (Sg (w1.alloc (.cells #[] 35)) w1.heap.size (.slice (some ⟨w1.heap.size, 0, none⟩) 0 0) []) := Lib.hid (Sg.empty w1)
    clear hv hs
    obtain ⟨n, hnn⟩ : ∃ n, xs.length = n := ⟨_, rfl⟩
    have HNN := Lib.hid hnn
    rw [hnn] at hl6 S1 ⊢
    clear hnn
    go_wp2_with fail
    go_loopw [5, 6] (fun u i wr => ∃ (k : Nat) (ls : List (Int × Int)), k ≤ n ∧ i = .int .i64 k ∧ ls.length ≤ k ∧ Sg wr w1.heap.size u ls ∧ Kept [] w1 wr) (fun _ i _ => n - (intOf i).toNat)
    case atStart => exact ⟨0, [], Nat.zero_le _, rfl, by simp, HZ0.out, (Kept.refl _ _).alloc _⟩
    case round =>
      clear HZ0
      obtain ⟨k, ls, hk, rfl, hll, hsl, hkept⟩ := hrel
      have HSL := Lib.hid hsl
      have HK9 := Lib.hid hkept
      have hsz := hkept.size
      by_cases hlt : k < n
      · clear hsl hkept
        go_wp2_with (at_builtin; refine app_light _ _ rfl _ _ rfl w1.heap.size _ _ HSL.out rfl rfl (by omega) (by omega) ?_; intro u' w9 hs9 hk9; have HS9 := Lib.hid hs9; have HK10 := Lib.hid (HK9.out.own hk9 (fun g hg => (HSL.out.block hg).1)); clear hs9 hk9)
        all_goals
          go_roundw
          case rel => first | exact ⟨k + 1, _, by omega, by go_num, by rw [List.length_append]; show ls.length + 1 ≤ _; omega, HS9.out, HK10.out⟩ | exact ⟨k + 1, ls, by omega, by go_num, by omega, HSL.out, HK9.out⟩
          case measure => simp [intOf]; omega
      · have hk' : n = k := by omega
        subst hk'
        have ZS := Lib.hid hsl
        obtain ⟨bZ, capZ, rfl, _, _, _⟩ := hsl.any
        have hk := HK9.out
        clear hlt hsz HSL HK9 hkept hsl
        obtain ⟨w30, hw30⟩ : ∃ w30, w30 = wr := ⟨_, rfl⟩
        subst hw30
        have S30 := Lib.hid (S1.out.stay hk)
        have HK30 := Lib.hid (HK.out.trans hk (by simp))
        clear S1 HK
        clear hk
        go_wp2_with (at_make; refine make_int _ n rfl _ _ rfl rfl rfl ?_ ?_)
        · exact Nat.le_trans hl6 (by decide)
        · intro w31 hs hk _
          have Z31 := Lib.hid hs
          have S31 := Lib.hid (S30.out.stay hk)
          have G31 := Lib.hid (ZS.out.stay hk)
          have HK31 := Lib.hid (HK30.out.trans hk (by simp))
          clear S30 ZS HK30
          clear hs hk
          obtain ⟨bY, capY, eY, _, _, _⟩ := Z31.out.any
          clear eY
          go_wp2_with fail
          refine (iScriptFired_any _ _ _ _ _ _ _ _ _ _ _ _ S31.out Z31.out G31.out).mono ?_
          rintro e w32 ⟨u32, rfl, hs, hk⟩
          have F32 := Lib.hid hs
          obtain ⟨bF, capF, rfl, _, _, _⟩ := hs.any
          have S32 := Lib.hid (S31.out.stay hk)
          have G32 := Lib.hid (G31.out.stay hk)
          have Z32 := Lib.hid (Z31.out.stay hk)
          have HK32 := Lib.hid (HK31.out.trans hk (by simp))
          clear S31 G31 Z31 HK31
          clear hs hk
          go_wp2_with fail
          refine (iFar_any _ _ _ _ _ S32.out).mono ?_
          rintro e w33 ⟨u33, rfl, hs, hk⟩
          rw [HFF.out] at hs
          have D33 := Lib.hid hs
          obtain ⟨bD, capD, rfl, _, _, _⟩ := hs.any
          have S33 := Lib.hid (S32.out.stay hk)
          have G33 := Lib.hid (G32.out.stay hk)
          have Z33 := Lib.hid (Z32.out.stay hk)
          have F33 := Lib.hid (F32.out.stay hk)
          have HK33 := Lib.hid (HK32.out.trans hk (by simp))
          clear S32 G32 Z32 F32 HK32
          clear hs hk
          go_wp2_with fail
          refine (sFar_any _ _ _ _ _ S33.out).mono ?_
          rintro e w34 ⟨u34, rfl, hs, hk⟩
          rw [HFF.out] at hs
          have E34 := Lib.hid hs
          obtain ⟨bE, capE, rfl, _, _, _⟩ := hs.any
          have S34 := Lib.hid (S33.out.stay hk)
          have G34 := Lib.hid (G33.out.stay hk)
          have Z34 := Lib.hid (Z33.out.stay hk)
          have F34 := Lib.hid (F33.out.stay hk)
          have D34 := Lib.hid (D33.out.stay hk)
          have HK34 := Lib.hid (HK33.out.trans hk (by simp))
          clear S33 G33 Z33 F33 D33 HK33
          clear hs hk
          go_wp2_with fail
          refine (alive_any _).mono ?_
          rintro e w35 ⟨rfl, hk⟩
          have S35 := Lib.hid (S34.out.stay hk)
          have G35 := Lib.hid (G34.out.stay hk)
          have Z35 := Lib.hid (Z34.out.stay hk)
          have F35 := Lib.hid (F34.out.stay hk)
          have D35 := Lib.hid (D34.out.stay hk)
          have E35 := Lib.hid (E34.out.stay hk)
          have HK35 := Lib.hid (HK34.out.trans hk (by simp))
          clear S34 G34 Z34 F34 D34 E34 HK34
          clear hk
          go_wp2
          go_ret
          exact ⟨rfl, HK35.out⟩
end Go.Proofs.Ytilbdpcijdcffaa
