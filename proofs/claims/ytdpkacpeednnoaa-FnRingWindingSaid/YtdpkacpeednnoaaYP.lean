/-
  Walks: fronts, their moves and states, windings of rings and their numbers, by the program.
-/
import Derived.Test.YtdpkacpeednnoaaYM
import Derived.Test.YtdpkacpeednnoaaH1
import Derived.Test.YtdpkacpeednnoaaTI
import Derived.Test.YtdpkacpeednnoaaPureRX
namespace Go.Proofs.Ytdpkacpeednnoaa
open Go.RowKit

set_option maxHeartbeats 400000 in
set_option maxRecDepth 100000 in
theorem ringOk_any (n : Int) (w : World) :
    Calls Try.prog 45 #[.int .i64 n] w fun e w' => e = .returned (.bool (decide (3 ≤ n ∧ n ≤ 6))) ∧ w = w' := by
  by_cases a : 3 ≤ n
  · have d : decide (1 ≤ n ∧ n ≤ 6) = decide (3 ≤ n ∧ n ≤ 6) := by rw [Bool.eq_iff_iff, decide_eq_true_iff, decide_eq_true_iff]; omega
    generalize decide (3 ≤ n ∧ n ≤ 6) = b at *
    go_enter Try.func45, Try.ntmps45
    go_wp2_with (go_at_call 61; refine (nodesOk_any n _).mono ?_; rintro e w' ⟨rfl, rfl⟩; rw [d])
    go_ret
    exact ⟨rfl, rfl⟩
  · have d : decide (3 ≤ n ∧ n ≤ 6) = false := decide_eq_false (by omega)
    go_enter Try.func45, Try.ntmps45
    go_wp2
    go_ret
    exact ⟨rfl, rfl⟩

set_option maxHeartbeats 400000 in
set_option maxRecDepth 100000 in
theorem nextPlace_any (a : Option Addr) (n cap k : Nat) (hp : 0 < n) (h6 : n ≤ 1000) (hk : k ≤ 1000) (w : World) :
    Calls Try.prog 47 #[.slice a n cap, .int .i64 (k : Int)] w fun e w' => e = .returned (.int .i64 (((k + 1) % n : Nat) : Int)) ∧ w = w' := by
  have e1 : ((k : Int) + 1).tmod (n : Int) = (((k + 1) % n : Nat) : Int) := mod_int (k + 1) n
  have s1 : IntKind.i64.wrap ((k : Int) + 1) = (k : Int) + 1 := IntWalk.i64_in _ (by omega)
  have hn0 : ¬ n = 0 := by omega
  have hq := Nat.mod_lt (k + 1) hp
  generalize (k + 1) % n = q at *
  go_enter Try.func47, Try.ntmps47
  go_wp2
  go_ret
  exact ⟨rfl, rfl⟩

set_option maxHeartbeats 1000000 in
set_option maxRecDepth 100000 in
theorem sumOf_any (xs : List Int) (h6 : xs.length ≤ 6) (hsg : Nt.signsTo xs xs.length) (w : World) (v : Value) (base : Nat) (hs : Sl w base v xs) :
    Calls Try.prog 51 #[v] w fun e w' => e = .returned (.int .i64 (Nt.sumI xs xs.length)) ∧ w = w' := by
  obtain ⟨a, cap, rfl, _, hm, hc⟩ := hs.any
  have HC := Lib.hid hc
  have HSG := Lib.hid hsg
  have HBD := Lib.hid (fun k (hk : k ≤ xs.length) => Nt.sumI_bounds (fs := xs) k (fun i hi => hsg i (by omega)))
  clear hc hs hsg
  go_enter Try.func51, Try.ntmps51
  go_wp2
  go_loop [3, 8] (fun s i => ∃ k : Nat, k ≤ xs.length ∧ i = .int .i64 k ∧ s = .int .i64 (Nt.sumI xs k)) (fun _ i => xs.length - (intOf i).toNat)
  case atStart => exact ⟨0, Nat.zero_le _, rfl, rfl⟩
  case round =>
    obtain ⟨k, hk, rfl, rfl⟩ := hrel
    have hbd := HBD.out k hk
    by_cases hlt : k < xs.length
    · obtain ⟨g, rfl, _, _, hcell, _⟩ := HC.out k hlt
      have hx := HSG.out k hlt
      have HN : Hid (Nt.sumI xs (k + 1) = Nt.sumI xs k + xs.getD k 0) := Lib.hid rfl
      generalize Nt.sumI xs k = s at *
      generalize xs.getD k 0 = b at *
      have s1 : IntKind.i64.wrap (s + b) = s + b := IntWalk.i64_in _ (by omega)
      go_wp2
      go_round
      case rel => exact ⟨k + 1, by omega, by go_num, by rw [HN.out]⟩
      case measure => simp [intOf]; omega
    · have hk' : k = xs.length := by omega
      subst hk'
      go_wp2
      go_ret
      exact ⟨rfl, rfl⟩

set_option maxHeartbeats 1000000 in
set_option maxRecDepth 100000 in
theorem frontsOkE_any (xs : List Int) (w : World) (v : Value) (base : Nat) (hs : Sl w base v xs) :
    Calls Try.prog 16 #[v] w fun e w' => e = .returned (.bool (Nt.frB xs)) ∧ w = w' := by
  have HS := Lib.hid hs
  obtain ⟨a, cap, rfl, _, hm, hc⟩ := hs.any
  have HC := Lib.hid hc
  clear hc hs
  by_cases h2 : 3 ≤ xs.length ∧ xs.length ≤ 6
  · have d2 : decide ((3 : Int) ≤ (xs.length : Int) ∧ (xs.length : Int) ≤ 6) = true := dec_of (by omega)
    have H2 := Lib.hid h2
    clear h2
    go_enter Try.func16, Try.ntmps16
    go_wp2_with (go_at_call 45; refine (ringOk_any _ _).mono ?_; rintro e w' ⟨rfl, rfl⟩; rw [d2])
    go_loop [11] (fun i => ∃ k : Nat, k ≤ xs.length ∧ i = .int .i64 k ∧ Nt.signsTo xs k) (fun i => xs.length - (intOf i).toNat)
    case atStart => exact ⟨0, Nat.zero_le _, rfl, fun j hj => absurd hj (by omega)⟩
    case round =>
      obtain ⟨k, hk, rfl, hto⟩ := hrel
      have HT := Lib.hid hto
      clear hto
      by_cases hlt : k < xs.length
      · obtain ⟨g, rfl, _, _, hcell, _⟩ := HC.out k hlt
        generalize hb : xs.getD k 0 = b at *
        have HB := Lib.hid hb
        clear hb
        by_cases h3 : b < -1
        · have HNO := Lib.hid (Nt.frB_no1 hlt (by rw [HB.out]; omega))
          go_wp2
          go_ret
          exact ⟨by rw [HNO.out]; rfl, rfl⟩
        · by_cases h4 : 1 < b
          · have HNO := Lib.hid (Nt.frB_no1 hlt (by rw [HB.out]; omega))
            go_wp2
            go_ret
            exact ⟨by rw [HNO.out]; rfl, rfl⟩
          · have HT2 := Lib.hid (Nt.signsTo_succ HT.out (by rw [HB.out]; omega))
            go_wp2
            go_round
            case rel => exact ⟨k + 1, by omega, by go_num, HT2.out⟩
            case measure => simp [intOf]; omega
      · have hk' : k = xs.length := by omega
        subst hk'
        have HE : Hid (Nt.frB xs = ((Nt.sumI xs xs.length).tmod 3 == 0)) := Lib.hid (by rw [Nt.frB_end HT.out, decide_eq_true H2.out, Bool.true_and, tmod3_zero])
        have HSU := Lib.hid (fun w v => sumOf_any xs H2.out.2 HT.out w v base)
        generalize Nt.sumI xs xs.length = s at *
        generalize hq : (s.tmod 3 == 0) = q at *
        go_wp2_with (go_at_call 51; refine (HSU.out _ _ HS.out).mono ?_; rintro e w' ⟨rfl, rfl⟩)
        go_ret
        exact ⟨by rw [HE.out]; rfl, rfl⟩
  · have d2 : decide ((3 : Int) ≤ (xs.length : Int) ∧ (xs.length : Int) ≤ 6) = false := dec_not (by omega)
    have HF : Hid (Nt.frB xs = false) := Lib.hid (Nt.frB_no2 h2)
    clear h2
    go_enter Try.func16, Try.ntmps16
    go_wp2_with (go_at_call 45; refine (ringOk_any _ _).mono ?_; rintro e w' ⟨rfl, rfl⟩; rw [d2])
    go_ret
    exact ⟨by rw [HF.out]; rfl, rfl⟩

theorem iFrontsOk_any (xs : List Int) (w : World) (v : Value) (base : Nat) (hs : Sl w base v xs) :
    Calls Try.prog 16 #[v] w fun e w' => e = .returned (.bool (Nt.frB xs)) ∧ Kept [] w w' :=
  (frontsOkE_any xs w v base hs).mono fun _ _ h => ⟨h.1, by rw [← h.2]; exact Kept.refl _ _⟩

set_option maxHeartbeats 2000000 in
set_option maxRecDepth 100000 in
theorem iFrontRow_any (ys : List Int) (w : World) (v : Value) (base : Nat) (hs : Sl w base v ys) :
    Calls Try.prog 12 #[v] w fun e w' => ∃ z, e = .returned z ∧ Sl w' w.heap.size z (Nt.frontsOf ys) ∧ Kept [] w w' := by
  have HS := Lib.hid hs
  cases hr : Nt.rowB ys
  · have HF := Lib.hid (Nt.frontsOf_no hr)
    obtain ⟨a, cap, rfl, _, hm, _⟩ := hs.any
    clear hs
    by_cases h2 : 3 ≤ ys.length ∧ ys.length ≤ 6
    · have d2 : decide ((3 : Int) ≤ (ys.length : Int) ∧ (ys.length : Int) ≤ 6) = true := dec_of (by omega)
      have hst : Nt.stB 3 ys = false := by
        unfold Nt.rowB at hr
        rw [decide_eq_true h2.1, Bool.and_true] at hr
        exact hr
      clear h2 hr
      go_enter Try.func12, Try.ntmps12
      go_wp2_with (first | (go_at_call 45; refine (ringOk_any _ _).mono ?_; rintro e w' ⟨rfl, rfl⟩; rw [d2]) | (go_at_call 27; refine (iStateOk_any 3 ys _ _ _ HS.out).mono ?_; rintro e w' ⟨rfl, rfl⟩; rw [hst]))
      go_ret
      exact ⟨_, rfl, by rw [HF.out]; exact Sl.nil _ _, Kept.refl _ _⟩
    · have d2 : decide ((3 : Int) ≤ (ys.length : Int) ∧ (ys.length : Int) ≤ 6) = false := dec_not (by omega)
      clear h2 hr
      go_enter Try.func12, Try.ntmps12
      go_wp2_with (go_at_call 45; refine (ringOk_any _ _).mono ?_; rintro e w' ⟨rfl, rfl⟩; rw [d2])
      go_ret
      exact ⟨_, rfl, by rw [HF.out]; exact Sl.nil _ _, Kept.refl _ _⟩
  · obtain ⟨ks, rfl, st, h3⟩ := Nt.rowB_ok hr
    have HF := Lib.hid (Nt.frontsOf_ok st h3)
    have HSB := Lib.hid (Nt.st_stB3 st)
    have HST := Lib.hid st
    obtain ⟨n, hn⟩ : ∃ n, n = ks.length := ⟨_, rfl⟩
    have h6 := st.few
    have HGT : Hid (∀ k, k < n → (Nt.frow ks).getD k 0 = Nt.rise (ks.getD k 0) (ks.getD ((k + 1) % n) 0)) := Lib.hid (fun k hk => by rw [Nt.frow_get _ (by omega), ← hn])
    have HFL : Hid ((Nt.frow ks).length = n) := Lib.hid (by rw [Nt.frow_length, hn])
    have HN := Lib.hid hn
    rw [← hn] at h3 h6
    obtain ⟨g, cap, rfl, hg, _⟩ := hs.row hn.symm (by omega)
    have d2 : decide ((3 : Int) ≤ (n : Int) ∧ (n : Int) ≤ 6) = true := dec_of (by omega)
    have hp : 0 < n := by omega
    clear hs hr st hn
    go_enter Try.func12, Try.ntmps12
    go_wp2_with (first | (go_at_call 45; refine (ringOk_any _ _).mono ?_; rintro e w' ⟨rfl, rfl⟩; rw [d2]) | (go_at_call 27; refine (iStateOk_any 3 _ _ _ _ HS.out).mono ?_; rintro e w' ⟨rfl, rfl⟩; rw [HSB.out]) | (at_make; refine make_int _ n rfl _ _ rfl rfl rfl ?_ ?_))
    · omega
    · intro w1 hs1 hk1 _
      have HS1 := Lib.hid hs1
      have HK1 := Lib.hid hk1
      clear hs1 hk1
      go_wp2_with fail
      go_loopw [19] (fun i wr => ∃ (k : Nat) (xs : List Int), k ≤ n ∧ i = .int .i64 k ∧ Sl wr w.heap.size (.slice (some ⟨w.heap.size, 0, none⟩) n n) xs ∧ xs.length = n ∧ (∀ j, j < k → xs.getD j 0 = (Nt.frow ks).getD j 0) ∧ Kept [] w wr) (fun i _ => n - (intOf i).toNat)
      case atStart => exact ⟨0, _, Nat.zero_le _, rfl, HS1.out, by simp, fun j hj => absurd hj (by omega), HK1.out⟩
      case round =>
        clear HS1 HK1
        obtain ⟨k, xs, hk, rfl, hsl, hxl, hxs, hkept⟩ := hrel
        have HSL := Lib.hid hsl
        have HK := Lib.hid hkept
        have HXL := Lib.hid hxl
        have HXS := Lib.hid hxs
        by_cases hlt : k < n
        · have hq := Nat.mod_lt (k + 1) hp
          obtain ⟨hcell, hfr⟩ := hsl.at k (by rw [hxl]; exact hlt)
          have HNX : Hid (∀ r, r = (Nt.frow ks).getD k 0 → ∀ j, j < k + 1 → (xs.set k r).getD j 0 = (Nt.frow ks).getD j 0) := Lib.hid (fun r hr j hj => by
            rw [Nt.set_get _ (by rw [HXL.out]; exact hlt)]
            split
            · rename_i e; subst e; exact hr
            · exact HXS.out j (by omega))
          have HG := Lib.hid (HGT.out k hlt)
          have HSW := Lib.hid (HS.out.stay hkept)
          have HR := Lib.hid (rise_any ks HST.out k ((k + 1) % n) (by rw [← HN.out]; exact hlt) (by rw [← HN.out]; exact hq) wr _ _ HSW.out)
          have HQ := Lib.hid (fun w => nextPlace_any (some ⟨g, 0, none⟩) n cap k hp (by omega) (by omega) w)
          clear hsl hkept hxl hxs
          generalize xs.getD k 0 = z at *
          generalize Nt.rise (ks.getD k 0) (ks.getD ((k + 1) % n) 0) = r at *
          generalize (k + 1) % n = q at *
          go_wp2_with (first | (go_at_call 47; refine (HQ.out _).mono ?_; rintro e w' ⟨rfl, rfl⟩) | (go_at_call 46; refine HR.out.mono ?_; rintro e w5 ⟨rfl, hq5⟩; have c5 := (hq5.cell ⟨w.heap.size, k, none⟩).trans hcell; have f5 := (hq5.frozen ⟨w.heap.size, k, none⟩).trans hfr; have HS5 := Lib.hid (hq5.sl HSL.out); have HK5 := Lib.hid (HK.out.trans hq5.kept (by simp)); clear hq5 hcell hfr))
          go_roundw
          case rel => exact ⟨k + 1, _, by omega, by go_num, HS5.out.set HXL.out.symm k _, by rw [List.length_set]; exact HXL.out, HNX.out r HG.out.symm, HK5.out.setCell (.inr (Nat.le_refl _)) _⟩
          case measure => simp [intOf]; omega
        · have hk' : k = n := by omega
          subst hk'
          have HE : Hid (xs = Nt.frow ks) := Lib.hid (Nt.ext_getI (by rw [HXL.out, HFL.out]) (fun j hj => HXS.out j (by rw [HXL.out] at hj; exact hj)))
          clear hsl hkept hxl hxs
          go_wp2_with fail
          go_ret
          exact ⟨_, rfl, by rw [HF.out, ← HE.out]; exact HSL.out, HK.out⟩

set_option maxHeartbeats 2000000 in
set_option maxRecDepth 100000 in
theorem goingRow_any (xs : List Int) (h3 : 3 ≤ xs.length) (h6 : xs.length ≤ 6) (w : World) (v : Value) (base : Nat) (hs : Sl w base v xs) :
    Calls Try.prog 54 #[v] w fun e w' => ∃ z, e = .returned z ∧ Sl w' w.heap.size z (Nt.goL xs) ∧ Kept [] w w' := by
  obtain ⟨n, hn⟩ : ∃ n, n = xs.length := ⟨_, rfl⟩
  have HZ := Lib.hid (fun j => Nt.goTo_zero xs j)
  have HE : Hid (∀ ys : List Int, ys.length = n → (∀ j, j < n → ys.getD j 0 = Nt.goTo xs n j) → ys = Nt.goL xs) := Lib.hid (fun ys hl hy => Nt.ext_getI (by rw [hl, Nt.goL_length, hn]) (fun j hj => by
    rw [hl] at hj
    rw [hy j hj, hn, Nt.goTo_end (by omega), Nt.goL_get (by omega)]))
  have HUP := Lib.hid (fun k h j => Nt.goTo_up (fs := xs) (k := k) h j)
  have HDN : Hid (∀ k, k < n → xs.getD k 0 = -1 → ∀ j, j < n → Nt.goTo xs (k + 1) j = if (k + 1) % n = j then 1 else Nt.goTo xs k j) := Lib.hid (fun k hk h j hj => by
    rw [hn]; exact Nt.goTo_down h3 h6 (by omega) h (by omega))
  have HNO := Lib.hid (fun k h1 h2 j => Nt.goTo_none (fs := xs) (k := k) h1 h2 j)
  rw [← hn] at h3 h6
  obtain ⟨g, cap, rfl, _, hg⟩ := hs.shape hn.symm (by omega)
  have HC := Lib.hid (fun k (hk : k < n) => (hs.at k (by rw [← hn]; exact hk)).1)
  clear hs hn
  go_enter Try.func54, Try.ntmps54
  go_wp2_with (at_make; refine make_int w n rfl _ _ rfl rfl rfl ?_ ?_)
  · omega
  · intro w1 hs1 hk1 _
    have HS1 := Lib.hid hs1
    have HK1 := Lib.hid hk1
    clear hs1 hk1
    go_wp2_with fail
    go_loopw [11] (fun i wr => ∃ (k : Nat) (ys : List Int), k ≤ n ∧ i = .int .i64 k ∧ Sl wr w.heap.size (.slice (some ⟨w.heap.size, 0, none⟩) n n) ys ∧ ys.length = n ∧ (∀ j, j < n → ys.getD j 0 = Nt.goTo xs k j) ∧ Kept [] w wr) (fun i _ => n - (intOf i).toNat)
    case atStart => exact ⟨0, _, Nat.zero_le _, rfl, HS1.out, by simp, fun j hj => by rw [HZ.out]; simp [List.getD_eq_getElem?_getD, hj], HK1.out⟩
    case round =>
      clear HS1 HK1
      obtain ⟨k, ys, hk, rfl, hsl, hyl, hys, hkept⟩ := hrel
      have HSL := Lib.hid hsl
      have HK := Lib.hid hkept
      have HYL := Lib.hid hyl
      have HYS := Lib.hid hys
      by_cases hlt : k < n
      · have ck := (hkept.cell (p := ⟨g, k, none⟩) hg (by simp)).trans (HC.out k hlt)
        have hq := Nat.mod_lt (k + 1) (show 0 < n by omega)
        by_cases h1 : xs.getD k 0 = 1
        · rw [h1] at ck
          obtain ⟨hcell, hfr⟩ := hsl.at k (by rw [hyl]; exact hlt)
          have HNX : Hid (∀ j, j < n → (ys.set k 1).getD j 0 = Nt.goTo xs (k + 1) j) := Lib.hid (fun j hj => by
            rw [Nt.set_get _ (by rw [HYL.out]; exact hlt), HUP.out k h1]
            split
            · rfl
            · exact HYS.out j hj)
          clear hsl hkept hyl hys h1
          generalize ys.getD k 0 = z at *
          go_wp2
          go_roundw
          case rel => exact ⟨k + 1, _, by omega, by go_num, HSL.out.set HYL.out.symm k _, by rw [List.length_set]; exact HYL.out, HNX.out, HK.out.setCell (.inr (Nat.le_refl _)) _⟩
          case measure => simp [intOf]; omega
        · by_cases h2 : xs.getD k 0 = -1
          · rw [h2] at ck
            obtain ⟨hcell, hfr⟩ := hsl.at ((k + 1) % n) (by rw [hyl]; exact hq)
            have HNX : Hid (∀ j, j < n → (ys.set ((k + 1) % n) 1).getD j 0 = Nt.goTo xs (k + 1) j) := Lib.hid (fun j hj => by
              rw [Nt.set_get _ (by rw [HYL.out]; exact hq), HDN.out k hlt h2 j hj]
              split
              · rfl
              · exact HYS.out j hj)
            have HQ := Lib.hid (fun w => nextPlace_any (some ⟨g, 0, none⟩) n cap k (by omega) (by omega) (by omega) w)
            clear hsl hkept hyl hys h1 h2
            generalize (k + 1) % n = q at *
            generalize ys.getD q 0 = z at *
            go_wp2_with (go_at_call 47; refine (HQ.out _).mono ?_; rintro e w' ⟨rfl, rfl⟩)
            go_roundw
            case rel => exact ⟨k + 1, _, by omega, by go_num, HSL.out.set HYL.out.symm q _, by rw [List.length_set]; exact HYL.out, HNX.out, HK.out.setCell (.inr (Nat.le_refl _)) _⟩
            case measure => simp [intOf]; omega
          · have HNX : Hid (∀ j, j < n → ys.getD j 0 = Nt.goTo xs (k + 1) j) := Lib.hid (fun j hj => by
              rw [HNO.out k h1 h2]; exact HYS.out j hj)
            have d1 : (xs.getD k 0 == 1) = false := beq_eq_false_iff_ne.2 h1
            have d2 : (xs.getD k 0 == -1) = false := beq_eq_false_iff_ne.2 h2
            clear hsl hkept hyl hys h1 h2
            generalize xs.getD k 0 = x at *
            go_wp2
            go_roundw
            case rel => exact ⟨k + 1, _, by omega, by go_num, HSL.out, HYL.out, HNX.out, HK.out⟩
            case measure => simp [intOf]; omega
      · have hk' : k = n := by omega
        subst hk'
        have HX := Lib.hid (HE.out ys HYL.out HYS.out)
        clear hsl hkept hyl hys
        go_wp2
        go_ret
        exact ⟨_, rfl, by rw [← HX.out]; exact HSL.out, HK.out⟩

set_option maxHeartbeats 2000000 in
set_option maxRecDepth 100000 in
theorem iFrontStep_any (xs : List Int) (w : World) (v : Value) (base : Nat) (hs : Sl w base v xs) :
    Calls Try.prog 21 #[v] w fun e w' => ∃ z, e = .returned z ∧ Sl w' w.heap.size z (Nt.fstepOf xs) ∧ Kept [] w w' := by
  have HS := Lib.hid hs
  cases hr : Nt.frB xs
  · have HF := Lib.hid (Nt.fstepOf_no hr)
    obtain ⟨a, cap, rfl, _, hm, _⟩ := hs.any
    clear hs
    go_enter Try.func21, Try.ntmps21
    go_wp2_with (go_at_call 16; refine (frontsOkE_any xs _ _ _ HS.out).mono ?_; rintro e w' ⟨rfl, rfl⟩; rw [hr])
    go_ret
    exact ⟨_, rfl, by rw [HF.out]; exact Sl.nil _ _, Kept.refl _ _⟩
  · have fr := (Nt.frB_iff xs).1 hr
    have HF := Lib.hid (Nt.fstepOf_ok fr)
    have HL := Lib.hid (And.intro fr.lo fr.hi)
    obtain ⟨n, hn⟩ : ∃ n, n = xs.length := ⟨_, rfl⟩
    have h3 := fr.lo
    have h6 := fr.hi
    have HSG := Lib.hid (fun k (hk : k < n) => fr.sign k (by omega))
    have HGT : Hid (∀ k, k < n → (Nt.fstep xs).getD k 0 = xs.getD k 0 + Nt.goes xs ((k + 1) % n) - Nt.goes xs k) := Lib.hid (fun k hk => by rw [Nt.fstep_get _ (by omega), ← hn])
    have HGB : Hid (∀ k, 0 ≤ Nt.goes xs k ∧ Nt.goes xs k ≤ 1) := Lib.hid (fun k => by unfold Nt.goes; split <;> omega)
    have HFL : Hid ((Nt.fstep xs).length = n) := Lib.hid (by rw [Nt.fstep_length, hn])
    have HGL : Hid ((Nt.goL xs).length = n) := Lib.hid (by rw [Nt.goL_length, hn])
    have HGG : Hid (∀ k, k < n → (Nt.goL xs).getD k 0 = Nt.goes xs k) := Lib.hid (fun k hk => Nt.goL_get (by omega))
    rw [← hn] at h3 h6
    obtain ⟨g, cap, rfl, _, hg⟩ := hs.shape hn.symm (by omega)
    have HC := Lib.hid (fun k (hk : k < n) => (hs.at k (by rw [← hn]; exact hk)).1)
    have hp : 0 < n := by omega
    clear hs fr hn
    go_enter Try.func21, Try.ntmps21
    go_wp2_with (go_at_call 16; refine (frontsOkE_any xs _ _ _ HS.out).mono ?_; rintro e w' ⟨rfl, rfl⟩; rw [hr])
    refine (goingRow_any xs HL.out.1 HL.out.2 _ _ _ HS.out).mono ?_
    rintro e w1 ⟨z1, rfl, hs1, hk1⟩
    obtain ⟨gz, capz, rfl, _, hgz⟩ := hs1.shape HGL.out hp
    have HCZ := Lib.hid (fun k (hk : k < n) => (hs1.at k (by rw [HGL.out]; exact hk)).1)
    have HK1 := Lib.hid hk1
    have hg1 : g < w1.heap.size := Nat.lt_of_lt_of_le hg hk1.size
    have HC1 := Lib.hid (fun k (hk : k < n) => (hk1.cell (p := ⟨g, k, none⟩) hg (by simp)).trans (HC.out k hk))
    clear hs1 hk1 HC hr
    go_wp2_with (at_make; refine make_int _ n rfl _ _ rfl rfl rfl ?_ ?_)
    · omega
    · intro w2 hs2 hk2 _
      have HS2 := Lib.hid hs2
      have HK2 := Lib.hid hk2
      clear hs2 hk2
      go_wp2_with fail
      go_loopw [17] (fun i wr => ∃ (k : Nat) (ys : List Int), k ≤ n ∧ i = .int .i64 k ∧ Sl wr w1.heap.size (.slice (some ⟨w1.heap.size, 0, none⟩) n n) ys ∧ ys.length = n ∧ (∀ j, j < k → ys.getD j 0 = (Nt.fstep xs).getD j 0) ∧ Kept [] w1 wr) (fun i _ => n - (intOf i).toNat)
      case atStart => exact ⟨0, _, Nat.zero_le _, rfl, HS2.out, by simp, fun j hj => absurd hj (by omega), HK2.out⟩
      case round =>
        clear HS2 HK2
        obtain ⟨k, ys, hk, rfl, hsl, hyl, hys, hkept⟩ := hrel
        have HSL := Lib.hid hsl
        have HK := Lib.hid hkept
        have HYL := Lib.hid hyl
        have HYS := Lib.hid hys
        by_cases hlt : k < n
        · have hq := Nat.mod_lt (k + 1) hp
          have ck := (hkept.cell (p := ⟨g, k, none⟩) hg1 (by simp)).trans (HC1.out k hlt)
          have czk := (hkept.cell (p := ⟨gz, k, none⟩) hgz (by simp)).trans (HCZ.out k hlt)
          have czq := (hkept.cell (p := ⟨gz, (k + 1) % n, none⟩) hgz (by simp)).trans (HCZ.out _ hq)
          rw [HGG.out k hlt] at czk
          rw [HGG.out _ hq] at czq
          obtain ⟨hcell, hfr⟩ := hsl.at k (by rw [hyl]; exact hlt)
          have bx := HSG.out k hlt
          have b1 := HGB.out ((k + 1) % n)
          have b2 := HGB.out k
          have HNX : Hid (∀ r, r = (Nt.fstep xs).getD k 0 → ∀ j, j < k + 1 → (ys.set k r).getD j 0 = (Nt.fstep xs).getD j 0) := Lib.hid (fun r hr j hj => by
            rw [Nt.set_get _ (by rw [HYL.out]; exact hlt)]
            split
            · rename_i e; subst e; exact hr
            · exact HYS.out j (by omega))
          have HG := Lib.hid (HGT.out k hlt)
          have HQ := Lib.hid (fun w => (nextPlace_any (some ⟨g, 0, none⟩) n cap k hp (by omega) (by omega) w).mono (fun _ _ e => (⟨e.1, e.2.symm⟩ : _ ∧ _ = w)))
          clear hsl hkept hyl hys
          generalize ys.getD k 0 = z at *
          generalize Nt.goes xs ((k + 1) % n) = p at *
          generalize Nt.goes xs k = r at *
          generalize (k + 1) % n = q at *
          generalize xs.getD k 0 = x at *
          have s2 : IntKind.i64.wrap (x + p) = x + p := IntWalk.i64_in _ (by omega)
          have s3 : IntKind.i64.wrap (x + p - r) = x + p - r := IntWalk.i64_in _ (by omega)
          have HSLd : Hid (Sl wr.drew w1.heap.size (.slice (some ⟨w1.heap.size, 0, none⟩) n n) ys) := HSL
          have HKd := Lib.hid HK.out.drew
          have hcell2 : wr.drew.cell? ⟨w1.heap.size, k, none⟩ = some (.int .i64 z) := hcell
          have hfr2 : wr.drew.frozen? ⟨w1.heap.size, k, none⟩ = false := hfr
          go_wp2_with fail
          go_still_tail 16, (by kernel_rfl)
          still_call (HQ.out _)
          repeat still_step
          refine wpStill_nil ?_
          change wpList _ _ _ _ _ wr.drew
          clear hcell hfr HSL HK ck czk czq
          generalize wr.drew = w3 at *
          go_wp2
          go_roundw
          case rel => exact ⟨k + 1, _, by omega, by go_num, HSLd.out.set HYL.out.symm k _, by rw [List.length_set]; exact HYL.out, HNX.out _ HG.out.symm, HKd.out.setCell (.inr (Nat.le_refl _)) _⟩
          case measure => simp [intOf]; omega
        · have hk' : k = n := by omega
          subst hk'
          have HE : Hid (ys = Nt.fstep xs) := Lib.hid (Nt.ext_getI (by rw [HYL.out, HFL.out]) (fun j hj => HYS.out j (by rw [HYL.out] at hj; exact hj)))
          clear hsl hkept hyl hys
          go_wp2_with fail
          go_ret
          exact ⟨_, rfl, by rw [HF.out, ← HE.out]; exact HSL.out.mono HK1.out.size, HK1.out.trans HK.out (by simp)⟩

set_option maxHeartbeats 2000000 in
set_option maxRecDepth 100000 in
theorem iStFr_any (first : Int) (xs : List Int) (w : World) (v : Value) (base : Nat) (hs : Sl w base v xs) :
    Calls Try.prog 17 #[.int .i64 first, v] w fun e w' => ∃ z, e = .returned z ∧ Sl w' w.heap.size z (Nt.stFrOf first xs) ∧ Kept [] w w' := by
  have HS := Lib.hid hs
  cases hr : Nt.sfB first xs
  · have HF := Lib.hid (Nt.stFrOf_no hr)
    obtain ⟨a, cap, rfl, _, hm, _⟩ := hs.any
    clear hs
    by_cases h1 : first < 0
    · clear hr
      go_enter Try.func17, Try.ntmps17
      go_wp2
      go_ret
      exact ⟨_, rfl, by rw [HF.out]; exact Sl.nil _ _, Kept.refl _ _⟩
    · by_cases h2 : 3 ≤ first
      · clear hr
        go_enter Try.func17, Try.ntmps17
        go_wp2
        go_ret
        exact ⟨_, rfl, by rw [HF.out]; exact Sl.nil _ _, Kept.refl _ _⟩
      · have hfb : Nt.frB xs = false := by
          unfold Nt.sfB Nt.inB at hr
          rw [decide_eq_true (by omega), Bool.and_true] at hr
          exact hr
        clear hr
        go_enter Try.func17, Try.ntmps17
        go_wp2_with (go_at_call 16; refine (frontsOkE_any xs _ _ _ HS.out).mono ?_; rintro e w' ⟨rfl, rfl⟩; rw [hfb])
        go_ret
        exact ⟨_, rfl, by rw [HF.out]; exact Sl.nil _ _, Kept.refl _ _⟩
  · obtain ⟨x0, rfl, hx0, fr⟩ := Nt.sfB_ok hr
    have HF := Lib.hid (Nt.stFrOf_ok fr hx0)
    have HFB := Lib.hid (Nt.frB_yes fr)
    obtain ⟨n, hn⟩ : ∃ n, n = xs.length := ⟨_, rfl⟩
    have h3 := fr.lo
    have h6 := fr.hi
    have HSG := Lib.hid (fun k (hk : k < n) => fr.sign k (by omega))
    have HGT : Hid (∀ k, k < n → (Nt.nats (Nt.stOf x0 xs)).getD k 0 = (((((x0 : Int) + Nt.sumI xs k) % 3).toNat : Nat) : Int)) := Lib.hid (fun k hk => by
      rw [Nt.nats_get, Nt.stOf_get _ _ (by omega)])
    have HNK := Lib.hid (fun k x d hx hd h1 => next_kind x0 xs k x d hx hd h1)
    have HX0 : Hid ((((x0 : Int) + Nt.sumI xs 0) % 3).toNat = x0) := Lib.hid (by show (((x0 : Int) + 0) % 3).toNat = x0; omega)
    have HX3 : Hid (∀ k, (((x0 : Int) + Nt.sumI xs k) % 3).toNat < 3) := Lib.hid (fun k => by omega)
    have HFL : Hid ((Nt.nats (Nt.stOf x0 xs)).length = n) := Lib.hid (by rw [Nt.nats_length, Nt.stOf_length, hn])
    rw [← hn] at h3 h6
    obtain ⟨g, cap, rfl, _, hg⟩ := hs.shape hn.symm (by omega)
    have HC := Lib.hid (fun k (hk : k < n) => (hs.at k (by rw [← hn]; exact hk)).1)
    have hp : 0 < n := by omega
    have l0 : ¬ (x0 : Int) < 0 := by omega
    have l3 : ¬ 3 ≤ (x0 : Int) := by omega
    clear hs fr hn hr
    go_enter Try.func17, Try.ntmps17
    go_wp2_with (first | (go_at_call 16; refine (frontsOkE_any xs _ _ _ HS.out).mono ?_; rintro e w' ⟨rfl, rfl⟩; rw [HFB.out]) | (at_make; refine make_int w n rfl _ _ rfl rfl rfl ?_ ?_))
    · omega
    · intro w1 hs1 hk1 _
      have HS1 := Lib.hid hs1
      have HK1 := Lib.hid hk1
      clear hs1 hk1
      go_wp2_with fail
      go_loopw [6, 26] (fun f i wr => ∃ (k : Nat) (ys : List Int), k ≤ n ∧ i = .int .i64 k ∧ f = .int .i64 (((((x0 : Int) + Nt.sumI xs k) % 3).toNat : Nat) : Int) ∧ Sl wr w.heap.size (.slice (some ⟨w.heap.size, 0, none⟩) n n) ys ∧ ys.length = n ∧ (∀ j, j < k → ys.getD j 0 = (Nt.nats (Nt.stOf x0 xs)).getD j 0) ∧ Kept [] w wr) (fun _ i _ => n - (intOf i).toNat)
      case atStart => exact ⟨0, _, Nat.zero_le _, rfl, by rw [HX0.out], HS1.out, by simp, fun j hj => absurd hj (by omega), HK1.out⟩
      case round =>
        clear HS1 HK1
        obtain ⟨k, ys, hk, rfl, rfl, hsl, hyl, hys, hkept⟩ := hrel
        have HSL := Lib.hid hsl
        have HK := Lib.hid hkept
        have HYL := Lib.hid hyl
        have HYS := Lib.hid hys
        by_cases hlt : k < n
        · have ck := (hkept.cell (p := ⟨g, k, none⟩) hg (by simp)).trans (HC.out k hlt)
          obtain ⟨hcell, hfr⟩ := hsl.at k (by rw [hyl]; exact hlt)
          have bx := HSG.out k hlt
          have hx3 := HX3.out k
          have hnk := HNK.out k _ _ rfl rfl bx.1
          have HNX : Hid (∀ r, (Nt.nats (Nt.stOf x0 xs)).getD k 0 = r → ∀ j, j < k + 1 → (ys.set k r).getD j 0 = (Nt.nats (Nt.stOf x0 xs)).getD j 0) := Lib.hid (fun r hr j hj => by
            rw [Nt.set_get _ (by rw [HYL.out]; exact hlt)]
            split
            · rename_i e; subst e; exact hr.symm
            · exact HYS.out j (by omega))
          have HG := Lib.hid (HGT.out k hlt)
          clear hsl hkept hyl hys
          generalize ys.getD k 0 = z at *
          generalize hy : (((x0 : Int) + Nt.sumI xs (k + 1)) % 3).toNat = y at *
          have HY := Lib.hid hy
          clear hy
          generalize (((x0 : Int) + Nt.sumI xs k) % 3).toNat = x at *
          generalize xs.getD k 0 = d at *
          have s1 : IntKind.i64.wrap ((x : Int) + d) = (x : Int) + d := IntWalk.i64_in _ (by omega)
          have s2 : IntKind.i64.wrap ((x : Int) + d + 3) = (x : Int) + d + 3 := IntWalk.i64_in _ (by omega)
          have hpos : 0 ≤ (x : Int) + d + 3 := by omega
          have hem : ((x : Int) + d + 3) % 3 = (y : Int) := by rw [← hnk, Int.tmod_eq_emod_of_nonneg hpos]
          go_wp2
          go_roundw
          case rel => exact ⟨k + 1, _, by omega, by go_num, by rw [HY.out], HSL.out.set HYL.out.symm k _, by rw [List.length_set]; exact HYL.out, HNX.out _ HG.out, HK.out.setCell (.inr (Nat.le_refl _)) _⟩
          case measure => simp [intOf]; omega
        · have hk' : k = n := by omega
          subst hk'
          have HE : Hid (ys = Nt.nats (Nt.stOf x0 xs)) := Lib.hid (Nt.ext_getI (by rw [HYL.out, HFL.out]) (fun j hj => HYS.out j (by rw [HYL.out] at hj; exact hj)))
          clear hsl hkept hyl hys
          go_wp2_with fail
          go_ret
          exact ⟨_, rfl, by rw [HF.out, ← HE.out]; exact HSL.out, HK.out⟩

set_option maxHeartbeats 1000000 in
set_option maxRecDepth 100000 in
theorem iRWind_any (ys : List Int) (w : World) (v : Value) (base : Nat) (hs : Sl w base v ys) :
    Calls Try.prog 29 #[v] w fun e w' => e = .returned (.tuple #[.int .i64 (Nt.rwindOf ys), .bool (Nt.rowB ys)]) ∧ Kept [] w w' := by
  have HS := Lib.hid hs
  obtain ⟨a, cap, rfl, _, hm, _⟩ := hs.any
  clear hs
  go_enter Try.func29, Try.ntmps29
  go_wp2_with fail
  refine (iFrontRow_any ys _ _ _ HS.out).mono ?_
  rintro e w1 ⟨z, rfl, hs1, hk1⟩
  have HK1 := Lib.hid hk1
  cases hr : Nt.rowB ys
  · have HF := Lib.hid (Nt.rwindOf_no hr)
    have HRB := Lib.hid hr
    rw [Nt.frontsOf_no hr] at hs1
    obtain ⟨b, c, rfl, _, _, _⟩ := hs1.any
    clear hs1 hk1 hr
    go_wp2
    go_ret2
    exact ⟨by rw [HF.out, HRB.out]; rfl, HK1.out⟩
  · have HRB := Lib.hid hr
    obtain ⟨ks, rfl, st, h3⟩ := Nt.rowB_ok hr
    rw [Nt.frontsOf_ok st h3] at hs1
    obtain ⟨n, hn⟩ : ∃ n, n = ks.length := ⟨_, rfl⟩
    have h6 := st.few
    obtain ⟨q1, q2⟩ := Nt.rwind_small st h3
    have q3 := Nt.rwind_three st h3
    have HF := Lib.hid (Nt.rwindOf_ok st h3)
    have fr := Nt.frow_fr st h3
    have HFL : (Nt.frow ks).length = n := by rw [Nt.frow_length, hn]
    have HSU := Lib.hid (sumOf_any (Nt.frow ks) fr.hi fr.sign w1 z _ hs1)
    rw [HFL] at HSU
    rw [← hn] at q1 q2 q3 HF h3 h6
    obtain ⟨g, c, rfl, _, hg⟩ := hs1.shape HFL (by omega)
    generalize Nt.sumI (Nt.frow ks) n = s at *
    generalize hq : s / 3 = q at *
    have HQ := Lib.hid q3
    clear hs1 hk1 hr st hn HFL hq q3 fr
    have hq := HQ.out
    subst hq
    have s2 : (3 * q).tdiv 3 = q := Int.mul_tdiv_cancel_left q (by omega)
    have s3 : IntKind.i64.wrap q = q := IntWalk.i64_in _ (by omega)
    have d1 : ((n : Int) == 0) = false := beq_eq_false_iff_ne.2 (by omega)
    clear HQ
    go_wp2_with (go_at_call 51; refine HSU.out.mono ?_; rintro e w' ⟨rfl, rfl⟩)
    go_ret2
    exact ⟨by rw [HF.out, HRB.out]; rfl, HK1.out⟩

set_option maxHeartbeats 2000000 in
set_option maxRecDepth 100000 in
/-- A function that leads from each row of a row of rows to the next one is folded. -/
theorem foldedRows_any (F : Nat) (caps : Array Value) (s : Nat → List Nat) (T : Nat) (hT : T ≤ 60) (h0 : 0 < (s 0).length ∧ (s 0).length ≤ 1000)
    (hent : ∀ (args : Array Value) (w : World), Sem.run Try.prog (callFunc F args) w = .ok (.enter F args) w)
    (hstep : ∀ t, t < T → ∀ (w : World) (v : Value) (base : Nat), Sl w base v (Nt.nats (s t)) →
      Calls Try.prog F (#[v] ++ caps) w fun e w' => ∃ z, e = .returned z ∧ Sl w' w.heap.size z (Nt.nats (s (t + 1))) ∧ Kept [] w w')
    (w : World) (v : Value) (base : Nat) (hs : Sl w base v (Nt.nats (s 0))) :
    Calls Try.prog 64 #[v, .int .i64 (T : Int), .func (.func F) #[] caps] w fun e w' => ∃ z, e = .returned z ∧ Sl w' w.heap.size z (Nt.nats (s T)) ∧ Kept [] w w' := by
  have HSTEP := Lib.hid hstep
  have HENT := Lib.hid hent
  have HX := Lib.hid (show 0 < (Nt.nats (s 0)).length ∧ (Nt.nats (s 0)).length ≤ 1000 from by rw [Nt.nats_length]; exact h0)
  have HS := Lib.hid hs
  obtain ⟨a, cap, rfl, _, _, _⟩ := hs.any
  clear hent hstep hs h0
  go_enter Try.func64, Try.ntmps64
  go_wp2_with fail
  refine (cloneInts_any (Nt.nats (s 0)) HX.out.1 HX.out.2 _ _ _ HS.out).mono ?_
  rintro e w1 ⟨z, rfl, hs1, hk1⟩
  have HS1 := Lib.hid hs1
  have HK1 := Lib.hid hk1
  clear hs1 hk1 HX HS
  go_wp2_with fail
  go_loopw [7, 11] (fun u i wr => ∃ t : Nat, t ≤ T ∧ i = .int .i64 t ∧ Sl wr w.heap.size u (Nt.nats (s t)) ∧ Kept [] w wr) (fun _ i _ => T - (intOf i).toNat)
  case atStart => exact ⟨0, Nat.zero_le _, rfl, HS1.out, HK1.out⟩
  case round =>
    clear HS1 HK1
    obtain ⟨t, ht, rfl, hsl, hkept⟩ := hrel
    have HSL := Lib.hid hsl
    have HK := Lib.hid hkept
    clear hsl hkept
    by_cases hlt : t < T
    · go_wp2_with fail
      rw [HENT.out, Oper.upon_enter]
      refine (HSTEP.out t hlt _ _ _ HSL.out).mono ?_
      rintro e w2 ⟨z2, rfl, hs2, hk2⟩
      have HS2 := Lib.hid (hs2.mono HK.out.size)
      have HK2 := Lib.hid (HK.out.trans hk2 (by simp))
      clear hs2 hk2
      go_wp2_with fail
      go_roundw
      case rel => exact ⟨t + 1, by omega, by go_num, HS2.out, HK2.out⟩
      case measure => simp [intOf]; omega
    · have ht' : t = T := by omega
      subst ht'
      go_wp2_with fail
      go_ret
      exact ⟨_, rfl, HSL.out, HK.out⟩

set_option maxHeartbeats 2000000 in
set_option maxRecDepth 100000 in
theorem withAFront_any (xs : List Nat) (n : Nat) (hn : xs.length = n) (hp : 0 < n) (hle : n ≤ 100) (hb : ∀ j, xs.getD j 0 ≤ 1000) (w : World) (v : Value) (base : Nat) (hs : Sl w base v (Nt.nats xs)) :
    Calls Try.prog 65 #[v] w fun e w' => ∃ z, e = .returned z ∧ Sl w' w.heap.size z (Nt.nats (Nt.moreL xs)) ∧ Kept [] w w' := by
  obtain ⟨m, hm⟩ : ∃ m, m = n + 2 := ⟨_, rfl⟩
  have HM := Lib.hid hm
  have HZ := Lib.hid (fun j => Nt.moreTo_zero xs j)
  have HSU := Lib.hid (fun k j => Nt.moreTo_succ xs k j)
  have HLE := Lib.hid (fun k j => Nt.moreTo_le hb k j)
  have HB := Lib.hid hb
  have HE : Hid (∀ ys : List Int, ys.length = m → (∀ j, j < m → ys.getD j 0 = ((Nt.moreTo xs n j : Nat) : Int)) → ys = Nt.nats (Nt.moreL xs)) := Lib.hid (fun ys hl hy => Nt.ext_getI (by rw [hl, Nt.nats_length, Nt.moreL_length, hn, hm]) (fun j hj => by
    rw [hl] at hj
    rw [hy j hj, Nt.nats_get, Nt.moreL_get (by omega), hn]))
  obtain ⟨g, cap, rfl, hg, hc⟩ := hs.row hn hp
  have HC := Lib.hid hc
  have s0 : IntKind.i64.wrap ((n : Int) + 2) = (m : Int) := by rw [IntWalk.i64_in _ (by omega)]; omega
  clear hs hc hn hb hm
  go_enter Try.func65, Try.ntmps65
  go_wp2_with (at_make; refine make_int w m rfl _ _ rfl rfl rfl ?_ ?_)
  · have := HM.out; omega
  · intro w1 hs1 hk1 _
    have HS1 := Lib.hid hs1
    have HK1 := Lib.hid hk1
    clear hs1 hk1
    go_wp2_with fail
    go_loopw [12] (fun i wr => ∃ (k : Nat) (ys : List Int), k ≤ n ∧ i = .int .i64 k ∧ Sl wr w.heap.size (.slice (some ⟨w.heap.size, 0, none⟩) m m) ys ∧ ys.length = m ∧ (∀ j, j < m → ys.getD j 0 = ((Nt.moreTo xs k j : Nat) : Int)) ∧ Kept [] w wr) (fun i _ => n - (intOf i).toNat)
    case atStart => exact ⟨0, _, Nat.zero_le _, rfl, HS1.out, by simp, fun j hj => by rw [HZ.out]; simp [List.getD_eq_getElem?_getD, hj], HK1.out⟩
    case round =>
      clear HS1 HK1
      obtain ⟨k, ys, hk, rfl, hsl, hyl, hys, hkept⟩ := hrel
      have HSL := Lib.hid hsl
      have HK := Lib.hid hkept
      have HYL := Lib.hid hyl
      have HYS := Lib.hid hys
      have hm := HM.out
      by_cases hlt : k < n
      · have ck := (hkept.cell (p := ⟨g, k, none⟩) hg (by simp)).trans (HC.out k hlt)
        have hx := HB.out k
        have l0 := HLE.out k k
        have l1 := HLE.out k (k + 1)
        have l2 := HLE.out k (k + 2)
        have e0 := hys k (by omega)
        have e1 := hys (k + 1) (by omega)
        have e2 := hys (k + 2) (by omega)
        have t1 : IntKind.i64.wrap ((k : Int) + 1) = (k : Int) + 1 := IntWalk.i64_in _ (by omega)
        have t2 : IntKind.i64.wrap ((k : Int) + 2) = (k : Int) + 2 := IntWalk.i64_in _ (by omega)
        obtain ⟨z0, hz0⟩ : ∃ z, z = Nt.moreTo xs k k + xs.getD k 0 := ⟨_, rfl⟩
        obtain ⟨z1, hz1⟩ : ∃ z, z = Nt.moreTo xs k (k + 1) + xs.getD k 0 := ⟨_, rfl⟩
        obtain ⟨z2, hz2⟩ : ∃ z, z = Nt.moreTo xs k (k + 2) + xs.getD k 0 := ⟨_, rfl⟩
        have HNX : Hid (∀ j, j < m → (((ys.set k (z0 : Int)).set (k + 1) (z1 : Int)).set (k + 2) (z2 : Int)).getD j 0 = ((Nt.moreTo xs (k + 1) j : Nat) : Int)) := Lib.hid (fun j hj => by
          have h0 := hys j hj
          rw [HSU.out k j, Nt.set_get _ (by rw [List.length_set, List.length_set, hyl]; omega), Nt.set_get _ (by rw [List.length_set, hyl]; omega), Nt.set_get _ (by rw [hyl]; omega), h0]
          by_cases a : k + 2 = j
          · subst a; rw [if_pos rfl, if_pos (by omega), hz2]
          · rw [if_neg a]
            by_cases b : k + 1 = j
            · subst b; rw [if_pos rfl, if_pos (by omega), hz1]
            · rw [if_neg b]
              by_cases c : k = j
              · subst c; rw [if_pos rfl, if_pos (by omega), hz0]
              · rw [if_neg c, if_neg (by omega)]; rfl)
        have hs1 := hsl.set hyl.symm k (z0 : Int)
        have hs2 := hs1.set (by rw [List.length_set]; exact hyl.symm) (k + 1) (z1 : Int)
        have hs3 := hs2.set (by rw [List.length_set, List.length_set]; exact hyl.symm) (k + 2) (z2 : Int)
        obtain ⟨c0, f0⟩ := hsl.at k (by rw [hyl]; omega)
        obtain ⟨c1, f1⟩ := hs1.at (k + 1) (by rw [List.length_set, hyl]; omega)
        obtain ⟨c2, f2⟩ := hs2.at (k + 2) (by rw [List.length_set, List.length_set, hyl]; omega)
        rw [e0] at c0
        rw [Nt.set_get _ (by rw [hyl]; omega), if_neg (by omega), e1] at c1
        rw [Nt.set_get _ (by rw [List.length_set, hyl]; omega), if_neg (by omega), Nt.set_get _ (by rw [hyl]; omega), if_neg (by omega), e2] at c2
        have HS3 := Lib.hid hs3
        have HL3 : Hid ((((ys.set k (z0 : Int)).set (k + 1) (z1 : Int)).set (k + 2) (z2 : Int)).length = m) := Lib.hid (by rw [List.length_set, List.length_set, List.length_set]; exact hyl)
        have HK3 := Lib.hid (((hkept.setCell (p := ⟨w.heap.size, k, none⟩) (.inr (Nat.le_refl _)) (.int .i64 (z0 : Int))).setCell (p := ⟨w.heap.size, k + 1, none⟩) (.inr (Nat.le_refl _)) (.int .i64 (z1 : Int))).setCell (p := ⟨w.heap.size, k + 2, none⟩) (.inr (Nat.le_refl _)) (.int .i64 (z2 : Int)))
        clear hsl hkept hyl hys hs1 hs2 hs3 e0 e1 e2 HSL HK
        generalize Nt.moreTo xs k k = y0 at *
        generalize Nt.moreTo xs k (k + 1) = y1 at *
        generalize Nt.moreTo xs k (k + 2) = y2 at *
        generalize xs.getD k 0 = x at *
        have s1 : IntKind.i64.wrap ((y0 : Int) + (x : Int)) = (z0 : Int) := by rw [IntWalk.i64_in _ (by omega)]; omega
        have s2 : IntKind.i64.wrap ((y1 : Int) + (x : Int)) = (z1 : Int) := by rw [IntWalk.i64_in _ (by omega)]; omega
        have s3 : IntKind.i64.wrap ((y2 : Int) + (x : Int)) = (z2 : Int) := by rw [IntWalk.i64_in _ (by omega)]; omega
        have r1 : k + 1 < m := by omega
        have r2 : k + 2 < m := by omega
        have r0 : k < m := by omega
        clear hz0 hz1 hz2
        go_wp2
        go_roundw
        case rel => exact ⟨k + 1, _, by omega, by go_num, HS3.out, HL3.out, HNX.out, HK3.out⟩
        case measure => simp [intOf]; omega
      · have hk' : k = n := by omega
        subst hk'
        have HX := Lib.hid (HE.out ys HYL.out HYS.out)
        clear hsl hkept hyl hys
        go_wp2_with fail
        go_ret
        exact ⟨_, rfl, by rw [← HX.out]; exact HSL.out, HK.out⟩

theorem enter_withAFront (args : Array Value) (w : World) : Sem.run Try.prog (callFunc 65 args) w = .ok (.enter 65 args) w := by kernel_rfl

set_option maxHeartbeats 1000000 in
set_option maxRecDepth 100000 in
theorem iRStates_any (nodes winding : Int) (w : World) :
    Calls Try.prog 34 #[.int .i64 nodes, .int .i64 winding] w fun e w' => e = .returned (.int .i64 (Nt.rstOf nodes winding)) ∧ Kept [] w w' := by
  cases hr : Nt.rstB nodes winding
  · have HF := Lib.hid (Nt.rstOf_no hr)
    cases h1 : decide (3 ≤ nodes ∧ nodes ≤ 6)
    · clear hr
      go_enter Try.func34, Try.ntmps34
      go_wp2_with (go_at_call 45; refine (ringOk_any _ _).mono ?_; rintro e w' ⟨rfl, rfl⟩; rw [h1])
      go_ret
      exact ⟨by rw [HF.out]; rfl, Kept.refl _ _⟩
    · by_cases h2 : winding < -6
      · clear hr
        go_enter Try.func34, Try.ntmps34
        go_wp2_with (go_at_call 45; refine (ringOk_any _ _).mono ?_; rintro e w' ⟨rfl, rfl⟩; rw [h1])
        go_ret
        exact ⟨by rw [HF.out]; rfl, Kept.refl _ _⟩
      · have h3 : 6 < winding := by
          unfold Nt.rstB at hr
          rw [h1, Bool.true_and, decide_eq_false_iff_not] at hr
          omega
        clear hr
        go_enter Try.func34, Try.ntmps34
        go_wp2_with (go_at_call 45; refine (ringOk_any _ _).mono ?_; rintro e w' ⟨rfl, rfl⟩; rw [h1])
        go_ret
        exact ⟨by rw [HF.out]; rfl, Kept.refl _ _⟩
  · obtain ⟨m, rfl, b1, b2, b3, b4⟩ := Nt.rstB_ok hr
    have HF := Lib.hid (Nt.rstOf_ok b1 b2 b3 b4)
    have h1 : decide (3 ≤ (m : Int) ∧ (m : Int) ≤ 6) = true := decide_eq_true (by omega)
    have l1 : ¬ winding < -6 := by omega
    have l2 : ¬ 6 < winding := by omega
    have HFO := Lib.hid (fun w v base => foldedRows_any 65 #[] Nt.wayRow m (by omega) (by decide) enter_withAFront (fun t ht w v base hs => by
      have h := withAFront_any (Nt.wayRow t) (2 * t + 1) (Nt.wayRow_length t) (by omega) (by omega) (fun j => Nat.le_trans (Nt.wayRow_le (by omega) j) (by omega)) w v base hs
      rw [Nt.moreL_wayRow] at h
      exact h) w v base)
    have HL0 := Lib.hid (Sl.lit w [1] (by simp))
    have hka : Kept [] w (w.alloc (.cells #[.int .i64 1] 3)) := (Kept.refl [] w).alloc _
    have HKA := Lib.hid hka
    have HLN : Hid ((Nt.nats (Nt.wayRow m)).length = 2 * m + 1) := Lib.hid (by rw [Nt.nats_length, Nt.wayRow_length])
    have s1 : IntKind.i64.wrap (3 * winding) = 3 * winding := IntWalk.i64_in _ (by omega)
    have s2 : IntKind.i64.wrap ((m : Int) + 3 * winding) = (m : Int) + 3 * winding := IntWalk.i64_in _ (by omega)
    have HS0 : Hid (Sl (w.alloc (.cells #[.int .i64 1] 3)) w.heap.size (.slice (some ⟨w.heap.size, 0, none⟩) 1 1) (Nt.nats (Nt.wayRow 0))) := Lib.hid HL0.out
    clear hr hka HL0
    go_enter Try.func34, Try.ntmps34
    go_wp2_with (go_at_call 45; refine (ringOk_any _ _).mono ?_; rintro e w' ⟨rfl, rfl⟩; rw [h1])
    refine (HFO.out _ _ _ HS0.out).mono ?_
    rintro e w2 ⟨z, rfl, hs2, hk2⟩
    have HK2 := Lib.hid (HKA.out.trans hk2 (by simp))
    obtain ⟨g, cap, rfl, _, _⟩ := hs2.shape HLN.out (by omega)
    by_cases c1 : (m : Int) + 3 * winding < 0
    · have HV : Hid (Nt.rstOf (m : Int) winding = 0) := Lib.hid (by rw [HF.out, Nt.ways_out _ _ (by omega)]; rfl)
      clear hs2 hk2
      go_wp2
      go_ret
      exact ⟨by rw [HV.out]; rfl, HK2.out⟩
    · by_cases c2 : (2 * m + 1 : Nat) ≤ (m : Int) + 3 * winding
      · have HV : Hid (Nt.rstOf (m : Int) winding = 0) := Lib.hid (by rw [HF.out, Nt.ways_out _ _ (by omega)]; rfl)
        clear hs2 hk2
        go_wp2
        go_ret
        exact ⟨by rw [HV.out]; rfl, HK2.out⟩
      · obtain ⟨p, hp⟩ : ∃ p : Nat, (p : Int) = (m : Int) + 3 * winding := ⟨((m : Int) + 3 * winding).toNat, by omega⟩
        obtain ⟨cp, _⟩ := hs2.at p (by rw [HLN.out]; omega)
        rw [Nt.nats_get, Nt.wayRow_get (by omega), show (p : Int) - (m : Int) = 3 * winding by omega] at cp
        have hle := Nt.ways_le m (3 * winding)
        have h729 : 3 ^ m ≤ 3 ^ 6 := Nat.pow_le_pow_right (by omega) b2
        generalize Nt.ways m (3 * winding) = q at *
        have hq : q ≤ 729 := by omega
        have s3 : IntKind.i64.wrap (3 * (q : Int)) = 3 * (q : Int) := IntWalk.i64_in _ (by omega)
        have hpl : p < 2 * m + 1 := by omega
        have c1' : ¬ (p : Int) < 0 := by omega
        have c2' : ¬ ((2 * m + 1 : Nat) : Int) ≤ (p : Int) := by omega
        have s4 : IntKind.i64.wrap ((m : Int) + 3 * winding) = (p : Int) := by rw [s2]; exact hp.symm
        clear s2
        clear hs2 hk2 hle h729 c1 c2 hp
        go_wp2
        go_ret
        exact ⟨by rw [HF.out]; first | rfl | go_num, HK2.out⟩

set_option maxHeartbeats 1000000 in
set_option maxRecDepth 100000 in
theorem iFCount_any (xs : List Int) (sign : Int) (w : World) (v : Value) (base : Nat) (hs : Sl w base v xs) :
    Calls Try.prog 38 #[v, .int .i64 sign] w fun e w' => e = .returned (.int .i64 (Nt.fcOf xs sign)) ∧ Kept [] w w' := by
  have HS := Lib.hid hs
  cases hr : Nt.frB xs
  · have HF := Lib.hid (Nt.fcOf_no1 (s := sign) hr)
    obtain ⟨a, cap, rfl, _, hm, _⟩ := hs.any
    clear hs
    go_enter Try.func38, Try.ntmps38
    go_wp2_with (go_at_call 16; refine (frontsOkE_any xs _ _ _ HS.out).mono ?_; rintro e w' ⟨rfl, rfl⟩; rw [hr])
    go_ret
    exact ⟨by rw [HF.out]; rfl, Kept.refl _ _⟩
  · have fr := (Nt.frB_iff xs).1 hr
    obtain ⟨n, hn⟩ : ∃ n, n = xs.length := ⟨_, rfl⟩
    have h3 := fr.lo
    have h6 := fr.hi
    have HFR := Lib.hid fr
    rw [← hn] at h3 h6
    obtain ⟨g, cap, rfl, _, hg⟩ := hs.shape hn.symm (by omega)
    have HC := Lib.hid (fun k (hk : k < n) => (hs.at k (by rw [← hn]; exact hk)).1)
    have HALL : Hid (Nt.fcTo xs sign n = Nt.cntI xs sign) := Lib.hid (by rw [hn]; exact Nt.fcTo_all xs sign)
    have HSU : Hid (∀ k, Nt.fcTo xs sign (k + 1) = Nt.fcTo xs sign k + if xs.getD k 0 = sign then 1 else 0) := Lib.hid (fun _ => rfl)
    have HLE := Lib.hid (fun k => Nt.fcTo_le xs sign k)
    clear hs fr
    by_cases h1 : sign = 1 ∨ sign = -1
    · have HF := Lib.hid (Nt.fcOf_ok HFR.out h1)
      have hd : (sign != 1) = false ∨ ((sign != 1) = true ∧ (sign != -1) = false) := by rcases h1 with rfl | rfl <;> simp
      clear h1 hn
      rcases hd with d2 | ⟨d2, d3⟩
      all_goals
        go_enter Try.func38, Try.ntmps38
        go_wp2_with (go_at_call 16; refine (frontsOkE_any xs _ _ _ HS.out).mono ?_; rintro e w' ⟨rfl, rfl⟩; rw [hr])
        go_loop [5, 21] (fun c i => ∃ k : Nat, k ≤ n ∧ i = .int .i64 k ∧ c = .int .i64 ((Nt.fcTo xs sign k : Nat) : Int)) (fun _ i => n - (intOf i).toNat)
        case atStart => exact ⟨0, Nat.zero_le _, rfl, rfl⟩
        case round =>
          obtain ⟨k, hk, rfl, rfl⟩ := hrel
          have hle := HLE.out k
          by_cases hlt : k < n
          · have ck := HC.out k hlt
            have HN := Lib.hid (HSU.out k)
            generalize Nt.fcTo xs sign k = q at *
            generalize xs.getD k 0 = x at *
            by_cases hx : x = sign
            · have d4 : (x == sign) = true := by simp [hx]
              have HV : Hid (((Nt.fcTo xs sign (k + 1) : Nat) : Int) = (q : Int) + 1) := Lib.hid (by rw [HN.out, if_pos hx]; omega)
              clear hx HN
              go_wp2
              go_round
              case rel => exact ⟨k + 1, by omega, by go_num, by rw [HV.out]⟩
              case measure => simp [intOf]; omega
            · have d4 : (x == sign) = false := by simp [hx]
              have HV : Hid (((Nt.fcTo xs sign (k + 1) : Nat) : Int) = (q : Int)) := Lib.hid (by rw [HN.out, if_neg hx]; omega)
              clear hx HN
              go_wp2
              go_round
              case rel => exact ⟨k + 1, by omega, by go_num, by rw [HV.out]⟩
              case measure => simp [intOf]; omega
          · have hk' : k = n := by omega
            subst hk'
            have HV : Hid (Nt.fcOf xs sign = ((Nt.fcTo xs sign k : Nat) : Int)) := Lib.hid (by rw [HF.out, HALL.out])
            generalize Nt.fcTo xs sign k = q at *
            go_wp2
            go_ret
            exact ⟨by rw [HV.out]; rfl, Kept.refl _ _⟩
    · have h1a : sign ≠ 1 := fun e => h1 (.inl e)
      have h1b : sign ≠ -1 := fun e => h1 (.inr e)
      have HF := Lib.hid (Nt.fcOf_no2 (fs := xs) h1a h1b)
      have d2 : (sign != 1) = true := bne_iff_ne.2 h1a
      have d3 : (sign != -1) = true := bne_iff_ne.2 h1b
      clear h1 h1a h1b hn
      go_enter Try.func38, Try.ntmps38
      go_wp2_with (go_at_call 16; refine (frontsOkE_any xs _ _ _ HS.out).mono ?_; rintro e w' ⟨rfl, rfl⟩; rw [hr])
      go_ret
      exact ⟨by rw [HF.out]; rfl, Kept.refl _ _⟩
end Go.Proofs.Ytdpkacpeednnoaa
