/-
  Walks: fronts, by the model.
  Walks: moves of fronts, states of fronts, windings and numbers of rings, by the model.
  Walks: numbers of ring states and of fronts, by the model.
-/
import Derived.Test.YtdpkacpeednnoaaUM
import Derived.Test.YtdpkacpeednnoaaRA
namespace Go.Proofs.Ytdpkacpeednnoaa
open Go.RowKit

theorem tmod3_zero (s : Int) : (s.tmod 3 == 0) = decide (s % 3 = 0) := by
  rw [Bool.eq_iff_iff, beq_iff_eq, decide_eq_true_iff]
  rcases Int.le_total 0 s with h | h
  · rw [Int.tmod_eq_emod_of_nonneg h]
  · obtain ⟨m, rfl⟩ : ∃ m, s = -m := ⟨-s, by omega⟩
    rw [Int.neg_tmod, Int.tmod_eq_emod_of_nonneg (by omega)]
    omega

set_option maxHeartbeats 1000000 in
set_option maxRecDepth 100000 in
theorem sFrontsOk_any (xs : List Int) (w : World) (v : Value) (base : Nat) (hs : Sl w base v xs) :
    Calls Try.prog 19 #[v] w fun e w' => e = .returned (.bool (Nt.frB xs)) ∧ w = w' := by
  obtain ⟨a, cap, rfl, _, hm, hc⟩ := hs.any
  have HC := Lib.hid hc
  clear hc hs
  go_enter Try.func19, Try.ntmps19
  go_wp2
  go_loop [3, 4] (fun s i => ∃ k : Nat, k ≤ xs.length ∧ i = .int .i64 k ∧ s = .int .i64 (Nt.sumI xs k) ∧ Nt.signsTo xs k) (fun _ i => xs.length - (intOf i).toNat)
  case atStart => exact ⟨0, Nat.zero_le _, rfl, rfl, fun j hj => absurd hj (by omega)⟩
  case round =>
    obtain ⟨k, hk, rfl, rfl, hto⟩ := hrel
    have HT := Lib.hid hto
    have hbd := Nt.sumI_bounds (fs := xs) k hto
    clear hto
    by_cases hlt : k < xs.length
    · obtain ⟨g, rfl, _, _, hcell, _⟩ := HC.out k hlt
      have HN : Hid (Nt.sumI xs (k + 1) = Nt.sumI xs k + xs.getD k 0) := Lib.hid rfl
      generalize Nt.sumI xs k = s at *
      generalize hb : xs.getD k 0 = b at *
      have HB := Lib.hid hb
      clear hb
      by_cases h3 : -1 ≤ b ∧ b ≤ 1
      · have d1 : decide (-1 ≤ b ∧ b ≤ 1) = true := dec_of h3
        have HT2 := Lib.hid (Nt.signsTo_succ HT.out (by rw [HB.out]; exact h3))
        have s1 : IntKind.i64.wrap (s + b) = s + b := IntWalk.i64_in _ (by omega)
        go_wp2_with (go_at_call 52; refine (l1In_any _ _ _ _).mono ?_; rintro e w' ⟨rfl, rfl⟩; rw [d1])
        go_round
        case rel => exact ⟨k + 1, by omega, by go_num, by rw [HN.out], HT2.out⟩
        case measure => simp [intOf]; omega
      · have d1 : decide (-1 ≤ b ∧ b ≤ 1) = false := dec_not h3
        have HNO := Lib.hid (Nt.frB_no1 hlt (by rw [HB.out]; exact h3))
        clear h3
        go_wp2_with (go_at_call 52; refine (l1In_any _ _ _ _).mono ?_; rintro e w' ⟨rfl, rfl⟩; rw [d1])
        go_ret
        exact ⟨by rw [HNO.out]; rfl, rfl⟩
    · have hk' : k = xs.length := by omega
      subst hk'
      have HE := Lib.hid (Nt.frB_end HT.out)
      generalize Nt.sumI xs xs.length = s at *
      by_cases h2 : 3 ≤ xs.length ∧ xs.length ≤ 6
      · have d2 : decide ((3 : Int) ≤ (xs.length : Int) ∧ (xs.length : Int) ≤ 6) = true := dec_of (by omega)
        have HF : Hid (Nt.frB xs = (s.tmod 3 == 0)) := Lib.hid (by rw [HE.out, decide_eq_true h2, Bool.true_and, tmod3_zero])
        clear h2
        generalize hq : (s.tmod 3 == 0) = q at *
        go_wp2_with (go_at_call 52; refine (l1In_any _ _ _ _).mono ?_; rintro e w' ⟨rfl, rfl⟩; rw [d2])
        go_ret
        exact ⟨by rw [HF.out]; rfl, rfl⟩
      · have d2 : decide ((3 : Int) ≤ (xs.length : Int) ∧ (xs.length : Int) ≤ 6) = false := dec_not (by omega)
        have HF : Hid (Nt.frB xs = false) := Lib.hid (Nt.frB_no2 h2)
        clear h2
        go_wp2_with (go_at_call 52; refine (l1In_any _ _ _ _).mono ?_; rintro e w' ⟨rfl, rfl⟩; rw [d2])
        go_ret
        exact ⟨by rw [HF.out]; rfl, rfl⟩

theorem mod_int (a n : Nat) : ((a : Int)).tmod (n : Int) = ((a % n : Nat) : Int) := by
  rw [Int.tmod_eq_emod_of_nonneg (by omega)]; simp

set_option maxHeartbeats 1000000 in
set_option maxRecDepth 100000 in
theorem l8Goes_any (fs : List Int) (fr : Nt.Fr fs) (at_ : Nat) (hat : at_ ≤ fs.length) (w : World) (v : Value) (base : Nat) (hs : Sl w base v fs) :
    Calls Try.prog 55 #[v, .int .i64 (at_ : Int)] w fun e w' => e = .returned (.int .i64 (Nt.goes fs (at_ % fs.length))) ∧ w = w' := by
  obtain ⟨n, hn⟩ : ∃ n, n = fs.length := ⟨_, rfl⟩
  have h3 := fr.lo
  have h6 := fr.hi
  rw [← hn] at h3 h6 hat
  obtain ⟨g, cap, rfl, _, _⟩ := hs.shape hn.symm (by omega)
  have hp := Nat.mod_lt at_ (show 0 < n by omega)
  have hq := Nat.mod_lt (at_ + n - 1) (show 0 < n by omega)
  have cp := (hs.at (at_ % n) (by rw [← hn]; exact hp)).1
  have cq := (hs.at ((at_ + n - 1) % n) (by rw [← hn]; exact hq)).1
  have e1 : ((at_ : Int)).tmod (n : Int) = ((at_ % n : Nat) : Int) := mod_int at_ n
  have e2 : ((at_ : Int) + (n : Int) - 1).tmod (n : Int) = (((at_ + n - 1) % n : Nat) : Int) := by
    rw [show (at_ : Int) + (n : Int) - 1 = ((at_ + n - 1 : Nat) : Int) by omega]; exact mod_int _ n
  have HG : Hid (Nt.goes fs (at_ % n) = if fs.getD (at_ % n) 0 = 1 ∨ fs.getD ((at_ + n - 1) % n) 0 = -1 then 1 else 0) := Lib.hid (by
    unfold Nt.goes
    rw [← hn]
    have e3 : (at_ % n + n - 1) % n = (at_ + n - 1) % n := by
      by_cases e : at_ < n
      · rw [Nat.mod_eq_of_lt e]
      · have : at_ = n := by omega
        subst this
        rw [Nat.mod_self, Nat.zero_add, show at_ + at_ - 1 = at_ - 1 + at_ by omega, Nat.add_mod_right]
    rw [e3])
  have s1 : IntKind.i64.wrap ((at_ : Int) + (n : Int)) = (at_ : Int) + (n : Int) := IntWalk.i64_in _ (by omega)
  have s2 : IntKind.i64.wrap ((at_ : Int) + (n : Int) - 1) = (at_ : Int) + (n : Int) - 1 := IntWalk.i64_in _ (by omega)
  have hn0 : ¬ n = 0 := by omega
  rw [← hn]
  clear hs fr hn
  generalize fs.getD (at_ % n) 0 = x at *
  generalize fs.getD ((at_ + n - 1) % n) 0 = y at *
  generalize at_ % n = p at *
  generalize (at_ + n - 1) % n = q at *
  by_cases h1 : x = 1
  · have HV : Hid (Nt.goes fs p = 1) := Lib.hid (by rw [HG.out, if_pos (.inl h1)])
    have d1 : (x == 1) = true := by simp [h1]
    clear h1 HG
    go_enter Try.func55, Try.ntmps55
    go_wp2
    go_ret
    exact ⟨by rw [HV.out]; rfl, rfl⟩
  · have d1 : (x == 1) = false := by simp [h1]
    by_cases h2 : y = -1
    · have HV : Hid (Nt.goes fs p = 1) := Lib.hid (by rw [HG.out, if_pos (.inr h2)])
      have d2 : (y == -1) = true := by simp [h2]
      clear h1 h2 HG
      go_enter Try.func55, Try.ntmps55
      go_wp2
      go_ret
      exact ⟨by rw [HV.out]; rfl, rfl⟩
    · have HV : Hid (Nt.goes fs p = 0) := Lib.hid (by rw [HG.out, if_neg (by rintro (h | h) <;> omega)])
      have d2 : (y == -1) = false := by simp [h2]
      clear h1 h2 HG
      go_enter Try.func55, Try.ntmps55
      go_wp2
      go_ret
      exact ⟨by rw [HV.out]; rfl, rfl⟩

theorem frow_take (ks : List Nat) (k : Nat) (h : k < ks.length) : (Nt.frow ks).take (k + 1) = (Nt.frow ks).take k ++ [(Nt.frow ks).getD k 0] := by
  have hl : k < (Nt.frow ks).length := by rw [Nt.frow_length]; exact h
  rw [List.take_succ_eq_append_getElem hl]
  simp [List.getD_eq_getElem?_getD, List.getElem?_eq_getElem hl]

set_option maxHeartbeats 2000000 in
set_option maxRecDepth 100000 in
theorem sFrontRow_any (ys : List Int) (w : World) (v : Value) (base : Nat) (hs : Sl w base v ys) :
    Calls Try.prog 14 #[v] w fun e w' => ∃ z, e = .returned z ∧ Sl w' w.heap.size z (Nt.frontsOf ys) ∧ Kept [] w w' := by
  have hka : Kept [] w (w.alloc (.cells #[] 3)) := (Kept.refl [] w).alloc _
  have HE0 := Lib.hid (Sl.empty3 w)
  have HS0 := Lib.hid (hs.stay hka)
  have HKA := Lib.hid hka
  cases hr : Nt.rowB ys
  · have HF := Lib.hid (Nt.frontsOf_no hr)
    obtain ⟨a, cap, rfl, _, hm, _⟩ := hs.any
    clear hs hka
    have HRB : Hid (Nt.stB 3 ys = true → ¬ 3 ≤ ys.length) := Lib.hid (fun h1 h2 => by
      unfold Nt.rowB at hr
      rw [h1, decide_eq_true h2] at hr
      exact absurd hr (by simp))
    clear hr
    go_enter Try.func14, Try.ntmps14
    go_wp2_with fail
    go_loopw [3, 4] (fun u i wr => i = .int .i64 0 ∧ u = .slice (some ⟨w.heap.size, 0, none⟩) 0 0 ∧ w.alloc (.cells #[] 3) = wr) (fun _ _ _ => 0)
    case atStart => exact ⟨rfl, rfl, rfl⟩
    case round =>
      obtain ⟨rfl, rfl, rfl⟩ := hrel
      generalize w.alloc (.cells #[] 3) = w0 at *
      by_cases h0 : 0 < ys.length
      · have d1 : decide (0 < ys.length) = true := decide_eq_true h0
        have d2 : decide ((0 : Int) < (ys.length : Int)) = true := decide_eq_true (by omega)
        cases hst : Nt.stB 3 ys
        · go_wp2_with (go_at_call 48; refine (sStateOk_any 3 ys _ _ _ HS0.out).mono ?_; rintro e w' ⟨rfl, rfl⟩; rw [hst])
          go_ret
          exact ⟨_, rfl, by rw [HF.out]; exact HE0.out, HKA.out⟩
        · have h3 := HRB.out hst
          have d3 : decide ((3 : Int) ≤ (ys.length : Int)) = false := decide_eq_false (by omega)
          clear h3
          go_wp2_with (go_at_call 48; refine (sStateOk_any 3 ys _ _ _ HS0.out).mono ?_; rintro e w' ⟨rfl, rfl⟩; rw [hst])
          go_ret
          exact ⟨_, rfl, by rw [HF.out]; exact HE0.out, HKA.out⟩
      · have d1 : decide (0 < ys.length) = false := decide_eq_false h0
        have d2 : decide ((0 : Int) < (ys.length : Int)) = false := decide_eq_false (by omega)
        go_wp2
        go_ret
        exact ⟨_, rfl, by rw [HF.out]; exact HE0.out, HKA.out⟩
  · obtain ⟨ks, rfl, st, h3⟩ := Nt.rowB_ok hr
    have HF := Lib.hid (Nt.frontsOf_ok st h3)
    have HSB := Lib.hid (Nt.st_stB3 st)
    obtain ⟨n, hn⟩ : ∃ n, n = ks.length := ⟨_, rfl⟩
    have h6 := st.few
    have HLT := Lib.hid (fun k (hk : k < n) => st.lt k (by omega))
    have HTP := Lib.hid (fun k (hk : k < n) => frow_take ks k (by omega))
    have HGT : Hid (∀ k, k < n → (Nt.frow ks).getD k 0 = Nt.rise (ks.getD k 0) (ks.getD ((k + 1) % n) 0)) := Lib.hid (fun k hk => by rw [Nt.frow_get _ (by omega), ← hn])
    have HFL : Hid ((Nt.frow ks).length = n) := Lib.hid (by rw [Nt.frow_length, hn])
    rw [← hn] at h3 h6
    obtain ⟨g, cap, rfl, hg, hc⟩ := hs.row hn.symm (by omega)
    have HC := Lib.hid hc
    have HSK : Hid (∀ w', Kept [] w w' → Sl w' base (.slice (some ⟨g, 0, none⟩) n cap) (Nt.nats ks)) := Lib.hid (fun w' hk => hs.stay hk)
    have HE1 : Hid (Sl (w.alloc (.cells #[] 3)) w.heap.size (.slice (some ⟨w.heap.size, 0, none⟩) 0 0) ((Nt.frow ks).take 0)) := Lib.hid (by rw [List.take_zero]; exact HE0.out)
    have hn0 : ¬ n = 0 := by omega
    have d3 : decide ((3 : Int) ≤ (n : Int)) = true := decide_eq_true (by omega)
    clear hs hka hr st hc hn HE0
    go_enter Try.func14, Try.ntmps14
    go_wp2_with fail
    go_loopw [3, 4] (fun u i wr => ∃ k : Nat, k ≤ n ∧ i = .int .i64 k ∧ Sl wr w.heap.size u ((Nt.frow ks).take k) ∧ Kept [] w wr) (fun _ i _ => n - (intOf i).toNat)
    case atStart => exact ⟨0, Nat.zero_le _, rfl, HE1.out, HKA.out⟩
    case round =>
      clear HE1
      obtain ⟨k, hk, rfl, hsl, hkept⟩ := hrel
      have HSL := Lib.hid hsl
      have HK := Lib.hid hkept
      by_cases hlt : k < n
      · have hq := Nat.mod_lt (k + 1) (show 0 < n by omega)
        have ck := (hkept.cell (p := ⟨g, k, none⟩) hg (by simp)).trans (HC.out k hlt)
        have cq := (hkept.cell (p := ⟨g, (k + 1) % n, none⟩) hg (by simp)).trans (HC.out _ hq)
        have e1 : ((k : Int) + 1).tmod (n : Int) = (((k + 1) % n : Nat) : Int) := mod_int (k + 1) n
        have hx := HLT.out k hlt
        have hy := HLT.out _ hq
        have HT := Lib.hid (HTP.out k hlt)
        have HG := Lib.hid (HGT.out k hlt)
        have HL : Hid (((Nt.frow ks).take k).length ≤ 1000000) := Lib.hid (by rw [List.length_take]; omega)
        have s1 : IntKind.i64.wrap ((k : Int) + 1) = (k : Int) + 1 := IntWalk.i64_in _ (by omega)
        clear hsl
        generalize (k + 1) % n = q at *
        generalize ks.getD k 0 = x at *
        generalize ks.getD q 0 = y at *
        have HR := Lib.hid (fun w => l6Rise_any x y hx hy w)
        generalize Nt.rise x y = r at *
        have hcell : ∀ x : Int, ((wr.alloc (.cells #[.int .i64 x] 3)).drew).cell? ⟨wr.heap.size, 0, none⟩ = some (.int .i64 x) := by
          intro x
          simp
        have hS : ∀ o : Obj, Sl ((wr.alloc o).drew) w.heap.size _ _ := fun o => HSL.out.stay (((Kept.refl [] wr).alloc o).drew)
        have hsz := hkept.size
        have hZ : ∀ o : Obj, w.heap.size ≤ ((wr.alloc o).drew).heap.size := fun o => Nat.le_trans hsz (((Kept.refl [] wr).alloc o).drew).size
        have HCE := Lib.hid hcell
        have HSO := Lib.hid hS
        have HZ := Lib.hid hZ
        have HSTW : Hid (Calls Try.prog 48 #[.int .i64 3, .slice (some ⟨g, 0, none⟩) n cap] wr fun e w' => e = .returned (.bool true) ∧ wr = w') := Lib.hid (by
          have h := sStateOk_any 3 (Nt.nats ks) wr (.slice (some ⟨g, 0, none⟩) n cap) base (HSK.out wr hkept)
          rw [HSB.out] at h
          exact h)
        clear hcell hS hZ hkept hsz
        go_wp2_with (go_at_call 48; refine HSTW.out.mono ?_; rintro e w' ⟨rfl, rfl⟩)
        go_region_law (first
          | (go_simp; go_at_call 49; refine (HR.out _).mono ?_; rintro e w' ⟨rfl, rfl⟩)
          | (refine step_app_int _ rfl _ _ rfl w.heap.size _ _ (HSO.out _) rfl wr.heap.size rfl (HCE.out _) HL.out (HZ.out _) ?_; intro u' w1 hs1 hk1))
        all_goals
          have HS1 := Lib.hid hs1
          have HK1 := Lib.hid hk1
          clear hs1 hk1
          go_wp2
          go_roundw
          case rel => exact ⟨k + 1, by omega, by go_num, HS1.out.val HG.out.symm HT.out, (((HK.out.alloc _).drew).own HK1.out (fun g hg => (HSL.out.block hg).1))⟩
          case measure => simp [intOf]; omega
      · have hk' : k = n := by omega
        subst hk'
        clear hsl hkept
        go_wp2
        go_ret
        exact ⟨_, rfl, by have h := HSL.out; rw [List.take_of_length_le (by rw [HFL.out]; exact Nat.le_refl _)] at h; rw [HF.out]; exact h, HK.out⟩
end Go.Proofs.Ytdpkacpeednnoaa

namespace Go.Proofs.Ytdpkacpeednnoaa
open Go.RowKit

theorem takeF_succ (xs : List Int) (k : Nat) (h : k < xs.length) : xs.take (k + 1) = xs.take k ++ [xs.getD k 0] := by
  rw [List.take_succ_eq_append_getElem h]
  simp [List.getD_eq_getElem?_getD, h]

set_option maxHeartbeats 2000000 in
set_option maxRecDepth 100000 in
theorem sFrontStep_any (xs : List Int) (w : World) (v : Value) (base : Nat) (hs : Sl w base v xs) :
    Calls Try.prog 22 #[v] w fun e w' => ∃ z, e = .returned z ∧ Sl w' w.heap.size z (Nt.fstepOf xs) ∧ Kept [] w w' := by
  have hka : Kept [] w (w.alloc (.cells #[] 3)) := (Kept.refl [] w).alloc _
  have HE0 := Lib.hid (Sl.empty3 w)
  have HS0 := Lib.hid (hs.stay hka)
  have HKA := Lib.hid hka
  cases hr : Nt.frB xs
  · have HF := Lib.hid (Nt.fstepOf_no hr)
    obtain ⟨a, cap, rfl, _, hm, _⟩ := hs.any
    clear hs hka
    go_enter Try.func22, Try.ntmps22
    go_wp2_with fail
    go_loopw [3, 4] (fun u i wr => i = .int .i64 0 ∧ u = .slice (some ⟨w.heap.size, 0, none⟩) 0 0 ∧ w.alloc (.cells #[] 3) = wr) (fun _ _ _ => 0)
    case atStart => exact ⟨rfl, rfl, rfl⟩
    case round =>
      obtain ⟨rfl, rfl, rfl⟩ := hrel
      generalize w.alloc (.cells #[] 3) = w0 at *
      by_cases h0 : 0 < xs.length
      · have d1 : decide (0 < xs.length) = true := decide_eq_true h0
        have d2 : decide ((0 : Int) < (xs.length : Int)) = true := decide_eq_true (by omega)
        go_wp2_with (go_at_call 19; refine (sFrontsOk_any xs _ _ _ HS0.out).mono ?_; rintro e w' ⟨rfl, rfl⟩; rw [hr])
        go_ret
        exact ⟨_, rfl, by rw [HF.out]; exact HE0.out, HKA.out⟩
      · have d1 : decide (0 < xs.length) = false := decide_eq_false h0
        have d2 : decide ((0 : Int) < (xs.length : Int)) = false := decide_eq_false (by omega)
        go_wp2
        go_ret
        exact ⟨_, rfl, by rw [HF.out]; exact HE0.out, HKA.out⟩
  · have fr := (Nt.frB_iff xs).1 hr
    have HF := Lib.hid (Nt.fstepOf_ok fr)
    have HFR := Lib.hid fr
    obtain ⟨n, hn⟩ : ∃ n, n = xs.length := ⟨_, rfl⟩
    have h3 := fr.lo
    have h6 := fr.hi
    have HSG := Lib.hid (fun k (hk : k < n) => fr.sign k (by omega))
    have HTP := Lib.hid (fun k (hk : k < n) => takeF_succ (Nt.fstep xs) k (by rw [Nt.fstep_length]; omega))
    have HGT : Hid (∀ k, k < n → (Nt.fstep xs).getD k 0 = xs.getD k 0 + Nt.goes xs ((k + 1) % n) - Nt.goes xs (k % n)) := Lib.hid (fun k hk => by rw [Nt.fstep_get _ (by omega), ← hn, Nat.mod_eq_of_lt hk])
    have HGB : Hid (∀ k, 0 ≤ Nt.goes xs k ∧ Nt.goes xs k ≤ 1) := Lib.hid (fun k => by unfold Nt.goes; split <;> omega)
    have HFL : Hid ((Nt.fstep xs).length = n) := Lib.hid (by rw [Nt.fstep_length, hn])
    have HN := Lib.hid hn
    rw [← hn] at h3 h6
    obtain ⟨g, cap, rfl, _, hg⟩ := hs.shape hn.symm (by omega)
    have HC := Lib.hid (fun k (hk : k < n) => (hs.at k (by rw [← hn]; exact hk)).1)
    have HSK : Hid (∀ w', Kept [] w w' → Sl w' base (.slice (some ⟨g, 0, none⟩) n cap) xs) := Lib.hid (fun w' hk => hs.stay hk)
    have HE1 : Hid (Sl (w.alloc (.cells #[] 3)) w.heap.size (.slice (some ⟨w.heap.size, 0, none⟩) 0 0) ((Nt.fstep xs).take 0)) := Lib.hid (by rw [List.take_zero]; exact HE0.out)
    clear hs hka fr hn HE0
    go_enter Try.func22, Try.ntmps22
    go_wp2_with fail
    go_loopw [3, 4] (fun u i wr => ∃ k : Nat, k ≤ n ∧ i = .int .i64 k ∧ Sl wr w.heap.size u ((Nt.fstep xs).take k) ∧ Kept [] w wr) (fun _ i _ => n - (intOf i).toNat)
    case atStart => exact ⟨0, Nat.zero_le _, rfl, HE1.out, HKA.out⟩
    case round =>
      clear HE1
      obtain ⟨k, hk, rfl, hsl, hkept⟩ := hrel
      have HSL := Lib.hid hsl
      have HK := Lib.hid hkept
      by_cases hlt : k < n
      · have ck := (hkept.cell (p := ⟨g, k, none⟩) hg (by simp)).trans (HC.out k hlt)
        have bx := HSG.out k hlt
        have b1 := HGB.out ((k + 1) % n)
        have b2 := HGB.out (k % n)
        have HT := Lib.hid (HTP.out k hlt)
        have HG := Lib.hid (HGT.out k hlt)
        have HL : Hid (((Nt.fstep xs).take k).length ≤ 1000000) := Lib.hid (by rw [List.length_take]; omega)
        have s1 : IntKind.i64.wrap ((k : Int) + 1) = (k : Int) + 1 := IntWalk.i64_in _ (by omega)
        have HSX := Lib.hid (fun d => HSK.out (wr.drewN d) (hkept.trans (Qt.kept ⟨d, rfl⟩) (by simp)))
        have HSX0 : Hid (Sl wr base (.slice (some ⟨g, 0, none⟩) n cap) xs) := Lib.hid (HSK.out wr hkept)
        have HSX1 : Hid (Sl wr.drew base (.slice (some ⟨g, 0, none⟩) n cap) xs) := Lib.hid (HSK.out wr.drew hkept.drew)
        have HR1 := Lib.hid (l8Goes_any xs HFR.out (k + 1) (by rw [← HN.out]; omega) wr.drew _ _ HSX1.out)
        have HR2 := Lib.hid (l8Goes_any xs HFR.out k (by rw [← HN.out]; omega) wr.drew _ _ HSX1.out)
        rw [← HN.out] at HR1 HR2
        rw [show ((k + 1 : Nat) : Int) = (k : Int) + 1 by omega] at HR1
        clear hsl
        generalize Nt.goes xs ((k + 1) % n) = p at *
        generalize Nt.goes xs (k % n) = q at *
        generalize xs.getD k 0 = x at *
        have s2 : IntKind.i64.wrap (x + p) = x + p := IntWalk.i64_in _ (by omega)
        have s3 : IntKind.i64.wrap (x + p - q) = x + p - q := IntWalk.i64_in _ (by omega)
        have hcell : ∀ x : Int, ((wr.alloc (.cells #[.int .i64 x] 3)).drew).cell? ⟨wr.heap.size, 0, none⟩ = some (.int .i64 x) := by
          intro x
          simp
        have hS : ∀ o : Obj, Sl ((wr.alloc o).drew) w.heap.size _ _ := fun o => HSL.out.stay (((Kept.refl [] wr).alloc o).drew)
        have hsz := hkept.size
        have hZ : ∀ o : Obj, w.heap.size ≤ ((wr.alloc o).drew).heap.size := fun o => Nat.le_trans hsz (((Kept.refl [] wr).alloc o).drew).size
        have HCE := Lib.hid hcell
        have HSO := Lib.hid hS
        have HZ := Lib.hid hZ
        clear hcell hS hZ hkept hsz
        go_wp2_with (go_at_call 19; refine (sFrontsOk_any xs _ _ _ HSX0.out).mono ?_; rintro e w' ⟨rfl, rfl⟩; rw [hr])
        go_region_law (first
          | (go_simp; go_at_call 55; first | ((with_reducible refine HR1.out.mono ?_); rintro e w' ⟨rfl, rfl⟩) | ((with_reducible refine HR2.out.mono ?_); rintro e w' ⟨rfl, rfl⟩))
          | (refine step_app_int _ rfl _ _ rfl w.heap.size _ _ (HSO.out _) rfl wr.heap.size rfl (HCE.out _) HL.out (HZ.out _) ?_; intro u' w1 hs1 hk1))
        all_goals
          have HS1 := Lib.hid hs1
          have HK1 := Lib.hid hk1
          clear hs1 hk1
          go_wp2
          go_roundw
          case rel => exact ⟨k + 1, by omega, by go_num, HS1.out.val HG.out.symm HT.out, (((HK.out.alloc _).drew).own HK1.out (fun g hg => (HSL.out.block hg).1))⟩
          case measure => simp [intOf]; omega
      · have hk' : k = n := by omega
        subst hk'
        clear hsl hkept
        go_wp2
        go_ret
        exact ⟨_, rfl, by have h := HSL.out; rw [List.take_of_length_le (by rw [HFL.out]; exact Nat.le_refl _)] at h; rw [HF.out]; exact h, HK.out⟩

theorem next_kind (a : Nat) (fs : List Int) (k x : Nat) (d : Int) (hx : x = (((a : Int) + Nt.sumI fs k) % 3).toNat) (hd : fs.getD k 0 = d) (h1 : -1 ≤ d) : ((x : Int) + d + 3).tmod 3 = (((((a : Int) + Nt.sumI fs (k + 1)) % 3).toNat : Nat) : Int) := by
  rw [Int.tmod_eq_emod_of_nonneg (by omega), Nt.sumI, hd]
  omega

set_option maxHeartbeats 2000000 in
set_option maxRecDepth 100000 in
theorem sStFr_any (first : Int) (xs : List Int) (w : World) (v : Value) (base : Nat) (hs : Sl w base v xs) :
    Calls Try.prog 26 #[.int .i64 first, v] w fun e w' => ∃ z, e = .returned z ∧ Sl w' w.heap.size z (Nt.stFrOf first xs) ∧ Kept [] w w' := by
  have hka : Kept [] w (w.alloc (.cells #[] 3)) := (Kept.refl [] w).alloc _
  have HE0 := Lib.hid (Sl.empty3 w)
  have HS0 := Lib.hid (hs.stay hka)
  have HKA := Lib.hid hka
  cases hr : Nt.sfB first xs
  · have HF := Lib.hid (Nt.stFrOf_no hr)
    obtain ⟨a, cap, rfl, _, hm, _⟩ := hs.any
    have HRB : Hid (Nt.frB xs = true → Nt.inB 3 first = false) := Lib.hid (fun h1 => by
      unfold Nt.sfB at hr
      rw [h1, Bool.true_and] at hr
      exact hr)
    clear hs hka hr
    go_enter Try.func26, Try.ntmps26
    go_wp2_with fail
    go_loopw [5, 6, 7] (fun u f i wr => i = .int .i64 0 ∧ f = .int .i64 first ∧ u = .slice (some ⟨w.heap.size, 0, none⟩) 0 0 ∧ w.alloc (.cells #[] 3) = wr) (fun _ _ _ _ => 0)
    case atStart => exact ⟨rfl, rfl, rfl, rfl⟩
    case round =>
      obtain ⟨rfl, rfl, rfl, rfl⟩ := hrel
      generalize w.alloc (.cells #[] 3) = w0 at *
      by_cases h0 : 0 < xs.length
      · have d1 : decide (0 < xs.length) = true := decide_eq_true h0
        have d2 : decide ((0 : Int) < (xs.length : Int)) = true := decide_eq_true (by omega)
        cases hfb : Nt.frB xs
        · go_wp2_with (go_at_call 19; refine (sFrontsOk_any xs _ _ _ HS0.out).mono ?_; rintro e w' ⟨rfl, rfl⟩; rw [hfb])
          go_ret
          exact ⟨_, rfl, by rw [HF.out]; exact HE0.out, HKA.out⟩
        · have hin := HRB.out hfb
          have d3 : decide (0 ≤ first ∧ first ≤ 2) = false := decide_eq_false (by have := Nt.inB_no hin; omega)
          clear hin
          go_wp2_with (first | (go_at_call 19; refine (sFrontsOk_any xs _ _ _ HS0.out).mono ?_; rintro e w' ⟨rfl, rfl⟩; rw [hfb]) | (go_at_call 52; refine (l1In_any _ _ _ _).mono ?_; rintro e w' ⟨rfl, rfl⟩; rw [d3]))
          go_ret
          exact ⟨_, rfl, by rw [HF.out]; exact HE0.out, HKA.out⟩
      · have d1 : decide (0 < xs.length) = false := decide_eq_false h0
        have d2 : decide ((0 : Int) < (xs.length : Int)) = false := decide_eq_false (by omega)
        go_wp2
        go_ret
        exact ⟨_, rfl, by rw [HF.out]; exact HE0.out, HKA.out⟩
  · obtain ⟨x0, rfl, hx0, fr⟩ := Nt.sfB_ok hr
    have HF := Lib.hid (Nt.stFrOf_ok fr hx0)
    have HFB := Lib.hid (Nt.frB_yes fr)
    have d3 : decide (0 ≤ (x0 : Int) ∧ (x0 : Int) ≤ 2) = true := decide_eq_true (by omega)
    obtain ⟨n, hn⟩ : ∃ n, n = xs.length := ⟨_, rfl⟩
    have h3 := fr.lo
    have h6 := fr.hi
    have HSG := Lib.hid (fun k (hk : k < n) => fr.sign k (by omega))
    have HTP : Hid (∀ k, k < n → (Nt.nats (Nt.stOf x0 xs)).take (k + 1) = (Nt.nats (Nt.stOf x0 xs)).take k ++ [(((((x0 : Int) + Nt.sumI xs k) % 3).toNat : Nat) : Int)]) := Lib.hid (fun k hk => by
      rw [takeF_succ _ _ (by rw [Nt.nats_length, Nt.stOf_length]; omega), Nt.nats_get, Nt.stOf_get _ _ (by omega)])
    have HNK := Lib.hid (fun k x d hx hd h1 => next_kind x0 xs k x d hx hd h1)
    have HX0 : Hid ((((x0 : Int) + Nt.sumI xs 0) % 3).toNat = x0) := Lib.hid (by show (((x0 : Int) + 0) % 3).toNat = x0; omega)
    have HX3 : Hid (∀ k, (((x0 : Int) + Nt.sumI xs k) % 3).toNat < 3) := Lib.hid (fun k => by omega)
    have HFL : Hid ((Nt.nats (Nt.stOf x0 xs)).length = n) := Lib.hid (by rw [Nt.nats_length, Nt.stOf_length, hn])
    rw [← hn] at h3 h6
    obtain ⟨g, cap, rfl, _, hg⟩ := hs.shape hn.symm (by omega)
    have HC := Lib.hid (fun k (hk : k < n) => (hs.at k (by rw [← hn]; exact hk)).1)
    have HSK : Hid (∀ w', Kept [] w w' → Sl w' base (.slice (some ⟨g, 0, none⟩) n cap) xs) := Lib.hid (fun w' hk => hs.stay hk)
    have HE1 : Hid (Sl (w.alloc (.cells #[] 3)) w.heap.size (.slice (some ⟨w.heap.size, 0, none⟩) 0 0) ((Nt.nats (Nt.stOf x0 xs)).take 0)) := Lib.hid (by rw [List.take_zero]; exact HE0.out)
    clear hs hka fr hn HE0 hr hx0
    go_enter Try.func26, Try.ntmps26
    go_wp2_with fail
    go_loopw [5, 6, 7] (fun u f i wr => ∃ k : Nat, k ≤ n ∧ i = .int .i64 k ∧ f = .int .i64 (((((x0 : Int) + Nt.sumI xs k) % 3).toNat : Nat) : Int) ∧ Sl wr w.heap.size u ((Nt.nats (Nt.stOf x0 xs)).take k) ∧ Kept [] w wr) (fun _ _ i _ => n - (intOf i).toNat)
    case atStart => exact ⟨0, Nat.zero_le _, rfl, by rw [HX0.out], HE1.out, HKA.out⟩
    case round =>
      clear HE1
      obtain ⟨k, hk, rfl, rfl, hsl, hkept⟩ := hrel
      have HSL := Lib.hid hsl
      have HK := Lib.hid hkept
      by_cases hlt : k < n
      · have ck := (hkept.cell (p := ⟨g, k, none⟩) hg (by simp)).trans (HC.out k hlt)
        have bx := HSG.out k hlt
        have HT := Lib.hid (HTP.out k hlt)
        have hx3 := HX3.out k
        have hnk := HNK.out k _ _ rfl rfl bx.1
        have HL : Hid (((Nt.nats (Nt.stOf x0 xs)).take k).length ≤ 1000000) := Lib.hid (by rw [List.length_take]; omega)
        have HSX0 : Hid (Sl wr base (.slice (some ⟨g, 0, none⟩) n cap) xs) := Lib.hid (HSK.out wr hkept)
        have hsz := hkept.size
        clear hsl
        generalize hy : (((x0 : Int) + Nt.sumI xs (k + 1)) % 3).toNat = y at *
        have HY := Lib.hid hy
        clear hy
        generalize (((x0 : Int) + Nt.sumI xs k) % 3).toNat = x at *
        generalize hd : xs.getD k 0 = d at *
        have HDD := Lib.hid hd
        clear hd
        have s1 : IntKind.i64.wrap ((x : Int) + d) = (x : Int) + d := IntWalk.i64_in _ (by omega)
        have s2 : IntKind.i64.wrap ((x : Int) + d + 3) = (x : Int) + d + 3 := IntWalk.i64_in _ (by omega)
        have hpos : 0 ≤ (x : Int) + d + 3 := by omega
        have hem : ((x : Int) + d + 3) % 3 = (y : Int) := by rw [← hnk, Int.tmod_eq_emod_of_nonneg hpos]
        have HCK := Lib.hid (hkept)
        clear hkept
        go_wp2_with (first | (go_at_call 19; refine (sFrontsOk_any xs _ _ _ HSX0.out).mono ?_; rintro e w' ⟨rfl, rfl⟩; rw [HFB.out]) | (go_at_call 52; refine (l1In_any _ _ _ _).mono ?_; rintro e w' ⟨rfl, rfl⟩; rw [d3]) | (at_builtin; refine app_int _ rfl _ _ rfl w.heap.size _ _ HSL.out rfl rfl HL.out (by omega) ?_; intro u' w1 hs1 hk1; have HS1 := Lib.hid hs1; have HK1 := Lib.hid (HCK.out.own hk1 (fun g hg => (HSL.out.block hg).1)); have ck1 := (HK1.out.cell (p := ⟨g, k, none⟩) hg (by simp)).trans (HC.out k hlt); rw [HDD.out] at ck1; clear hs1 hk1))
        go_roundw
        case rel => exact ⟨k + 1, by omega, by go_num, by rw [HY.out], HS1.out.val rfl HT.out, HK1.out⟩
        case measure => simp [intOf]; omega
      · have hk' : k = n := by omega
        subst hk'
        clear hsl hkept
        go_wp2
        go_ret
        exact ⟨_, rfl, by have h := HSL.out; rw [List.take_of_length_le (by rw [HFL.out]; exact Nat.le_refl _)] at h; rw [HF.out]; exact h, HK.out⟩

set_option maxHeartbeats 1000000 in
set_option maxRecDepth 100000 in
theorem sRWind_any (ys : List Int) (w : World) (v : Value) (base : Nat) (hs : Sl w base v ys) :
    Calls Try.prog 30 #[v] w fun e w' => e = .returned (.tuple #[.int .i64 (Nt.rwindOf ys), .bool (Nt.rowB ys)]) ∧ Kept [] w w' := by
  have HS := Lib.hid hs
  obtain ⟨a, cap, rfl, _, hm, _⟩ := hs.any
  clear hs
  go_enter Try.func30, Try.ntmps30
  go_wp2_with fail
  refine (sFrontRow_any ys _ _ _ HS.out).mono ?_
  rintro e w1 ⟨z, rfl, hs1, hk1⟩
  have HK1 := Lib.hid hk1
  cases hr : Nt.rowB ys
  · have HF := Lib.hid (Nt.rwindOf_no hr)
    have HRB := Lib.hid hr
    rw [Nt.frontsOf_no hr] at hs1
    obtain ⟨b, c, rfl, _, _, _⟩ := hs1.any
    clear hs1 hk1 hr
    go_wp2_with fail
    go_loopw [5, 6] (fun s i wr => i = .int .i64 0 ∧ s = .int .i64 0 ∧ w1 = wr) (fun _ _ _ => 0)
    case atStart => exact ⟨rfl, rfl, rfl⟩
    case round =>
      obtain ⟨rfl, rfl, rfl⟩ := hrel
      go_wp2
      go_ret2
      exact ⟨by rw [HF.out, HRB.out]; rfl, HK1.out⟩
  · have HRB := Lib.hid hr
    obtain ⟨ks, rfl, st, h3⟩ := Nt.rowB_ok hr
    rw [Nt.frontsOf_ok st h3] at hs1
    obtain ⟨n, hn⟩ : ∃ n, n = ks.length := ⟨_, rfl⟩
    have h6 := st.few
    obtain ⟨q1, q2⟩ := Nt.rwind_small st h3
    have q3 := Nt.rwind_three st h3
    have HF := Lib.hid (Nt.rwindOf_ok st h3)
    have HSG : Hid (∀ k, k < n → -1 ≤ (Nt.frow ks).getD k 0 ∧ (Nt.frow ks).getD k 0 ≤ 1) := Lib.hid (fun k hk => (Nt.frow_fr st h3).sign k (by rw [Nt.frow_length]; omega))
    have HBD : Hid (∀ k, k ≤ n → -(k : Int) ≤ Nt.sumI (Nt.frow ks) k ∧ Nt.sumI (Nt.frow ks) k ≤ (k : Int)) := Lib.hid (fun k hk => Nt.sumI_bounds k (fun i hi => (Nt.frow_fr st h3).sign i (by rw [Nt.frow_length]; omega)))
    rw [← hn] at q1 q2 q3 HF h3 h6
    have HFL : (Nt.frow ks).length = n := by rw [Nt.frow_length, hn]
    obtain ⟨g, c, rfl, _, hg⟩ := hs1.shape HFL (by omega)
    have HC := Lib.hid (fun k (hk : k < n) => (hs1.at k (by rw [HFL]; exact hk)).1)
    have HSU : Hid (∀ k, Nt.sumI (Nt.frow ks) (k + 1) = Nt.sumI (Nt.frow ks) k + (Nt.frow ks).getD k 0) := Lib.hid (fun _ => rfl)
    have HS0 : Hid (Nt.sumI (Nt.frow ks) 0 = 0) := Lib.hid rfl
    generalize Nt.sumI (Nt.frow ks) = S at *
    generalize hq : S n / 3 = q at *
    have HQ := Lib.hid q3
    clear hs1 hk1 hr st hn HFL hq q3
    go_wp2_with fail
    go_loopw [5, 6] (fun s i wr => ∃ k : Nat, k ≤ n ∧ i = .int .i64 k ∧ s = .int .i64 (S k) ∧ w1 = wr) (fun _ i _ => n - (intOf i).toNat)
    case atStart => exact ⟨0, Nat.zero_le _, rfl, by rw [HS0.out], rfl⟩
    case round =>
      obtain ⟨k, hk, rfl, rfl, rfl⟩ := hrel
      have hb := HBD.out k hk
      by_cases hlt : k < n
      · have ck := HC.out k hlt
        have bx := HSG.out k hlt
        have HN := Lib.hid (HSU.out k)
        generalize S k = s at *
        generalize (Nt.frow ks).getD k 0 = d at *
        have s1 : IntKind.i64.wrap (s + d) = s + d := IntWalk.i64_in _ (by omega)
        go_wp2
        go_roundw
        case rel => exact ⟨k + 1, by omega, by go_num, by rw [HN.out], by first | rfl | trivial⟩
        case measure => simp [intOf]; omega
      · have hk' : k = n := by omega
        subst hk'
        have hq := HQ.out
        generalize S k = s at *
        subst hq
        have s2 : (3 * q).tdiv 3 = q := Int.mul_tdiv_cancel_left q (by omega)
        have s3 : IntKind.i64.wrap q = q := IntWalk.i64_in _ (by omega)
        have d1 : decide ((0 : Int) < (k : Int)) = true := decide_eq_true (by omega)
        have d2 : decide (0 < k) = true := decide_eq_true (by omega)
        clear HQ
        go_wp2
        go_ret2
        exact ⟨by rw [HF.out, HRB.out]; rfl, HK1.out⟩

set_option maxHeartbeats 1000000 in
set_option maxRecDepth 100000 in
theorem l8Ways_any : ∀ (n : Nat) (s : Int), n ≤ 6 → -1000 + (n : Int) ≤ s → s ≤ 1000 - (n : Int) → ∀ (w : World),
    Calls Try.prog 66 #[.int .i64 (n : Int), .int .i64 s] w fun e w' => e = .returned (.int .i64 ((Nt.ways n s : Nat) : Int)) ∧ w = w' := by
  intro n
  induction n with
  | zero =>
    intro s _ h1 h2 w
    by_cases h0 : s = 0
    · have HV : Hid (Nt.ways 0 s = 1) := Lib.hid (by unfold Nt.ways; rw [if_pos h0])
      have d1 : (s == 0) = true := by simp [h0]
      clear h0
      go_enter Try.func66, Try.ntmps66
      go_wp2
      go_ret
      exact ⟨by rw [HV.out]; rfl, rfl⟩
    · have HV : Hid (Nt.ways 0 s = 0) := Lib.hid (by unfold Nt.ways; rw [if_neg h0])
      have d1 : (s == 0) = false := by simp [h0]
      clear h0
      go_enter Try.func66, Try.ntmps66
      go_wp2
      go_ret
      exact ⟨by rw [HV.out]; rfl, rfl⟩
  | succ n ih =>
    intro s hn6 h1 h2 w
    have HIH := Lib.hid ih
    have HV : Hid (Nt.ways (n + 1) s = Nt.ways n (s - 1) + Nt.ways n s + Nt.ways n (s + 1)) := Lib.hid rfl
    have b1 := Nt.ways_le n (s - 1)
    have b2 := Nt.ways_le n s
    have b3 := Nt.ways_le n (s + 1)
    have b4 : 3 ^ n ≤ 3 ^ 6 := Nat.pow_le_pow_right (by omega) (by omega)
    have HA := Lib.hid (ih (s - 1) (by omega) (by omega) (by omega))
    have HB := Lib.hid (ih s (by omega) (by omega) (by omega))
    have HC := Lib.hid (ih (s + 1) (by omega) (by omega) (by omega))
    have d1 : (((n + 1 : Nat) : Int) == 0) = false := beq_eq_false_iff_ne.2 (by omega)
    have d1' : ((n : Int) + 1 == 0) = false := beq_eq_false_iff_ne.2 (by omega)
    have s1 : IntKind.i64.wrap (((n + 1 : Nat) : Int) - 1) = (n : Int) := by rw [IntWalk.i64_in _ (by omega)]; omega
    have s1' : IntKind.i64.wrap ((n : Int) + 1 - 1) = (n : Int) := by rw [IntWalk.i64_in _ (by omega)]; omega
    have s2 : IntKind.i64.wrap (s - 1) = s - 1 := IntWalk.i64_in _ (by omega)
    have s3 : IntKind.i64.wrap (s + 1) = s + 1 := IntWalk.i64_in _ (by omega)
    generalize Nt.ways n (s - 1) = p at *
    generalize Nt.ways n s = q at *
    generalize Nt.ways n (s + 1) = r at *
    have s4 : IntKind.i64.wrap ((p : Int) + (q : Int)) = (p : Int) + (q : Int) := IntWalk.i64_in _ (by omega)
    have s5 : IntKind.i64.wrap ((p : Int) + (q : Int) + (r : Int)) = (p : Int) + (q : Int) + (r : Int) := IntWalk.i64_in _ (by omega)
    clear ih HIH b1 b2 b3 b4
    go_enter Try.func66, Try.ntmps66
    go_wp2_with fail
    refine (HA.out _).mono ?_
    rintro e w' ⟨rfl, rfl⟩
    go_wp2_with fail
    refine (HB.out _).mono ?_
    rintro e w' ⟨rfl, rfl⟩
    go_wp2_with fail
    refine (HC.out _).mono ?_
    rintro e w' ⟨rfl, rfl⟩
    go_wp2_with fail
    go_ret
    exact ⟨by rw [HV.out]; first | rfl | go_num, rfl⟩
end Go.Proofs.Ytdpkacpeednnoaa

namespace Go.Proofs.Ytdpkacpeednnoaa
open Go.RowKit

set_option maxHeartbeats 1000000 in
set_option maxRecDepth 100000 in
theorem sRStates_any (nodes winding : Int) (w : World) :
    Calls Try.prog 35 #[.int .i64 nodes, .int .i64 winding] w fun e w' => e = .returned (.int .i64 (Nt.rstOf nodes winding)) ∧ w = w' := by
  cases hr : Nt.rstB nodes winding
  · have HF := Lib.hid (Nt.rstOf_no hr)
    have HRB : Hid (decide (3 ≤ nodes ∧ nodes ≤ 6) = true → decide (-6 ≤ winding ∧ winding ≤ 6) = false) := Lib.hid (fun h1 => by
      unfold Nt.rstB at hr
      rw [h1, Bool.true_and] at hr
      exact hr)
    clear hr
    cases h1 : decide (3 ≤ nodes ∧ nodes ≤ 6)
    · go_enter Try.func35, Try.ntmps35
      go_wp2_with (go_at_call 52; refine (l1In_any _ _ _ _).mono ?_; rintro e w' ⟨rfl, rfl⟩; rw [h1])
      go_ret
      exact ⟨by rw [HF.out]; rfl, rfl⟩
    · have h2 := HRB.out h1
      go_enter Try.func35, Try.ntmps35
      go_wp2_with (go_at_call 52; refine (l1In_any _ _ _ _).mono ?_; rintro e w' ⟨rfl, rfl⟩; first | rw [h1] | rw [h2])
      go_ret
      exact ⟨by rw [HF.out]; rfl, rfl⟩
  · obtain ⟨m, rfl, b1, b2, b3, b4⟩ := Nt.rstB_ok hr
    have HF := Lib.hid (Nt.rstOf_ok b1 b2 b3 b4)
    have h1 : decide (3 ≤ (m : Int) ∧ (m : Int) ≤ 6) = true := decide_eq_true (by omega)
    have h2 : decide (-6 ≤ winding ∧ winding ≤ 6) = true := decide_eq_true (by omega)
    have hle := Nt.ways_le m (3 * winding)
    have h729 : 3 ^ m ≤ 3 ^ 6 := Nat.pow_le_pow_right (by omega) b2
    have HW := Lib.hid (l8Ways_any m (3 * winding) b2 (by omega) (by omega))
    have s1 : IntKind.i64.wrap (3 * winding) = 3 * winding := IntWalk.i64_in _ (by omega)
    generalize Nt.ways m (3 * winding) = q at *
    have hq : q ≤ 729 := by omega
    have s2 : IntKind.i64.wrap (3 * (q : Int)) = 3 * (q : Int) := IntWalk.i64_in _ (by omega)
    clear hr hle h729
    go_enter Try.func35, Try.ntmps35
    go_wp2_with (first | (go_at_call 52; refine (l1In_any _ _ _ _).mono ?_; rintro e w' ⟨rfl, rfl⟩; first | rw [h1] | rw [h2]) | (go_at_call 66; refine (HW.out _).mono ?_; rintro e w' ⟨rfl, rfl⟩))
    go_ret
    exact ⟨by rw [HF.out]; first | rfl | go_num, rfl⟩

set_option maxHeartbeats 1000000 in
set_option maxRecDepth 100000 in
theorem sFCount_any (xs : List Int) (sign : Int) (w : World) (v : Value) (base : Nat) (hs : Sl w base v xs) :
    Calls Try.prog 39 #[v, .int .i64 sign] w fun e w' => e = .returned (.int .i64 (Nt.fcOf xs sign)) ∧ w = w' := by
  have HS := Lib.hid hs
  cases hr : Nt.frB xs
  · have HF := Lib.hid (Nt.fcOf_no1 (s := sign) hr)
    obtain ⟨a, cap, rfl, _, hm, _⟩ := hs.any
    clear hs
    go_enter Try.func39, Try.ntmps39
    go_wp2_with (go_at_call 19; refine (sFrontsOk_any xs _ _ _ HS.out).mono ?_; rintro e w' ⟨rfl, rfl⟩; rw [hr])
    go_ret
    exact ⟨by rw [HF.out]; rfl, rfl⟩
  · have fr := (Nt.frB_iff xs).1 hr
    obtain ⟨n, hn⟩ : ∃ n, n = xs.length := ⟨_, rfl⟩
    have h3 := fr.lo
    have h6 := fr.hi
    have HFR := Lib.hid fr
    rw [← hn] at h3 h6
    obtain ⟨g, cap, rfl, _, hg⟩ := hs.shape hn.symm (by omega)
    have HC := Lib.hid (fun k (hk : k < n) => (hs.at k (by rw [← hn]; exact hk)).1)
    have HALL : Hid (Nt.fcTo xs sign n = Nt.cntI xs sign) := Lib.hid (by rw [hn]; exact Nt.fcTo_all xs sign)
    have HSU : Hid (∀ k, Nt.fcTo xs sign (k + 1) = Nt.fcTo xs sign k + if xs.getD k 0 = sign then 1 else 0) := Lib.hid (fun _ => rfl)
    have HLE := Lib.hid (fun k => Nt.fcTo_le xs sign k)
    clear hs fr
    by_cases h1 : sign = 1 ∨ sign = -1
    · have HF := Lib.hid (Nt.fcOf_ok HFR.out h1)
      have d1 : (sign != 1 && sign != -1) = false := by rcases h1 with rfl | rfl <;> rfl
      have hd : (sign != 1) = false ∨ ((sign != 1) = true ∧ (sign != -1) = false) := by rcases h1 with rfl | rfl <;> simp
      clear h1 hn
      rcases hd with d2 | ⟨d2, d3⟩
      all_goals
        go_enter Try.func39, Try.ntmps39
        go_wp2_with (go_at_call 19; refine (sFrontsOk_any xs _ _ _ HS.out).mono ?_; rintro e w' ⟨rfl, rfl⟩; rw [hr])
        go_loop [5, 6] (fun c i => ∃ k : Nat, k ≤ n ∧ i = .int .i64 k ∧ c = .int .i64 ((Nt.fcTo xs sign k : Nat) : Int)) (fun _ i => n - (intOf i).toNat)
        case atStart => exact ⟨0, Nat.zero_le _, rfl, rfl⟩
        case round =>
          obtain ⟨k, hk, rfl, rfl⟩ := hrel
          have hle := HLE.out k
          by_cases hlt : k < n
          · have ck := HC.out k hlt
            have HN := Lib.hid (HSU.out k)
            generalize Nt.fcTo xs sign k = q at *
            generalize xs.getD k 0 = x at *
            by_cases hx : x = sign
            · have d4 : (x == sign) = true := by simp [hx]
              have HV : Hid (((Nt.fcTo xs sign (k + 1) : Nat) : Int) = (q : Int) + 1) := Lib.hid (by rw [HN.out, if_pos hx]; omega)
              clear hx HN
              go_wp2
              go_round
              case rel => exact ⟨k + 1, by omega, by go_num, by rw [HV.out]⟩
              case measure => simp [intOf]; omega
            · have d4 : (x == sign) = false := by simp [hx]
              have HV : Hid (((Nt.fcTo xs sign (k + 1) : Nat) : Int) = (q : Int)) := Lib.hid (by rw [HN.out, if_neg hx]; omega)
              clear hx HN
              go_wp2
              go_round
              case rel => exact ⟨k + 1, by omega, by go_num, by rw [HV.out]⟩
              case measure => simp [intOf]; omega
          · have hk' : k = n := by omega
            subst hk'
            have HV : Hid (Nt.fcOf xs sign = ((Nt.fcTo xs sign k : Nat) : Int)) := Lib.hid (by rw [HF.out, HALL.out])
            generalize Nt.fcTo xs sign k = q at *
            go_wp2
            go_ret
            exact ⟨by rw [HV.out]; rfl, rfl⟩
    · have h1a : sign ≠ 1 := fun e => h1 (.inl e)
      have h1b : sign ≠ -1 := fun e => h1 (.inr e)
      have HF := Lib.hid (Nt.fcOf_no2 (fs := xs) h1a h1b)
      have d2 : (sign != 1) = true := bne_iff_ne.2 h1a
      have d3 : (sign != -1) = true := bne_iff_ne.2 h1b
      clear h1 h1a h1b hn
      go_enter Try.func39, Try.ntmps39
      go_wp2_with (go_at_call 19; refine (sFrontsOk_any xs _ _ _ HS.out).mono ?_; rintro e w' ⟨rfl, rfl⟩; rw [hr])
      go_ret
      exact ⟨by rw [HF.out]; rfl, rfl⟩
end Go.Proofs.Ytdpkacpeednnoaa
