/-
  Walks: what counts states, by the model.
-/
import Derived.Test.YtlcbpnbehbgbeaaPureNI
import Derived.Test.YtlcbpnbehbgbeaaSbB
import Derived.Test.YtlcbpnbehbgbeaaFC
import Derived.Test.YtlcbpnbehbgbeaaXM
import Derived.Test.YtlcbpnbehbgbeaaS7
import Derived.Test.YtlcbpnbehbgbeaaPureXV
namespace Go.Proofs.Ytlcbpnbehbgbeaa
open Go.RowKit

set_option maxHeartbeats 1000000 in
set_option maxRecDepth 100000 in
theorem l11Ok_any (xs : List Int) (kinds : Int) (w : World) (v : Value) (base : Nat) (hs : Sl w base v xs) :
    Calls Try.prog 47 #[v, .int .i64 kinds] w fun e w' => e = .returned (.bool (Nt.ccB xs kinds)) ∧ Qt w w' := by
  have HS := Lib.hid hs
  obtain ⟨a, cap, rfl, _, hm, _⟩ := hs.any
  clear hs
  cases h1 : Nt.okB xs
  · have HF := Lib.hid (Nt.ccB_no1 (kinds := kinds) h1)
    go_enter Try.func47, Try.ntmps47
    go_wp2_with (go_at_call 74; refine (sNetOk_any xs _ _ _ HS.out).mono ?_; rintro e w1 ⟨rfl, hq⟩; rw [h1]; have HQ := Lib.hid hq; clear hq)
    go_ret
    exact ⟨by rw [HF.out]; rfl, HQ.out⟩
  · by_cases h2 : xs.length ≤ 4
    · cases h3 : decide (3 ≤ kinds ∧ kinds ≤ 5)
      all_goals
        have d2 : decide ((xs.length : Int) ≤ 4) = true := dec_of (by omega)
        have HF : Hid (Nt.ccB xs kinds = decide (3 ≤ kinds ∧ kinds ≤ 5)) := Lib.hid (by unfold Nt.ccB; rw [h1, decide_eq_true h2]; rfl)
        go_enter Try.func47, Try.ntmps47
        go_wp2_with (first | (go_at_call 74; refine (sNetOk_any xs _ _ _ HS.out).mono ?_; rintro e w1 ⟨rfl, hq⟩; rw [h1]; have HQ := Lib.hid hq; clear hq) | (go_at_call 84; refine (l1In_any kinds 3 5 _).mono ?_; rintro e w2 ⟨rfl, rfl⟩; rw [h3]))
        go_ret
        exact ⟨by rw [HF.out, h3]; rfl, HQ.out⟩
    · have d2 : decide ((xs.length : Int) ≤ 4) = false := dec_not (by omega)
      have HF := Lib.hid (Nt.ccB_no2 (kinds := kinds) h2)
      go_enter Try.func47, Try.ntmps47
      go_wp2_with (go_at_call 74; refine (sNetOk_any xs _ _ _ HS.out).mono ?_; rintro e w1 ⟨rfl, hq⟩; rw [h1]; have HQ := Lib.hid hq; clear hq)
      go_ret
      exact ⟨by rw [HF.out]; rfl, HQ.out⟩

/-- How many there are of so many kinds. -/
theorem pow_625 {c n : Nat} (h5 : c ≤ 5) (h4 : n ≤ 4) : c ^ n ≤ 625 :=
  Nat.le_trans (Nat.pow_le_pow_left h5 n) (Nat.le_trans (Nat.pow_le_pow_right (by omega) h4) (by decide))
theorem cnt_hit {p : Nat → Bool} {k : Nat} (h : p k = true) : Nt.cnt p (k + 1) = Nt.cnt p k + 1 := by
  show Nt.cnt p k + (if p k = true then 1 else 0) = _
  rw [if_pos h]
theorem cnt_miss {p : Nat → Bool} {k : Nat} (h : p k = false) : Nt.cnt p (k + 1) = Nt.cnt p k := by
  show Nt.cnt p k + (if p k = true then 1 else 0) = _
  rw [if_neg (by simp [h])]
  rfl

set_option maxHeartbeats 4000000 in
set_option maxRecDepth 100000 in
theorem sBef_any (xs : List Int) (kinds : Int) (ys : List Int) (w : World) (v : Value) (base : Nat) (u : Value) (base' : Nat) (hs : Sl w base v xs) (ht : Sl w base' u ys) :
    Calls Try.prog 13 #[v, .int .i64 kinds, u] w fun e w' => e = .returned (.int .i64 (Nt.befOf xs kinds ys)) ∧ Kept [] w w' := by
  have HS := Lib.hid hs
  have HT := Lib.hid ht
  cases h1 : Nt.ccB xs kinds
  · have HF := Lib.hid (Nt.befOf_no1 (ys := ys) h1)
    obtain ⟨a, cap, rfl, _, hm, _⟩ := hs.any
    obtain ⟨a', cap', rfl, _, hm', _⟩ := ht.any
    clear hs ht
    go_enter Try.func13, Try.ntmps13
    go_wp2_with (go_at_call 47; refine (l11Ok_any xs kinds _ _ _ HS.out).mono ?_; rintro e w1 ⟨rfl, hq⟩; rw [h1]; have HQ := Lib.hid hq.kept; clear hq)
    go_ret
    exact ⟨by rw [HF.out]; rfl, HQ.out⟩
  · cases h2 : Nt.fireB xs kinds ys
    · have HF := Lib.hid (Nt.befOf_no2 h2)
      obtain ⟨a, cap, rfl, _, hm, _⟩ := hs.any
      obtain ⟨a', cap', rfl, _, hm', _⟩ := ht.any
      clear hs ht
      go_enter Try.func13, Try.ntmps13
      go_wp2_with (first | (go_at_call 47; refine (l11Ok_any xs kinds _ _ _ HS.out).mono ?_; rintro e w1 ⟨rfl, hq⟩; rw [h1]; have HQ := Lib.hid hq.kept; clear hq) | (go_at_call 39; refine (l3Ok_any xs kinds ys _ _ _ _ _ (HS.out.stay HQ.out) (HT.out.stay HQ.out)).mono ?_; rintro e w2 ⟨rfl, hq⟩; rw [h2]; have HQ2 := Lib.hid (HQ.out.trans hq.kept (by simp)); clear hq))
      go_ret
      exact ⟨by rw [HF.out]; rfl, HQ2.out⟩
    · have hne : ¬ Nt.befOf xs kinds ys < 0 → True := fun _ => trivial
      obtain ⟨ns, c, e1, e2, ok, h4, h3, h5⟩ := Nt.ccB_ok h1
      obtain ⟨ns', c', ks, e3, e4, rfl, _, st, hl⟩ := Nt.fireB_ok h2
      have hnn : ns = ns' := Nt.nats_inj (e1.symm.trans e3)
      subst hnn
      have hcc : c = c' := by omega
      subst hcc
      subst e1
      subst e2
      clear e3 e4 hne
      have HA : Hid (Nt.befOf (Nt.nats ns) (c : Int) (Nt.nats ks) = ((Nt.befN ns c ks : Nat) : Int)) := Lib.hid (Nt.befOf_ok ok h4 st hl)
      have HOK := Lib.hid ok
      have hn1 := ok.some
      obtain ⟨n, hn⟩ : ∃ n, n = ns.length := ⟨_, rfl⟩
      obtain ⟨gN, capN, rfl, _, _⟩ := hs.row hn.symm (by omega)
      obtain ⟨gS, capS, rfl, _, _⟩ := ht.row (hl.trans hn.symm) (by omega)
      have HSTK := Lib.hid st
      have HLK := Lib.hid hl
      obtain ⟨N, hN⟩ : ∃ N, N = c ^ n := ⟨_, rfl⟩
      have hN6 : N ≤ 625 := by rw [hN]; exact pow_625 h5 (by omega)
      have HPW := Lib.hid (fun (w' : World) => (l2Power_any n c (by omega) h5 w').mono fun e w2 h => (show e = .returned (.int .i64 (N : Int)) ∧ w' = w2 from by rw [hN]; exact h))
      have HST := Lib.hid (fun (m : Nat) => Nt.stN_st (c := c) ok h3 h5 m)
      have HSL := Lib.hid (fun (m : Nat) => Nt.stN_length ns c m)
      have HD := Lib.hid (fun (m : Nat) (hm : m ≤ 625) (w' : World) => (l2State_any n c m (by omega) h3 h5 (by omega) w').mono fun e w2 h => (show ∃ z, e = .returned z ∧ Sl w2 w'.heap.size z (Nt.nats (Nt.stN ns c m)) ∧ Kept [] w' w2 from by unfold Nt.stN; rw [← hn]; exact h))
      have HEND : Hid (((Nt.cnt (Nt.befP ns c ks) N : Nat) : Int) = Nt.befOf (Nt.nats ns) (c : Int) (Nt.nats ks)) := Lib.hid (by rw [HA.out, hN, hn]; rfl)
      have HNN := Lib.hid hn
      have HCC := Lib.hid (And.intro h3 h5)
      clear hs ht st hl ok hN h3 h5 h4 hn hn1 HA
      go_enter Try.func13, Try.ntmps13
      go_wp2_with (first | (go_at_call 47; refine (l11Ok_any _ _ _ _ _ HS.out).mono ?_; rintro e w1 ⟨rfl, hq⟩; rw [h1]; have HQ := Lib.hid hq.kept; clear hq) | (go_at_call 39; refine (l3Ok_any _ _ _ _ _ _ _ _ (HS.out.stay HQ.out) (HT.out.stay HQ.out)).mono ?_; rintro e w2 ⟨rfl, hq⟩; rw [h2]; have HQ2 := Lib.hid (HQ.out.trans hq.kept (by simp)); clear hq))
      clear h1 h2
      go_loopw [7, 8] (fun nn num wr => ∃ k : Nat, k ≤ N ∧ num = .int .i64 k ∧ nn = .int .i64 ((Nt.cnt (Nt.befP ns c ks) k : Nat) : Int) ∧ Kept [] w wr) (fun _ num _ => N - (intOf num).toNat)
      case atStart => exact ⟨0, Nat.zero_le _, rfl, rfl, HQ2.out⟩
      case round =>
        clear HQ HQ2
        obtain ⟨k, hk, rfl, rfl, hkept⟩ := hrel
        have HK := Lib.hid hkept
        have hck := Nt.cnt_le (Nt.befP ns c ks) k
        clear hkept
        by_cases hlt : k < N
        · have HC1 := Lib.hid (fun h => cnt_hit (p := Nt.befP ns c ks) (k := k) h)
          have HC0 := Lib.hid (fun h => cnt_miss (p := Nt.befP ns c ks) (k := k) h)
          go_wp2_with fail
          refine (HPW.out _).mono ?_
          rintro e w2 ⟨rfl, rfl⟩
          go_wp2_with fail
          refine (HD.out k (by omega) _).mono ?_
          rintro e w3 ⟨u3, rfl, hs3, hk3⟩
          have HS3 := Lib.hid hs3
          have HK3 := Lib.hid (HK.out.trans hk3 (by simp))
          clear hs3 hk3 HK
          go_wp2_with fail
          refine (l3Step_any ns c (Nt.stN ns c k) HOK.out (HST.out k) (HSL.out k) _ _ _ _ _ (HS.out.stay HK3.out) HS3.out).mono ?_
          rintro e w4 ⟨u4, rfl, hs4, hk4⟩
          have HS4 := Lib.hid hs4
          have HK4 := Lib.hid (HK3.out.trans hk4 (by simp))
          clear hs4 hk4 HS3 HK3
          go_wp2_with fail
          refine (l3Same_any _ _ (by rw [Nt.nats_length, Nt.nats_length, Nt.step_length, HSL.out, HLK.out]) _ _ _ _ _ HS4.out (HT.out.stay HK4.out)).mono ?_
          rintro e w5 ⟨rfl, hq⟩
          rw [dec_nats, show decide (Nt.step ns c (Nt.stN ns c k) = ks) = Nt.befP ns c ks k from rfl]
          have HKE := Lib.hid (HK4.out.trans hq.kept (by simp))
          clear hq HS4 HK4
          cases hp : Nt.befP ns c ks k
          · rw [← HC0.out hp] at hck ⊢
            go_wp2
            go_roundw
            case rel => exact ⟨k + 1, by omega, by go_num, by rw [HC0.out hp], HKE.out⟩
            case measure => simp [intOf]; omega
          · go_wp2
            go_roundw
            case rel => exact ⟨k + 1, by omega, by go_num, by rw [HC1.out hp]; go_num, HKE.out⟩
            case measure => simp [intOf]; omega
        · have hkN : k = N := by omega
          subst hkN
          go_wp2_with fail
          refine (HPW.out _).mono ?_
          rintro e w2 ⟨rfl, rfl⟩
          go_wp2
          go_ret
          exact ⟨by rw [← HEND.out]; rfl, HK.out⟩

set_option maxHeartbeats 4000000 in
set_option maxRecDepth 100000 in
theorem sDie_any (xs : List Int) (kinds : Int) (w : World) (v : Value) (base : Nat) (hs : Sl w base v xs) :
    Calls Try.prog 23 #[v, .int .i64 kinds] w fun e w' => e = .returned (.int .i64 (Nt.dieOf xs kinds)) ∧ Kept [] w w' := by
  have HS := Lib.hid hs
  cases h1 : Nt.ccB xs kinds
  · have HF := Lib.hid (Nt.dieOf_no h1)
    obtain ⟨a, cap, rfl, _, hm, _⟩ := hs.any
    clear hs
    go_enter Try.func23, Try.ntmps23
    go_wp2_with (go_at_call 47; refine (l11Ok_any xs kinds _ _ _ HS.out).mono ?_; rintro e w1 ⟨rfl, hq⟩; rw [h1]; have HQ := Lib.hid hq.kept; clear hq)
    go_ret
    exact ⟨by rw [HF.out]; rfl, HQ.out⟩
  · obtain ⟨ns, c, e1, e2, ok, h4, h3, h5⟩ := Nt.ccB_ok h1
    subst e1
    subst e2
    have HA : Hid (Nt.dieOf (Nt.nats ns) (c : Int) = ((Nt.dieN ns c : Nat) : Int)) := Lib.hid (Nt.dieOf_ok ok h4 h3 h5)
    have HOK := Lib.hid ok
    have hn1 := ok.some
    obtain ⟨n, hn⟩ : ∃ n, n = ns.length := ⟨_, rfl⟩
    obtain ⟨gN, capN, rfl, _, _⟩ := hs.row hn.symm (by omega)
    obtain ⟨N, hN⟩ : ∃ N, N = c ^ n := ⟨_, rfl⟩
    have hN6 : N ≤ 625 := by rw [hN]; exact pow_625 h5 (by omega)
    have HPW := Lib.hid (fun (w' : World) => (l2Power_any n c (by omega) h5 w').mono fun e w2 h => (show e = .returned (.int .i64 (N : Int)) ∧ w' = w2 from by rw [hN]; exact h))
    have HST := Lib.hid (fun (m : Nat) => Nt.stN_st (c := c) ok h3 h5 m)
    have HSL := Lib.hid (fun (m : Nat) => Nt.stN_length ns c m)
    have HD := Lib.hid (fun (m : Nat) (hm : m ≤ 625) (w' : World) => (l2State_any n c m (by omega) h3 h5 (by omega) w').mono fun e w2 h => (show ∃ z, e = .returned z ∧ Sl w2 w'.heap.size z (Nt.nats (Nt.stN ns c m)) ∧ Kept [] w' w2 from by unfold Nt.stN; rw [← hn]; exact h))
    have HEND : Hid (((Nt.cnt (Nt.dieP ns c) N : Nat) : Int) = Nt.dieOf (Nt.nats ns) (c : Int)) := Lib.hid (by rw [HA.out, hN, hn]; rfl)
    have HNN := Lib.hid hn
    have HCC := Lib.hid (And.intro h3 h5)
    clear hs ok hN h3 h5 h4 hn hn1 HA
    go_enter Try.func23, Try.ntmps23
    go_wp2_with (go_at_call 47; refine (l11Ok_any _ _ _ _ _ HS.out).mono ?_; rintro e w1 ⟨rfl, hq⟩; rw [h1]; have HQ := Lib.hid hq.kept; clear hq)
    clear h1
    go_loopw [5, 6] (fun nn num wr => ∃ k : Nat, k ≤ N ∧ num = .int .i64 k ∧ nn = .int .i64 ((Nt.cnt (Nt.dieP ns c) k : Nat) : Int) ∧ Kept [] w wr) (fun _ num _ => N - (intOf num).toNat)
    case atStart => exact ⟨0, Nat.zero_le _, rfl, rfl, HQ.out⟩
    case round =>
      clear HQ
      obtain ⟨k, hk, rfl, rfl, hkept⟩ := hrel
      have HK := Lib.hid hkept
      have hck := Nt.cnt_le (Nt.dieP ns c) k
      clear hkept
      by_cases hlt : k < N
      · have HC1 := Lib.hid (fun h => cnt_hit (p := Nt.dieP ns c) (k := k) h)
        have HC0 := Lib.hid (fun h => cnt_miss (p := Nt.dieP ns c) (k := k) h)
        go_wp2_with fail
        refine (HPW.out _).mono ?_
        rintro e w2 ⟨rfl, rfl⟩
        go_wp2_with fail
        refine (HD.out k (by omega) _).mono ?_
        rintro e w3 ⟨u3, rfl, hs3, hk3⟩
        have HS3 := Lib.hid hs3
        have HK3 := Lib.hid (HK.out.trans hk3 (by simp))
        clear hs3 hk3 HK
        go_wp2_with fail
        obtain ⟨ra, rb, hL⟩ := Nt.loopIs_ex (Nt.nats ns) (c : Int) (Nt.nats (Nt.stN ns c k))
        refine (sEnds_any _ _ _ hL _ _ _ _ _ (HS.out.stay HK3.out) HS3.out).mono ?_
        rintro e w4 ⟨rfl, hk4⟩
        have hE := Nt.dieP_ends HOK.out HCC.out.1 HCC.out.2 hL
        have HKE := Lib.hid (HK3.out.trans hk4 (by simp))
        clear hk4 HS3 HK3 hL
        generalize Nt.endsOf ra rb = q at *
        cases hp : Nt.dieP ns c k
        all_goals rw [hp] at hE
        · rw [← HC0.out hp] at hck ⊢
          go_wp2
          go_roundw
          case rel => exact ⟨k + 1, by omega, by go_num, by rw [HC0.out hp], HKE.out⟩
          case measure => simp [intOf]; omega
        · go_wp2
          go_roundw
          case rel => exact ⟨k + 1, by omega, by go_num, by rw [HC1.out hp]; go_num, HKE.out⟩
          case measure => simp [intOf]; omega
      · have hkN : k = N := by omega
        subst hkN
        go_wp2_with fail
        refine (HPW.out _).mono ?_
        rintro e w2 ⟨rfl, rfl⟩
        go_wp2
        go_ret
        exact ⟨by rw [← HEND.out]; rfl, HK.out⟩

set_option maxHeartbeats 4000000 in
set_option maxRecDepth 100000 in
theorem sLp_any (xs : List Int) (kinds : Int) (w : World) (v : Value) (base : Nat) (hs : Sl w base v xs) :
    Calls Try.prog 28 #[v, .int .i64 kinds] w fun e w' => e = .returned (.int .i64 (Nt.lpOf xs kinds)) ∧ Kept [] w w' := by
  have HS := Lib.hid hs
  cases h1 : Nt.ccB xs kinds
  · have HF := Lib.hid (Nt.lpOf_no h1)
    obtain ⟨a, cap, rfl, _, hm, _⟩ := hs.any
    clear hs
    go_enter Try.func28, Try.ntmps28
    go_wp2_with (go_at_call 47; refine (l11Ok_any xs kinds _ _ _ HS.out).mono ?_; rintro e w1 ⟨rfl, hq⟩; rw [h1]; have HQ := Lib.hid hq.kept; clear hq)
    go_ret
    exact ⟨by rw [HF.out]; rfl, HQ.out⟩
  · obtain ⟨ns, c, e1, e2, ok, h4, h3, h5⟩ := Nt.ccB_ok h1
    subst e1
    subst e2
    have HA : Hid (Nt.lpOf (Nt.nats ns) (c : Int) = ((Nt.lpN ns c : Nat) : Int)) := Lib.hid (Nt.lpOf_ok ok h4 h3 h5)
    have HOK := Lib.hid ok
    have hn1 := ok.some
    obtain ⟨n, hn⟩ : ∃ n, n = ns.length := ⟨_, rfl⟩
    obtain ⟨gN, capN, rfl, _, _⟩ := hs.row hn.symm (by omega)
    obtain ⟨N, hN⟩ : ∃ N, N = c ^ n := ⟨_, rfl⟩
    have hN6 : N ≤ 625 := by rw [hN]; exact pow_625 h5 (by omega)
    have HPW := Lib.hid (fun (w' : World) => (l2Power_any n c (by omega) h5 w').mono fun e w2 h => (show e = .returned (.int .i64 (N : Int)) ∧ w' = w2 from by rw [hN]; exact h))
    have HST := Lib.hid (fun (m : Nat) => Nt.stN_st (c := c) ok h3 h5 m)
    have HSL := Lib.hid (fun (m : Nat) => Nt.stN_length ns c m)
    have HD := Lib.hid (fun (m : Nat) (hm : m ≤ 625) (w' : World) => (l2State_any n c m (by omega) h3 h5 (by omega) w').mono fun e w2 h => (show ∃ z, e = .returned z ∧ Sl w2 w'.heap.size z (Nt.nats (Nt.stN ns c m)) ∧ Kept [] w' w2 from by unfold Nt.stN; rw [← hn]; exact h))
    have HEND : Hid (((Nt.cnt (Nt.lpP ns c) N : Nat) : Int) = Nt.lpOf (Nt.nats ns) (c : Int)) := Lib.hid (by rw [HA.out, hN, hn]; rfl)
    have HNN := Lib.hid hn
    have HCC := Lib.hid (And.intro h3 h5)
    clear hs ok hN h3 h5 h4 hn hn1 HA
    go_enter Try.func28, Try.ntmps28
    go_wp2_with (go_at_call 47; refine (l11Ok_any _ _ _ _ _ HS.out).mono ?_; rintro e w1 ⟨rfl, hq⟩; rw [h1]; have HQ := Lib.hid hq.kept; clear hq)
    clear h1
    go_loopw [5, 6] (fun nn num wr => ∃ k : Nat, k ≤ N ∧ num = .int .i64 k ∧ nn = .int .i64 ((Nt.cnt (Nt.lpP ns c) k : Nat) : Int) ∧ Kept [] w wr) (fun _ num _ => N - (intOf num).toNat)
    case atStart => exact ⟨0, Nat.zero_le _, rfl, rfl, HQ.out⟩
    case round =>
      clear HQ
      obtain ⟨k, hk, rfl, rfl, hkept⟩ := hrel
      have HK := Lib.hid hkept
      have hck := Nt.cnt_le (Nt.lpP ns c) k
      clear hkept
      by_cases hlt : k < N
      · have HC1 := Lib.hid (fun h => cnt_hit (p := Nt.lpP ns c) (k := k) h)
        have HC0 := Lib.hid (fun h => cnt_miss (p := Nt.lpP ns c) (k := k) h)
        go_wp2_with fail
        refine (HPW.out _).mono ?_
        rintro e w2 ⟨rfl, rfl⟩
        go_wp2_with fail
        refine (HD.out k (by omega) _).mono ?_
        rintro e w3 ⟨u3, rfl, hs3, hk3⟩
        have HS3 := Lib.hid hs3
        have HK3 := Lib.hid (HK.out.trans hk3 (by simp))
        clear hs3 hk3 HK
        go_wp2_with fail
        obtain ⟨ra, rb, hL⟩ := Nt.loopIs_ex (Nt.nats ns) (c : Int) (Nt.nats (Nt.stN ns c k))
        refine (sLoop_any _ _ _ hL _ _ _ _ _ (HS.out.stay HK3.out) HS3.out).mono ?_
        rintro e w4 ⟨rfl, hk4⟩
        have hE0 := Nt.lpP_loop HOK.out HCC.out.1 HCC.out.2 hL
        have hE : (ra == 0) = Nt.lpP ns c k := by rw [← hE0]; by_cases e : ra = 0 <;> simp [e]
        have HKE := Lib.hid (HK3.out.trans hk4 (by simp))
        clear hk4 HS3 HK3 hL hE0
        cases hp : Nt.lpP ns c k
        all_goals rw [hp] at hE
        · rw [← HC0.out hp] at hck ⊢
          go_wp2
          go_roundw
          case rel => exact ⟨k + 1, by omega, by go_num, by rw [HC0.out hp], HKE.out⟩
          case measure => simp [intOf]; omega
        · go_wp2
          go_roundw
          case rel => exact ⟨k + 1, by omega, by go_num, by rw [HC1.out hp]; go_num, HKE.out⟩
          case measure => simp [intOf]; omega
      · have hkN : k = N := by omega
        subst hkN
        go_wp2_with fail
        refine (HPW.out _).mono ?_
        rintro e w2 ⟨rfl, rfl⟩
        go_wp2
        go_ret
        exact ⟨by rw [← HEND.out]; rfl, HK.out⟩

set_option maxHeartbeats 4000000 in
set_option maxRecDepth 100000 in
theorem sFl_any (xs : List Int) (w : World) (v : Value) (base : Nat) (hs : Sl w base v xs) :
    Calls Try.prog 30 #[v] w fun e w' => e = .returned (.int .i64 (Nt.flOf xs)) ∧ Kept [] w w' := by
  have HS := Lib.hid hs
  cases h1 : Nt.ccB xs 3
  · have HF := Lib.hid (Nt.flOf_no h1)
    obtain ⟨a, cap, rfl, _, hm, _⟩ := hs.any
    clear hs
    go_enter Try.func30, Try.ntmps30
    go_wp2_with (go_at_call 47; refine (l11Ok_any xs 3 _ _ _ HS.out).mono ?_; rintro e w1 ⟨rfl, hq⟩; rw [h1]; have HQ := Lib.hid hq.kept; clear hq)
    go_ret
    exact ⟨by rw [HF.out]; rfl, HQ.out⟩
  · obtain ⟨ns, c, e1, e2, ok, h4, h3, h5⟩ := Nt.ccB_ok h1
    subst e1
    have hc3 : c = 3 := by omega
    subst hc3
    clear e2
    have HA : Hid (Nt.flOf (Nt.nats ns) = ((Nt.flN ns : Nat) : Int)) := Lib.hid (Nt.flOf_ok ok h4)
    have HOK := Lib.hid ok
    have hn1 := ok.some
    obtain ⟨n, hn⟩ : ∃ n, n = ns.length := ⟨_, rfl⟩
    obtain ⟨gN, capN, rfl, _, _⟩ := hs.row hn.symm (by omega)
    obtain ⟨N, hN⟩ : ∃ N, N = 3 ^ n := ⟨_, rfl⟩
    have hN6 : N ≤ 625 := by rw [hN]; exact pow_625 (by omega) (by omega)
    have HPW := Lib.hid (fun (w' : World) => (l2Power_any n 3 (by omega) (by omega) w').mono fun e w2 h => (show e = .returned (.int .i64 (N : Int)) ∧ w' = w2 from by rw [hN]; exact h))
    have HST := Lib.hid (fun (m : Nat) => Nt.stN_st (c := 3) ok (by omega) (by omega) m)
    have HSL := Lib.hid (fun (m : Nat) => Nt.stN_length ns 3 m)
    have HD := Lib.hid (fun (m : Nat) (hm : m ≤ 625) (w' : World) => (l2State_any n 3 m (by omega) (by omega) (by omega) (by omega) w').mono fun e w2 h => (show ∃ z, e = .returned z ∧ Sl w2 w'.heap.size z (Nt.nats (Nt.stN ns 3 m)) ∧ Kept [] w' w2 from by unfold Nt.stN; rw [← hn]; exact h))
    have HEND : Hid (((Nt.cnt (Nt.flP ns) N : Nat) : Int) = Nt.flOf (Nt.nats ns)) := Lib.hid (by rw [HA.out, hN, hn]; rfl)
    have HNN := Lib.hid hn
    have HCC := Lib.hid (And.intro h3 h5)
    clear hs ok hN h3 h5 h4 hn hn1 HA
    go_enter Try.func30, Try.ntmps30
    go_wp2_with (go_at_call 47; refine (l11Ok_any _ 3 _ _ _ HS.out).mono ?_; rintro e w1 ⟨rfl, hq⟩; rw [h1]; have HQ := Lib.hid hq.kept; clear hq)
    clear h1
    go_loopw [3, 4] (fun nn num wr => ∃ k : Nat, k ≤ N ∧ num = .int .i64 k ∧ nn = .int .i64 ((Nt.cnt (Nt.flP ns) k : Nat) : Int) ∧ Kept [] w wr) (fun _ num _ => N - (intOf num).toNat)
    case atStart => exact ⟨0, Nat.zero_le _, rfl, rfl, HQ.out⟩
    case round =>
      clear HQ
      obtain ⟨k, hk, rfl, rfl, hkept⟩ := hrel
      have HK := Lib.hid hkept
      have hck := Nt.cnt_le (Nt.flP ns) k
      clear hkept
      by_cases hlt : k < N
      · have HC1 := Lib.hid (fun h => cnt_hit (p := Nt.flP ns) (k := k) h)
        have HC0 := Lib.hid (fun h => cnt_miss (p := Nt.flP ns) (k := k) h)
        go_wp2_with fail
        refine (HPW.out _).mono ?_
        rintro e w2 ⟨rfl, rfl⟩
        go_wp2_with fail
        refine (HD.out k (by omega) _).mono ?_
        rintro e w3 ⟨u3, rfl, hs3, hk3⟩
        have HS3 := Lib.hid hs3
        have HK3 := Lib.hid (HK.out.trans hk3 (by simp))
        clear hs3 hk3 HK
        go_wp2_with fail
        refine (sFlat_any _ _ _ _ _ _ _ (HS.out.stay HK3.out) HS3.out).mono ?_
        rintro e w4 ⟨rfl, hk4⟩
        rw [Nt.flatOf_ok HOK.out (HST.out k) (HSL.out k), show Nt.flatB ns (Nt.stN ns 3 k) = Nt.flP ns k from rfl]
        have HKE := Lib.hid (HK3.out.trans hk4 (by simp))
        clear hk4 HS3 HK3
        cases hp : Nt.flP ns k
        · rw [← HC0.out hp] at hck ⊢
          go_wp2
          go_roundw
          case rel => exact ⟨k + 1, by omega, by go_num, by rw [HC0.out hp], HKE.out⟩
          case measure => simp [intOf]; omega
        · go_wp2
          go_roundw
          case rel => exact ⟨k + 1, by omega, by go_num, by rw [HC1.out hp]; go_num, HKE.out⟩
          case measure => simp [intOf]; omega
      · have hkN : k = N := by omega
        subst hkN
        go_wp2_with fail
        refine (HPW.out _).mono ?_
        rintro e w2 ⟨rfl, rfl⟩
        go_wp2
        go_ret
        exact ⟨by rw [← HEND.out]; rfl, HK.out⟩


/-- Which numbers follow one of the first ones. -/
def seenTo (F : Nat → Nat) (N : Nat) : Nat → List Bool
  | 0 => List.replicate N false
  | k + 1 => (seenTo F N k).set (F k) true
theorem seenTo_length (F : Nat → Nat) (N : Nat) : ∀ k, (seenTo F N k).length = N
  | 0 => by simp [seenTo]
  | k + 1 => by rw [seenTo, List.length_set, seenTo_length F N k]
theorem seenTo_get (F : Nat → Nat) (N s : Nat) (hs : s < N) : ∀ k, (seenTo F N k).getD s false = true ↔ ∃ m, m < k ∧ F m = s
  | 0 => by
    have h : (seenTo F N 0).getD s false = false := by simp [seenTo, List.getD_eq_getElem?_getD, hs]
    rw [h]
    exact ⟨fun e => (by cases e), fun ⟨m, hm, _⟩ => absurd hm (by omega)⟩
  | k + 1 => by
    have ih := seenTo_get F N s hs k
    have hl := seenTo_length F N k
    by_cases e : F k = s
    · have h : (seenTo F N (k + 1)).getD s false = true := by
        rw [seenTo, e, List.getD_eq_getElem?_getD, List.getElem?_set_self (by omega)]; rfl
      exact ⟨fun _ => ⟨k, by omega, e⟩, fun _ => h⟩
    · have h : (seenTo F N (k + 1)).getD s false = (seenTo F N k).getD s false := by
        rw [seenTo, List.getD_eq_getElem?_getD, List.getElem?_set_ne e, ← List.getD_eq_getElem?_getD]
      rw [h, ih]
      constructor
      · rintro ⟨m, hm, e2⟩; exact ⟨m, by omega, e2⟩
      · rintro ⟨m, hm, e2⟩
        have : m ≠ k := fun e3 => e (e3 ▸ e2)
        exact ⟨m, by omega, e2⟩
theorem seen_eden {ns : List Nat} {c : Nat} (ok : Nt.Ok ns) (h3 : 3 ≤ c) (h5 : c ≤ 5) {s : Nat} (hs : s < c ^ ns.length) : (seenTo (Nt.stepN ns c) (c ^ ns.length) (c ^ ns.length)).getD s false = !Nt.edenP ns c s := by
  have h1 := seenTo_get (Nt.stepN ns c) (c ^ ns.length) s hs (c ^ ns.length)
  have h2 := Nt.edenP_iff ok h3 h5 hs
  cases e : Nt.edenP ns c s
  · refine h1.2 (Classical.byContradiction fun hn => ?_)
    have := h2.2 fun m hm e2 => hn ⟨m, hm, e2⟩
    rw [e] at this; cases this
  · cases e2 : (seenTo (Nt.stepN ns c) (c ^ ns.length) (c ^ ns.length)).getD s false
    · rfl
    · obtain ⟨m, hm, e3⟩ := h1.1 e2
      exact absurd e3 (h2.1 e m hm)

set_option maxHeartbeats 4000000 in
set_option maxRecDepth 100000 in
theorem sEden_any (xs : List Int) (kinds : Int) (w : World) (v : Value) (base : Nat) (hs : Sl w base v xs) :
    Calls Try.prog 20 #[v, .int .i64 kinds] w fun e w' => e = .returned (.int .i64 (Nt.edenOf xs kinds)) ∧ Kept [] w w' := by
  have HS := Lib.hid hs
  cases h1 : Nt.ccB xs kinds
  · have HF := Lib.hid (Nt.edenOf_no h1)
    obtain ⟨a, cap, rfl, _, hm, _⟩ := hs.any
    clear hs
    go_enter Try.func20, Try.ntmps20
    go_wp2_with (go_at_call 47; refine (l11Ok_any xs kinds _ _ _ HS.out).mono ?_; rintro e w1 ⟨rfl, hq⟩; rw [h1]; have HQ := Lib.hid hq.kept; clear hq)
    go_ret
    exact ⟨by rw [HF.out]; rfl, HQ.out⟩
  · obtain ⟨ns, c, e1, e2, ok, h4, h3, h5⟩ := Nt.ccB_ok h1
    subst e1
    subst e2
    have HA : Hid (Nt.edenOf (Nt.nats ns) (c : Int) = ((Nt.edenN ns c : Nat) : Int)) := Lib.hid (Nt.edenOf_ok ok h4 h3 h5)
    have HOK := Lib.hid ok
    have hn1 := ok.some
    obtain ⟨n, hn⟩ : ∃ n, n = ns.length := ⟨_, rfl⟩
    obtain ⟨gN, capN, rfl, _, _⟩ := hs.row hn.symm (by omega)
    obtain ⟨N, hN⟩ : ∃ N, N = c ^ n := ⟨_, rfl⟩
    have hN6 : N ≤ 625 := by rw [hN]; exact pow_625 h5 (by omega)
    have HPW := Lib.hid (fun (w' : World) => (l2Power_any n c (by omega) h5 w').mono fun e w2 h => (show e = .returned (.int .i64 (N : Int)) ∧ w' = w2 from by rw [hN]; exact h))
    have HST := Lib.hid (fun (m : Nat) => Nt.stN_st (c := c) ok h3 h5 m)
    have HSL := Lib.hid (fun (m : Nat) => Nt.stN_length ns c m)
    have HD := Lib.hid (fun (m : Nat) (hm : m ≤ 625) (w' : World) => (l2State_any n c m (by omega) h3 h5 (by omega) w').mono fun e w2 h => (show ∃ z, e = .returned z ∧ Sl w2 w'.heap.size z (Nt.nats (Nt.stN ns c m)) ∧ Kept [] w' w2 from by unfold Nt.stN; rw [← hn]; exact h))
    have HEND : Hid (((Nt.cnt (Nt.edenP ns c) N : Nat) : Int) = Nt.edenOf (Nt.nats ns) (c : Int)) := Lib.hid (by rw [HA.out, hN, hn]; rfl)
    have HLT : Hid (∀ m, Nt.stepN ns c m < N) := Lib.hid (fun m => by rw [hN, hn]; exact Nt.stepN_lt ok h3 h5 m)
    have HSN : Hid (∀ m, Nt.numberOf (c : Int) (Nt.nats (Nt.step ns c (Nt.stN ns c m))) = ((Nt.stepN ns c m : Nat) : Int)) := Lib.hid (fun m => Nt.numberOf_ok (Nt.step_stN ok h3 h5 m).1)
    have HSEE : Hid (∀ s, s < N → (seenTo (Nt.stepN ns c) N N).getD s false = !Nt.edenP ns c s) := Lib.hid (fun s hs => by rw [hN, hn] at hs ⊢; exact seen_eden ok h3 h5 hs)
    clear hs ok hN h3 h5 h4 hn hn1 HA
    go_enter Try.func20, Try.ntmps20
    go_wp2_with (first | (go_at_call 47; refine (l11Ok_any _ _ _ _ _ HS.out).mono ?_; rintro e w1 ⟨rfl, hq⟩; rw [h1]; have HQ := Lib.hid hq.kept; clear hq) | (go_at_call 48; refine (HPW.out _).mono ?_; rintro e w2 ⟨rfl, rfl⟩) | (refine make_bool _ N rfl _ _ rfl rfl rfl (by omega) ?_; intro w3 hs3 hk3 hlt3; have HB3 := Lib.hid hs3; have HK3 := Lib.hid (HQ.out.trans hk3 (by simp)); clear hs3 hk3))
    clear h1
    have hGB : w.heap.size ≤ w1.heap.size := HQ.out.size
    clear HQ
    generalize w1.heap.size = gB at *
    clear w1
    go_loopw [6] (fun num wr => ∃ k : Nat, k ≤ N ∧ num = .int .i64 k ∧ Sb wr gB (.slice (some ⟨gB, 0, none⟩) N N) (seenTo (Nt.stepN ns c) N k) ∧ Kept [] w wr) (fun num _ => N - (intOf num).toNat)
    case atStart => exact ⟨0, Nat.zero_le _, rfl, HB3.out, HK3.out⟩
    case round =>
      clear HB3 HK3
      obtain ⟨k, hk, rfl, hb, hkept⟩ := hrel
      have HB := Lib.hid hb
      have HK := Lib.hid hkept
      clear hb hkept
      by_cases hlt : k < N
      · go_wp2_with fail
        refine (HD.out k (by omega) _).mono ?_
        rintro e w3 ⟨u3, rfl, hs3, hk3⟩
        have HS3 := Lib.hid hs3
        have HB3 := Lib.hid (HB.out.stay hk3)
        have HK3 := Lib.hid (HK.out.trans hk3 (by simp))
        clear hs3 hk3 HK HB
        go_wp2_with fail
        refine (l3Step_any ns c (Nt.stN ns c k) HOK.out (HST.out k) (HSL.out k) _ _ _ _ _ (HS.out.stay HK3.out) HS3.out).mono ?_
        rintro e w4 ⟨u4, rfl, hs4, hk4⟩
        have HS4 := Lib.hid hs4
        have HB4 := Lib.hid (HB3.out.stay hk4)
        have HK4 := Lib.hid (HK3.out.trans hk4 (by simp))
        clear hs4 hk4 HS3 HB3 HK3
        go_wp2_with fail
        refine (sNumber_any _ _ _ _ _ HS4.out).mono ?_
        rintro e w5 ⟨rfl, rfl⟩
        rw [HSN.out]
        have hj := HLT.out k
        have HSE : Hid ((seenTo (Nt.stepN ns c) N k).set (Nt.stepN ns c k) true = seenTo (Nt.stepN ns c) N (k + 1)) := Lib.hid rfl
        obtain ⟨c1, f1⟩ := HB4.out.at (seenTo_length _ _ _).symm _ hj
        have HB5 := Lib.hid (HB4.out.set (seenTo_length _ _ _).symm (Nt.stepN ns c k) true)
        rw [HSE.out] at HB5
        have HK5 := Lib.hid (HK4.out.setCell (p := ⟨gB, Nt.stepN ns c k, none⟩) (.inr hGB) (.bool true))
        clear HB4 HK4 HS4 HSE
        generalize hjj : Nt.stepN ns c k = j at c1 f1 hj HB5 HK5 ⊢
        clear hjj
        go_wp2
        go_roundw
        case rel => exact ⟨k + 1, by omega, by go_num, HB5.out, HK5.out⟩
        case measure => simp [intOf]; omega
      · have hkN : k = N := by omega
        subst hkN
        clear hlt
        go_wp2
        go_loopw [7, 8] (fun nn num wr => ∃ q : Nat, q ≤ k ∧ num = .int .i64 q ∧ nn = .int .i64 ((Nt.cnt (Nt.edenP ns c) q : Nat) : Int) ∧ Sb wr gB (.slice (some ⟨gB, 0, none⟩) k k) (seenTo (Nt.stepN ns c) k k) ∧ Kept [] w wr) (fun _ num _ => k - (intOf num).toNat)
        case atStart => exact ⟨0, Nat.zero_le _, rfl, rfl, HB.out, HK.out⟩
        case round =>
          clear HB HK
          obtain ⟨q, hq, rfl, rfl, hb, hkept⟩ := hrel
          have HB := Lib.hid hb
          have HK := Lib.hid hkept
          have hck := Nt.cnt_le (Nt.edenP ns c) q
          clear hb hkept
          by_cases hlt : q < k
          · have HC1 := Lib.hid (fun h => cnt_hit (p := Nt.edenP ns c) (k := q) h)
            have HC0 := Lib.hid (fun h => cnt_miss (p := Nt.edenP ns c) (k := q) h)
            obtain ⟨c1, _⟩ := HB.out.at (seenTo_length _ _ _).symm q hlt
            rw [HSEE.out q hlt] at c1
            cases hp : Nt.edenP ns c q
            all_goals rw [hp] at c1
            · go_wp2
              go_roundw
              case rel => exact ⟨q + 1, by omega, by go_num, by rw [HC0.out hp], HB.out, HK.out⟩
              case measure => simp [intOf]; omega
            · go_wp2
              go_roundw
              case rel => exact ⟨q + 1, by omega, by go_num, by rw [HC1.out hp]; go_num, HB.out, HK.out⟩
              case measure => simp [intOf]; omega
          · have hqk : q = k := by omega
            subst hqk
            go_wp2
            go_ret
            exact ⟨by rw [← HEND.out]; rfl, HK.out⟩

end Go.Proofs.Ytlcbpnbehbgbeaa
