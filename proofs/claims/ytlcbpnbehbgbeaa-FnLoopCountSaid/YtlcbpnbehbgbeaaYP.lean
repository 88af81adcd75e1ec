/-
  Walks: fronts, their moves and states, windings of rings and their numbers, by the program.
-/
import Derived.Test.YtlcbpnbehbgbeaaYM
import Derived.Test.YtlcbpnbehbgbeaaH1
import Derived.Test.YtlcbpnbehbgbeaaTI
import Derived.Test.YtlcbpnbehbgbeaaPureRX
namespace Go.Proofs.Ytlcbpnbehbgbeaa
open Go.RowKit

set_option maxHeartbeats 400000 in
set_option maxRecDepth 100000 in
theorem ringOk_any (n : Int) (w : World) :
    Calls Try.prog 68 #[.int .i64 n] w fun e w' => e = .returned (.bool (decide (3 ≤ n ∧ n ≤ 6))) ∧ w = w' := by
  by_cases a : 3 ≤ n
  · have d : decide (1 ≤ n ∧ n ≤ 6) = decide (3 ≤ n ∧ n ≤ 6) := by rw [Bool.eq_iff_iff, decide_eq_true_iff, decide_eq_true_iff]; omega
    generalize decide (3 ≤ n ∧ n ≤ 6) = b at *
    go_enter Try.func68, Try.ntmps68
    go_wp2_with (go_at_call 52; refine (nodesOk_any n _).mono ?_; rintro e w' ⟨rfl, rfl⟩; rw [d])
    go_ret
    exact ⟨rfl, rfl⟩
  · have d : decide (3 ≤ n ∧ n ≤ 6) = false := decide_eq_false (by omega)
    go_enter Try.func68, Try.ntmps68
    go_wp2
    go_ret
    exact ⟨rfl, rfl⟩

set_option maxHeartbeats 2000000 in
set_option maxRecDepth 100000 in
/-- A function that leads from each row of a row of rows to the next one is folded. -/
theorem foldedRows_any (F : Nat) (caps : Array Value) (s : Nat → List Nat) (T : Nat) (hT : T ≤ 60) (h0 : 0 < (s 0).length ∧ (s 0).length ≤ 1000)
    (hent : ∀ (args : Array Value) (w : World), Sem.run Try.prog (callFunc F args) w = .ok (.enter F args) w)
    (hstep : ∀ t, t < T → ∀ (w : World) (v : Value) (base : Nat), Sl w base v (Nt.nats (s t)) →
      Calls Try.prog F (#[v] ++ caps) w fun e w' => ∃ z, e = .returned z ∧ Sl w' w.heap.size z (Nt.nats (s (t + 1))) ∧ Kept [] w w')
    (w : World) (v : Value) (base : Nat) (hs : Sl w base v (Nt.nats (s 0))) :
    Calls Try.prog 69 #[v, .int .i64 (T : Int), .func (.func F) #[] caps] w fun e w' => ∃ z, e = .returned z ∧ Sl w' w.heap.size z (Nt.nats (s T)) ∧ Kept [] w w' := by
  have HSTEP := Lib.hid hstep
  have HENT := Lib.hid hent
  have HX := Lib.hid (show 0 < (Nt.nats (s 0)).length ∧ (Nt.nats (s 0)).length ≤ 1000 from by rw [Nt.nats_length]; exact h0)
  have HS := Lib.hid hs
  obtain ⟨a, cap, rfl, _, _, _⟩ := hs.any
  clear hent hstep hs h0
  go_enter Try.func69, Try.ntmps69
  go_wp2_with fail
  refine (cloneInts_any (Nt.nats (s 0)) HX.out.1 HX.out.2 _ _ _ HS.out).mono ?_
  rintro e w1 ⟨z, rfl, hs1, hk1⟩
  have HS1 := Lib.hid hs1
  have HK1 := Lib.hid hk1
  clear hs1 hk1 HX HS
  go_wp2_with fail
  go_loopw [7, 11] (fun u i wr => ∃ t : Nat, t ≤ T ∧ i = .int .i64 t ∧ Sl wr w.heap.size u (Nt.nats (s t)) ∧ Kept [] w wr) (fun _ i _ => T - (intOf i).toNat)
  case atStart => exact ⟨0, Nat.zero_le _, rfl, HS1.out, HK1.out⟩
  case round =>
    clear HS1 HK1
    obtain ⟨t, ht, rfl, hsl, hkept⟩ := hrel
    have HSL := Lib.hid hsl
    have HK := Lib.hid hkept
    clear hsl hkept
    by_cases hlt : t < T
    · go_wp2_with fail
      rw [HENT.out, Oper.upon_enter]
      refine (HSTEP.out t hlt _ _ _ HSL.out).mono ?_
      rintro e w2 ⟨z2, rfl, hs2, hk2⟩
      have HS2 := Lib.hid (hs2.mono HK.out.size)
      have HK2 := Lib.hid (HK.out.trans hk2 (by simp))
      clear hs2 hk2
      go_wp2_with fail
      go_roundw
      case rel => exact ⟨t + 1, by omega, by go_num, HS2.out, HK2.out⟩
      case measure => simp [intOf]; omega
    · have ht' : t = T := by omega
      subst ht'
      go_wp2_with fail
      go_ret
      exact ⟨_, rfl, HSL.out, HK.out⟩

set_option maxHeartbeats 2000000 in
set_option maxRecDepth 100000 in
theorem withAFront_any (xs : List Nat) (n : Nat) (hn : xs.length = n) (hp : 0 < n) (hle : n ≤ 100) (hb : ∀ j, xs.getD j 0 ≤ 1000) (w : World) (v : Value) (base : Nat) (hs : Sl w base v (Nt.nats xs)) :
    Calls Try.prog 70 #[v] w fun e w' => ∃ z, e = .returned z ∧ Sl w' w.heap.size z (Nt.nats (Nt.moreL xs)) ∧ Kept [] w w' := by
  obtain ⟨m, hm⟩ : ∃ m, m = n + 2 := ⟨_, rfl⟩
  have HM := Lib.hid hm
  have HZ := Lib.hid (fun j => Nt.moreTo_zero xs j)
  have HSU := Lib.hid (fun k j => Nt.moreTo_succ xs k j)
  have HLE := Lib.hid (fun k j => Nt.moreTo_le hb k j)
  have HB := Lib.hid hb
  have HE : Hid (∀ ys : List Int, ys.length = m → (∀ j, j < m → ys.getD j 0 = ((Nt.moreTo xs n j : Nat) : Int)) → ys = Nt.nats (Nt.moreL xs)) := Lib.hid (fun ys hl hy => Nt.ext_getI (by rw [hl, Nt.nats_length, Nt.moreL_length, hn, hm]) (fun j hj => by
    rw [hl] at hj
    rw [hy j hj, Nt.nats_get, Nt.moreL_get (by omega), hn]))
  obtain ⟨g, cap, rfl, hg, hc⟩ := hs.row hn hp
  have HC := Lib.hid hc
  have s0 : IntKind.i64.wrap ((n : Int) + 2) = (m : Int) := by rw [IntWalk.i64_in _ (by omega)]; omega
  clear hs hc hn hb hm
  go_enter Try.func70, Try.ntmps70
  go_wp2_with (at_make; refine make_int w m rfl _ _ rfl rfl rfl ?_ ?_)
  · have := HM.out; omega
  · intro w1 hs1 hk1 _
    have HS1 := Lib.hid hs1
    have HK1 := Lib.hid hk1
    clear hs1 hk1
    go_wp2_with fail
    go_loopw [12] (fun i wr => ∃ (k : Nat) (ys : List Int), k ≤ n ∧ i = .int .i64 k ∧ Sl wr w.heap.size (.slice (some ⟨w.heap.size, 0, none⟩) m m) ys ∧ ys.length = m ∧ (∀ j, j < m → ys.getD j 0 = ((Nt.moreTo xs k j : Nat) : Int)) ∧ Kept [] w wr) (fun i _ => n - (intOf i).toNat)
    case atStart => exact ⟨0, _, Nat.zero_le _, rfl, HS1.out, by simp, fun j hj => by rw [HZ.out]; simp [List.getD_eq_getElem?_getD, hj], HK1.out⟩
    case round =>
      clear HS1 HK1
      obtain ⟨k, ys, hk, rfl, hsl, hyl, hys, hkept⟩ := hrel
      have HSL := Lib.hid hsl
      have HK := Lib.hid hkept
      have HYL := Lib.hid hyl
      have HYS := Lib.hid hys
      have hm := HM.out
      by_cases hlt : k < n
      · have ck := (hkept.cell (p := ⟨g, k, none⟩) hg (by simp)).trans (HC.out k hlt)
        have hx := HB.out k
        have l0 := HLE.out k k
        have l1 := HLE.out k (k + 1)
        have l2 := HLE.out k (k + 2)
        have e0 := hys k (by omega)
        have e1 := hys (k + 1) (by omega)
        have e2 := hys (k + 2) (by omega)
        have t1 : IntKind.i64.wrap ((k : Int) + 1) = (k : Int) + 1 := IntWalk.i64_in _ (by omega)
        have t2 : IntKind.i64.wrap ((k : Int) + 2) = (k : Int) + 2 := IntWalk.i64_in _ (by omega)
        obtain ⟨z0, hz0⟩ : ∃ z, z = Nt.moreTo xs k k + xs.getD k 0 := ⟨_, rfl⟩
        obtain ⟨z1, hz1⟩ : ∃ z, z = Nt.moreTo xs k (k + 1) + xs.getD k 0 := ⟨_, rfl⟩
        obtain ⟨z2, hz2⟩ : ∃ z, z = Nt.moreTo xs k (k + 2) + xs.getD k 0 := ⟨_, rfl⟩
        have HNX : Hid (∀ j, j < m → (((ys.set k (z0 : Int)).set (k + 1) (z1 : Int)).set (k + 2) (z2 : Int)).getD j 0 = ((Nt.moreTo xs (k + 1) j : Nat) : Int)) := Lib.hid (fun j hj => by
          have h0 := hys j hj
          rw [HSU.out k j, Nt.set_get _ (by rw [List.length_set, List.length_set, hyl]; omega), Nt.set_get _ (by rw [List.length_set, hyl]; omega), Nt.set_get _ (by rw [hyl]; omega), h0]
          by_cases a : k + 2 = j
          · subst a; rw [if_pos rfl, if_pos (by omega), hz2]
          · rw [if_neg a]
            by_cases b : k + 1 = j
            · subst b; rw [if_pos rfl, if_pos (by omega), hz1]
            · rw [if_neg b]
              by_cases c : k = j
              · subst c; rw [if_pos rfl, if_pos (by omega), hz0]
              · rw [if_neg c, if_neg (by omega)]; rfl)
        have hs1 := hsl.set hyl.symm k (z0 : Int)
        have hs2 := hs1.set (by rw [List.length_set]; exact hyl.symm) (k + 1) (z1 : Int)
        have hs3 := hs2.set (by rw [List.length_set, List.length_set]; exact hyl.symm) (k + 2) (z2 : Int)
        obtain ⟨c0, f0⟩ := hsl.at k (by rw [hyl]; omega)
        obtain ⟨c1, f1⟩ := hs1.at (k + 1) (by rw [List.length_set, hyl]; omega)
        obtain ⟨c2, f2⟩ := hs2.at (k + 2) (by rw [List.length_set, List.length_set, hyl]; omega)
        rw [e0] at c0
        rw [Nt.set_get _ (by rw [hyl]; omega), if_neg (by omega), e1] at c1
        rw [Nt.set_get _ (by rw [List.length_set, hyl]; omega), if_neg (by omega), Nt.set_get _ (by rw [hyl]; omega), if_neg (by omega), e2] at c2
        have HS3 := Lib.hid hs3
        have HL3 : Hid ((((ys.set k (z0 : Int)).set (k + 1) (z1 : Int)).set (k + 2) (z2 : Int)).length = m) := Lib.hid (by rw [List.length_set, List.length_set, List.length_set]; exact hyl)
        have HK3 := Lib.hid (((hkept.setCell (p := ⟨w.heap.size, k, none⟩) (.inr (Nat.le_refl _)) (.int .i64 (z0 : Int))).setCell (p := ⟨w.heap.size, k + 1, none⟩) (.inr (Nat.le_refl _)) (.int .i64 (z1 : Int))).setCell (p := ⟨w.heap.size, k + 2, none⟩) (.inr (Nat.le_refl _)) (.int .i64 (z2 : Int)))
        clear hsl hkept hyl hys hs1 hs2 hs3 e0 e1 e2 HSL HK
        generalize Nt.moreTo xs k k = y0 at *
        generalize Nt.moreTo xs k (k + 1) = y1 at *
        generalize Nt.moreTo xs k (k + 2) = y2 at *
        generalize xs.getD k 0 = x at *
        have s1 : IntKind.i64.wrap ((y0 : Int) + (x : Int)) = (z0 : Int) := by rw [IntWalk.i64_in _ (by omega)]; omega
        have s2 : IntKind.i64.wrap ((y1 : Int) + (x : Int)) = (z1 : Int) := by rw [IntWalk.i64_in _ (by omega)]; omega
        have s3 : IntKind.i64.wrap ((y2 : Int) + (x : Int)) = (z2 : Int) := by rw [IntWalk.i64_in _ (by omega)]; omega
        have r1 : k + 1 < m := by omega
        have r2 : k + 2 < m := by omega
        have r0 : k < m := by omega
        clear hz0 hz1 hz2
        go_wp2
        go_roundw
        case rel => exact ⟨k + 1, _, by omega, by go_num, HS3.out, HL3.out, HNX.out, HK3.out⟩
        case measure => simp [intOf]; omega
      · have hk' : k = n := by omega
        subst hk'
        have HX := Lib.hid (HE.out ys HYL.out HYS.out)
        clear hsl hkept hyl hys
        go_wp2_with fail
        go_ret
        exact ⟨_, rfl, by rw [← HX.out]; exact HSL.out, HK.out⟩

theorem enter_withAFront (args : Array Value) (w : World) : Sem.run Try.prog (callFunc 70 args) w = .ok (.enter 70 args) w := by kernel_rfl

set_option maxHeartbeats 1000000 in
set_option maxRecDepth 100000 in
theorem iRStates_any (nodes winding : Int) (w : World) :
    Calls Try.prog 32 #[.int .i64 nodes, .int .i64 winding] w fun e w' => e = .returned (.int .i64 (Nt.rstOf nodes winding)) ∧ Kept [] w w' := by
  cases hr : Nt.rstB nodes winding
  · have HF := Lib.hid (Nt.rstOf_no hr)
    cases h1 : decide (3 ≤ nodes ∧ nodes ≤ 6)
    · clear hr
      go_enter Try.func32, Try.ntmps32
      go_wp2_with (go_at_call 68; refine (ringOk_any _ _).mono ?_; rintro e w' ⟨rfl, rfl⟩; rw [h1])
      go_ret
      exact ⟨by rw [HF.out]; rfl, Kept.refl _ _⟩
    · by_cases h2 : winding < -6
      · clear hr
        go_enter Try.func32, Try.ntmps32
        go_wp2_with (go_at_call 68; refine (ringOk_any _ _).mono ?_; rintro e w' ⟨rfl, rfl⟩; rw [h1])
        go_ret
        exact ⟨by rw [HF.out]; rfl, Kept.refl _ _⟩
      · have h3 : 6 < winding := by
          unfold Nt.rstB at hr
          rw [h1, Bool.true_and, decide_eq_false_iff_not] at hr
          omega
        clear hr
        go_enter Try.func32, Try.ntmps32
        go_wp2_with (go_at_call 68; refine (ringOk_any _ _).mono ?_; rintro e w' ⟨rfl, rfl⟩; rw [h1])
        go_ret
        exact ⟨by rw [HF.out]; rfl, Kept.refl _ _⟩
  · obtain ⟨m, rfl, b1, b2, b3, b4⟩ := Nt.rstB_ok hr
    have HF := Lib.hid (Nt.rstOf_ok b1 b2 b3 b4)
    have h1 : decide (3 ≤ (m : Int) ∧ (m : Int) ≤ 6) = true := decide_eq_true (by omega)
    have l1 : ¬ winding < -6 := by omega
    have l2 : ¬ 6 < winding := by omega
    have HFO := Lib.hid (fun w v base => foldedRows_any 70 #[] Nt.wayRow m (by omega) (by decide) enter_withAFront (fun t ht w v base hs => by
      have h := withAFront_any (Nt.wayRow t) (2 * t + 1) (Nt.wayRow_length t) (by omega) (by omega) (fun j => Nat.le_trans (Nt.wayRow_le (by omega) j) (by omega)) w v base hs
      rw [Nt.moreL_wayRow] at h
      exact h) w v base)
    have HL0 := Lib.hid (Sl.lit w [1] (by simp))
    have hka : Kept [] w (w.alloc (.cells #[.int .i64 1] 3)) := (Kept.refl [] w).alloc _
    have HKA := Lib.hid hka
    have HLN : Hid ((Nt.nats (Nt.wayRow m)).length = 2 * m + 1) := Lib.hid (by rw [Nt.nats_length, Nt.wayRow_length])
    have s1 : IntKind.i64.wrap (3 * winding) = 3 * winding := IntWalk.i64_in _ (by omega)
    have s2 : IntKind.i64.wrap ((m : Int) + 3 * winding) = (m : Int) + 3 * winding := IntWalk.i64_in _ (by omega)
    have HS0 : Hid (Sl (w.alloc (.cells #[.int .i64 1] 3)) w.heap.size (.slice (some ⟨w.heap.size, 0, none⟩) 1 1) (Nt.nats (Nt.wayRow 0))) := Lib.hid HL0.out
    clear hr hka HL0
    go_enter Try.func32, Try.ntmps32
    go_wp2_with (go_at_call 68; refine (ringOk_any _ _).mono ?_; rintro e w' ⟨rfl, rfl⟩; rw [h1])
    refine (HFO.out _ _ _ HS0.out).mono ?_
    rintro e w2 ⟨z, rfl, hs2, hk2⟩
    have HK2 := Lib.hid (HKA.out.trans hk2 (by simp))
    obtain ⟨g, cap, rfl, _, _⟩ := hs2.shape HLN.out (by omega)
    by_cases c1 : (m : Int) + 3 * winding < 0
    · have HV : Hid (Nt.rstOf (m : Int) winding = 0) := Lib.hid (by rw [HF.out, Nt.ways_out _ _ (by omega)]; rfl)
      clear hs2 hk2
      go_wp2
      go_ret
      exact ⟨by rw [HV.out]; rfl, HK2.out⟩
    · by_cases c2 : (2 * m + 1 : Nat) ≤ (m : Int) + 3 * winding
      · have HV : Hid (Nt.rstOf (m : Int) winding = 0) := Lib.hid (by rw [HF.out, Nt.ways_out _ _ (by omega)]; rfl)
        clear hs2 hk2
        go_wp2
        go_ret
        exact ⟨by rw [HV.out]; rfl, HK2.out⟩
      · obtain ⟨p, hp⟩ : ∃ p : Nat, (p : Int) = (m : Int) + 3 * winding := ⟨((m : Int) + 3 * winding).toNat, by omega⟩
        obtain ⟨cp, _⟩ := hs2.at p (by rw [HLN.out]; omega)
        rw [Nt.nats_get, Nt.wayRow_get (by omega), show (p : Int) - (m : Int) = 3 * winding by omega] at cp
        have hle := Nt.ways_le m (3 * winding)
        have h729 : 3 ^ m ≤ 3 ^ 6 := Nat.pow_le_pow_right (by omega) b2
        generalize Nt.ways m (3 * winding) = q at *
        have hq : q ≤ 729 := by omega
        have s3 : IntKind.i64.wrap (3 * (q : Int)) = 3 * (q : Int) := IntWalk.i64_in _ (by omega)
        have hpl : p < 2 * m + 1 := by omega
        have c1' : ¬ (p : Int) < 0 := by omega
        have c2' : ¬ ((2 * m + 1 : Nat) : Int) ≤ (p : Int) := by omega
        have s4 : IntKind.i64.wrap ((m : Int) + 3 * winding) = (p : Int) := by rw [s2]; exact hp.symm
        clear s2
        clear hs2 hk2 hle h729 c1 c2 hp
        go_wp2
        go_ret
        exact ⟨by rw [HF.out]; first | rfl | go_num, HK2.out⟩

end Go.Proofs.Ytlcbpnbehbgbeaa
