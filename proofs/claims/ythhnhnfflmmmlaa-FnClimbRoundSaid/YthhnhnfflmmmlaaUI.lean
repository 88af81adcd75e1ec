/-
  Walks: rises, tours and climbs, by the program.
  Walks: what tours climb most, by the program.
  Walks: slices of slices of numbers.
  Walks: a range over slices.Backward of rows, told by the number of rounds; slices.IndexFunc of rows.
  Walks: best tours, by the program.
  Walks: best tours, by the program.
-/
import Derived.Test.YthhnhnfflmmmlaaTI
import Derived.Test.YthhnhnfflmmmlaaUM
import Derived.Test.YthhnhnfflmmmlaaFA
import Derived.Test.YthhnhnfflmmmlaaKA
import Derived.Maps.AppendAt
import Derived.RangeFuncNested
import Derived.RangeFuncBound
import Derived.RangeFuncCalls
import Derived.RangeFuncLeaves
import Derived.RangeFuncFrom
import Derived.RangeFuncBox
import Derived.Shelf.Abstract
import Derived.Shelf.RegionOpen
import Derived.OwnWalkIn
import Derived.TacticsInMore
import Derived.LoopNIn
import Derived.LoopIn
import Derived.Deep.RegionHeld3
namespace Go.Proofs.Ythhnhnfflmmmlaa
open Go.RowKit

set_option maxHeartbeats 400000 in
theorem isNode_any (n : Nat) (a : Int) (w : World) :
    Calls Try.prog 35 #[.int .i64 (n : Int), .int .i64 a] w fun e w' => e = .returned (.bool (Nt.inB n a)) ∧ w = w' := by
  by_cases h1 : 0 ≤ a <;> by_cases h2 : a < (n : Int)
  all_goals
    have HB : Hid (Nt.inB n a = decide (0 ≤ a ∧ a < (n : Int))) := Lib.hid rfl
    go_enter Try.func35, Try.ntmps35
    go_wp2
    go_ret
    exact ⟨by rw [HB.out]; simp [h1, h2], rfl⟩

set_option maxHeartbeats 1000000 in
theorem rise_any (ks : List Nat) (st : Nt.St 3 ks) (a b : Nat) (ha : a < ks.length) (hb : b < ks.length) (w : World) (v : Value) (base : Nat) (hs : Sl w base v (Nt.nats ks)) :
    Calls Try.prog 36 #[v, .int .i64 (a : Int), .int .i64 (b : Int)] w fun e w' => e = .returned (.int .i64 (Nt.rise (ks.getD a 0) (ks.getD b 0))) ∧ Qt w w' := by
  obtain ⟨n, hn⟩ : ∃ n, n = ks.length := ⟨_, rfl⟩
  have hp := st.some
  rw [← hn] at hp
  obtain ⟨g, cap, rfl, hg, hc⟩ := hs.row hn.symm hp
  have c1 := hc a (by omega)
  have c2 := hc b (by omega)
  have hx := st.lt a ha
  have hy := st.lt b hb
  have han : a < n := by omega
  have hbn : b < n := by omega
  clear hs hc st ha hb hn
  generalize ks.getD a 0 = x at *
  generalize ks.getD b 0 = y at *
  have hr1 := @Nt.rise_one x y hy
  have hr2 := @Nt.rise_down x y hx
  have hr3 := @Nt.rise_lo x y
  have hr4 := @Nt.rise_hi x y
  have hnx : (x + 1) % 3 < 3 := by omega
  have hny : (y + 1) % 3 < 3 := by omega
  have N1 := Lib.hid (fun w => (nextKind_any 3 x (by omega) (by omega) w).mono (fun _ _ e => (⟨e.1, e.2.symm⟩ : _ ∧ _ = w)))
  have N2 := Lib.hid (fun w => (nextKind_any 3 y (by omega) (by omega) w).mono (fun _ _ e => (⟨e.1, e.2.symm⟩ : _ ∧ _ = w)))
  generalize (x + 1) % 3 = p at *
  generalize (y + 1) % 3 = q at *
  by_cases h1 : y = p
  · have d1 : ((y : Int) == (p : Int)) = true := by simp [h1]
    have HF : Hid (Nt.rise x y = 1) := Lib.hid (hr1.2 h1)
    clear hr1 hr2 hr3 hr4 h1
    go_enter Try.func36, Try.ntmps36
    go_wp2_with fail
    go_quiet ((go_at_call 42; first | exact quietL ((N1.out _).mono fun _ _ e => ⟨e.1, e.2.symm⟩) | exact quietL ((N2.out _).mono fun _ _ e => ⟨e.1, e.2.symm⟩)))
    go_wp2
    go_ret
    exact ⟨by rw [HF.out] <;> rfl, (Qt.refl _).draw _⟩
  · have d1 : ((y : Int) == (p : Int)) = false := by simp; omega
    by_cases h2 : x = q
    · have d2 : ((x : Int) == (q : Int)) = true := by simp [h2]
      have HF : Hid (Nt.rise x y = -1) := Lib.hid (hr2.2 h2)
      clear hr1 hr2 hr3 hr4 h1 h2
      go_enter Try.func36, Try.ntmps36
      go_wp2_with fail
      go_quiet ((go_at_call 42; first | exact quietL ((N1.out _).mono fun _ _ e => ⟨e.1, e.2.symm⟩) | exact quietL ((N2.out _).mono fun _ _ e => ⟨e.1, e.2.symm⟩)))
      have c1b : (w.drewN nq).cell? ⟨g, a, none⟩ = some (.int .i64 (x : Int)) := c1
      have c2b : (w.drewN nq).cell? ⟨g, b, none⟩ = some (.int .i64 (y : Int)) := c2
      have HQ := Lib.hid ((Qt.refl w).draw nq)
      clear c1 c2
      generalize w.drewN nq = w2 at *
      go_wp2_with fail
      go_quiet ((go_at_call 42; first | exact quietL ((N1.out _).mono fun _ _ e => ⟨e.1, e.2.symm⟩) | exact quietL ((N2.out _).mono fun _ _ e => ⟨e.1, e.2.symm⟩)))
      go_wp2
      go_ret
      exact ⟨by rw [HF.out] <;> rfl, HQ.out.draw _⟩
    · have d2 : ((x : Int) == (q : Int)) = false := by simp; omega
      have HF : Hid (Nt.rise x y = 0) := Lib.hid (by omega)
      clear hr1 hr2 hr3 hr4 h1 h2
      go_enter Try.func36, Try.ntmps36
      go_wp2_with fail
      go_quiet ((go_at_call 42; first | exact quietL ((N1.out _).mono fun _ _ e => ⟨e.1, e.2.symm⟩) | exact quietL ((N2.out _).mono fun _ _ e => ⟨e.1, e.2.symm⟩)))
      have c1b : (w.drewN nq).cell? ⟨g, a, none⟩ = some (.int .i64 (x : Int)) := c1
      have c2b : (w.drewN nq).cell? ⟨g, b, none⟩ = some (.int .i64 (y : Int)) := c2
      have HQ := Lib.hid ((Qt.refl w).draw nq)
      clear c1 c2
      generalize w.drewN nq = w2 at *
      go_wp2_with fail
      go_quiet ((go_at_call 42; first | exact quietL ((N1.out _).mono fun _ _ e => ⟨e.1, e.2.symm⟩) | exact quietL ((N2.out _).mono fun _ _ e => ⟨e.1, e.2.symm⟩)))
      go_wp2
      go_ret
      exact ⟨by rw [HF.out] <;> rfl, HQ.out.draw _⟩

set_option maxHeartbeats 1000000 in
theorem iRiseOf_any (ys : List Int) (a b : Int) (w : World) (v : Value) (base : Nat) (hs : Sl w base v ys) :
    Calls Try.prog 11 #[v, .int .i64 a, .int .i64 b] w fun e w' => e = .returned (.int .i64 (Nt.riseOf ys a b)) ∧ Qt w w' := by
  have HS := Lib.hid hs
  obtain ⟨p, cap, rfl, _, hm, _⟩ := hs.any
  clear hs
  cases h1 : Nt.stB 3 ys
  · have HF := Lib.hid (Nt.riseOf_no1 (a := a) (b := b) h1)
    go_enter Try.func11, Try.ntmps11
    go_wp2_with (go_at_call 34; refine (iStateOk_any 3 ys _ _ _ HS.out).mono ?_; rintro e w' ⟨rfl, rfl⟩; rw [h1])
    go_ret
    exact ⟨by rw [HF.out]; rfl, Qt.refl _⟩
  · cases ha : Nt.inB ys.length a
    · have HF := Lib.hid (Nt.riseOf_no2 (b := b) ha)
      go_enter Try.func11, Try.ntmps11
      go_wp2_with (first | (go_at_call 34; refine (iStateOk_any 3 ys _ _ _ HS.out).mono ?_; rintro e w' ⟨rfl, rfl⟩; rw [h1]) | (go_at_call 35; refine (isNode_any _ _ _).mono ?_; rintro e w' ⟨rfl, rfl⟩; rw [ha]))
      go_ret
      exact ⟨by rw [HF.out]; rfl, Qt.refl _⟩
    · cases hb : Nt.inB ys.length b
      · have HF := Lib.hid (Nt.riseOf_no3 (a := a) hb)
        go_enter Try.func11, Try.ntmps11
        go_wp2_with (first | (go_at_call 34; refine (iStateOk_any 3 ys _ _ _ HS.out).mono ?_; rintro e w' ⟨rfl, rfl⟩; rw [h1]) | (go_at_call 35; refine (isNode_any _ _ _).mono ?_; rintro e w' ⟨rfl, rfl⟩; first | rw [ha] | rw [hb]))
        go_ret
        exact ⟨by rw [HF.out]; rfl, Qt.refl _⟩
      · obtain ⟨ks, rfl, st⟩ := Nt.stB3_st h1
        obtain ⟨x, rfl, hx⟩ := Nt.inB_ok ha
        obtain ⟨y, rfl, hy⟩ := Nt.inB_ok hb
        rw [Nt.nats_length] at hx hy
        have HF := Lib.hid (Nt.riseOf_ok st hx hy)
        have HR := Lib.hid (rise_any ks st x y hx hy w _ _ HS.out)
        generalize Nt.rise (ks.getD x 0) (ks.getD y 0) = r at *
        clear st
        go_enter Try.func11, Try.ntmps11
        go_wp2_with (first | (go_at_call 34; refine (iStateOk_any 3 _ _ _ _ HS.out).mono ?_; rintro e w' ⟨rfl, rfl⟩; rw [h1]) | (go_at_call 35; refine (isNode_any _ _ _).mono ?_; rintro e w' ⟨rfl, rfl⟩; first | rw [ha] | rw [hb]))
        refine HR.out.mono ?_
        rintro e w1 ⟨rfl, hq⟩
        have HQ := Lib.hid hq
        clear hq
        go_wp2
        go_ret
        exact ⟨by rw [HF.out] <;> rfl, HQ.out⟩

set_option maxHeartbeats 2000000 in
theorem iTourOk_any (xs zs : List Int) (w : World) (v : Value) (base : Nat) (u : Value) (base' : Nat) (hs : Sl w base v xs) (ht : Sl w base' u zs) :
    Calls Try.prog 17 #[v, u] w fun e w' => e = .returned (.bool (Nt.tourB xs zs)) ∧ w = w' := by
  have HS := Lib.hid hs
  have HT := Lib.hid ht
  obtain ⟨a, cap, rfl, _, hm, _⟩ := hs.any
  obtain ⟨a', cap', rfl, _, hm', _⟩ := ht.any
  clear hs ht
  cases ho : Nt.okB xs
  · have HF := Lib.hid (Nt.tourB_no1 (zs := zs) ho)
    go_enter Try.func17, Try.ntmps17
    go_wp2_with (go_at_call 39; refine (iNetOk_any xs _ _ _ HS.out).mono ?_; rintro e w' ⟨rfl, rfl⟩; rw [ho])
    go_ret
    exact ⟨by rw [HF.out]; rfl, rfl⟩
  · by_cases hl0 : zs.length < 1
    · have HF := Lib.hid (Nt.tourB_no2 (xs := xs) (zs := zs) (by omega))
      go_enter Try.func17, Try.ntmps17
      go_wp2_with (go_at_call 39; refine (iNetOk_any xs _ _ _ HS.out).mono ?_; rintro e w' ⟨rfl, rfl⟩; rw [ho])
      go_ret
      exact ⟨by rw [HF.out]; rfl, rfl⟩
    · by_cases hl12 : 12 < zs.length
      · have HF := Lib.hid (Nt.tourB_no2 (xs := xs) (zs := zs) (by omega))
        go_enter Try.func17, Try.ntmps17
        go_wp2_with (go_at_call 39; refine (iNetOk_any xs _ _ _ HS.out).mono ?_; rintro e w' ⟨rfl, rfl⟩; rw [ho])
        go_ret
        exact ⟨by rw [HF.out]; rfl, rfl⟩
      · obtain ⟨ns, rfl, ok⟩ := Nt.okB_ok ho
        obtain ⟨n, hn⟩ : ∃ n, n = ns.length := ⟨_, rfl⟩
        obtain ⟨L, hL⟩ : ∃ L, L = zs.length := ⟨_, rfl⟩
        have hp := ok.some
        have h6 := ok.few
        have hln : (Nt.nats ns).length = n := by rw [Nt.nats_length]; exact hn.symm
        rw [← hn] at hp h6
        obtain ⟨g, cp, e1, _, hcs⟩ := HS.out.row hn.symm hp
        have hz := HT.out.shape hL.symm (by omega)
        obtain ⟨g', cp', e2, _, _⟩ := hz
        have HC := Lib.hid hcs
        have HZZ : Hid (∀ k, k < L → w.cell? ⟨g', k, none⟩ = some (.int .i64 (zs.getD k 0))) := Lib.hid (fun k hk => by
          have h := HT.out
          rw [e2] at h
          exact (h.at k (by omega)).1)
        have HSQ := HS
        rw [hln] at HS hm e1 ⊢
        rw [← hL] at HT hm' hl0 hl12 ⊢
        have HY : Hid (Sl w base (Value.slice a n cap) (Nt.nats ns)) := Lib.hid HS.out
        clear HS HSQ HT
        rw [e1] at HY ⊢
        rw [← hL] at e2
        rw [e2]
        have HN := Lib.hid hn
        have HL := Lib.hid hL
        clear hcs hn hL ok hln e1 e2
        have hl1 : 1 ≤ L := by omega
        have hl2 : L ≤ 12 := by omega
        go_enter Try.func17, Try.ntmps17
        go_wp2_with (go_at_call 39; refine (iNetOk_any (Nt.nats ns) _ _ _ HY.out).mono ?_; rintro e w' ⟨rfl, rfl⟩; rw [ho])
        have HO := Lib.hid ho
        clear ho
        go_loop [22] (fun i => ∃ k : Nat, k ≤ L ∧ i = .int .i64 k ∧ Nt.goesTo (Nt.nats ns) zs k) (fun i => L - (intOf i).toNat)
        case atStart => exact ⟨0, Nat.zero_le _, rfl, fun j hj => absurd hj (by omega)⟩
        case round =>
          obtain ⟨k, hk, rfl, hgo⟩ := hrel
          have HG := Lib.hid hgo
          by_cases hlt : k < L
          · have ck := HZZ.out k hlt
            generalize hz : zs.getD k 0 = z at *
            have HZ := Lib.hid hz
            cases hb : Nt.inB n z
            · have HF := Lib.hid (Nt.tourB_no3 (xs := Nt.nats ns) (zs := zs) (k := k) (by rw [← HL.out]; exact hlt) (goes_not (by rw [HZ.out, Nt.nats_length, ← HN.out]; exact hb)))
              have HB := Lib.hid hb
              clear hz hgo hb
              go_wp2_with (go_at_call 35; refine (isNode_any _ _ _).mono ?_; rintro e w' ⟨rfl, rfl⟩; rw [HB.out])
              go_ret
              exact ⟨by rw [HF.out]; rfl, rfl⟩
            · obtain ⟨q, rfl, hq2⟩ := Nt.inB_ok hb
              have HB := Lib.hid hb
              by_cases hk0 : k = 0
              · subst hk0
                have HS0 := Lib.hid (goes_first (xs := Nt.nats ns) HZ.out (by rw [Nt.nats_length, ← HN.out]; exact hq2))
                clear hz hgo hb
                go_wp2_with (go_at_call 35; refine (isNode_any _ _ _).mono ?_; rintro e w' ⟨rfl, rfl⟩; rw [HB.out])
                go_round
                case rel => exact ⟨0 + 1, by omega, by go_num, Nt.goesTo_succ HG.out HS0.out⟩
                case measure => simp [intOf]; omega
              · obtain ⟨j, hj⟩ : ∃ j, j + 1 = k := ⟨k - 1, by omega⟩
                obtain ⟨p, hpz, hpn⟩ := goes_in (hgo j (by omega))
                rw [Nt.nats_length, ← HN.out] at hpn
                have HS0 := Lib.hid (goes_more (ns := ns) hj hpz HZ.out (by rw [← HN.out]; exact hq2))
                have cj := HZZ.out j (by omega)
                rw [hpz] at cj
                have cp := HC.out p hpn
                have s1 : IntKind.i64.wrap ((k : Int) - 1) = (j : Int) := by rw [IntWalk.i64_in _ (by omega)]; omega
                have s2 : (k : Int) - 1 = (j : Int) := by omega
                have hkp : 0 < k := by omega
                have hjl : j < L := by omega
                clear hz hgo hb hj hpz hk0
                generalize ns.getD p 0 = r at *
                cases hbit : r.testBit q
                · have HF := Lib.hid (Nt.tourB_no3 (xs := Nt.nats ns) (zs := zs) (k := k) (by rw [← HL.out]; exact hlt) (by rw [HS0.out]; exact hbit))
                  go_wp2_with (first | (go_at_call 35; refine (isNode_any _ _ _).mono ?_; rintro e w' ⟨rfl, rfl⟩; rw [HB.out]) | (go_at_call 46; refine (hasNode_nat r q _ (by omega)).mono ?_; rintro e w' ⟨rfl, rfl⟩; rw [hbit]))
                  go_ret
                  exact ⟨by rw [HF.out]; rfl, rfl⟩
                · have HF : Hid (Nt.goesB (Nt.nats ns) zs k = true) := Lib.hid (by rw [HS0.out]; exact hbit)
                  go_wp2_with (first | (go_at_call 35; refine (isNode_any _ _ _).mono ?_; rintro e w' ⟨rfl, rfl⟩; rw [HB.out]) | (go_at_call 46; refine (hasNode_nat r q _ (by omega)).mono ?_; rintro e w' ⟨rfl, rfl⟩; rw [hbit]))
                  go_round
                  case rel => exact ⟨k + 1, by omega, by go_num, Nt.goesTo_succ HG.out HF.out⟩
                  case measure => simp [intOf]; omega
          · have hk' : k = L := by omega
            subst hk'
            have HF : Hid (Nt.tourB (Nt.nats ns) zs = true) := Lib.hid (Nt.tourB_yes HO.out (by rw [← HL.out]; exact hl1) (by rw [← HL.out]; exact hl2) (by rw [← HL.out]; exact HG.out))
            clear hgo
            go_wp2
            go_ret
            exact ⟨by rw [HF.out]; rfl, rfl⟩

set_option maxHeartbeats 2000000 in
theorem iClimbOf_any (xs ys zs : List Int) (w : World) (v : Value) (base : Nat) (u : Value) (base' : Nat) (t : Value) (base2 : Nat) (hs : Sl w base v xs) (ht : Sl w base' u ys) (hz : Sl w base2 t zs) :
    Calls Try.prog 21 #[v, u, t] w fun e w' => e = .returned (.tuple #[.int .i64 (Nt.climbOf xs ys zs), .bool (Nt.climbB xs ys zs)]) ∧ Qt w w' := by
  have HS := Lib.hid hs
  have HT := Lib.hid ht
  have HZ := Lib.hid hz
  obtain ⟨a, cap, rfl, _, hm, _⟩ := hs.any
  obtain ⟨a', cap', rfl, _, hm', _⟩ := ht.any
  obtain ⟨a2, cap2, rfl, _, hm2, _⟩ := hz.any
  clear hs ht hz
  cases h2 : Nt.tourB xs zs
  · have HB := Lib.hid (Nt.climbB_no1 (ys := ys) h2)
    have HF := Lib.hid (Nt.climbOf_no HB.out)
    go_enter Try.func21, Try.ntmps21
    go_wp2_with (go_at_call 17; refine (iTourOk_any xs zs _ _ _ _ _ HS.out HZ.out).mono ?_; rintro e w' ⟨rfl, rfl⟩; rw [h2])
    go_ret2
    exact ⟨by rw [HB.out, HF.out]; rfl, Qt.refl _⟩
  · cases h1 : Nt.fireB xs 3 ys
    · have HB := Lib.hid (Nt.climbB_no2 (zs := zs) h1)
      have HF := Lib.hid (Nt.climbOf_no HB.out)
      go_enter Try.func21, Try.ntmps21
      go_wp2_with (first | (go_at_call 17; refine (iTourOk_any xs zs _ _ _ _ _ HS.out HZ.out).mono ?_; rintro e w' ⟨rfl, rfl⟩; rw [h2]) | (go_at_call 48; refine (turningOk_any xs ys _ _ _ _ _ HS.out HT.out).mono ?_; rintro e w' ⟨rfl, rfl⟩; rw [h1]))
      go_ret2
      exact ⟨by rw [HB.out, HF.out]; rfl, Qt.refl _⟩
    · have hB : Nt.climbB xs ys zs = true := by unfold Nt.climbB; rw [h1, h2]; rfl
      obtain ⟨ns, ks, tr, rfl, rfl, rfl, ok, st, hl, htr⟩ := Nt.climbB_ok hB
      have HB := Lib.hid hB
      have HF := Lib.hid (Nt.climbOf_ok ok st hl htr)
      obtain ⟨n, hn⟩ : ∃ n, n = ks.length := ⟨_, rfl⟩
      obtain ⟨L, hL⟩ : ∃ L, L = tr.length := ⟨_, rfl⟩
      have hL1 := htr.some
      have hL2 := htr.few
      rw [← hL] at hL1 hL2
      obtain ⟨g2, cp2, e2, _, hcz⟩ := HZ.out.row hL.symm (by omega)
      rw [e2] at HZ ⊢
      have HZC := Lib.hid hcz
      have HIN := Lib.hid (fun k (hk : k < L) => (by have := htr.inn k (by omega); omega : tr.getD k 0 < ks.length))
      have HST := Lib.hid st
      have HCL : Hid (∀ m, Nt.climbTo ks tr (m + 1) = Nt.climbTo ks tr m + Nt.rise (ks.getD (tr.getD m 0) 0) (ks.getD (tr.getD (m + 1) 0) 0)) := Lib.hid (fun m => rfl)
      have HEND : Hid (Nt.climb ks tr = Nt.climbTo ks tr (L - 1)) := Lib.hid (by rw [hL]; rfl)
      have HBD := Lib.hid (fun m => Nt.climbTo_bounds ks tr m)
      clear hcz ok st hl htr hn hL hB e2 hm hm' hm2
      go_enter Try.func21, Try.ntmps21
      go_wp2_with (first | (go_at_call 17; refine (iTourOk_any _ _ _ _ _ _ _ HS.out HZ.out).mono ?_; rintro e w' ⟨rfl, rfl⟩; rw [h2]) | (go_at_call 48; refine (turningOk_any _ _ _ _ _ _ _ HS.out HT.out).mono ?_; rintro e w' ⟨rfl, rfl⟩; rw [h1]))
      clear h1 h2
      go_loopw [8, 9] (fun c i wr => ∃ m k : Nat, m + 1 = k ∧ k ≤ L ∧ i = .int .i64 k ∧ c = .int .i64 (Nt.climbTo ks tr m) ∧ Qt w wr) (fun _ i _ => L - (intOf i).toNat)
      case atStart => exact ⟨0, 1, rfl, hL1, rfl, rfl, Qt.refl _⟩
      case round =>
        obtain ⟨m, k, hmk, hk, rfl, rfl, hq⟩ := hrel
        have HQ := Lib.hid hq
        by_cases hlt : k < L
        · have c1 := (hq.cell _).trans (HZC.out m (by omega))
          have c2 := (hq.cell _).trans (HZC.out k hlt)
          have i1 := HIN.out m (by omega)
          have i2 := HIN.out k hlt
          have hbd := HBD.out m
          have HCM := Lib.hid (HCL.out m)
          rw [hmk] at HCM
          have s1 : IntKind.i64.wrap ((k : Int) - 1) = (m : Int) := by rw [IntWalk.i64_in _ (by omega)]; omega
          have hmL : m < L := by omega
          clear hq
          generalize Nt.climbTo ks tr m = c at *
          generalize tr.getD m 0 = p at *
          generalize tr.getD k 0 = q at *
          have HR := Lib.hid (fun d => rise_any ks HST.out p q i1 i2 (wr.drewN d) _ _ (((Qt.refl wr).draw d).sl (HQ.out.sl HT.out)))
          have r1 := @Nt.rise_lo (ks.getD p 0) (ks.getD q 0)
          have r2 := @Nt.rise_hi (ks.getD p 0) (ks.getD q 0)
          generalize Nt.rise (ks.getD p 0) (ks.getD q 0) = r at *
          have s2 : IntKind.i64.wrap (c + r) = c + r := IntWalk.i64_in _ (by omega)
          clear hmk i1 i2
          go_wp2_with fail
          go_quiet ((go_at_call 36; exact quietQ (HR.out _)))
          go_wp2
          go_roundw
          case rel => exact ⟨k, k + 1, rfl, by omega, by go_num, by rw [HCM.out], HQ.out.draw _⟩
          case measure => simp [intOf]; omega
        · have hk' : k = L := by omega
          subst hk'
          have HE : Hid (Nt.climb ks tr = Nt.climbTo ks tr m) := Lib.hid (by rw [HEND.out]; congr 1; omega)
          clear hq
          go_wp2
          go_ret2
          exact ⟨by rw [HB.out, HF.out, HE.out] <;> rfl, HQ.out⟩
end Go.Proofs.Ythhnhnfflmmmlaa

namespace Go.Proofs.Ythhnhnfflmmmlaa
open Go.RowKit

theorem leadK_succ (ns ks : List Nat) (t k j : Nat) : Nt.leadK ns ks t k (j + 1) = if ((ns.getD k 0).testBit j && decide ((Nt.leadK ns ks t k j).2 < Nt.viaK ns ks t k j)) = true then ((j : Int), Nt.viaK ns ks t k j) else Nt.leadK ns ks t k j := rfl
theorem leadK_bounds (ns ks : List Nat) (t k j : Nat) : 0 ≤ (Nt.leadK ns ks t k j).2 ∧ (Nt.leadK ns ks t k j).2 ≤ (t : Int) + 1 :=
  Nt.leadTo_bounds (by omega) (fun i => Nt.viaK_le t k i) j

set_option maxHeartbeats 2000000 in
theorem bestNext_any (ns ks : List Nat) (_ok : Nt.Ok ns) (st : Nt.St 3 ks) (hl : ks.length = ns.length) (t : Nat) (ht : t ≤ 60) (k : Nat) (hk : k < ks.length) (w : World) (v : Value) (base : Nat) (u : Value) (base' : Nat) (r : Value) (base2 : Nat)
    (hs : Sl w base v (Nt.nats ns)) (hu : Sl w base' u (Nt.nats ks)) (hm : Sl w base2 r (Nt.nats (Nt.turnedL ns ks t))) :
    Calls Try.prog 63 #[v, u, r, .int .i64 (k : Int)] w fun e w' => e = .returned (.tuple #[.int .i64 (Nt.leadK ns ks t k ks.length).1, .int .i64 (Nt.leadK ns ks t k ks.length).2]) ∧ Qt w w' := by
  obtain ⟨n, hn⟩ : ∃ n, n = ks.length := ⟨_, rfl⟩
  have hp := st.some
  have h6 := st.few
  have HST := Lib.hid st
  have HML : Hid ((Nt.turnedL ns ks t).length = n) := Lib.hid ((Nt.turnedL_length ns ks t).trans hn.symm)
  have HMG := Lib.hid (fun k (hk : k < n) => Nt.turnedL_get ns ks t (k := k) (by omega))
  have HMB := Lib.hid (fun k => Nt.turned_le ns ks k t)
  have HLS := Lib.hid (leadK_succ ns ks t k)
  have HLB := Lib.hid (leadK_bounds ns ks t k)
  have HL0 : Hid (Nt.leadK ns ks t k 0 = (-1, 0)) := Lib.hid rfl
  have HN := Lib.hid hn
  have HU := Lib.hid hu
  rw [← hn] at hp h6 hk ⊢
  obtain ⟨g1, cap1, rfl, hg1, hc1⟩ := hs.row (n := n) (by omega) hp
  obtain ⟨g, cap, rfl, hg, _⟩ := hu.row hn.symm hp
  obtain ⟨g3, cap3, rfl, hg3, hc3⟩ := hm.row HML.out hp
  have ck := hc1 k hk
  have HC3 := Lib.hid hc3
  clear hs hu hm st hl hc1 hc3 hn
  generalize hr : ns.getD k 0 = r at *
  have HR := Lib.hid hr
  clear hr
  have CK := Lib.hid ck
  clear ck
  go_enter Try.func63, Try.ntmps63
  go_wp2
  go_loopw [10, 11, 16] (fun b c i wr => ∃ j : Nat, j ≤ n ∧ i = .int .i64 j ∧ b = .int .i64 (Nt.leadK ns ks t k j).1 ∧ c = .int .i64 (Nt.leadK ns ks t k j).2 ∧ Qt w wr) (fun _ _ i _ => n - (intOf i).toNat)
  case atStart => exact ⟨0, Nat.zero_le _, rfl, by rw [HL0.out], by rw [HL0.out], Qt.refl _⟩
  case round =>
    obtain ⟨j, hj, rfl, rfl, rfl, hq⟩ := hrel
    have HQ := Lib.hid hq
    by_cases hlt : j < n
    · have cj := (hq.cell _).trans (HC3.out j hlt)
      rw [HMG.out j hlt] at cj
      have ckw := (hq.cell _).trans CK.out
      have hz := HMB.out j
      have hsu := HLS.out j
      have hlb := HLB.out j
      have HV : Hid (Nt.viaK ns ks t k j = Nt.rise (ks.getD k 0) (ks.getD j 0) + ((Nt.turned ns ks j t : Nat) : Int)) := Lib.hid rfl
      have HRS := Lib.hid (fun d => rise_any ks HST.out k j (by rw [← HN.out]; exact hk) (by rw [← HN.out]; exact hlt) (wr.drewN d) _ _ (((Qt.refl wr).draw d).sl (HQ.out.sl HU.out)))
      have r1 := @Nt.rise_lo (ks.getD k 0) (ks.getD j 0)
      have r2 := @Nt.rise_hi (ks.getD k 0) (ks.getD j 0)
      rw [HV.out] at hsu
      clear hq HV
      generalize hb : (Nt.leadK ns ks t k j).1 = b at *
      generalize hc : (Nt.leadK ns ks t k j).2 = c at *
      have HB := Lib.hid hb
      have HC := Lib.hid hc
      clear hb hc
      generalize Nt.rise (ks.getD k 0) (ks.getD j 0) = x at *
      generalize Nt.turned ns ks j t = z at *
      have s2 : IntKind.i64.wrap (x + (z : Int)) = x + (z : Int) := IntWalk.i64_in _ (by omega)
      cases hbit : r.testBit j
      · have HE : Hid (Nt.leadK ns ks t k (j + 1) = Nt.leadK ns ks t k j) := Lib.hid (by rw [hsu, hbit]; rfl)
        clear hsu
        go_wp2_with fail
        go_quiet ((go_at_call 36; exact quietQ (HRS.out _)))
        have HQ2 := Lib.hid (HQ.out.draw nq)
        have ck2 := (HQ2.out.cell _).trans CK.out
        clear ckw cj
        generalize wr.drewN nq = w2 at *
        go_wp2_with (go_at_call 46; refine (hasNode_nat r j _ (by omega)).mono ?_; rintro e w' ⟨rfl, rfl⟩; rw [hbit])
        go_roundw
        case rel => exact ⟨j + 1, by omega, by go_num, by rw [HE.out, HB.out], by rw [HE.out, HC.out], HQ2.out⟩
        case measure => simp [intOf]; omega
      · by_cases hgt : c < x + (z : Int)
        · have HE : Hid (Nt.leadK ns ks t k (j + 1) = ((j : Int), x + (z : Int))) := Lib.hid (by rw [hsu, hbit, decide_eq_true hgt]; rfl)
          clear hsu
          go_wp2_with fail
          go_quiet ((go_at_call 36; exact quietQ (HRS.out _)))
          have HQ2 := Lib.hid (HQ.out.draw nq)
          have ck2 := (HQ2.out.cell _).trans CK.out
          clear ckw cj
          generalize wr.drewN nq = w2 at *
          go_wp2_with (go_at_call 46; refine (hasNode_nat r j _ (by omega)).mono ?_; rintro e w' ⟨rfl, rfl⟩; rw [hbit])
          go_roundw
          case rel => exact ⟨j + 1, by omega, by go_num, by rw [HE.out], by rw [HE.out], HQ2.out⟩
          case measure => simp [intOf]; omega
        · have HE : Hid (Nt.leadK ns ks t k (j + 1) = Nt.leadK ns ks t k j) := Lib.hid (by rw [hsu, hbit, decide_eq_false hgt]; rfl)
          clear hsu
          go_wp2_with fail
          go_quiet ((go_at_call 36; exact quietQ (HRS.out _)))
          have HQ2 := Lib.hid (HQ.out.draw nq)
          have ck2 := (HQ2.out.cell _).trans CK.out
          clear ckw cj
          generalize wr.drewN nq = w2 at *
          go_wp2_with (go_at_call 46; refine (hasNode_nat r j _ (by omega)).mono ?_; rintro e w' ⟨rfl, rfl⟩; rw [hbit])
          go_roundw
          case rel => exact ⟨j + 1, by omega, by go_num, by rw [HE.out, HB.out], by rw [HE.out, HC.out], HQ2.out⟩
          case measure => simp [intOf]; omega
    · have hj' : j = n := by omega
      subst hj'
      clear hq
      go_wp2
      go_ret2
      exact ⟨rfl, HQ.out⟩

set_option maxHeartbeats 2000000 in
theorem mostWithAStep_any (ns ks : List Nat) (ok : Nt.Ok ns) (st : Nt.St 3 ks) (hl : ks.length = ns.length) (t : Nat) (ht : t ≤ 60) (w : World) (v : Value) (base : Nat) (u : Value) (base' : Nat) (r : Value) (base2 : Nat)
    (hs : Sl w base v (Nt.nats ns)) (hu : Sl w base' u (Nt.nats ks)) (hm : Sl w base2 r (Nt.nats (Nt.turnedL ns ks t))) :
    Calls Try.prog 54 #[v, u, r] w fun e w' => ∃ z, e = .returned z ∧ Sl w' w.heap.size z (Nt.nats (Nt.turnedL ns ks (t + 1))) ∧ Kept [] w w' := by
  obtain ⟨n, hn⟩ : ∃ n, n = ks.length := ⟨_, rfl⟩
  have hp := st.some
  have h6 := st.few
  have HML := Lib.hid (fun t => (Nt.turnedL_length ns ks t).trans hn.symm)
  have HLM := Lib.hid (fun k (hk : k < n) => (Nt.lead_most ok st hl (k := k) (by omega) t).trans (by rw [← Nt.turnedL_get ns ks (t + 1) (k := k) (by omega)]))
  have HO := Lib.hid (And.intro ok (And.intro st hl))
  have HN := Lib.hid hn
  have HS := Lib.hid hs
  have HU := Lib.hid hu
  have HM := Lib.hid hm
  rw [← hn] at hp h6 HLM
  obtain ⟨g1, cap1, rfl, _, _⟩ := hs.row (n := n) (by omega) hp
  obtain ⟨g, cap, rfl, _, _⟩ := hu.row hn.symm hp
  obtain ⟨g3, cap3, rfl, _, _⟩ := hm.row (HML.out t) hp
  have HLL : Hid ((Nt.turnedL ns ks (t + 1)).length = (List.replicate n 0).length) := Lib.hid (by rw [HML.out, List.length_replicate])
  clear hs hu hm st hl ok hn
  go_enter Try.func54, Try.ntmps54
  go_wp2_with (at_make; refine make_int _ n rfl _ _ rfl rfl rfl ?_ ?_)
  · omega
  · intro w1 hs1 hk1 _
    have HS1 : Hid (Sl w1 w.heap.size (.slice (some ⟨w.heap.size, 0, none⟩) n n) (Nt.nats (Nt.mix (Nt.turnedL ns ks (t + 1)) (List.replicate n 0) 0))) := Lib.hid (by rw [Nt.mix_zero, nats_zeros]; exact hs1)
    have HK1 := Lib.hid hk1
    clear hs1 hk1
    go_wp2_with fail
    go_loopw [14] (fun i wr => ∃ k : Nat, k ≤ n ∧ i = .int .i64 k ∧ Sl wr w.heap.size (.slice (some ⟨w.heap.size, 0, none⟩) n n) (Nt.nats (Nt.mix (Nt.turnedL ns ks (t + 1)) (List.replicate n 0) k)) ∧ Kept [] w wr) (fun i _ => n - (intOf i).toNat)
    case atStart => exact ⟨0, Nat.zero_le _, rfl, HS1.out, HK1.out⟩
    case round =>
      clear HS1 HK1
      obtain ⟨k, hk, rfl, hsl, hkept⟩ := hrel
      have HSL := Lib.hid hsl
      have HK := Lib.hid hkept
      by_cases hlt : k < n
      · have HB := Lib.hid (bestNext_any ns ks HO.out.1 HO.out.2.1 HO.out.2.2 t ht k (by rw [← HN.out]; exact hlt) wr _ _ _ _ _ _ (HS.out.stay hkept) (HU.out.stay hkept) (HM.out.stay hkept))
        rw [← HN.out, HLM.out k hlt] at HB
        have HSET := Lib.hid (Nt.mix_set HLL.out (k := k) (by rw [List.length_replicate]; exact hlt))
        have HMX : Hid ((Nt.nats (Nt.mix (Nt.turnedL ns ks (t + 1)) (List.replicate n 0) k)).length = n) := Lib.hid (by rw [Nt.nats_length, Nt.mix_length HLL.out, List.length_replicate])
        clear hsl hkept
        generalize (Nt.turnedL ns ks (t + 1)).getD k 0 = y at *
        generalize (Nt.leadK ns ks t k n).1 = b at *
        go_wp2_with fail
        refine HB.out.mono ?_
        rintro e w2 ⟨rfl, hq⟩
        have HS2 := Lib.hid (hq.sl HSL.out)
        have HK2 := Lib.hid (HK.out.trans hq.kept (by simp))
        obtain ⟨hcell, hfr⟩ := HS2.out.at k (by rw [HMX.out]; exact hlt)
        clear hq HSL HK HB
        generalize (Nt.nats (Nt.mix (Nt.turnedL ns ks (t + 1)) (List.replicate n 0) k)).getD k 0 = z at *
        go_wp2
        go_roundw
        case rel => exact ⟨k + 1, by omega, by go_num, by rw [← HSET.out, Nt.nats_set]; exact HS2.out.set HMX.out.symm k _, HK2.out.setCell (.inr (Nat.le_refl _)) _⟩
        case measure => simp [intOf]; omega
      · have hk' : k = n := by omega
        subst hk'
        clear hsl hkept
        go_wp2
        go_ret
        exact ⟨_, rfl, by have h := HSL.out; have e := Nt.mix_end HLL.out; rw [List.length_replicate] at e; rw [e] at h; exact h, HK.out⟩

/-- Two boxes: two slices. -/
theorem two_sboxes (w : World) (t : TypeId) (v u : Value) :
    Kept [] w ((w.alloc (.cells #[v] t)).alloc (.cells #[u] t)) ∧
    ((w.alloc (.cells #[v] t)).alloc (.cells #[u] t)).cell? ⟨w.heap.size, 0, none⟩ = some v ∧
    ((w.alloc (.cells #[v] t)).alloc (.cells #[u] t)).cell? ⟨w.heap.size + 1, 0, none⟩ = some u ∧
    ((w.alloc (.cells #[v] t)).alloc (.cells #[u] t)).heap.size = w.heap.size + 2 := by
  refine ⟨((Kept.refl _ _).alloc _).alloc _, ((Boxed.new w t v).alloc _).cell, ?_, by simp⟩
  have h := (Boxed.new (w.alloc (.cells #[v] t)) t u).cell
  have e : (w.alloc (.cells #[v] t)).heap.size = w.heap.size + 1 := by simp
  rw [e] at h
  exact h

theorem enter_most1 (args : Array Value) (w : World) : Sem.run Try.prog (callFunc 53 args) w = .ok (.enter 53 args) w := by kernel_rfl

set_option maxHeartbeats 400000 in
theorem most1_any (ns ks : List Nat) (ok : Nt.Ok ns) (st : Nt.St 3 ks) (hl : ks.length = ns.length) (t : Nat) (ht : t ≤ 60) (w : World) (v : Value) (base : Nat) (u : Value) (base' : Nat) (r : Value) (base2 : Nat) (b1 b2 : Nat)
    (hA : w.cell? ⟨b1, 0, none⟩ = some v) (hB : w.cell? ⟨b2, 0, none⟩ = some u) (hs : Sl w base v (Nt.nats ns)) (hu : Sl w base' u (Nt.nats ks)) (hm : Sl w base2 r (Nt.nats (Nt.turnedL ns ks t))) :
    Calls Try.prog 53 #[r, .pointer (some ⟨b1, 0, none⟩), .pointer (some ⟨b2, 0, none⟩)] w fun e w' => ∃ z, e = .returned z ∧ Sl w' w.heap.size z (Nt.nats (Nt.turnedL ns ks (t + 1))) ∧ Kept [] w w' := by
  have HC := Lib.hid (mostWithAStep_any ns ks ok st hl t ht w _ _ _ _ _ _ hs hu hm)
  obtain ⟨n, hn⟩ : ∃ n, n = ks.length := ⟨_, rfl⟩
  have hp : 0 < n := by have := st.some; omega
  obtain ⟨g1, cap1, rfl, _, _⟩ := hs.row (n := n) (by omega) hp
  obtain ⟨g, cap, rfl, _, _⟩ := hu.row hn.symm hp
  obtain ⟨g3, cap3, rfl, _, _⟩ := hm.row (n := n) (by rw [Nt.turnedL_length]; exact hn.symm) hp
  clear hs hu hm st hl ok hn
  go_enter Try.func53, Try.ntmps53
  go_wp2_with fail
  refine HC.out.mono ?_
  rintro e w1 ⟨z, rfl, hs1, hk1⟩
  have HS1 := Lib.hid hs1
  have HK1 := Lib.hid hk1
  clear hs1 hk1
  go_wp2_with fail
  go_ret
  exact ⟨_, rfl, HS1.out, HK1.out⟩

set_option maxHeartbeats 1000000 in
theorem iMostClimb_any (xs : List Int) (ys : List Int) (steps : Int) (w : World) (v : Value) (base : Nat) (u : Value) (base' : Nat) (hs : Sl w base v xs) (ht : Sl w base' u ys) :
    Calls Try.prog 24 #[v, u, .int .i64 steps] w fun e w' => ∃ z, e = .returned z ∧ Sl w' w.heap.size z (Nt.tturnedOf xs ys steps) ∧ Kept [] w w' := by
  have hmf : ∀ (fn : Fn) (first cap : Array Value) (w : World), (Instr.makeFunc fn first cap).run Try.prog w = .ok (.func fn first cap) w := fun _ _ _ _ => rfl
  obtain ⟨hk1, ha, hb, hsz⟩ := two_sboxes w 23 v u
  have HK1 := Lib.hid hk1
  have HA := Lib.hid ha
  have HB := Lib.hid hb
  have HSZ := Lib.hid hsz
  have HS1 := Lib.hid (hs.stay hk1)
  have HT1 := Lib.hid (ht.stay hk1)
  obtain ⟨a, cap, rfl, _, hm, _⟩ := hs.any
  obtain ⟨a', cap', rfl, _, hm', _⟩ := ht.any
  clear hs ht hk1 ha hb hsz
  cases ho : Nt.fireB xs 3 ys
  · have HF := Lib.hid (Nt.tturnedOf_no1 (steps := steps) ho)
    go_enter Try.func24, Try.ntmps24
    go_wp2_with (go_at_call 48; refine (turningOk_any xs ys _ _ _ _ _ HS1.out HT1.out).mono ?_; rintro e w' ⟨rfl, rfl⟩; rw [ho])
    go_ret
    exact ⟨_, rfl, by rw [HF.out]; exact Sl.nil _ _, HK1.out⟩
  · cases h2 : Nt.stepsB steps
    · have HF := Lib.hid (Nt.tturnedOf_no2 (xs := xs) (ys := ys) h2)
      go_enter Try.func24, Try.ntmps24
      go_wp2_with (first | (go_at_call 48; refine (turningOk_any xs ys _ _ _ _ _ HS1.out HT1.out).mono ?_; rintro e w' ⟨rfl, rfl⟩; rw [ho]) | (go_at_call 51; refine (runOk_any steps _).mono ?_; rintro e w' ⟨rfl, rfl⟩; rw [h2]))
      go_ret
      exact ⟨_, rfl, by rw [HF.out]; exact Sl.nil _ _, HK1.out⟩
    · obtain ⟨ns, ks, rfl, rfl, ok, st, hl⟩ := Nt.fireB3_ok ho
      obtain ⟨t, rfl, ht60⟩ := Nt.stepsB_ok h2
      have HF := Lib.hid (Nt.tturnedOf_ok ok st hl ht60)
      have HOK := Lib.hid ok
      have HST := Lib.hid st
      have HL := Lib.hid hl
      obtain ⟨n, hn⟩ : ∃ n, n = ks.length := ⟨_, rfl⟩
      have h6 := st.few
      have hp := st.some
      have hln : (Nt.nats ns).length = n := by rw [Nt.nats_length]; omega
      have hlk : (Nt.nats ks).length = n := by rw [Nt.nats_length]; omega
      have HN := Lib.hid hn
      rw [← hn] at h6 hp
      rw [hln, hlk] at HA HB HSZ HK1 HS1 HT1 ⊢
      clear ok st hl hm hm' hln hlk hn
      go_enter Try.func24, Try.ntmps24
      go_wp2_with (first | (go_at_call 48; refine (turningOk_any _ _ _ _ _ _ _ HS1.out HT1.out).mono ?_; rintro e w' ⟨rfl, rfl⟩; rw [ho]) | (go_at_call 51; refine (runOk_any _ _).mono ?_; rintro e w' ⟨rfl, rfl⟩; rw [h2]) | (at_make; refine make_int _ n rfl _ _ rfl rfl rfl ?_ ?_))
      · omega
      · intro w2 hs2 hk2 hlt2
        generalize hw1 : (w.alloc (.cells #[Value.slice a n cap] 23)).alloc (.cells #[Value.slice a' n cap'] 23) = w1 at *
        have HS2 := Lib.hid hs2
        have HK2 := Lib.hid hk2
        clear hs2 hk2 hlt2 ho h2
        go_wp2_with fail
        have hz0 : Nt.nats (Nt.turnedL ns ks 0) = List.replicate n 0 := by rw [Nt.turnedL_zero, nats_zeros, ← HN.out]
        refine (foldedSteps_any 53 #[.pointer (some ⟨w.heap.size, 0, none⟩), .pointer (some ⟨w.heap.size + 1, 0, none⟩)] (Nt.turnedL ns ks) n t ht60 hp h6 (fun t => by rw [Nt.turnedL_length]; exact HN.out.symm) (fun _ wr => Kept [] w2 wr) [] w2.heap.size enter_most1 ?_ (fun _ _ _ _ h k => h.trans k (by simp)) (by simp) w2 _ _ (Nat.le_refl _) (by rw [hz0]; exact HS2.out) (Kept.refl _ _)).mono ?_
        · intro t' ht' w3 v3 base3 hs3 hj _
          have hz := HSZ.out
          have hks := HK2.out.size
          have hk13 : Kept [] w1 w3 := HK2.out.trans hj (by simp)
          have h := most1_any ns ks HOK.out HST.out HL.out t' (by omega) w3 _ base _ base' v3 base3 w.heap.size (w.heap.size + 1)
            ((hk13.cell (p := ⟨w.heap.size, 0, none⟩) (by show w.heap.size < w1.heap.size; omega) (by simp)).trans HA.out) ((hk13.cell (p := ⟨w.heap.size + 1, 0, none⟩) (by show w.heap.size + 1 < w1.heap.size; omega) (by simp)).trans HB.out)
            (HS1.out.stay hk13) (HT1.out.stay hk13) hs3
          refine Calls.mono (by simpa using h) ?_
          rintro e w4 ⟨z, rfl, hs4, hk4⟩
          exact ⟨z, rfl, hs4, hj.trans hk4 (by simp), hk4⟩
        · rintro e w3 ⟨z, rfl, hs3, _, hk3⟩
          have HS3 := Lib.hid (hs3.mono (Nat.le_trans HK1.out.size HK2.out.size))
          have HK3 := Lib.hid ((HK1.out.trans HK2.out (by simp)).trans hk3 (by simp))
          clear hs3 hk3
          go_wp2_with fail
          go_ret
          exact ⟨_, rfl, by rw [HF.out]; exact HS3.out, HK3.out⟩
end Go.Proofs.Ythhnhnfflmmmlaa

namespace Go.Proofs.Ythhnhnfflmmmlaa
open Go.RowKit

theorem info_row : (Try.prog.info? 23).map (fun i => (i.zero, i.size, i.bytes)) = some (some (.slice none 0 0), 1, 24) := by kernel_rfl

/-- A slice of slices, each of which holds the numbers of its place. -/
def Rw (w : World) (base : Nat) (v : Value) (vs : List Value) (s : Nat → List Nat) : Prop :=
  w.ownsRow base 23 1 v vs.length vs ∧ ∀ i, i < vs.length → Sl w base (vs.getD i undef) (Nt.nats (s i))

/-- Blocks of numbers are no blocks of slices. -/
theorem Sl.other {w : World} {base base' : Nat} {u v : Value} {xs : List Int} {vs : List Value} (h : Sl w base u xs) (k : w.ownsRow base' 23 1 v vs.length vs) : ∀ g, u.ownBlock = some g → ¬ g ∈ v.ownBlock.toList := by
  intro g hg hm
  have hv : v.ownBlock = some g := by simpa using hm
  rcases h.2 with ⟨rfl, _⟩ | ⟨g1, cap1, cur1, rfl, _, hg1, _⟩
  · simp [Value.ownBlock] at hg
  · rcases k.2 with ⟨rfl, _⟩ | ⟨g2, cap2, cur2, rfl, _, hg2, _⟩
    · simp [Value.ownBlock] at hv
    · simp [Value.ownBlock] at hg hv
      subst hg
      subst hv
      rw [hg1] at hg2
      simp at hg2
theorem ownsRow_stay {w w' : World} {base : Nat} {v : Value} {n : Nat} {vs : List Value} {rows : List Nat} {e : TypeId} (h : w.ownsRow base e 1 v n vs) (hk : Kept rows w w') (hn : ∀ g, v.ownBlock = some g → ¬ g ∈ rows) : w'.ownsRow base e 1 v n vs := by
  refine ⟨h.1, ?_⟩
  rcases h.2 with hn | ⟨g, cap, cur, rfl, hb, hgg, rest⟩
  · exact .inl hn
  · refine .inr ⟨g, cap, cur, rfl, hb, ?_, rest⟩
    rw [hk.block g (Array.getElem?_eq_some_iff.1 hgg).1 (hn g rfl)]
    exact hgg
theorem Rw.stay {w w' : World} {base : Nat} {v : Value} {vs : List Value} {s : Nat → List Nat} (h : Rw w base v vs s) (hk : Kept [] w w') : Rw w' base v vs s :=
  ⟨ownsRow_stay h.1 hk (by simp), fun i hi => (h.2 i hi).stay hk⟩
theorem Rw.mono {w : World} {base base' : Nat} {v : Value} {vs : List Value} {s : Nat → List Nat} (h : Rw w base v vs s) (hb : base' ≤ base) : Rw w base' v vs s := by
  refine ⟨⟨h.1.1, ?_⟩, fun i hi => (h.2 i hi).mono hb⟩
  rcases h.1.2 with hn | ⟨g, cap, cur, hv, hbg, rest⟩
  · exact .inl hn
  · exact .inr ⟨g, cap, cur, hv, by omega, rest⟩
/-- Where it lies, and its cells. -/
theorem Rw.form {w : World} {base n : Nat} {v : Value} {vs : List Value} {s : Nat → List Nat} (h : Rw w base v vs s) (hn : vs.length = n) (hp : 0 < n) :
    ∃ g cap, v = .slice (some ⟨g, 0, none⟩) n cap ∧ base ≤ g ∧ g < w.heap.size ∧ n ≤ cap ∧ cap ≤ 9223372036854775807 ∧ ∀ k, k < n → w.cell? ⟨g, k, none⟩ = some (vs.getD k undef) := by
  subst hn
  rcases h.1.2 with ⟨_, hn⟩ | ⟨g, cap, cur, rfl, hb, hg, hc, hm, hs, ht⟩
  · omega
  · refine ⟨g, cap, rfl, hb, (Array.getElem?_eq_some_iff.1 hg).1, hc, by simpa [maxLen] using hm, fun k hk => ?_⟩
    rw [World.ownsRow.cellAt h.1 k (by omega)]
    simp [List.getD_eq_getElem?_getD, hk]
/-- One row alone, written out in the text. -/
theorem Rw.lit {w : World} {base : Nat} {u : Value} {s : Nat → List Nat} (h : Sl w base u (Nt.nats (s 0))) (hb : base ≤ w.heap.size) : Rw (w.alloc (.cells #[u] 23)) base (.slice (some ⟨w.heap.size, 0, none⟩) 1 1) [u] s := by
  refine ⟨World.ownsRow_lit (base := base) (e := 23) (size := 1) w #[u] 1 hb (by simp only [maxLen]; omega) (by simp), fun i hi => ?_⟩
  have : i = 0 := by simp at hi; exact hi
  subst this
  exact h.stay ((Kept.refl _ _).alloc _)

/-- 'append(rows, row)'. -/
theorem app_row {ops : Array Oper} {rest : List Oper} {o : Oper} {a : Act} {Q : Exit → Act → World → Prop} {w0 : World} (u : Value) (hgd : o.guard = none) (x y : Operand)
    (ho : o.op = .call { callee := .builtin .append, args := #[x, y], argTypes := #[64, 64] })
    (base : Nat) (v : Value) (vs : List Value) (s : Nat → List Nat) (hown : Rw w0 base v vs s) (hs : a.eval x = v) (hx : a.eval y = .slice (some ⟨w0.heap.size, 0, none⟩) 1 1) (hu : Sl w0 base u (Nt.nats (s vs.length)))
    (hlen : vs.length ≤ 1000000) (hbase : base ≤ w0.heap.size)
    (h : ∀ v' w', Rw w' base v' (vs ++ [u]) s → Kept v.ownBlock.toList w0 w' → wpList Try.prog ops Q rest (a.put o.dst v') w') :
    wpList Try.prog ops Q (o :: rest) a (w0.alloc (.cells #[u] 23)) := by
  obtain ⟨i0, hi, hz0, hz1, hz2⟩ := info_parts info_row
  have hcell : u.oneCell' = true := by
    rcases hu.2 with ⟨rfl, _⟩ | ⟨g, cap, cur, rfl, _⟩ <;> rfl
  refine wpList_append_own _ hgd x y _ ho base 23 i0 (.slice none 0 0) 1 24 Try.underlying64 hi hz0 hz1 hz2 rfl (by decide) v vs.length vs hs (World.ownsRow.alloc hown.1 _)
    ⟨w0.heap.size, 0, none⟩ 1 1 [u] hx rfl (cell_one_new _ _ _) (by intro z hz; simp at hz; subst hz; exact hcell) (by unfold maxLen; omega) (by omega) (by simp; omega) ?_
  intro v' w' h1 h2 _
  have hk : Kept v.ownBlock.toList w0 w' := (Kept.refl _ _).alloc _ |>.grown h2 fun k hk => .inl (by rw [hk]; simp)
  refine h v' w' ⟨by rw [List.length_append]; exact h1, fun i hi => ?_⟩ hk
  by_cases e : i < vs.length
  · have e2 : (vs ++ [u]).getD i undef = vs.getD i undef := by rw [List.getD_eq_getElem?_getD, List.getElem?_append_left e, ← List.getD_eq_getElem?_getD]
    rw [e2]
    exact (hown.2 i e).kept hk ((hown.2 i e).other hown.1)
  · have e1 : i = vs.length := by rw [List.length_append] at hi; simp at hi; omega
    subst e1
    have e2 : (vs ++ [u]).getD vs.length undef = u := by simp [List.getD_eq_getElem?_getD]
    rw [e2]
    exact hu.kept hk (hu.other hown.1)
end Go.Proofs.Ythhnhnfflmmmlaa

namespace Go.Proofs.Ythhnhnfflmmmlaa
open Go.RowKit Go.Shelf

attribute [local go_sem] Oper.semAt_some

/-- How a round may be left here: it goes on. -/
def goesOn (R : World → Prop) : Exit → Act → World → Prop
  | .normal, _, W' => R W'
  | _, _, _ => False

/-- A range over a function that hands over so many things, one after the other: what I says holds behind each number of rounds. -/
theorem range_hands {gv : Operand} {ps : Array Tmp} {assign body : Code} {Q : Exit → Act → World → Prop} {a : Act} {w : World} {gf m : Nat} {lb : Array Value} {ar : Nat → Array Value}
    (hg : a.eval gv = .func (.func gf) #[] lb) (eg : ∀ args w, (callFunc gf args).run Try.prog w = .ok (.enter gf args) w) (hps : ∀ k, (ar k).size = ps.size)
    (I : Nat → World → Prop) (hlay : ∀ o : Loop, I 0 ((w.alloc (.deferred (some []))).alloc (.loop o)))
    (hturn : ∀ k W l r r', w.heap.size ≤ l → W.heap[l]? = some (.loop r) → I k W → I k (W.putObj l (.loop r')))
    (hseq : ∀ (l : Nat) (J : Nat → World → Prop) (W : World), (∀ k W, J k W → I k W) → (∀ k W, k < m → J k W → YieldAt Fence.wide 7 Try.prog l (ar k) W fun e W' => e = .returned (.bool true) ∧ J (k + 1) W') → J 0 W →
      CallsIn Fence.wide 8 Try.prog gf (#[.func (.yield l) #[] #[]] ++ lb) W fun e W' => (∃ v, e = .returned v) ∧ J m W')
    (hround : ∀ (l k : Nat) (W : World) (K : Act → World → Prop), k < m → (∀ a₁, (∀ W2, I k W2 → body.wpIn (Fence.wide.inRound l) 7 Try.prog (goesOn fun W' => KeepsOthers W2 W' ∧ I (k + 1) W') a₁ W2) → K a₁ W) →
      assign.wpIn (Fence.wide.inRound l) 7 Try.prog (Exit.then K (fun _ _ _ => False)) { tmps := (ps.zip (ar k)).foldl (fun t (p, v) => t.setIfInBounds p v) a.tmps, defers := [] } W)
    (hdone : ∀ (D : Nat) (W : World), w.heap.size ≤ D → I m W → W.heap[D]? = some (.deferred (some [])) → Q .normal { a with defers := { target := .collected D, args := #[] } :: a.defers } W) :
    (Code.rangeFunc gv ps assign body).wpIn Fence.wide 9 Try.prog Q a w := by
  refine wpIn_rangeFunc fun fn hfn => ?_
  let rec0 : Loop := { state := .ready, pending := none, fn, tmps := a.tmps, params := ps, assign, body, defers := w.heap.size }
  have e1 : ((w.alloc (.deferred (some []))).alloc (.loop rec0)).heap[w.heap.size + 1]? = some (.loop rec0) := by
    have h := World.alloc_heap_new (w.alloc (.deferred (some []))) (.loop rec0)
    rwa [World.size_alloc] at h
  have e2 : ((w.alloc (.deferred (some []))).alloc (.loop rec0)).heap[w.heap.size]? = some (.deferred (some [])) :=
    (Below.heap_alloc _ _ _ (by simp)).trans (World.alloc_heap_new w _)
  obtain ⟨W1, hW1⟩ : ∃ W1, (w.alloc (.deferred (some []))).alloc (.loop rec0) = W1 := ⟨_, rfl⟩
  rw [hW1] at e1 e2
  have hI0 : I 0 W1 := by rw [← hW1]; exact hlay _
  refine ⟨w.heap.size + 1, [{ target := .collected w.heap.size, args := #[] }], W1, { target := .fn (.func gf) lb, args := #[.func (.yield (w.heap.size + 1)) #[] #[]] }, W1, gf, #[.func (.yield (w.heap.size + 1)) #[] #[]] ++ lb, W1, ?_, ?_, fun _ _ => trivial, ?_, ?_, ?_⟩
  · rw [← hW1]; exact run_enterLoop_outer _ _ _ _ _
  · simp only [resolve, hg]
    simp [go_sem]
  · simp [invoke, go_sem, eg]
  · intro h; simp [Fence.wide] at h
  · have hJ : CallsIn Fence.wide 8 Try.prog gf (#[.func (.yield (w.heap.size + 1)) #[] #[]] ++ lb) W1 fun e W' => (∃ v, e = .returned v) ∧
        (I m W' ∧ W'.heap[w.heap.size + 1]? = some (.loop rec0) ∧ W'.heap[w.heap.size]? = some (.deferred (some []))) := by
      refine hseq (w.heap.size + 1) (fun k W => I k W ∧ W.heap[w.heap.size + 1]? = some (.loop rec0) ∧ W.heap[w.heap.size]? = some (.deferred (some []))) _ (fun _ _ h => h.1) ?_ ⟨hI0, e1, e2⟩
      rintro k W hk ⟨hi, hl, hd⟩
      refine ⟨fn, _, assign, body, run_yield hl (hps k), roundIn_of_wpIn hfn (hround _ k W _ hk fun a₁ hbody => ⟨_, run_beginRound hl rfl, ?_⟩)⟩
      have hlt : w.heap.size + 1 < W.heap.size := (Array.getElem?_eq_some_iff.1 hl).1
      have hl2 := World.putObj_heap_same (o := .loop { rec0 with state := .busy }) hlt
      have hd2 := (World.putObj_heap_other (w := W) (o := .loop { rec0 with state := .busy }) (show w.heap.size ≠ w.heap.size + 1 by omega)).trans hd
      refine wpIn_mono (hbody _ (hturn k W _ _ _ (by omega) hl hi)) ?_
      rintro e a3 W3 hp
      cases e with
      | normal =>
        obtain ⟨hko, hi3⟩ := hp
        have hl3 := hko.same _ _ hl2 rfl
        have hd3 := hko.same _ _ hd2 rfl
        exact ⟨_, _, run_endRound none hl3, rfl, hturn _ _ _ _ _ (by omega) hl3 hi3, World.putObj_heap_same (Array.getElem?_eq_some_iff.1 hl3).1, (World.putObj_heap_other (by omega)).trans hd3⟩
      | ret => exact hp.elim
      | exit id => exact hp.elim
      | goto t => exact hp.elim
      | panic ch => exact hp.elim
      | outgrown => exact hp.elim
    refine hJ.mono ?_
    rintro e W2 ⟨⟨v, rfl⟩, hi, hl, hd⟩
    exact ⟨none, _, run_endLoop hl (by simp [rec0]), hdone _ _ (Nat.le_refl _) (hturn _ _ _ _ _ (by omega) hl hi) ((World.putObj_heap_other (by omega)).trans hd)⟩

set_option maxRecDepth 100000 in
set_option maxHeartbeats 2000000 in
theorem backRows1_in (l Bs g m cap : Nat) (hm : m ≤ 1000) (vs : List Value) (J : Nat → World → Prop)
    (hread : ∀ k W, J k W → W.cell? ⟨Bs, 0, none⟩ = some (.slice (some ⟨g, 0, none⟩) m cap) ∧ ∀ j, j < m → W.cell? ⟨g, j, none⟩ = some (vs.getD j undef))
    (hY : ∀ k W, k < m → J k W → YieldAt Fence.wide 7 Try.prog l #[.int .i64 ((m - 1 - k : Nat) : Int), vs.getD (m - 1 - k) undef] W fun e W' => e = .returned (.bool true) ∧ J (k + 1) W')
    (W : World) (h0 : J 0 W) :
    CallsIn Fence.wide 8 Try.prog 73 #[.func (.yield l) #[] #[], .pointer (some ⟨Bs, 0, none⟩)] W fun e W' => (∃ v, e = .returned v) ∧ J m W' := by
  have HB := Lib.hid (hread 0 W h0).1
  refine callsIn_of_wp Try.func73 rfl trivial ?_ rfl
  simp only [Try.ntmps73, List.size_toArray, List.length_cons, List.length_nil, Nat.reduceAdd, Nat.reduceSub, Array.replicate_succ, Array.replicate_zero, List.push_toArray, List.append_toArray, List.nil_append, List.cons_append]
  have hb := HB.out
  gi_wp2
  gi_loopw [3] (fun i wr => ∃ k : Nat, k ≤ m ∧ i = .int .i64 ((m : Int) - 1 - (k : Int)) ∧ J k wr) (fun i _ => (intOf i + 1).toNat)
  case atStart => exact ⟨0, Nat.zero_le _, by simp, h0⟩
  case round =>
    clear hb HB
    obtain ⟨k, hk, rfl, hJs⟩ := hrel
    obtain ⟨hbs, hcs⟩ := hread k wr hJs
    by_cases hlt : k < m
    · obtain ⟨j, hj⟩ : ∃ j, j = m - 1 - k := ⟨_, rfl⟩
      have hcx := hcs j (by omega)
      have e0 : (m : Int) - 1 - (k : Int) = (j : Int) := by omega
      obtain ⟨fn, tmps, assign, body, hy, hR⟩ := hY k wr hlt hJs
      rw [← hj] at hy
      rw [e0]
      have hjm : j < m := by omega
      have HE2 : Hid ((j : Int) - 1 = (m : Int) - 1 - ((k + 1 : Nat) : Int)) := Lib.hid (by omega)
      clear hj e0 hcs
      generalize vs.getD j undef = x at *
      gi_wp2
      refine hR.mono ?_
      rintro e W3 ⟨rfl, hJ3⟩
      gi_wp2
      go_roundw
      case rel => exact ⟨k + 1, by omega, by rw [← HE2.out], hJ3⟩
      case measure => first | (simp [intOf]; done) | (simp [intOf]; omega)
    · obtain rfl : k = m := by omega
      have e0 : (k : Int) - 1 - (k : Int) = -1 := by omega
      rw [e0]
      clear hcs
      gi_wp2
      go_end0
      exact ⟨⟨_, rfl⟩, hJs⟩

set_option maxHeartbeats 1000000 in
theorem backRows_any (a : Option Addr) (len cap : Nat) (w : World) :
    Calls Try.prog 62 #[.slice a len cap] w fun e w' => e = .returned (.func (.func 73) #[] #[.pointer (some ⟨w.heap.size, 0, none⟩)]) ∧ w' = w.alloc (.cells #[.slice a len cap] 64) := by
  refine (callsIn_wide (n := 9)).1 ?_
  refine callsIn_of_wp Try.func62 rfl trivial ?_ rfl
  simp only [Try.ntmps62, List.size_toArray, List.length_cons, List.length_nil, Nat.reduceAdd, Nat.reduceSub, Array.replicate_succ, Array.replicate_zero, List.push_toArray, List.append_toArray, List.nil_append, List.cons_append]
  gi_wp2
  go_ret
  exact ⟨rfl, rfl⟩

set_option maxHeartbeats 1000000 in
/-- The first row of which a function says yes. -/
theorem indexRows_any (F : Nat) (caps : Array Value) (vs : List Value) (n f : Nat) (hn : vs.length = n) (hf : f < n) (h1000 : n ≤ 1000) (s : Nat → List Nat)
    (hent : ∀ (args : Array Value) (w : World), Sem.run Try.prog (callFunc F args) w = .ok (.enter F args) w) (w : World)
    (hsay : ∀ i, i ≤ f → ∀ w', Qt w w' → Calls Try.prog F (#[vs.getD i undef] ++ caps) w' fun e w'' => e = .returned (.bool (decide (i = f))) ∧ Qt w' w'')
    (v : Value) (base : Nat) (hr : Rw w base v vs s) :
    Calls Try.prog 60 #[v, .func (.func F) #[] caps] w fun e w' => e = .returned (.int .i64 (f : Int)) ∧ Qt w w' := by
  obtain ⟨g, cap, rfl, _, _, _, _, hc⟩ := hr.form hn (by omega)
  have HC := Lib.hid hc
  have HENT := Lib.hid hent
  have HSAY := Lib.hid hsay
  clear hr hc hent hsay hn
  go_enter Try.func60, Try.ntmps60
  go_wp2
  go_loopw [8] (fun i wr => ∃ k : Nat, k ≤ f ∧ i = .int .i64 k ∧ Qt w wr) (fun i _ => f - (intOf i).toNat)
  case atStart => exact ⟨0, Nat.zero_le _, rfl, Qt.refl _⟩
  case round =>
    obtain ⟨k, hk, rfl, hq⟩ := hrel
    have HQ := Lib.hid hq
    have ck := (hq.cell _).trans (HC.out k (by omega))
    have hkn : k < n := by omega
    have HS := Lib.hid (HSAY.out k hk wr hq)
    clear hq
    generalize vs.getD k undef = u at *
    go_wp2_with fail
    rw [HENT.out, Oper.upon_enter]
    by_cases hlt : k = f
    · rw [decide_eq_true hlt] at HS
      refine (HS.out).mono ?_
      rintro e w2 ⟨rfl, hq2⟩
      have HQ2 := Lib.hid (HQ.out.trans hq2)
      have HKF := Lib.hid hlt
      clear hq2 ck hlt
      go_wp2
      go_ret
      exact ⟨by rw [← HKF.out]; rfl, HQ2.out⟩
    · rw [decide_eq_false hlt] at HS
      refine (HS.out).mono ?_
      rintro e w2 ⟨rfl, hq2⟩
      have HQ2 := Lib.hid (HQ.out.trans hq2)
      clear hq2 ck
      go_wp2
      go_roundw
      case rel => exact ⟨k + 1, by omega, by go_num, HQ2.out⟩
      case measure => simp [intOf]; omega
end Go.Proofs.Ythhnhnfflmmmlaa

namespace Go.Proofs.Ythhnhnfflmmmlaa
open Go.RowKit

set_option maxHeartbeats 2000000 in
theorem mostRows_any (ns ks : List Nat) (ok : Nt.Ok ns) (st : Nt.St 3 ks) (hl : ks.length = ns.length) (t : Nat) (ht : t ≤ 60) (w : World) (v : Value) (base : Nat) (u : Value) (base' : Nat)
    (hs : Sl w base v (Nt.nats ns)) (hu : Sl w base' u (Nt.nats ks)) :
    Calls Try.prog 59 #[v, u, .int .i64 (t : Int)] w fun e w' => ∃ z vs, e = .returned z ∧ vs.length = t + 1 ∧ Rw w' w.heap.size z vs (Nt.turnedL ns ks) ∧ Kept [] w w' := by
  obtain ⟨n, hn⟩ : ∃ n, n = ks.length := ⟨_, rfl⟩
  have hp := st.some
  have h6 := st.few
  have HO := Lib.hid (And.intro ok (And.intro st hl))
  have HN := Lib.hid hn
  have HS := Lib.hid hs
  have HU := Lib.hid hu
  have hz0 : Nt.nats (Nt.turnedL ns ks 0) = List.replicate n 0 := by rw [Nt.turnedL_zero, nats_zeros, ← hn]
  have HZ0 := Lib.hid hz0
  rw [← hn] at hp h6
  obtain ⟨g1, cap1, rfl, _, _⟩ := hs.row (n := n) (by omega) hp
  obtain ⟨g, cap, rfl, _, _⟩ := hu.row hn.symm hp
  clear hs hu st hl ok hn hz0
  go_enter Try.func59, Try.ntmps59
  go_wp2_with (at_make; refine make_int _ n rfl _ _ rfl rfl rfl ?_ ?_)
  · omega
  · intro w1 hs1 hk1 hlt1
    have HR1 : Hid (Rw (w1.alloc (.cells #[.slice (some ⟨w.heap.size, 0, none⟩) n n] 23)) w.heap.size (.slice (some ⟨w1.heap.size, 0, none⟩) 1 1) [.slice (some ⟨w.heap.size, 0, none⟩) n n] (Nt.turnedL ns ks)) :=
      Lib.hid (Rw.lit (by rw [HZ0.out]; exact hs1) (by omega))
    have HK1 : Hid (Kept [] w (w1.alloc (.cells #[.slice (some ⟨w.heap.size, 0, none⟩) n n] 23))) := Lib.hid (hk1.alloc _)
    clear hs1 hk1
    go_wp2_with fail
    generalize w1.alloc (.cells #[.slice (some ⟨w.heap.size, 0, none⟩) n n] 23) = w2 at *
    go_loopw [7, 14] (fun z i wr => ∃ (k : Nat) (vs : List Value), k ≤ t ∧ i = .int .i64 k ∧ vs.length = k + 1 ∧ Rw wr w.heap.size z vs (Nt.turnedL ns ks) ∧ Kept [] w wr) (fun _ i _ => t - (intOf i).toNat)
    case atStart => exact ⟨0, _, Nat.zero_le _, rfl, rfl, HR1.out, HK1.out⟩
    case round =>
      clear HR1 HK1
      obtain ⟨k, vs, hk, rfl, hvl, hrw, hkept⟩ := hrel
      have HR := Lib.hid hrw
      have HK := Lib.hid hkept
      have HVL := Lib.hid hvl
      by_cases hlt : k < t
      · obtain ⟨gz, capz, rfl, hgz, hgzl, _, _, hcz⟩ := hrw.form hvl (by omega)
        have ck := hcz k (by omega)
        have hsl := hrw.2 k (by omega)
        generalize vs.getD k undef = x at *
        have HM := Lib.hid (mostWithAStep_any ns ks HO.out.1 HO.out.2.1 HO.out.2.2 k (by omega) wr _ _ _ _ _ _ (HS.out.stay hkept) (HU.out.stay hkept) hsl)
        clear hrw hkept hcz hsl hvl
        go_wp2_with fail
        refine HM.out.mono ?_
        rintro e w3 ⟨y, rfl, hs3, hk3⟩
        obtain ⟨gy, capy, rfl, _, _⟩ := hs3.row (n := n) (by rw [Nt.turnedL_length, HN.out]) hp
        have HY := Lib.hid (show Sl w3 w.heap.size (.slice (some ⟨gy, 0, none⟩) n capy) (Nt.nats (Nt.turnedL ns ks vs.length)) from by rw [HVL.out]; exact hs3.mono HK.out.size)
        have HR3 := Lib.hid (HR.out.stay hk3)
        have HK3 := Lib.hid (HK.out.trans hk3 (by simp))
        clear hs3 hk3 HR HK HM ck
        go_wp2_with (at_builtin; refine app_row _ rfl _ _ rfl w.heap.size _ vs (Nt.turnedL ns ks) HR3.out rfl rfl HY.out (by rw [HVL.out]; omega) HK3.out.size ?_; intro v' w4 hr4 hk4; have HR4 := Lib.hid hr4; have HK4 := Lib.hid hk4; clear hr4 hk4)
        go_roundw
        case rel => exact ⟨k + 1, _, by omega, by go_num, by rw [List.length_append, HVL.out]; rfl, HR4.out, HK3.out.own HK4.out (fun g hg => by simp [Value.ownBlock] at hg; omega)⟩
        case measure => simp [intOf]; omega
      · have hk' : k = t := by omega
        subst hk'
        clear hrw hkept hvl
        go_wp2
        go_ret
        exact ⟨_, vs, rfl, HVL.out, HR.out, HK.out⟩

set_option maxHeartbeats 1000000 in
/-- Whether so much is climbed with so many steps. -/
theorem best1_any (n c x T : Nat) (row : List Nat) (hr : row.length = n) (hc : c < n) (hx : row.getD c 0 = x) (w : World) (u : Value) (base : Nat) (b1 b2 : Nat) (hs : Sl w base u (Nt.nats row))
    (hA : w.cell? ⟨b1, 0, none⟩ = some (.int .i64 (c : Int))) (hB : w.cell? ⟨b2, 0, none⟩ = some (.int .i64 (T : Int))) :
    Calls Try.prog 61 #[u, .pointer (some ⟨b1, 0, none⟩), .pointer (some ⟨b2, 0, none⟩)] w fun e w' => e = .returned (.bool (decide (x = T))) ∧ Qt w w' := by
  obtain ⟨g, cap, rfl, hg, hcs⟩ := hs.row hr (by omega)
  have ck := hcs c hc
  rw [hx] at ck
  clear hs hcs hx hr
  by_cases e : x = T
  · have d : ((x : Int) == (T : Int)) = true := by simp [e]
    have HD : Hid (decide (x = T) = true) := Lib.hid (decide_eq_true e)
    clear e
    go_enter Try.func61, Try.ntmps61
    go_wp2_with fail
    go_quiet (fail)
    go_wp2
    go_ret
    exact ⟨by rw [HD.out]; rfl, (Qt.refl _).draw _⟩
  · have d : ((x : Int) == (T : Int)) = false := by simp; omega
    have HD : Hid (decide (x = T) = false) := Lib.hid (decide_eq_false e)
    clear e
    go_enter Try.func61, Try.ntmps61
    go_wp2_with fail
    go_quiet (fail)
    go_wp2
    go_ret
    exact ⟨by rw [HD.out]; rfl, (Qt.refl _).draw _⟩

theorem enter_best1 (args : Array Value) (w : World) : Sem.run Try.prog (callFunc 61 args) w = .ok (.enter 61 args) w := by kernel_rfl
theorem enter_back1 (args : Array Value) (w : World) : Sem.run Try.prog (callFunc 73 args) w = .ok (.enter 73 args) w := by kernel_rfl
end Go.Proofs.Ythhnhnfflmmmlaa

namespace Go.Proofs.Ythhnhnfflmmmlaa
open Go.RowKit Go.Shelf

attribute [local go_sem] Oper.semAt_some

/-- Three boxes: two slices and a number. -/
theorem three_boxes (w : World) (t : TypeId) (v u : Value) (x : Int) :
    Kept [] w (((w.alloc (.cells #[v] t)).alloc (.cells #[u] t)).alloc (.cells #[.int .i64 x] 3)) ∧
    (((w.alloc (.cells #[v] t)).alloc (.cells #[u] t)).alloc (.cells #[.int .i64 x] 3)).cell? ⟨w.heap.size, 0, none⟩ = some v ∧
    (((w.alloc (.cells #[v] t)).alloc (.cells #[u] t)).alloc (.cells #[.int .i64 x] 3)).cell? ⟨w.heap.size + 1, 0, none⟩ = some u ∧
    (((w.alloc (.cells #[v] t)).alloc (.cells #[u] t)).alloc (.cells #[.int .i64 x] 3)).cell? ⟨w.heap.size + 1 + 1, 0, none⟩ = some (.int .i64 x) ∧
    Boxed (((w.alloc (.cells #[v] t)).alloc (.cells #[u] t)).alloc (.cells #[.int .i64 x] 3)) (w.heap.size + 1 + 1) 3 (.int .i64 x) ∧
    (((w.alloc (.cells #[v] t)).alloc (.cells #[u] t)).alloc (.cells #[.int .i64 x] 3)).heap.size = w.heap.size + 3 := by
  obtain ⟨k1, a1, b1, s1⟩ := two_sboxes w t v u
  have h := Boxed.new ((w.alloc (.cells #[v] t)).alloc (.cells #[u] t)) 3 (.int .i64 x)
  have hk : Kept [] ((w.alloc (.cells #[v] t)).alloc (.cells #[u] t)) (((w.alloc (.cells #[v] t)).alloc (.cells #[u] t)).alloc (.cells #[.int .i64 x] 3)) := (Kept.refl _ _).alloc _
  rw [s1] at h
  exact ⟨k1.alloc _, (hk.cell (p := ⟨w.heap.size, 0, none⟩) (by show w.heap.size < ((w.alloc (.cells #[v] t)).alloc (.cells #[u] t)).heap.size; omega) (by simp)).trans a1, (hk.cell (p := ⟨w.heap.size + 1, 0, none⟩) (by show w.heap.size + 1 < ((w.alloc (.cells #[v] t)).alloc (.cells #[u] t)).heap.size; omega) (by simp)).trans b1, h.cell, h, by simp⟩

theorem Boxed.stay {W W' : World} {B : Nat} {t : TypeId} {v : Value} {rows : List Nat} (h : Boxed W B t v) (hk : Kept rows W W') (hn : ¬ B ∈ rows) : Boxed W' B t v := (hk.block B h.lt hn).trans h
theorem Kept.weaken {w w' : World} (h : Kept [] w w') (rows : List Nat) : Kept rows w w' := ⟨h.os, h.tape, h.output, h.size, fun k hk _ => h.block k hk (by simp)⟩

/-- What the boxes hold between two rounds: a node, the tour so far, the rows; and nothing else has turned. -/
structure BI (w5 : World) (b6 b12 Bs : Nat) (rows : Value) (c : Nat) (tr : List Nat) (W : World) : Prop where
  node : Boxed W b6 3 (.int .i64 (c : Int))
  tour : ∃ v, Boxed W b12 23 v ∧ Sl W w5.heap.size v (Nt.nats tr)
  back : Boxed W Bs 64 rows
  kept : Kept [b6] w5 W

theorem BI.alloc {w5 : World} {b6 b12 Bs c : Nat} {rows : Value} {tr : List Nat} {W : World} (h : BI w5 b6 b12 Bs rows c tr W) (o : Obj) : BI w5 b6 b12 Bs rows c tr (W.alloc o) := by
  obtain ⟨v, h1, h2⟩ := h.tour
  exact ⟨h.node.alloc o, ⟨v, h1.alloc o, h2.stay ((Kept.refl _ _).alloc o)⟩, h.back.alloc o, h.kept.alloc o⟩
theorem BI.turn {w5 : World} {b6 b12 Bs c : Nat} {rows : Value} {tr : List Nat} {W : World} (h : BI w5 b6 b12 Bs rows c tr W) {l : Nat} {o : Obj} (o' : Obj) (hl : w5.heap.size ≤ l) (ho : W.heap[l]? = some o) (hc : o.isCells = false) : BI w5 b6 b12 Bs rows c tr (W.putObj l o') := by
  have key : ∀ {b : Nat} {t : TypeId} {v : Value}, Boxed W b t v → Boxed (W.putObj l o') b t v := fun {b t v} hb => by
    refine hb.kept (grownBy_putObj' W l o') (fun e => ?_)
    simp at e
    subst e
    rw [show W.heap[b]? = _ from hb] at ho
    cases ho
    cases hc
  obtain ⟨v, h1, h2⟩ := h.tour
  refine ⟨key h.node, ⟨v, key h1, ownsRow_putObj h2 o' ho hc⟩, key h.back, ?_⟩
  exact h.kept.grown (grownBy_putObj' W l o') (fun k e => by cases e; exact .inr hl)

set_option maxRecDepth 100000 in
set_option maxHeartbeats 4000000 in
theorem iBestOk_any (ns ks : List Nat) (ok : Nt.Ok ns) (st : Nt.St 3 ks) (hl : ks.length = ns.length) (k0 t : Nat) (hk0 : k0 < ks.length) (ht : t ≤ 11) (w : World) (v : Value) (base : Nat) (u : Value) (base' : Nat)
    (hs : Sl w base v (Nt.nats ns)) (hu : Sl w base' u (Nt.nats ks)) :
    Calls Try.prog 29 #[v, u, .int .i64 (k0 : Int), .int .i64 (t : Int)] w fun e w' => ∃ z, e = .returned z ∧ Sl w' w.heap.size z (Nt.nats (Nt.best ns ks k0 t)) ∧ Kept [] w w' := by
  have hmf : ∀ (fn : Fn) (first cap : Array Value) (w : World), (Instr.makeFunc fn first cap).run Try.prog w = .ok (.func fn first cap) w := fun _ _ _ _ => rfl
  obtain ⟨n, hn⟩ : ∃ n, n = ks.length := ⟨_, rfl⟩
  obtain ⟨F, hF⟩ : ∃ F, F = Nt.fewestT ns ks k0 t := ⟨_, rfl⟩
  have hFt := Nt.fewestT_le ns ks k0 t
  have hp := st.some
  have h6 := st.few
  have ho := Nt.fireB3_yes ok st hl
  have HO := Lib.hid (And.intro ok (And.intro st hl))
  have HML := Lib.hid (fun t => (Nt.turnedL_length ns ks t).trans hn.symm)
  have HMG := Lib.hid (fun t => Nt.turnedL_get ns ks t (k := k0) hk0)
  have HBN := Lib.hid (fun i (hi : i < F) => Nt.best_next ok st hl hk0 t (i := i) (by omega))
  have HLN := Lib.hid (fun s c (hc : c < n) e => Nt.lead_next ok st hl (k := c) (by omega) (t := s) e)
  have HBL := Lib.hid (Nt.best_length ns ks k0 t)
  have HBT := Lib.hid (fun i (hi : i < F) => best_take (ns := ns) (ks := ks) (k := k0) (t := t) (i := i) (by omega))
  have HBA := Lib.hid (best_all ns ks k0 t)
  have HB1 := Lib.hid (best_one ns ks k0 t)
  have HB0 := Lib.hid (Nt.best_head ns ks k0 t)
  have HFF := Lib.hid (fun s (hs : s ≤ F) => Nt.fewest_find ns ks k0 t (s := s) (by omega))
  rw [← hF] at hFt HFF HBN HBL HBA
  rw [← hn] at hp h6 hk0 HBN HLN
  have HN := Lib.hid hn
  have HFE := Lib.hid hF
  obtain ⟨g1, cap1, rfl, _, _⟩ := hs.row (n := n) (by omega) hp
  obtain ⟨g2, cap2, rfl, _, _⟩ := hu.row hn.symm hp
  obtain ⟨hk1, a1, a2, a3, a4, a5⟩ := three_boxes w 23 (.slice (some ⟨g1, 0, none⟩) n cap1) (.slice (some ⟨g2, 0, none⟩) n cap2) (k0 : Int)
  have hg1 := (hs.block (g := g1) rfl).2
  have hg2 := (hu.block (g := g2) rfl).2
  have HK1 := Lib.hid hk1
  have HS1 := Lib.hid (hs.stay hk1)
  have HU1 := Lib.hid (hu.stay hk1)
  have HA1 := Lib.hid a1
  have HA2 := Lib.hid a2
  have HA3 := Lib.hid a3
  have HA4 := Lib.hid a4
  have HA5 := Lib.hid a5
  have hin : Nt.inB n (k0 : Int) = true := Nt.inB_yes hk0
  clear hs hu hk1 a1 a2 a3 a4 a5 ok st hl hn hF
  refine (callsIn_wide (n := 9)).1 ?_
  refine callsIn_of_wp_marks Try.func29 rfl trivial ?_ rfl
  simp only [Try.ntmps29, List.size_toArray, List.length_cons, List.length_nil, Nat.reduceAdd, Nat.reduceSub, Array.replicate_succ, Array.replicate_zero, List.push_toArray, List.append_toArray, List.nil_append, List.cons_append]
  refine wpIn_wide.2 ?_
  go_wp2_with (first | (go_at_call 48; refine (turningOk_any _ _ _ _ _ _ _ HS1.out HU1.out).mono ?_; rintro e w' ⟨rfl, rfl⟩; rw [ho]) | (go_at_call 35; refine (isNode_any _ _ _).mono ?_; rintro e w' ⟨rfl, rfl⟩; rw [hin]))
  generalize hw1 : ((w.alloc (.cells #[.slice (some ⟨g1, 0, none⟩) n cap1] 23)).alloc (.cells #[.slice (some ⟨g2, 0, none⟩) n cap2] 23)).alloc (.cells #[.int .i64 (k0 : Int)] 3) = w1 at *
  clear hw1 ho
  refine (mostRows_any ns ks HO.out.1 HO.out.2.1 HO.out.2.2 t (by omega) _ _ _ _ _ HS1.out HU1.out).mono ?_
  rintro e w2 ⟨z, vs, rfl, hvl, hr, hk⟩
  have HVL := Lib.hid hvl
  have HR2 := Lib.hid hr
  have hw5b : w1.heap.size ≤ w2.heap.size := hk.size
  have HK2 := Lib.hid hk
  obtain ⟨L, hL⟩ : ∃ L, L = t + 1 := ⟨_, rfl⟩
  have htL : t < L := by omega
  have hL12 : L ≤ 12 := by omega
  have HLT := Lib.hid hL
  rw [← hL] at hvl HVL
  obtain ⟨gz, capz, rfl, hgz, hgzl, hcap1, hcap2, hcz⟩ := hr.form hvl (by omega)
  have HCZ := Lib.hid hcz
  have ckt := hcz t (by omega)
  obtain ⟨gt, capt, et, hgt, hct⟩ := (hr.2 t (by omega)).row (HML.out t) hp
  rw [et] at ckt
  have ck0 := hct k0 hk0
  rw [HMG.out t] at ck0
  generalize hT : Nt.turned ns ks k0 t = T at *
  have hsz := HA5.out
  have b3 := (hk.cell (p := ⟨w.heap.size + 1 + 1, 0, none⟩) (by show w.heap.size + 1 + 1 < w1.heap.size; omega) (by simp)).trans HA3.out
  clear hL hr hk hcz et hct hvl hsz
  have hk4 : Kept [] w2 (w2.alloc (.cells #[.int .i64 (T : Int)] 3)).drew := ((Kept.refl _ _).alloc _).drew
  have hb4 : (w2.alloc (.cells #[.int .i64 (T : Int)] 3)).drew.cell? ⟨w2.heap.size, 0, none⟩ = some (.int .i64 (T : Int)) := (Boxed.new w2 3 (.int .i64 (T : Int))).cell
  have hs4 : (w2.alloc (.cells #[.int .i64 (T : Int)] 3)).drew.heap.size = w2.heap.size + 1 := by show (w2.alloc _).heap.size = _; simp
  have HK4 := Lib.hid hk4
  have HB4 := Lib.hid hb4
  have HS4 := Lib.hid hs4
  clear hk4 hb4 hs4
  go_wp2_with fail
  go_region_held3 (fun w' => w'.cell? ⟨gz, t, none⟩ = some (.slice (some ⟨gt, 0, none⟩) n capt) ∧ w'.cell? ⟨w.heap.size + 1 + 1, 0, none⟩ = some (.int .i64 (k0 : Int)) ∧ w'.cell? ⟨gt, k0, none⟩ = some (.int .i64 (T : Int)))
    (first | go_keep | exact ⟨ckt, b3, ck0⟩)
    (fail)
  clear ckt b3 ck0
  generalize (w2.alloc (.cells #[.int .i64 (T : Int)] 3)).drew = w4 at *
  have hFL : F < L := by omega
  have HRW4 := Lib.hid (HR2.out.stay HK4.out)
  have HK14 := Lib.hid (HK2.out.trans HK4.out (by simp))
  have HX3 := Lib.hid ((HK14.out.cell (p := ⟨w.heap.size + 1 + 1, 0, none⟩) (by have := HA5.out; show w.heap.size + 1 + 1 < w1.heap.size; omega) (by simp)).trans HA3.out)
  have HIX := Lib.hid (indexRows_any 61 #[.pointer (some ⟨w.heap.size + 1 + 1, 0, none⟩), .pointer (some ⟨w2.heap.size, 0, none⟩)] vs L F HVL.out hFL (by omega) (Nt.turnedL ns ks) enter_best1 w4
    (fun i hi w' hq => by
      have h := best1_any n k0 (Nt.turned ns ks k0 i) T (Nt.turnedL ns ks i) (HML.out i) hk0 (HMG.out i) w' (vs.getD i undef) _ (w.heap.size + 1 + 1) w2.heap.size (hq.sl (HRW4.out.2 i (by rw [HVL.out]; omega))) ((hq.cell _).trans HX3.out) ((hq.cell _).trans HB4.out)
      have e : decide (Nt.turned ns ks k0 i = T) = decide (i = F) := by
        by_cases h1 : i = F
        · rw [decide_eq_true h1, decide_eq_true ((HFF.out i hi).2 h1)]
        · rw [decide_eq_false h1, decide_eq_false (fun h2 => h1 ((HFF.out i hi).1 h2))]
      rw [e] at h
      exact Calls.mono (by simpa using h) (fun _ _ h => h)) _ _ HRW4.out)
  go_wp2_with fail
  refine HIX.out.mono ?_
  rintro e w5 ⟨rfl, hq⟩
  have hx5 := (hq.cell _).trans HX3.out
  have HQ5 := Lib.hid hq
  clear HIX hq
  have hK6 : Kept [] w5 (((w5.alloc (.cells #[.int .i64 (k0 : Int)] 3)).alloc (.cells #[.slice (some ⟨w5.heap.size, 0, none⟩) 1 1] 23)).alloc (.cells #[.slice (some ⟨gz, 0, none⟩) F capz] 64)) := (((Kept.refl _ _).alloc _).alloc _).alloc _
  have hB12 : Boxed (((w5.alloc (.cells #[.int .i64 (k0 : Int)] 3)).alloc (.cells #[.slice (some ⟨w5.heap.size, 0, none⟩) 1 1] 23)).alloc (.cells #[.slice (some ⟨gz, 0, none⟩) F capz] 64)) (w5.heap.size + 1) 23 (.slice (some ⟨w5.heap.size, 0, none⟩) 1 1) := by
    have h := (Boxed.new (w5.alloc (.cells #[.int .i64 (k0 : Int)] 3)) 23 (.slice (some ⟨w5.heap.size, 0, none⟩) 1 1)).alloc (.cells #[.slice (some ⟨gz, 0, none⟩) F capz] 64)
    have e : (w5.alloc (.cells #[.int .i64 (k0 : Int)] 3)).heap.size = w5.heap.size + 1 := by simp
    rw [e] at h
    exact h
  have hBs : Boxed (((w5.alloc (.cells #[.int .i64 (k0 : Int)] 3)).alloc (.cells #[.slice (some ⟨w5.heap.size, 0, none⟩) 1 1] 23)).alloc (.cells #[.slice (some ⟨gz, 0, none⟩) F capz] 64)) (w5.heap.size + 1 + 1) 64 (.slice (some ⟨gz, 0, none⟩) F capz) := by
    have h := Boxed.new ((w5.alloc (.cells #[.int .i64 (k0 : Int)] 3)).alloc (.cells #[.slice (some ⟨w5.heap.size, 0, none⟩) 1 1] 23)) 64 (.slice (some ⟨gz, 0, none⟩) F capz)
    have e : ((w5.alloc (.cells #[.int .i64 (k0 : Int)] 3)).alloc (.cells #[.slice (some ⟨w5.heap.size, 0, none⟩) 1 1] 23)).heap.size = w5.heap.size + 1 + 1 := by simp
    rw [e] at h
    exact h
  have hT6 : Sl (((w5.alloc (.cells #[.int .i64 (k0 : Int)] 3)).alloc (.cells #[.slice (some ⟨w5.heap.size, 0, none⟩) 1 1] 23)).alloc (.cells #[.slice (some ⟨gz, 0, none⟩) F capz] 64)) w5.heap.size (.slice (some ⟨w5.heap.size, 0, none⟩) 1 1) [(k0 : Int)] :=
    (Sl.lit w5 [(k0 : Int)] (by simp)).stay (((Kept.refl _ _).alloc _).alloc _)
  have HK6 := Lib.hid hK6
  have HB12 := Lib.hid hB12
  have HBS := Lib.hid hBs
  have HT6 := Lib.hid hT6
  have hs6 : (((w5.alloc (.cells #[.int .i64 (k0 : Int)] 3)).alloc (.cells #[.slice (some ⟨w5.heap.size, 0, none⟩) 1 1] 23)).alloc (.cells #[.slice (some ⟨gz, 0, none⟩) F capz] 64)).heap.size = w5.heap.size + 1 + 1 + 1 := by simp
  have HS6 := Lib.hid hs6
  clear hK6 hB12 hBs hT6 hs6
  go_wp2_with fail
  refine (backRows_any _ _ _ _).mono ?_
  rintro e w' ⟨rfl, rfl⟩
  go_wp2_with fail
  generalize (((w5.alloc (.cells #[.int .i64 (k0 : Int)] 3)).alloc (.cells #[.slice (some ⟨w5.heap.size, 0, none⟩) 1 1] 23)).alloc (.cells #[.slice (some ⟨gz, 0, none⟩) F capz] 64)) = w6 at *
  have HSZ : Hid (w.heap.size + 3 ≤ w2.heap.size ∧ w5.heap.size = w2.heap.size + 1) := Lib.hid ⟨by have := HA5.out; omega, by rw [HQ5.out.heap]; exact HS4.out⟩
  have HK15 := Lib.hid (HK14.out.trans HQ5.out.kept (by simp))
  have HX5 := Lib.hid (Boxed.stay HA4.out HK15.out (by simp))
  have HK05 := Lib.hid (HK1.out.trans HK15.out (by simp))
  have HZ5 : Hid (∀ j, j < L → w5.cell? ⟨gz, j, none⟩ = some (vs.getD j undef)) := Lib.hid (fun j hj => (HQ5.out.cell _).trans ((HK4.out.cell (p := ⟨gz, j, none⟩) hgzl (by simp)).trans (HCZ.out j hj)))
  refine wpIn_wide.1 (range_hands (gf := 73) (m := F) (lb := #[.pointer (some ⟨w5.heap.size + 1 + 1, 0, none⟩)]) (ar := fun k => #[.int .i64 ((F - 1 - k : Nat) : Int), vs.getD (F - 1 - k) undef]) rfl enter_back1 (fun _ => rfl)
    (fun k W => BI w5 (w.heap.size + 1 + 1) (w5.heap.size + 1) (w5.heap.size + 1 + 1) (.slice (some ⟨gz, 0, none⟩) F capz) ((Nt.best ns ks k0 t).getD k 0) ((Nt.best ns ks k0 t).take (k + 1)) W) ?lay ?turn ?seq ?round ?done)
  case lay =>
    intro o
    exact BI.alloc (BI.alloc ⟨by rw [HB0.out]; exact Boxed.stay HX5.out HK6.out (by simp), ⟨_, HB12.out, by rw [HB1.out]; exact HT6.out⟩, HBS.out, HK6.out.weaken _⟩ _) _
  case turn =>
    intro k W l r r' hl hr hI
    exact hI.turn _ (by have := HS6.out; omega) hr rfl
  case seq =>
    intro l J W hJ hY h0
    refine backRows1_in l (w5.heap.size + 1 + 1) gz F capz (by omega) vs J (fun k W hj => ⟨(hJ k W hj).back.cell, fun j hj' => ?_⟩) hY W h0
    exact ((hJ k W hj).kept.cell (p := ⟨gz, j, none⟩) (by have := HSZ.out; show gz < w5.heap.size; omega) (by have := HA5.out; simp; omega)).trans (HZ5.out j (by omega))
  case round =>
    intro l k W K hk hK
    obtain ⟨s, hs⟩ : ∃ s, s = F - 1 - k := ⟨_, rfl⟩
    obtain ⟨b1, b2, b3⟩ := HBN.out k hk
    rw [← hs] at b2 b3
    have hsL : s < L := by omega
    have hs60 : s ≤ 60 := by omega
    have hl1 := HLN.out s _ b1 b3
    rw [← b2, HN.out] at hl1
    have hrow := (HR2.out.2 s (by rw [HVL.out]; exact hsL))
    obtain ⟨gr, capr, er, _, _⟩ := hrow.row (HML.out s) hp
    have hrb := (hrow.block (g := gr) (by rw [er]; rfl))
    rw [er] at hrow
    simp only [← hs, er]
    have HRW := Lib.hid hrow
    have HBK := Lib.hid (HBT.out k hk)
    have HTL : Hid ((Nt.nats ((Nt.best ns ks k0 t).take (k + 1))).length = k + 1) := Lib.hid (by rw [Nt.nats_length, List.length_take, HBL.out]; omega)
    have HL1 := Lib.hid hl1
    clear hrow er hl1 b2 b3 hs
    generalize (Nt.best ns ks k0 t).getD k 0 = c at *
    generalize (Nt.best ns ks k0 t).getD (k + 1) 0 = c' at *
    gi_wp2
    intro W2 hI
    have hkI := hI.kept
    have hsz5 : w.heap.size + 3 ≤ w5.heap.size := by have := HSZ.out; omega
    have hsz2 : w.heap.size + 3 ≤ w2.heap.size := HSZ.out.1
    have hsz1 : w.heap.size + 3 ≤ w1.heap.size := by have := HA5.out; omega
    have hk02 := (HK05.out.weaken [w.heap.size + 1 + 1]).trans hkI (fun x hx => .inl hx)
    have hk12 := (HK15.out.weaken [w.heap.size + 1 + 1]).trans hkI (fun x hx => .inl hx)
    have hk24 : Kept [w.heap.size + 1 + 1] w2 W2 := ((HK4.out.trans HQ5.out.kept (by simp)).weaken _).trans hkI (fun x hx => .inl hx)
    have HSN := Lib.hid (HS1.out.kept hk12 (fun g hg hm => by simp [Value.ownBlock] at hg hm; omega))
    have HSU := Lib.hid (HU1.out.kept hk12 (fun g hg hm => by simp [Value.ownBlock] at hg hm; omega))
    have HSR := Lib.hid (HRW.out.kept hk24 (fun g hg hm => by simp [Value.ownBlock] at hg hm; omega))
    have cA := (hk12.cell (p := ⟨w.heap.size, 0, none⟩) (by show w.heap.size < w1.heap.size; omega) (by first | (simp; done) | (simp; omega))).trans HA1.out
    have cB := (hk12.cell (p := ⟨w.heap.size + 1, 0, none⟩) (by show w.heap.size + 1 < w1.heap.size; omega) (by first | (simp; done) | (simp; omega))).trans HA2.out
    have cC := hI.node.cell
    have HBN2 := Lib.hid (bestNext_any ns ks HO.out.1 HO.out.2.1 HO.out.2.2 s hs60 c (by rw [← HN.out]; exact b1) W2 _ _ _ _ _ _ HSN.out HSU.out HSR.out)
    rw [HL1.out] at HBN2
    obtain ⟨tv, hbt, hst⟩ := hI.tour
    obtain ⟨gv, capv, rfl, hgv, _⟩ := hst.shape (n := k + 1) HTL.out (by omega)
    have HI := Lib.hid hI
    have HBT2 := Lib.hid hbt
    have HST2 := Lib.hid hst
    have HKI := Lib.hid hkI
    obtain ⟨i0, hi, hz0, hz1, hz2⟩ := info_parts info_int
    clear hI hbt hst hkI hk02 hk12 hk24
    gi_wp2_with (first
      | (refine ⟨trivial, ?_⟩; gi_at_call 63; refine (CallsIn.inRound l (callsIn_wide.2 HBN2.out)).mono ?_; rintro e W3 ⟨rfl, hq⟩
         have hn3 : Boxed W3 (w.heap.size + 1 + 1) 3 (.int .i64 (c : Int)) := Boxed.stay HI.out.node hq.kept (by simp)
         have hn3c := hn3.cell
         have hn3f := hn3.frozen
         have hn4 : Boxed (W3.setCell ⟨w.heap.size + 1 + 1, 0, none⟩ (.int .i64 (c' : Int))) (w.heap.size + 1 + 1) 3 (.int .i64 (c' : Int)) := hn3.set _
         have hn4c := hn4.cell
         have hb4 : Boxed (W3.setCell ⟨w.heap.size + 1 + 1, 0, none⟩ (.int .i64 (c' : Int))) (w5.heap.size + 1) 23 (.slice (some ⟨gv, 0, none⟩) (k + 1) capv) := Boxed.stay (Boxed.stay HBT2.out hq.kept (by simp)) ((Kept.refl [w.heap.size + 1 + 1] W3).setCell (.inl (by simp)) _) (by simp; omega)
         have hb4c := hb4.cell
         have hst4 : Sl (W3.setCell ⟨w.heap.size + 1 + 1, 0, none⟩ (.int .i64 (c' : Int))) w5.heap.size (.slice (some ⟨gv, 0, none⟩) (k + 1) capv) (Nt.nats ((Nt.best ns ks k0 t).take (k + 1))) :=
           (hq.sl HST2.out).kept ((Kept.refl [w.heap.size + 1 + 1] W3).setCell (.inl (by simp)) _) (fun g hg hm => by simp [Value.ownBlock] at hg hm; omega)
         have hbk4 : Boxed (W3.setCell ⟨w.heap.size + 1 + 1, 0, none⟩ (.int .i64 (c' : Int))) (w5.heap.size + 1 + 1) 64 (.slice (some ⟨gz, 0, none⟩) F capz) := Boxed.stay (Boxed.stay HI.out.back hq.kept (by simp)) ((Kept.refl [w.heap.size + 1 + 1] W3).setCell (.inl (by simp)) _) (by simp; omega)
         have hk4 : Kept [w.heap.size + 1 + 1] w5 (W3.setCell ⟨w.heap.size + 1 + 1, 0, none⟩ (.int .i64 (c' : Int))) := (HKI.out.trans hq.kept (by simp)).setCell (.inl (by simp)) _
         have hko4 : KeepsOthers W2 (W3.setCell ⟨w.heap.size + 1 + 1, 0, none⟩ (.int .i64 (c' : Int))) := (KeepsOthers.mk (by rw [hq.heap]; exact Nat.le_refl _) (fun k o h _ => by rw [hq.heap]; exact h)).trans (KeepsOthers.setCell _ _ _)
         have HCN : Hid (∀ j u, [Value.int .i64 (c' : Int)][j]? = some u → ((W3.setCell ⟨w.heap.size + 1 + 1, 0, none⟩ (.int .i64 (c' : Int))).alloc (.cells #[.int .i64 (c' : Int)] 3)).cell? ((⟨W3.heap.size, 0, none⟩ : Addr).add j) = some u) := Lib.hid (by
           have h := cell_one_new (W3.setCell ⟨w.heap.size + 1 + 1, 0, none⟩ (.int .i64 (c' : Int))) (.int .i64 (c' : Int)) 3
           have e : (W3.setCell ⟨w.heap.size + 1 + 1, 0, none⟩ (.int .i64 (c' : Int))).heap.size = W3.heap.size := by simp
           rw [e] at h
           exact h)
         have HN4 := Lib.hid hn4
         have HB4' := Lib.hid hb4
         have HST4 := Lib.hid hst4
         have HBK4 := Lib.hid hbk4
         have HK4' := Lib.hid hk4
         have HKO4 := Lib.hid hko4
         clear hq hn3 hn4 hb4 hst4 hbk4 hk4 hko4)
      | (gi_at_builtin; refine wpListIn_append_own _ rfl _ _ 23 rfl w5.heap.size 3 i0 (.int .i64 0) 1 8 Try.underlying23 hi hz0 hz1 hz2 rfl (by decide) (.slice (some ⟨gv, 0, none⟩) (k + 1) capv) _ _ rfl (World.ownsRow.alloc HST4.out _) ⟨W3.heap.size, 0, none⟩ 1 1 [.int .i64 (c' : Int)] rfl rfl HCN.out (by simp [Value.oneCell']) (by rw [HTL.out]; unfold maxLen; omega) (by rw [HTL.out]; omega) (by have := HK4'.out.size; simp at this ⊢; omega) ?_
         intro v' w7 hown' hgrow _
         obtain ⟨g', cap', rfl⟩ := ownsRow_succ hown'
         obtain ⟨hv1, hv2, hr2, hk2, hb2⟩ := HB4'.out.appended (by decide) HST4.out HK4'.out.size (by omega) hown' hgrow
         have hc1 := hv1.cell
         have hf1 := hv1.frozen))
    refine ⟨HKO4.out.trans hk2, ?_⟩
    have hal : ∀ g, (Value.slice (some ⟨gv, 0, none⟩) (k + 1) capv).ownBlock = some g → w5.heap.size ≤ g := fun g hg => (HST4.out.block hg).1
    refine ⟨?_, ⟨_, hv2, ?_⟩, ?_, ?_⟩
    · exact Boxed.kept ((HN4.out.alloc _).kept hgrow (fun e => by have := hal _ e.symm; omega)) (grownBy_setCell' _ _ _) (by simp; omega)
    · have h := hr2
      unfold Sl
      rw [HBK.out, List.length_append, ints_append]
      rw [HTL.out] at h ⊢
      exact h
    · exact Boxed.kept ((HBK4.out.alloc _).kept hgrow (HBK4.out.not_row (by decide) HST4.out)) (grownBy_setCell' _ _ _) (by simp)
    · have h := HK4'.out
      exact ⟨hb2.os.trans h.os, hb2.tape.trans h.tape, hb2.output.trans h.output, Nat.le_trans h.size hb2.size, fun j hj hn => (hb2.block j hj).trans (h.block j hj hn)⟩
  case done =>
    intro D W hD hI hdef
    obtain ⟨v, hb, hsl⟩ := hI.tour
    rw [HBA.out] at hsl
    obtain ⟨gv, capv, rfl, hgv, _⟩ := hsl.shape (n := F + 1) (by rw [Nt.nats_length, HBL.out]) (by omega)
    have hc := hb.cell
    go_wp2
    refine ⟨by simp, .inl ⟨_, _, rfl, run_takeDeferred hdef, ?_⟩⟩
    refine ⟨_, results_tmp rfl _ _ _, _, rfl, ?_, ?_⟩
    · exact Sl.mono (ownsRow_putObj hsl _ hdef rfl) (by have := HSZ.out; omega)
    · have hk := HK05.out.trans hI.kept (fun x hx => by right; simp at hx; omega)
      exact hk.grown (grownBy_putObj' W D _) (fun k e => by cases e; right; have := HSZ.out; have := HS6.out; omega)

set_option maxHeartbeats 1000000 in
theorem iBestTour_any (xs : List Int) (ys : List Int) (node steps : Int) (w : World) (v : Value) (base : Nat) (u : Value) (base' : Nat) (hs : Sl w base v xs) (ht : Sl w base' u ys) :
    Calls Try.prog 29 #[v, u, .int .i64 node, .int .i64 steps] w fun e w' => ∃ z, e = .returned z ∧ Sl w' w.heap.size z (Nt.bestOf xs ys node steps) ∧ Kept [] w w' := by
  by_cases hgood : Nt.fireB xs 3 ys = true ∧ Nt.inB xs.length node = true ∧ (0 ≤ steps ∧ steps ≤ 11)
  · obtain ⟨h1, h2, h3⟩ := hgood
    obtain ⟨ns, ks, rfl, rfl, ok, st, hl⟩ := Nt.fireB3_ok h1
    obtain ⟨k, rfl, hk⟩ := Nt.inB_ok h2
    obtain ⟨t, rfl⟩ := Int.eq_ofNat_of_zero_le h3.1
    rw [Nt.nats_length] at hk
    rw [Nt.bestOf_ok ok st hl (by omega) (by omega)]
    exact iBestOk_any ns ks ok st hl k t (by omega) (by omega) w v base u base' hs ht
  · obtain ⟨a, cap, rfl, _, hm, _⟩ := hs.any
    obtain ⟨a', cap', rfl, _, hm', _⟩ := ht.any
    obtain ⟨hk1, -, -, -, -, -⟩ := three_boxes w 23 (.slice a xs.length cap) (.slice a' ys.length cap') node
    have HK1 := Lib.hid hk1
    have HS1 := Lib.hid (hs.stay hk1)
    have HT1 := Lib.hid (ht.stay hk1)
    clear hs ht hk1
    cases ho : Nt.fireB xs 3 ys
    · have HF := Lib.hid (Nt.bestOf_no1 (node := node) (steps := steps) ho)
      clear hgood
      go_enter Try.func29, Try.ntmps29
      go_wp2_with (go_at_call 48; refine (turningOk_any xs ys _ _ _ _ _ HS1.out HT1.out).mono ?_; rintro e w' ⟨rfl, rfl⟩; rw [ho])
      go_ret
      exact ⟨_, rfl, by rw [HF.out]; exact Sl.nil _ _, HK1.out⟩
    · cases h2 : Nt.inB xs.length node
      · have HF := Lib.hid (Nt.bestOf_no2 (ys := ys) (steps := steps) h2)
        clear hgood
        go_enter Try.func29, Try.ntmps29
        go_wp2_with (first | (go_at_call 48; refine (turningOk_any xs ys _ _ _ _ _ HS1.out HT1.out).mono ?_; rintro e w' ⟨rfl, rfl⟩; rw [ho]) | (go_at_call 35; refine (isNode_any _ _ _).mono ?_; rintro e w' ⟨rfl, rfl⟩; rw [h2]))
        go_ret
        exact ⟨_, rfl, by rw [HF.out]; exact Sl.nil _ _, HK1.out⟩
      · have h3 : ¬ (0 ≤ steps ∧ steps ≤ 11) := fun h3 => hgood ⟨ho, h2, h3⟩
        have HF := Lib.hid (Nt.bestOf_no3 (xs := xs) (ys := ys) (node := node) h3)
        clear hgood
        by_cases h4 : steps < 0
        · clear h3
          go_enter Try.func29, Try.ntmps29
          go_wp2_with (first | (go_at_call 48; refine (turningOk_any xs ys _ _ _ _ _ HS1.out HT1.out).mono ?_; rintro e w' ⟨rfl, rfl⟩; rw [ho]) | (go_at_call 35; refine (isNode_any _ _ _).mono ?_; rintro e w' ⟨rfl, rfl⟩; rw [h2]))
          go_ret
          exact ⟨_, rfl, by rw [HF.out]; exact Sl.nil _ _, HK1.out⟩
        · have h5 : 12 ≤ steps := by omega
          clear h3
          go_enter Try.func29, Try.ntmps29
          go_wp2_with (first | (go_at_call 48; refine (turningOk_any xs ys _ _ _ _ _ HS1.out HT1.out).mono ?_; rintro e w' ⟨rfl, rfl⟩; rw [ho]) | (go_at_call 35; refine (isNode_any _ _ _).mono ?_; rintro e w' ⟨rfl, rfl⟩; rw [h2]))
          go_ret
          exact ⟨_, rfl, by rw [HF.out]; exact Sl.nil _ _, HK1.out⟩
end Go.Proofs.Ythhnhnfflmmmlaa
