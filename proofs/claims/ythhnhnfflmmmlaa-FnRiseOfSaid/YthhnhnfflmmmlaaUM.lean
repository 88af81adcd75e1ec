/-
  Walks: rises, tours and climbs, by the model.
  Walks: what tours climb most, and the best ones, by the model.
-/
import Derived.Test.YthhnhnfflmmmlaaTB
import Derived.Test.YthhnhnfflmmmlaaTC
import Derived.StillTailTactics
namespace Go.Proofs.Ythhnhnfflmmmlaa
open Go.RowKit

theorem rise_mod (x y : Nat) (hx : x < 3) (hy : y < 3) : ((y : Int) - (x : Int) + 3 + 1).tmod 3 = Nt.rise x y + 1 := by
  rw [Int.tmod_eq_emod_of_nonneg (by omega)]
  unfold Nt.rise
  omega

theorem goes_more {ns : List Nat} {zs : List Int} {k j p q : Nat} (hj : j + 1 = k) (hp : zs.getD j 0 = (p : Int)) (hq : zs.getD k 0 = (q : Int)) (hqn : q < ns.length) : Nt.goesB (Nt.nats ns) zs k = (ns.getD p 0).testBit q := by
  subst hj
  unfold Nt.goesB
  rw [hq, Nt.nats_length, Nt.inB_yes hqn, Nat.add_sub_cancel, hp, Int.toNat_natCast, Int.toNat_natCast, Nt.nats_get, Nt.bit_nat]
  simp
theorem goes_first {xs zs : List Int} {q : Nat} (hq : zs.getD 0 0 = (q : Int)) (hqn : q < xs.length) : Nt.goesB xs zs 0 = true := by
  unfold Nt.goesB
  rw [hq, Nt.inB_yes hqn]
  rfl
theorem goes_not {xs zs : List Int} {k : Nat} (h : Nt.inB xs.length (zs.getD k 0) = false) : Nt.goesB xs zs k = false := by
  unfold Nt.goesB
  rw [h, Bool.false_and]
theorem goes_in {xs zs : List Int} {k : Nat} (h : Nt.goesB xs zs k = true) : ∃ p : Nat, zs.getD k 0 = (p : Int) ∧ p < xs.length := by
  unfold Nt.goesB at h
  rw [Bool.and_eq_true] at h
  exact Nt.inB_ok h.1

theorem l1In_is {b : Bool} {n lo hi : Int} (h : decide (lo ≤ n ∧ n ≤ hi) = b) (w : World) :
    Calls Try.prog 37 #[.int .i64 n, .int .i64 lo, .int .i64 hi] w fun e w' => e = .returned (.bool b) ∧ w = w' :=
  (l1In_any n lo hi w).mono fun _ _ e => ⟨by rw [e.1, h], e.2⟩

set_option maxHeartbeats 400000 in
theorem l6Rise_any (x y : Nat) (hx : x < 3) (hy : y < 3) (w : World) :
    Calls Try.prog 38 #[.int .i64 (x : Int), .int .i64 (y : Int)] w fun e w' => e = .returned (.int .i64 (Nt.rise x y)) ∧ w = w' := by
  have f1 := rise_mod x y hx hy
  have h1 := @Nt.rise_lo x y
  have h2 := @Nt.rise_hi x y
  generalize Nt.rise x y = r at *
  go_enter Try.func38, Try.ntmps38
  go_wp2
  go_ret
  exact ⟨by first | rfl | go_num, rfl⟩

set_option maxHeartbeats 1000000 in
theorem sRiseOf_any (ys : List Int) (a b : Int) (w : World) (v : Value) (base : Nat) (hs : Sl w base v ys) :
    Calls Try.prog 12 #[v, .int .i64 a, .int .i64 b] w fun e w' => e = .returned (.int .i64 (Nt.riseOf ys a b)) ∧ Qt w w' := by
  have HS := Lib.hid hs
  cases h1 : Nt.stB 3 ys
  · have HF := Lib.hid (Nt.riseOf_no1 (a := a) (b := b) h1)
    obtain ⟨p, cap, rfl, _, hm, _⟩ := hs.any
    clear hs
    go_enter Try.func12, Try.ntmps12
    go_wp2_with (go_at_call 13; refine (sStateOk_any 3 ys _ _ _ HS.out).mono ?_; rintro e w' ⟨rfl, rfl⟩; rw [h1])
    go_ret
    exact ⟨by rw [HF.out]; rfl, Qt.refl _⟩
  · obtain ⟨ks, rfl, st⟩ := Nt.stB3_st h1
    obtain ⟨n, hn⟩ : ∃ n, n = ks.length := ⟨_, rfl⟩
    have hp := st.some
    have h6 := st.few
    rw [← hn] at hp h6
    obtain ⟨g, cap, rfl, hg, hc⟩ := hs.row hn.symm hp
    have HC := Lib.hid hc
    have HST := Lib.hid st
    have HN := Lib.hid hn
    clear hs hc hn st
    cases ha : Nt.inB n a
    · have d1 : decide (0 ≤ a ∧ a ≤ (n : Int) - 1) = false := decide_eq_false (by have := Nt.inB_no ha; omega)
      have HF := Lib.hid (Nt.riseOf_no2 (ys := Nt.nats ks) (b := b) (by rw [Nt.nats_length, ← HN.out]; exact ha))
      clear ha
      go_enter Try.func12, Try.ntmps12
      go_wp2_with (first | (go_at_call 13; refine (sStateOk_any 3 (Nt.nats ks) _ _ _ HS.out).mono ?_; rintro e w' ⟨rfl, rfl⟩; rw [h1]) | (go_at_call 37; refine (l1In_any _ _ _ _).mono ?_; rintro e w' ⟨rfl, rfl⟩; rw [d1]))
      go_ret
      exact ⟨by rw [HF.out]; rfl, Qt.refl _⟩
    · have d1 : decide (0 ≤ a ∧ a ≤ (n : Int) - 1) = true := decide_eq_true (by obtain ⟨x, hx, hx2⟩ := Nt.inB_ok ha; omega)
      cases hb : Nt.inB n b
      · have d2 : decide (0 ≤ b ∧ b ≤ (n : Int) - 1) = false := decide_eq_false (by have := Nt.inB_no hb; omega)
        have HF := Lib.hid (Nt.riseOf_no3 (ys := Nt.nats ks) (a := a) (by rw [Nt.nats_length, ← HN.out]; exact hb))
        clear ha hb
        go_enter Try.func12, Try.ntmps12
        go_wp2_with (first | (go_at_call 13; refine (sStateOk_any 3 (Nt.nats ks) _ _ _ HS.out).mono ?_; rintro e w' ⟨rfl, rfl⟩; rw [h1]) | (go_at_call 37; refine (l1In_any _ _ _ _).mono ?_; rintro e w' ⟨rfl, rfl⟩; first | rw [d1] | rw [d2]))
        go_ret
        exact ⟨by rw [HF.out]; rfl, Qt.refl _⟩
      · have d2 : decide (0 ≤ b ∧ b ≤ (n : Int) - 1) = true := decide_eq_true (by obtain ⟨x, hx, hx2⟩ := Nt.inB_ok hb; omega)
        obtain ⟨a, rfl, ha2⟩ := Nt.inB_ok ha
        obtain ⟨b, rfl, hb2⟩ := Nt.inB_ok hb
        have HF := Lib.hid (Nt.riseOf_ok HST.out (a := a) (b := b) (by rw [← HN.out]; exact ha2) (by rw [← HN.out]; exact hb2))
        have c1 := HC.out a ha2
        have c2 := HC.out b hb2
        have hx := HST.out.lt a (by rw [← HN.out]; exact ha2)
        have hy := HST.out.lt b (by rw [← HN.out]; exact hb2)
        clear ha hb
        generalize ks.getD a 0 = x at *
        generalize ks.getD b 0 = y at *
        go_enter Try.func12, Try.ntmps12
        go_wp2_with (first | (go_at_call 13; refine (sStateOk_any 3 (Nt.nats ks) _ _ _ HS.out).mono ?_; rintro e w' ⟨rfl, rfl⟩; rw [h1]) | (go_at_call 37; refine (l1In_any _ _ _ _).mono ?_; rintro e w' ⟨rfl, rfl⟩; first | rw [d1] | rw [d2]))
        go_quiet ((go_at_call 38; exact quietL (l6Rise_any x y hx hy _)))
        go_wp2
        go_ret
        exact ⟨by rw [HF.out] <;> rfl, (Qt.refl _).draw _⟩

set_option maxHeartbeats 2000000 in
theorem sTourOk_any (xs zs : List Int) (w : World) (v : Value) (base : Nat) (u : Value) (base' : Nat) (hs : Sl w base v xs) (ht : Sl w base' u zs) :
    Calls Try.prog 18 #[v, u] w fun e w' => e = .returned (.bool (Nt.tourB xs zs)) ∧ Qt w w' := by
  have HS := Lib.hid hs
  have HT := Lib.hid ht
  obtain ⟨a, cap, rfl, _, hm, _⟩ := hs.any
  obtain ⟨a', cap', rfl, _, hm', _⟩ := ht.any
  clear hs ht
  go_enter Try.func18, Try.ntmps18
  go_wp2_with fail
  refine (sNetOk_any xs _ _ _ HS.out).mono ?_
  rintro e w1 ⟨rfl, hq⟩
  have HQ1 := Lib.hid hq
  have HS1 := Lib.hid (hq.sl HS.out)
  have HT1 := Lib.hid (hq.sl HT.out)
  clear hq HS HT
  cases ho : Nt.okB xs
  · have HF := Lib.hid (Nt.tourB_no1 (zs := zs) ho)
    go_wp2
    go_ret
    exact ⟨by rw [HF.out]; rfl, HQ1.out⟩
  · by_cases hl : 1 ≤ zs.length ∧ zs.length ≤ 12
    · have d1 : decide ((1 : Int) ≤ (zs.length : Int) ∧ (zs.length : Int) ≤ 12) = true := decide_eq_true (by omega)
      obtain ⟨hl1, hl2⟩ := hl
      obtain ⟨ns, rfl, ok⟩ := Nt.okB_ok ho
      obtain ⟨n, hn⟩ : ∃ n, n = ns.length := ⟨_, rfl⟩
      have hp := ok.some
      have h6 := ok.few
      have hln : (Nt.nats ns).length = n := by rw [Nt.nats_length]; exact hn.symm
      rw [← hn] at hp h6
      rw [hln] at hm HS1 ⊢
      have HC : Hid (∀ k, k < n → ∃ g, a = some ⟨g, 0, none⟩ ∧ w1.cell? ⟨g, k, none⟩ = some (.int .i64 ((ns.getD k 0 : Nat) : Int))) := Lib.hid (fun k hk => by
        obtain ⟨a2, cap2, e2, _, _, hc2⟩ := HS1.out.any
        simp at e2
        obtain ⟨rfl, _, rfl⟩ := e2
        obtain ⟨g, hg, _, _, hc3, _⟩ := hc2 k (by omega)
        exact ⟨g, hg, by rw [hc3, Nt.nats_get]⟩)
      have HT2 : Hid (∀ k, k < zs.length → ∃ g, a' = some ⟨g, 0, none⟩ ∧ w1.cell? ⟨g, k, none⟩ = some (.int .i64 (zs.getD k 0))) := Lib.hid (fun k hk => by
        obtain ⟨a2, cap2, e2, _, _, hc2⟩ := HT1.out.any
        simp at e2
        obtain ⟨rfl, rfl⟩ := e2
        obtain ⟨g, hg, _, _, hc3, _⟩ := hc2 k hk
        exact ⟨g, hg, hc3⟩)
      obtain ⟨g, rfl, _⟩ := HC.out 0 (by omega)
      obtain ⟨g', rfl, _⟩ := HT2.out 0 (by omega)
      have HCC : Hid (∀ k, k < n → w1.cell? ⟨g, k, none⟩ = some (.int .i64 ((ns.getD k 0 : Nat) : Int))) := Lib.hid (fun k hk => by
        obtain ⟨g2, e2, h2⟩ := HC.out k hk
        simp at e2; subst e2; exact h2)
      have HZZ : Hid (∀ k, k < zs.length → w1.cell? ⟨g', k, none⟩ = some (.int .i64 (zs.getD k 0))) := Lib.hid (fun k hk => by
        obtain ⟨g2, e2, h2⟩ := HT2.out k hk
        simp at e2; subst e2; exact h2)
      have HN := Lib.hid hn
      have HO := Lib.hid ho
      clear HC HT2 ho hln hn ok HS1 HT1
      go_wp2_with (go_at_call 37; refine (l1In_any _ _ _ _).mono ?_; rintro e w' ⟨rfl, rfl⟩; rw [d1])
      clear d1
      go_loopw [5] (fun i wr => ∃ k : Nat, k ≤ zs.length ∧ i = .int .i64 k ∧ Nt.goesTo (Nt.nats ns) zs k ∧ Qt w1 wr) (fun i _ => zs.length - (intOf i).toNat)
      case atStart => exact ⟨0, Nat.zero_le _, rfl, fun j hj => absurd hj (by omega), Qt.refl _⟩
      case round =>
        obtain ⟨k, hk, rfl, hgo, hq⟩ := hrel
        have HQ := Lib.hid (HQ1.out.trans hq)
        have HW := Lib.hid hq
        have HG := Lib.hid hgo
        by_cases hlt : k < zs.length
        · have ck := (hq.cell _).trans (HZZ.out k hlt)
          generalize hz : zs.getD k 0 = z at *
          have HZ := Lib.hid hz
          cases hb : Nt.inB n z
          · have d1 : decide (0 ≤ z ∧ z ≤ (n : Int) - 1) = false := decide_eq_false (by have := Nt.inB_no hb; omega)
            have HF := Lib.hid (Nt.tourB_no3 (xs := Nt.nats ns) hlt (goes_not (by rw [HZ.out, Nt.nats_length, ← HN.out]; exact hb)))
            clear hz hq hgo hb
            go_wp2_with fail
            go_quiet ((go_at_call 37; exact quietL (l1In_any _ _ _ _)))
            go_wp2
            go_ret
            exact ⟨by rw [HF.out]; rfl, HQ.out.draw _⟩
          · have d1 : decide (0 ≤ z ∧ z ≤ (n : Int) - 1) = true := decide_eq_true (by obtain ⟨x, hx, hx2⟩ := Nt.inB_ok hb; omega)
            have D1 := Lib.hid d1
            clear d1
            obtain ⟨q, rfl, hq2⟩ := Nt.inB_ok hb
            by_cases hk0 : k = 0
            · subst hk0
              have HS0 := Lib.hid (goes_first (xs := Nt.nats ns) HZ.out (by rw [Nt.nats_length, ← HN.out]; exact hq2))
              have dk : decide ((0 : Int) < ((0 : Nat) : Int)) = false := by decide
              clear hz hq hgo hb
              go_wp2_with fail
              go_quiet ((go_at_call 37; exact quietL (l1In_is D1.out _)))
              go_wp2
              go_roundw
              case rel => exact ⟨0 + 1, by omega, by go_num, Nt.goesTo_succ HG.out HS0.out, HW.out.draw _⟩
              case measure => simp [intOf]; omega
            · obtain ⟨j, hj⟩ : ∃ j, j + 1 = k := ⟨k - 1, by omega⟩
              obtain ⟨p, hpz, hpn⟩ := goes_in (hgo j (by omega))
              rw [Nt.nats_length, ← HN.out] at hpn
              have HS0 := Lib.hid (goes_more (ns := ns) hj hpz HZ.out (by rw [← HN.out]; exact hq2))
              have cj := (hq.cell _).trans (HZZ.out j (by omega))
              rw [hpz] at cj
              have cp := (hq.cell _).trans (HCC.out p hpn)
              have dk : decide ((0 : Int) < (k : Int)) = true := decide_eq_true (by omega)
              have dk2 : decide (0 < k) = true := decide_eq_true (by omega)
              have hkp : 0 < k := by omega
              have s1 : IntKind.i64.wrap ((k : Int) - 1) = (j : Int) := by rw [IntWalk.i64_in _ (by omega)]; omega
              have p1 := shr_nonneg (ns.getD p 0) q
              have e1 := shr_bit (ns.getD p 0) q
              have hjl : j < zs.length := by omega
              clear hz hq hgo hb hj hpz hk0
              generalize ns.getD p 0 = r at *
              cases hbit : r.testBit q
              · have HF := Lib.hid (Nt.tourB_no3 (xs := Nt.nats ns) hlt (by rw [HS0.out]; exact hbit))
                rw [hbit] at e1
                simp only [Bool.false_eq_true, if_false] at e1
                clear hbit
                go_wp2_with fail
                go_quiet ((go_at_call 37; exact quietL (l1In_is D1.out _)))
                go_wp2
                go_ret
                exact ⟨by rw [HF.out]; rfl, HQ.out.draw _⟩
              · have HF : Hid (Nt.goesB (Nt.nats ns) zs k = true) := Lib.hid (by rw [HS0.out]; exact hbit)
                rw [hbit] at e1
                simp only [if_true] at e1
                clear hbit
                go_wp2_with fail
                go_quiet ((go_at_call 37; exact quietL (l1In_is D1.out _)))
                go_wp2
                go_roundw
                case rel => exact ⟨k + 1, by omega, by go_num, Nt.goesTo_succ HG.out HF.out, HW.out.draw _⟩
                case measure => simp [intOf]; omega
        · have hk' : k = zs.length := by omega
          subst hk'
          have HF := Lib.hid (Nt.tourB_yes HO.out hl1 hl2 HG.out)
          clear hq hgo
          go_wp2
          go_ret
          exact ⟨by rw [HF.out]; rfl, HQ.out⟩
    · have d1 : decide ((1 : Int) ≤ (zs.length : Int) ∧ (zs.length : Int) ≤ 12) = false := decide_eq_false (by omega)
      have HF := Lib.hid (Nt.tourB_no2 (xs := xs) hl)
      clear hl
      go_wp2_with (go_at_call 37; refine (l1In_any _ _ _ _).mono ?_; rintro e w' ⟨rfl, rfl⟩; rw [d1])
      go_ret
      exact ⟨by rw [HF.out]; rfl, HQ1.out⟩

set_option maxHeartbeats 2000000 in
theorem sClimbOf_any (xs ys zs : List Int) (w : World) (v : Value) (base : Nat) (u : Value) (base' : Nat) (t : Value) (base2 : Nat) (hs : Sl w base v xs) (ht : Sl w base' u ys) (hz : Sl w base2 t zs) :
    Calls Try.prog 22 #[v, u, t] w fun e w' => e = .returned (.tuple #[.int .i64 (Nt.climbOf xs ys zs), .bool (Nt.climbB xs ys zs)]) ∧ Qt w w' := by
  have HS := Lib.hid hs
  have HT := Lib.hid ht
  have HZ := Lib.hid hz
  obtain ⟨a, cap, rfl, _, hm, _⟩ := hs.any
  obtain ⟨a', cap', rfl, _, hm', _⟩ := ht.any
  obtain ⟨a2, cap2, rfl, _, hm2, _⟩ := hz.any
  clear hs ht hz
  go_enter Try.func22, Try.ntmps22
  go_wp2_with fail
  refine (l3Ok_any xs 3 ys _ _ _ _ _ HS.out HT.out).mono ?_
  rintro e w1 ⟨rfl, hq⟩
  have HQ1 := Lib.hid hq
  have HS1 := Lib.hid (hq.sl HS.out)
  have HT1 := Lib.hid (hq.sl HT.out)
  have HZ1 := Lib.hid (hq.sl HZ.out)
  clear hq HS HT HZ
  cases h1 : Nt.fireB xs 3 ys
  · have HB := Lib.hid (Nt.climbB_no2 (zs := zs) h1)
    have HF := Lib.hid (Nt.climbOf_no HB.out)
    go_wp2
    go_ret2
    exact ⟨by rw [HB.out, HF.out]; rfl, HQ1.out⟩
  · go_wp2_with fail
    refine (sTourOk_any xs zs _ _ _ _ _ HS1.out HZ1.out).mono ?_
    rintro e w2 ⟨rfl, hq⟩
    have HQ2 := Lib.hid (HQ1.out.trans hq)
    have HT2 := Lib.hid (hq.sl HT1.out)
    have HZ2 := Lib.hid (hq.sl HZ1.out)
    clear hq HS1 HT1 HZ1 HQ1
    cases h2 : Nt.tourB xs zs
    · have HB := Lib.hid (Nt.climbB_no1 (ys := ys) h2)
      have HF := Lib.hid (Nt.climbOf_no HB.out)
      go_wp2
      go_ret2
      exact ⟨by rw [HB.out, HF.out]; rfl, HQ2.out⟩
    · have hB : Nt.climbB xs ys zs = true := by unfold Nt.climbB; rw [h1, h2]; rfl
      obtain ⟨ns, ks, tr, rfl, rfl, rfl, ok, st, hl, htr⟩ := Nt.climbB_ok hB
      have HB := Lib.hid hB
      have HF := Lib.hid (Nt.climbOf_ok ok st hl htr)
      obtain ⟨n, hn⟩ : ∃ n, n = ks.length := ⟨_, rfl⟩
      obtain ⟨L, hL⟩ : ∃ L, L = tr.length := ⟨_, rfl⟩
      have hp := st.some
      have h6 := st.few
      have hL1 := htr.some
      have hL2 := htr.few
      rw [← hn] at hp h6
      rw [← hL] at hL1 hL2
      obtain ⟨g, cp, e, _, hcs⟩ := HT2.out.row hn.symm hp
      obtain ⟨g2, cp2, e2, _, hcz⟩ := HZ2.out.row hL.symm (by omega)
      rw [e, e2]
      have HC := Lib.hid hcs
      have HZC := Lib.hid hcz
      have HIN := Lib.hid (fun k (hk : k < L) => (by have := htr.inn k (by omega); omega : tr.getD k 0 < n))
      have HLT := Lib.hid (fun k (hk : k < n) => st.lt k (by omega))
      have HCL : Hid (∀ m, Nt.climbTo ks tr (m + 1) = Nt.climbTo ks tr m + Nt.rise (ks.getD (tr.getD m 0) 0) (ks.getD (tr.getD (m + 1) 0) 0)) := Lib.hid (fun m => rfl)
      have HEND : Hid (Nt.climb ks tr = Nt.climbTo ks tr (L - 1)) := Lib.hid (by rw [hL]; rfl)
      have HBD := Lib.hid (fun m => Nt.climbTo_bounds ks tr m)
      clear hcs hcz ok st hl htr hn hL h1 h2 hB e e2 HT2 HZ2 hm hm' hm2
      go_wp2_with fail
      go_loopw [8, 9] (fun c i wr => ∃ m k : Nat, m + 1 = k ∧ k ≤ L ∧ i = .int .i64 k ∧ c = .int .i64 (Nt.climbTo ks tr m) ∧ Qt w2 wr) (fun _ i _ => L - (intOf i).toNat)
      case atStart => exact ⟨0, 1, rfl, hL1, rfl, rfl, Qt.refl _⟩
      case round =>
        obtain ⟨m, k, hmk, hk, rfl, rfl, hq⟩ := hrel
        have HQ := Lib.hid (HQ2.out.trans hq)
        have HW := Lib.hid hq
        by_cases hlt : k < L
        · have c1 := (hq.cell _).trans (HZC.out m (by omega))
          have c2 := (hq.cell _).trans (HZC.out k hlt)
          have i1 := HIN.out m (by omega)
          have i2 := HIN.out k hlt
          have c3 := (hq.cell _).trans (HC.out _ i1)
          have c4 := (hq.cell _).trans (HC.out _ i2)
          have hx := HLT.out _ i1
          have hy := HLT.out _ i2
          have hbd := HBD.out m
          have HST := Lib.hid (HCL.out m)
          rw [hmk] at HST
          have s1 : IntKind.i64.wrap ((k : Int) - 1) = (m : Int) := by rw [IntWalk.i64_in _ (by omega)]; omega
          have hmL : m < L := by omega
          clear hq
          generalize Nt.climbTo ks tr m = c at *
          generalize tr.getD m 0 = p at *
          generalize tr.getD k 0 = q at *
          generalize ks.getD p 0 = x at *
          generalize ks.getD q 0 = y at *
          have r1 := @Nt.rise_lo x y
          have r2 := @Nt.rise_hi x y
          have s2 : IntKind.i64.wrap (c + Nt.rise x y) = c + Nt.rise x y := IntWalk.i64_in _ (by omega)
          clear hmk
          go_wp2_with fail
          go_quiet ((go_at_call 38; exact quietL (l6Rise_any x y hx hy _)))
          go_wp2
          go_roundw
          case rel => exact ⟨k, k + 1, rfl, by omega, by go_num, by rw [HST.out], HW.out.draw _⟩
          case measure => simp [intOf]; omega
        · have hk' : k = L := by omega
          subst hk'
          have HE : Hid (Nt.climb ks tr = Nt.climbTo ks tr m) := Lib.hid (by rw [HEND.out]; congr 1; omega)
          clear hq
          go_wp2
          go_ret2
          exact ⟨by rw [HB.out, HF.out, HE.out] <;> rfl, HQ.out⟩
end Go.Proofs.Ythhnhnfflmmmlaa

namespace Go.Proofs.Ythhnhnfflmmmlaa
open Go.RowKit

theorem set_same (xs : List Int) (k : Nat) : xs.set k (xs.getD k 0) = xs := by
  by_cases h : k < xs.length
  · apply List.ext_getElem (by simp)
    intro i h1 h2
    by_cases e : k = i
    · subst e; simp [List.getD_eq_getElem?_getD, h]
    · simp [e]
  · rw [List.set_eq_of_length_le (by omega)]
theorem set_get (xs : List Int) {k n : Nat} (x : Int) (hn : xs.length = n) (h : k < n) : (xs.set k x).getD k 0 = x := by
  subst hn
  simp [List.getD_eq_getElem?_getD, h]
theorem turnedL_le (ns ks : List Nat) (t k : Nat) (hk : k < ks.length) : (Nt.turnedL ns ks t).getD k 0 ≤ t := by
  rw [Nt.turnedL_get _ _ _ hk]
  exact Nt.turned_le ns ks k t
/-- What a node's most is, once some neighbours have been looked at. -/
def mostTo (ns ks : List Nat) (t k j : Nat) : Int := Nt.overTo (Nt.viaK ns ks t k) (fun j => (ns.getD k 0).testBit j) ((Nt.turned ns ks k t : Nat) : Int) j
theorem mostTo_bounds (ns ks : List Nat) (t k j : Nat) : 0 ≤ mostTo ns ks t k j ∧ mostTo ns ks t k j ≤ (t : Int) + 1 := by
  unfold mostTo
  constructor
  · have := (Nt.overTo_ge (Nt.viaK ns ks t k) (fun j => (ns.getD k 0).testBit j) ((Nt.turned ns ks k t : Nat) : Int) j).1
    omega
  · have h := Nt.turned_le ns ks k t
    exact Nt.overTo_le (by omega) _ (fun i _ _ => Nt.viaK_le t k i)
theorem mostTo_end {ns ks : List Nat} (ok : Nt.Ok ns) (st : Nt.St 3 ks) (hl : ks.length = ns.length) (t : Nat) {k : Nat} (hk : k < ks.length) : mostTo ns ks t k ks.length = (((Nt.turnedL ns ks (t + 1)).getD k 0 : Nat) : Int) := by
  have h := Nt.most_turned ok st hl (t + 1) k hk
  rw [Nt.turnedL_get _ _ _ hk, ← h, Nt.mostK]
  unfold mostTo
  exact Nt.overTo_cong (Nt.most_turned ok st hl t k hk).symm _ (fun j hj => by unfold Nt.viaK; rw [Nt.most_turned ok st hl t j hj])

set_option maxHeartbeats 4000000 in
theorem l6Most_any (ns ks : List Nat) (ok : Nt.Ok ns) (st : Nt.St 3 ks) (hl : ks.length = ns.length) (t : Nat) (ht : t ≤ 60) (w : World) (v : Value) (base : Nat) (u : Value) (base' : Nat)
    (hs : Sl w base v (Nt.nats ns)) (hu : Sl w base' u (Nt.nats ks)) :
    Calls Try.prog 55 #[v, u, .int .i64 (t : Int)] w fun e w' => ∃ z, e = .returned z ∧ Sl w' w.heap.size z (Nt.nats (Nt.turnedL ns ks t)) ∧ Kept [] w w' := by
  obtain ⟨n, hn⟩ : ∃ n, n = ks.length := ⟨_, rfl⟩
  have hp := st.some
  have h6 := st.few
  have HLT := Lib.hid (fun k (hk : k < n) => st.lt k (by omega))
  have HML := Lib.hid (fun t => (Nt.turnedL_length ns ks t).trans hn.symm)
  have HMB := Lib.hid (fun t k (hk : k < n) => turnedL_le ns ks t k (by omega))
  have HMG := Lib.hid (fun t k (hk : k < n) => Nt.turnedL_get ns ks t (k := k) (by omega))
  have HME := Lib.hid (fun t k (hk : k < n) => mostTo_end ok st hl t (k := k) (by omega))
  rw [← hn] at hp h6 HME
  have hz0 : Nt.nats (Nt.turnedL ns ks 0) = List.replicate n 0 := by rw [Nt.turnedL_zero, nats_zeros, ← hn]
  have HZ0 := Lib.hid hz0
  obtain ⟨g1, cap1, rfl, hg1, hc1⟩ := hs.row (n := n) (by omega) hp
  obtain ⟨g, cap, rfl, hg, hc⟩ := hu.row hn.symm hp
  have HC1 := Lib.hid hc1
  have HC := Lib.hid hc
  clear hs hu ok st hl hc hc1 hn hz0
  go_enter Try.func55, Try.ntmps55
  go_wp2_with (at_make; refine make_int _ n rfl _ _ rfl rfl rfl ?_ ?_)
  · omega
  · intro w1 hs1 hk1 _
    have HS1 : Hid (Sl w1 w.heap.size (.slice (some ⟨w.heap.size, 0, none⟩) n n) (Nt.nats (Nt.turnedL ns ks 0))) := Lib.hid (by rw [HZ0.out]; exact hs1)
    have HK1 := Lib.hid hk1
    clear hs1 hk1 HZ0
    go_wp2_with fail
    go_loopw [7, 8] (fun z i wr => ∃ q : Nat, q ≤ t ∧ i = .int .i64 q ∧ Sl wr w.heap.size z (Nt.nats (Nt.turnedL ns ks q)) ∧ Kept [] w wr) (fun _ i _ => t - (intOf i).toNat)
    case atStart => exact ⟨0, Nat.zero_le _, rfl, HS1.out, HK1.out⟩
    case round =>
      clear HS1 HK1
      obtain ⟨wa, hwa⟩ : ∃ wa, wa = wr := ⟨_, rfl⟩
      subst hwa
      obtain ⟨q, hq, rfl, hsl, hkept⟩ := hrel
      have HSL := Lib.hid hsl
      have HK := Lib.hid hkept
      by_cases hlt : q < t
      · obtain ⟨gu, capu, rfl, hgu, hcu⟩ := hsl.row (HML.out q) hp
        have HE := Lib.hid (Sl.empty3 wa)
        have hka : Kept [] wa (wa.alloc (.cells #[] 3)) := (Kept.refl [] wa).alloc _
        have HT2 := Lib.hid (hsl.stay hka)
        have HX : Hid ((Nt.nats (Nt.turnedL ns ks q)).length = n) := Lib.hid (by rw [Nt.nats_length, HML.out])
        have HKA := Lib.hid hka
        have HCU := Lib.hid hcu
        have hwr : w.heap.size ≤ wa.heap.size := hkept.size
        clear hsl hkept hka hcu
        go_wp2_with (at_builtin; refine app_sl rfl _ _ rfl wa.heap.size _ [] HE.out rfl _ _ (Nt.nats (Nt.turnedL ns ks q)) HT2.out (by rw [HX.out]; exact hp) rfl (by rw [HX.out]; simp; omega) (by simp) ?_; intro z w2 hs2 hk2; have HZ := Lib.hid hs2; have HK2 := Lib.hid (HKA.out.own hk2 (fun g' hg' => by simp [Value.ownBlock] at hg'; omega)); clear hs2 hk2)
        obtain ⟨gz, capz, rfl, hgz, _⟩ := HZ.out.shape (n := n) (by rw [List.nil_append, HX.out]) hp
        have HZ2 : Hid (Sl w2 wa.heap.size (.slice (some ⟨gz, 0, none⟩) n capz) (Nt.nats (Nt.mix (Nt.turnedL ns ks (q + 1)) (Nt.turnedL ns ks q) 0))) := Lib.hid (by rw [Nt.mix_zero]; have h := HZ.out; rw [List.nil_append] at h; exact h)
        have HLL : Hid ((Nt.turnedL ns ks (q + 1)).length = (Nt.turnedL ns ks q).length) := Lib.hid (by rw [HML.out, HML.out])
        clear HZ HE HT2 HKA
        go_loopw [10] (fun i wx => ∃ k : Nat, k ≤ n ∧ i = .int .i64 k ∧ Sl wx wa.heap.size (.slice (some ⟨gz, 0, none⟩) n capz) (Nt.nats (Nt.mix (Nt.turnedL ns ks (q + 1)) (Nt.turnedL ns ks q) k)) ∧ Kept [] wa wx) (fun i _ => n - (intOf i).toNat)
        case atStart => exact ⟨0, Nat.zero_le _, rfl, HZ2.out, HK2.out⟩
        case round =>
          clear HZ2 HK2
          obtain ⟨k, hk, rfl, hsx, hkx⟩ := hrel
          have HSX := Lib.hid hsx
          have HKX := Lib.hid hkx
          by_cases hlk : k < n
          · have HSET := Lib.hid (Nt.mix_set HLL.out (k := k) (by rw [HML.out]; exact hlk))
            have HGET := Lib.hid (Nt.mix_get HLL.out (k := k) (by rw [HML.out]; exact hlk))
            have HMX : Hid ((Nt.nats (Nt.mix (Nt.turnedL ns ks (q + 1)) (Nt.turnedL ns ks q) k)).length = n) := Lib.hid (by rw [Nt.nats_length, Nt.mix_length HLL.out, HML.out])
            have HST : Hid ((Nt.nats (Nt.mix (Nt.turnedL ns ks (q + 1)) (Nt.turnedL ns ks q) k)).set k (mostTo ns ks q k 0) = Nt.nats (Nt.mix (Nt.turnedL ns ks (q + 1)) (Nt.turnedL ns ks q) k)) := Lib.hid (by
              have e : mostTo ns ks q k 0 = (Nt.nats (Nt.mix (Nt.turnedL ns ks (q + 1)) (Nt.turnedL ns ks q) k)).getD k 0 := by
                rw [Nt.nats_get, HGET.out, HMG.out q k hlk]; rfl
              rw [e, set_same])
            have HEN : Hid ((Nt.nats (Nt.mix (Nt.turnedL ns ks (q + 1)) (Nt.turnedL ns ks q) k)).set k (mostTo ns ks q k n) = Nt.nats (Nt.mix (Nt.turnedL ns ks (q + 1)) (Nt.turnedL ns ks q) (k + 1))) := Lib.hid (by
              rw [HME.out q k hlk, ← Nt.nats_set, HSET.out])
            have hckx := HLT.out k hlk
            clear hsx hkx
            go_wp2_with fail
            go_loopw [11] (fun i wy => ∃ j : Nat, j ≤ n ∧ i = .int .i64 j ∧ Sl wy wa.heap.size (.slice (some ⟨gz, 0, none⟩) n capz) ((Nt.nats (Nt.mix (Nt.turnedL ns ks (q + 1)) (Nt.turnedL ns ks q) k)).set k (mostTo ns ks q k j)) ∧ Kept [] wa wy) (fun i _ => n - (intOf i).toNat)
            case atStart => exact ⟨0, Nat.zero_le _, rfl, by rw [HST.out]; exact HSX.out, HKX.out⟩
            case round =>
              clear HSX HKX
              obtain ⟨j, hj, rfl, hsy, hky⟩ := hrel
              have HSY := Lib.hid hsy
              have HKY := Lib.hid hky
              by_cases hlj : j < n
              · have hkw := HK.out.trans hky (by simp)
                have ck1 := (hkw.cell (p := ⟨g1, k, none⟩) hg1 (by simp)).trans (HC1.out k hlk)
                have HSYL : Hid (((Nt.nats (Nt.mix (Nt.turnedL ns ks (q + 1)) (Nt.turnedL ns ks q) k)).set k (mostTo ns ks q k j)).length = n) := Lib.hid (by rw [List.length_set, HMX.out])
                obtain ⟨hcell, hfr⟩ := hsy.at k (by rw [HSYL.out]; exact hlk)
                rw [set_get _ _ HMX.out hlk] at hcell
                have cs := (hkw.cell (p := ⟨g, k, none⟩) hg (by simp)).trans (HC.out k hlk)
                have csj := (hkw.cell (p := ⟨g, j, none⟩) hg (by simp)).trans (HC.out j hlj)
                have cuj := (hky.cell (p := ⟨gu, j, none⟩) hgu (by simp)).trans (HCU.out j hlj)
                have hxj := HLT.out j hlj
                have hmj := HMB.out q j hlj
                have hmb := mostTo_bounds ns ks q k j
                have HSU : Hid (mostTo ns ks q k (j + 1) = if (ns.getD k 0).testBit j = true then max (mostTo ns ks q k j) (Nt.rise (ks.getD k 0) (ks.getD j 0) + (((Nt.turnedL ns ks q).getD j 0 : Nat) : Int)) else mostTo ns ks q k j) := Lib.hid (by
                  rw [HMG.out q j hlj]; rfl)
                have p1 := shr_nonneg (ns.getD k 0) j
                have e1 := shr_bit (ns.getD k 0) j
                clear hsy hky hkw
                generalize hm : mostTo ns ks q k j = m at *
                have HM := Lib.hid hm
                clear hm
                generalize (Nt.turnedL ns ks q).getD j 0 = z at *
                generalize hx : ks.getD k 0 = x at *
                clear hx
                generalize ks.getD j 0 = y at *
                generalize ns.getD k 0 = r at *
                cases hbit : r.testBit j
                · rw [hbit] at e1 HSU
                  simp only [Bool.false_eq_true, if_false] at e1 HSU
                  clear hbit
                  go_wp2
                  go_roundw
                  case rel => exact ⟨j + 1, by omega, by go_num, by rw [HSU.out]; exact HSY.out, HKY.out⟩
                  case measure => simp [intOf]; omega
                · rw [hbit] at e1 HSU
                  simp only [if_true] at e1 HSU
                  clear hbit
                  have r1 := @Nt.rise_lo x y
                  have r2 := @Nt.rise_hi x y
                  have HR := Lib.hid (fun w => (l6Rise_any x y hckx hxj w).mono (fun _ _ e => (⟨e.1, e.2.symm⟩ : _ ∧ _ = w)))
                  generalize Nt.rise x y = c at *
                  have s1 : IntKind.i64.wrap (c + (z : Int)) = c + (z : Int) := IntWalk.i64_in _ (by omega)
                  have HSYd : Hid (Sl wr.drew wa.heap.size (.slice (some ⟨gz, 0, none⟩) n capz) ((Nt.nats (Nt.mix (Nt.turnedL ns ks (q + 1)) (Nt.turnedL ns ks q) k)).set k m)) := HSY
                  have HKYd := Lib.hid HKY.out.drew
                  have hcell2 : wr.drew.cell? ⟨gz, k, none⟩ = some (.int .i64 m) := hcell
                  have hfr2 : wr.drew.frozen? ⟨gz, k, none⟩ = false := hfr
                  go_wp2_with fail
                  go_still_tail 21, (by kernel_rfl)
                  still_call (HR.out _)
                  repeat still_step
                  refine wpStill_nil ?_
                  change wpList _ _ _ _ _ wr.drew
                  clear hcell hfr HSY HKY ck1 cs csj cuj HR
                  generalize wr.drew = w3 at *
                  go_wp2
                  go_roundw
                  case rel => exact ⟨j + 1, by omega, by go_num, by rw [HSU.out, show max m (c + (z : Int)) = (if m < c + (z : Int) then c + (z : Int) else m) by split <;> omega]; have h := HSYd.out.set HSYL.out.symm k (if m < c + (z : Int) then c + (z : Int) else m); rw [List.set_set] at h; exact h, HKYd.out.setCell (.inr hgz) _⟩
                  case measure => simp [intOf]; omega
              · have hj' : j = n := by omega
                subst hj'
                clear hsy hky
                go_wp2
                go_roundw
                case rel => exact ⟨k + 1, by omega, by go_num, by rw [← HEN.out]; exact HSY.out, HKY.out⟩
                case measure => simp [intOf]; omega
          · have hk' : k = n := by omega
            subst hk'
            clear hsx hkx
            go_wp2
            go_roundw
            case rel => exact ⟨q + 1, by omega, by go_num, by have h := HSX.out; have e := Nt.mix_end HLL.out; rw [HML.out] at e; rw [e] at h; exact h.mono hwr, HK.out.trans HKX.out (by simp)⟩
            case measure => simp [intOf]; omega
      · have hq' : q = t := by omega
        subst hq'
        clear hsl hkept
        go_wp2
        go_ret
        exact ⟨_, rfl, HSL.out, HK.out⟩

set_option maxHeartbeats 1000000 in
theorem sMostClimb_any (xs : List Int) (ys : List Int) (steps : Int) (w : World) (v : Value) (base : Nat) (u : Value) (base' : Nat) (hs : Sl w base v xs) (ht : Sl w base' u ys) :
    Calls Try.prog 26 #[v, u, .int .i64 steps] w fun e w' => ∃ z, e = .returned z ∧ Sl w' w.heap.size z (Nt.tturnedOf xs ys steps) ∧ Kept [] w w' := by
  have HS := Lib.hid hs
  have HT := Lib.hid ht
  obtain ⟨a, cap, rfl, _, hm, _⟩ := hs.any
  obtain ⟨a', cap', rfl, _, hm', _⟩ := ht.any
  clear hs ht
  go_enter Try.func26, Try.ntmps26
  go_wp2_with fail
  refine (l3Ok_any xs 3 ys _ _ _ _ _ HS.out HT.out).mono ?_
  rintro e w1 ⟨rfl, hq⟩
  have HK1 := Lib.hid hq.kept
  have HS1 := Lib.hid (hq.sl HS.out)
  have HT1 := Lib.hid (hq.sl HT.out)
  clear hq HS HT
  cases ho : Nt.fireB xs 3 ys
  · have HF := Lib.hid (Nt.tturnedOf_no1 (steps := steps) ho)
    go_wp2_with fail
    go_ret
    exact ⟨_, rfl, by rw [HF.out]; exact (Sl.empty3 w1).mono HK1.out.size, HK1.out.alloc _⟩
  · cases h2 : Nt.stepsB steps
    · have HF := Lib.hid (Nt.tturnedOf_no2 (xs := xs) (ys := ys) h2)
      go_wp2_with (go_at_call 37; refine (l1In_any steps 0 60 _).mono ?_; rintro e w' ⟨rfl, rfl⟩; rw [show decide (0 ≤ steps ∧ steps ≤ 60) = false from h2])
      go_ret
      exact ⟨_, rfl, by rw [HF.out]; exact (Sl.empty3 w1).mono HK1.out.size, HK1.out.alloc _⟩
    · obtain ⟨ns, ks, rfl, rfl, ok, st, hl⟩ := Nt.fireB3_ok ho
      obtain ⟨t, rfl, ht60⟩ := Nt.stepsB_ok h2
      have HF := Lib.hid (Nt.tturnedOf_ok ok st hl ht60)
      have HO := Lib.hid (And.intro ok (And.intro st hl))
      clear ok st hl ho
      go_wp2_with (go_at_call 37; refine (l1In_any _ 0 60 _).mono ?_; rintro e w' ⟨rfl, rfl⟩; rw [show decide (0 ≤ (t : Int) ∧ (t : Int) ≤ 60) = true from h2])
      refine (l6Most_any ns ks HO.out.1 HO.out.2.1 HO.out.2.2 t ht60 _ _ _ _ _ HS1.out HT1.out).mono ?_
      rintro e w2 ⟨z, rfl, hs2, hk2⟩
      have HS2 := Lib.hid (hs2.mono HK1.out.size)
      have HK2 := Lib.hid (HK1.out.trans hk2 (by simp))
      clear hs2 hk2
      go_wp2_with fail
      go_ret
      exact ⟨_, rfl, by rw [HF.out]; exact HS2.out, HK2.out⟩

theorem best_take {ns ks : List Nat} {k t i : Nat} (hi : i < Nt.fewestT ns ks k t) :
    Nt.nats ((Nt.best ns ks k t).take (i + 1 + 1)) = Nt.nats ((Nt.best ns ks k t).take (i + 1)) ++ [(((Nt.best ns ks k t).getD (i + 1) 0 : Nat) : Int)] :=
  Nt.take_more _ _ (by rw [Nt.best_length]; omega)
theorem best_one (ns ks : List Nat) (k t : Nat) : (Nt.best ns ks k t).take (0 + 1) = [k] := by
  have h1 := Nt.best_length ns ks k t
  have h2 := Nt.best_head ns ks k t
  cases h : Nt.best ns ks k t with
  | nil => rw [h] at h1; simp at h1
  | cons x l => rw [h] at h2; simpa using h2
theorem best_all (ns ks : List Nat) (k t : Nat) : (Nt.best ns ks k t).take (Nt.fewestT ns ks k t + 1) = Nt.best ns ks k t := by
  rw [← Nt.best_length]; exact List.take_length
theorem take_at (tr : List Nat) {i : Nat} (_h : i < tr.length) : (Nt.nats (tr.take (i + 1))).getD i 0 = ((tr.getD i 0 : Nat) : Int) := by
  rw [Nt.nats_get, List.getD_eq_getElem?_getD, List.getElem?_take, if_pos (by omega), ← List.getD_eq_getElem?_getD]

set_option maxHeartbeats 4000000 in
set_option maxRecDepth 100000 in
theorem sBestOk_any (ns ks : List Nat) (ok : Nt.Ok ns) (st : Nt.St 3 ks) (hl : ks.length = ns.length) (k0 t : Nat) (hk0 : k0 < ks.length) (ht : t ≤ 11) (w : World) (v : Value) (base : Nat) (u : Value) (base' : Nat)
    (hs : Sl w base v (Nt.nats ns)) (hu : Sl w base' u (Nt.nats ks)) :
    Calls Try.prog 30 #[v, u, .int .i64 (k0 : Int), .int .i64 (t : Int)] w fun e w' => ∃ z, e = .returned z ∧ Sl w' w.heap.size z (Nt.nats (Nt.best ns ks k0 t)) ∧ Kept [] w w' := by
  have HS := Lib.hid hs
  have HU := Lib.hid hu
  have ho := Nt.fireB3_yes ok st hl
  obtain ⟨n, hn⟩ : ∃ n, n = ks.length := ⟨_, rfl⟩
  obtain ⟨F, hF⟩ : ∃ F, F = Nt.fewestT ns ks k0 t := ⟨_, rfl⟩
  have hFt := Nt.fewestT_le ns ks k0 t
  have hp := st.some
  have h6 := st.few
  have HLT := Lib.hid (fun k (hk : k < n) => st.lt k (by omega))
  have HML := Lib.hid (fun t => (Nt.turnedL_length ns ks t).trans hn.symm)
  have HMG := Lib.hid (fun t k (hk : k < n) => Nt.turnedL_get ns ks t (k := k) (by omega))
  have HMB := Lib.hid (fun t k => Nt.turned_le ns ks k t)
  have HBN := Lib.hid (fun i (hi : i < F) => Nt.best_next ok st hl hk0 t (i := i) (by omega))
  have HBL := Lib.hid (Nt.best_length ns ks k0 t)
  have HBT := Lib.hid (fun i (hi : i < F) => best_take (ns := ns) (ks := ks) (k := k0) (t := t) (i := i) (by omega))
  have HBA := Lib.hid (best_all ns ks k0 t)
  have HB1 := Lib.hid (best_one ns ks k0 t)
  have HB0 := Lib.hid (Nt.best_head ns ks k0 t)
  have HFS := Lib.hid (Nt.fewestT_same ns ks k0 t)
  have HFL := Lib.hid (fun s (hs : s < F) => Nt.fewestT_least ns ks k0 t (s := s) (by omega))
  have HNG := Lib.hid (fun s k (hk : k < n) (e : Nt.pullB ns (Nt.turns ns ks s) k = true) => Nt.nextOf_good ok st hl (k := k) (by omega) e)
  have HNF := Lib.hid (fun s k (hk : k < n) (e : Nt.pullB ns (Nt.turns ns ks s) k = true) j (hj : j < Nt.nextOf ns ks s k) hp => Nt.nextOf_first ok st hl (k := k) (by omega) e (j := j) hj hp)
  have HO := Lib.hid (And.intro ok (And.intro st hl))
  rw [← hF] at hFt HBL HBA HFS HBN
  rw [← hn] at hp h6 HBN HNG hk0
  obtain ⟨g1, cap1, rfl, hg1, hc1⟩ := hs.row (n := n) (by omega) hp
  obtain ⟨g, cap, rfl, hg, hc⟩ := hu.row hn.symm hp
  have HC1 := Lib.hid hc1
  have HC := Lib.hid hc
  have d1 : decide (0 ≤ (k0 : Int) ∧ (k0 : Int) ≤ (n : Int) - 1) = true := decide_eq_true (by omega)
  have d2 : decide (0 ≤ (t : Int) ∧ (t : Int) ≤ 11) = true := decide_eq_true (by omega)
  have D1 := Lib.hid d1
  have D2 := Lib.hid d2
  clear hs hu ok st hl hc hc1 hn hF d1 d2
  go_enter Try.func30, Try.ntmps30
  go_wp2_with fail
  refine (l3Ok_any _ 3 _ _ _ _ _ _ HS.out HU.out).mono ?_
  rintro e w1 ⟨rfl, hq⟩
  rw [ho]
  have HK1 := Lib.hid hq.kept
  have HS1 := Lib.hid (hq.sl HS.out)
  have HU1 := Lib.hid (hq.sl HU.out)
  clear hq HS HU ho
  go_wp2_with (go_at_call 37; refine (l1In_any _ _ _ _).mono ?_; rintro e w' ⟨rfl, rfl⟩; first | rw [D1.out] | rw [D2.out])
  refine (l6Most_any ns ks HO.out.1 HO.out.2.1 HO.out.2.2 t (by omega) _ _ _ _ _ HS1.out HU1.out).mono ?_
  rintro e w2 ⟨z, rfl, hs2, hk2⟩
  obtain ⟨gz, capz, rfl, _, hcz⟩ := hs2.row (HML.out t) hp
  have hcz0 := hcz k0 hk0
  rw [HMG.out t k0 hk0] at hcz0
  have HK2 := Lib.hid (HK1.out.trans hk2 (by simp))
  have HS2 := Lib.hid (HS1.out.stay hk2)
  have HU2 := Lib.hid (HU1.out.stay hk2)
  clear hs2 hk2 hcz HK1 HS1 HU1
  generalize hT : Nt.turned ns ks k0 t = T at *
  have HT := Lib.hid hT
  clear hT
  go_wp2_with fail
  clear hcz0
  go_loopw [10] (fun i wr => ∃ f : Nat, f ≤ F ∧ i = .int .i64 f ∧ Kept [] w2 wr) (fun i _ => F - (intOf i).toNat)
  case atStart => exact ⟨0, Nat.zero_le _, rfl, Kept.refl _ _⟩
  case round =>
    obtain ⟨f, hf, rfl, hkept⟩ := hrel
    have HS3 := Lib.hid (HS2.out.stay hkept)
    have HU3 := Lib.hid (HU2.out.stay hkept)
    have HKW := Lib.hid hkept
    clear hkept
    go_wp2_with fail
    refine (l6Most_any ns ks HO.out.1 HO.out.2.1 HO.out.2.2 f (by omega) _ _ _ _ _ HS3.out HU3.out).mono ?_
    rintro e w3 ⟨z3, rfl, hs3, hk3⟩
    obtain ⟨gz3, capz3, rfl, _, hcz3⟩ := hs3.row (HML.out f) hp
    have hc3 := hcz3 k0 hk0
    rw [HMG.out f k0 hk0] at hc3
    have HKW3 := Lib.hid (HKW.out.trans hk3 (by simp))
    clear hs3 hk3 hcz3 HS3 HU3 HKW
    by_cases hlt : f < F
    · have hll := HFL.out f hlt
      generalize Nt.turned ns ks k0 f = x at *
      go_wp2
      go_roundw
      case rel => exact ⟨f + 1, by omega, by go_num, HKW3.out⟩
      case measure => simp [intOf]; omega
    · have hf' : f = F := by omega
      subst hf'
      rw [HFS.out] at hc3
      have HK4 := Lib.hid (HK2.out.trans HKW3.out (by simp))
      have HS4 := Lib.hid (HS2.out.stay HKW3.out)
      have HU4 := Lib.hid (HU2.out.stay HKW3.out)
      have HTF : Hid (T = Nt.turned ns ks ((Nt.best ns ks k0 t).getD 0 0) (f - 0)) := Lib.hid (by rw [HB0.out, Nat.sub_zero, HFS.out])
      clear HK2 HS2 HU2 HKW3
      have HL4 : Hid (Sl (w3.alloc (.cells #[.int .i64 (k0 : Int)] 3)) w3.heap.size (.slice (some ⟨w3.heap.size, 0, none⟩) 1 1) [(k0 : Int)]) := Lib.hid (Sl.lit w3 [(k0 : Int)] (by simp))
      have HKA : Hid (Kept [] w3 (w3.alloc (.cells #[.int .i64 (k0 : Int)] 3))) := Lib.hid ((Kept.refl _ _).alloc _)
      go_wp2_with fail
      clear hc3
      generalize hw4 : w3.alloc (.cells #[.int .i64 (k0 : Int)] 3) = w4 at *
      go_loopw [9, 11, 12] (fun a z i wr => ∃ p q : Nat, p + q = f ∧ i = .int .i64 q ∧ a = .int .i64 ((Nt.turned ns ks ((Nt.best ns ks k0 t).getD p 0) q : Nat) : Int) ∧ Sl wr w3.heap.size z (Nt.nats ((Nt.best ns ks k0 t).take (p + 1))) ∧ Kept [] w3 wr) (fun _ _ i _ => (intOf i).toNat)
      case atStart => exact ⟨0, f, by omega, rfl, by rw [HTF.out]; rfl, by rw [HB1.out]; exact HL4.out, HKA.out⟩
      case round =>
        obtain ⟨wa, hwa⟩ : ∃ wa, wa = wr := ⟨_, rfl⟩
        subst hwa
        obtain ⟨p, q, hpq, rfl, rfl, hsl, hkept⟩ := hrel
        have HSL := Lib.hid hsl
        have HK := Lib.hid hkept
        have HS5 := Lib.hid (HS4.out.stay hkept)
        have HU5 := Lib.hid (HU4.out.stay hkept)
        by_cases hq0 : 0 < q
        · obtain ⟨s, hs⟩ : ∃ s, s + 1 = q := ⟨q - 1, by omega⟩
          have hpf : p < f := by omega
          obtain ⟨b1, b2, b3⟩ := HBN.out p hpf
          rw [show f - 1 - p = s by omega] at b2 b3
          have HTK := Lib.hid (HBT.out p hpf)
          have hln : ((Nt.nats ((Nt.best ns ks k0 t).take (p + 1)))).length = p + 1 := by rw [Nt.nats_length, List.length_take, HBL.out]; omega
          have HLN := Lib.hid hln
          obtain ⟨go, capo, rfl, _, _⟩ := hsl.shape hln (by omega)
          have hat := (hsl.at p (by rw [hln]; omega)).1
          rw [take_at _ (by rw [HBL.out]; omega)] at hat
          obtain ⟨n1, n2, n3⟩ := HNG.out s _ b1 b3
          have HNX := Lib.hid (HNF.out s _ b1 b3)
          have HB2 := Lib.hid b2
          have HSQ := Lib.hid hs
          have s1 : IntKind.i64.wrap ((q : Int) - 1) = (s : Int) := by rw [IntWalk.i64_in _ (by omega)]; omega
          have s2 : wrap64 ((q : Int) - 1) = (s : Int) := by rw [IntWalk.wrap64_in _ (by omega)]; omega
          have HE1 : Hid ((q : Int) - 1 = (s : Int)) := Lib.hid (by omega)
          obtain ⟨P, hP⟩ : ∃ P, P = p + 1 := ⟨_, rfl⟩
          have HP := Lib.hid hP
          rw [← hP] at HSL HLN HTK HB2 ⊢
          have s3 : IntKind.i64.wrap ((P : Int) - 1) = (p : Int) := by rw [IntWalk.i64_in _ (by omega)]; omega
          have e3 : (P : Int) - 1 = (p : Int) := by omega
          have hpP : p < P := by omega
          rw [hs] at n3 HNX
          have hs12 : s ≤ 11 := by omega
          clear hsl hkept hln hP b2 b3 hs
          generalize hc0 : (Nt.best ns ks k0 t).getD p 0 = c at *
          generalize hnx : Nt.nextOf ns ks s c = nx at *
          have HC0 := Lib.hid hc0
          clear hc0 hnx
          generalize hG : Nt.turned ns ks c q = G at *
          have HG := Lib.hid hG
          clear hG
          go_wp2_with fail
          refine (l6Most_any ns ks HO.out.1 HO.out.2.1 HO.out.2.2 s (by omega) _ _ _ _ _ HS5.out HU5.out).mono ?_
          rintro e w6 ⟨z6, rfl, hs6, hk6⟩
          obtain ⟨gz6, capz6, rfl, _, hcz6⟩ := hs6.row (HML.out s) hp
          have HR6 := Lib.hid (fun j (hj : j < n) => (hcz6 j hj).trans (by rw [HMG.out s j hj]))
          have HK6 := Lib.hid (HK.out.trans hk6 (by simp))
          have HW6 := Lib.hid (HK4.out.trans HK6.out (by simp))
          have HSL6 := Lib.hid (HSL.out.stay hk6)
          have hat6 := (hk6.cell (p := ⟨go, p, none⟩) (HSL.out.block (g := go) rfl).2 (by simp)).trans hat
          have hw36 : w3.heap.size ≤ w6.heap.size := HK6.out.size
          clear hs6 hk6 hcz6 HS5 HU5 HK HSL hat
          go_wp2_with fail
          clear hat6
          go_loopw [9, 11, 15] (fun a z i wx => ∃ j : Nat, j ≤ nx ∧ i = .int .i64 j ∧ a = .int .i64 (G : Int) ∧ z = .slice (some ⟨go, 0, none⟩) P capo ∧ Qt w6 wx) (fun _ _ i _ => nx - (intOf i).toNat)
          case atStart => exact ⟨0, Nat.zero_le _, rfl, rfl, rfl, Qt.refl _⟩
          case round =>
            obtain ⟨j, hj, rfl, rfl, rfl, hq⟩ := hrel
            have hjn : j < n := by omega
            have HQ := Lib.hid hq
            have ck1 := ((HW6.out.trans hq.kept (by simp)).cell (p := ⟨g1, c, none⟩) hg1 (by simp)).trans (HC1.out c b1)
            have ck2 := ((HW6.out.trans hq.kept (by simp)).cell (p := ⟨g, c, none⟩) hg (by simp)).trans (HC.out c b1)
            have ck3 := ((HW6.out.trans hq.kept (by simp)).cell (p := ⟨g, j, none⟩) hg (by simp)).trans (HC.out j hjn)
            have ck4 := (hq.cell _).trans (HR6.out j hjn)
            have hx := HLT.out c b1
            have hy := HLT.out j hjn
            have hz := HMB.out s j
            have HV : Hid (Nt.viaK ns ks s c j = Nt.rise (ks.getD c 0) (ks.getD j 0) + ((Nt.turned ns ks j s : Nat) : Int)) := Lib.hid rfl
            have hvg : j = nx → Nt.rise (ks.getD c 0) (ks.getD j 0) + ((Nt.turned ns ks j s : Nat) : Int) = (G : Int) := fun e => by rw [e]; exact n3
            have hbt : j = nx → (ns.getD c 0).testBit j = true := fun e => by rw [e]; exact n2
            have hne : j < nx → (ns.getD c 0).testBit j = true → Nt.rise (ks.getD c 0) (ks.getD j 0) + ((Nt.turned ns ks j s : Nat) : Int) ≠ (G : Int) := fun h1 h2 => by rw [← HV.out]; exact HNX.out j h1 h2
            have hzz : ∃ z, Nt.turned ns ks j s = z := ⟨_, rfl⟩
            obtain ⟨z, hzz⟩ := hzz
            have HZZ := Lib.hid hzz
            rw [hzz] at ck4 hz hvg hne
            have p1 := shr_nonneg (ns.getD c 0) j
            have e1 := shr_bit (ns.getD c 0) j
            clear hq HV hzz
            generalize ks.getD c 0 = x at *
            generalize ks.getD j 0 = y at *
            generalize ns.getD c 0 = r at *
            have r1 := @Nt.rise_lo x y
            have r2 := @Nt.rise_hi x y
            have s5 : IntKind.i64.wrap (Nt.rise x y + (z : Int)) = Nt.rise x y + (z : Int) := IntWalk.i64_in _ (by omega)
            by_cases hlt : j < nx
            · cases hbit : r.testBit j
              · rw [hbit] at e1
                simp only [Bool.false_eq_true, if_false] at e1
                clear hvg hbt hne hbit
                go_wp2_with fail
                go_quiet ((go_at_call 38; exact quietL (l6Rise_any x y hx hy _)))
                go_wp2
                go_roundw
                case rel => exact ⟨j + 1, by omega, by go_num, by first | rfl | trivial, by first | rfl | trivial, HQ.out.draw _⟩
                case measure => simp [intOf]; omega
              · rw [hbit] at e1
                simp only [if_true] at e1
                have dd : (Nt.rise x y + (z : Int) == (G : Int)) = false := beq_eq_false_iff_ne.2 (hne hlt hbit)
                clear hvg hbt hne hbit
                go_wp2_with fail
                go_quiet ((go_at_call 38; exact quietL (l6Rise_any x y hx hy _)))
                go_wp2
                go_roundw
                case rel => exact ⟨j + 1, by omega, by go_num, by first | rfl | trivial, by first | rfl | trivial, HQ.out.draw _⟩
                case measure => simp [intOf]; omega
            · have hjx : j = nx := by omega
              have hbit := hbt hjx
              rw [hbit] at e1
              simp only [if_true] at e1
              have dd : (Nt.rise x y + (z : Int) == (G : Int)) = true := by rw [hvg hjx]; simp
              have HJX := Lib.hid hjx
              clear hvg hbt hne hbit hjx
              go_wp2_with fail
              go_quiet ((go_at_call 38; exact quietL (l6Rise_any x y hx hy _)))
              have HQ7 := Lib.hid (HQ.out.draw nq)
              have HSL7 := Lib.hid (HQ7.out.sl HSL6.out)
              have ck7 := (HQ7.out.cell ⟨gz6, j, none⟩).trans (HR6.out j hjn)
              rw [HZZ.out] at ck7
              have HL7 : Hid ((Nt.nats ((Nt.best ns ks k0 t).take P)).length ≤ 1000000) := Lib.hid (by rw [HLN.out]; omega)
              have hw37 : w3.heap.size ≤ (wr.drewN nq).heap.size := by exact Nat.le_trans hw36 HQ7.out.kept.size
              have HK7 := Lib.hid (HK6.out.trans HQ7.out.kept (by simp))
              clear ck1 ck2 ck3 ck4
              generalize wr.drewN nq = w7 at *
              go_wp2_with (at_builtin; refine app_int _ rfl _ _ rfl w3.heap.size _ _ HSL7.out rfl rfl HL7.out hw37 ?_; intro u8 w8 hs8 hk8; have HS8 := Lib.hid hs8; have HK8 := Lib.hid hk8; clear hs8 hk8)
              go_roundw
              case rel => exact ⟨P, s, by have := HP.out; have := HSQ.out; omega, by go_num, by rw [HB2.out, ← HJX.out, HZZ.out], HS8.out.val (y := ((j : Nat) : Int)) rfl (by rw [HTK.out, HB2.out, HJX.out]), HK7.out.own HK8.out (fun g hg => (HSL7.out.block hg).1)⟩
              case measure => have := HSQ.out; simp [intOf]; omega
        · have hq' : q = 0 := by omega
          subst hq'
          have hpf : p = f := by omega
          subst hpf
          clear hsl hkept
          go_wp2
          go_ret
          exact ⟨_, rfl, by have h := HSL.out; rw [HBA.out] at h; exact h.mono HK4.out.size, HK4.out.trans HK.out (by simp)⟩

set_option maxHeartbeats 1000000 in
theorem sBestTour_any (xs : List Int) (ys : List Int) (node steps : Int) (w : World) (v : Value) (base : Nat) (u : Value) (base' : Nat) (hs : Sl w base v xs) (ht : Sl w base' u ys) :
    Calls Try.prog 30 #[v, u, .int .i64 node, .int .i64 steps] w fun e w' => ∃ z, e = .returned z ∧ Sl w' w.heap.size z (Nt.bestOf xs ys node steps) ∧ Kept [] w w' := by
  by_cases hgood : Nt.fireB xs 3 ys = true ∧ Nt.inB xs.length node = true ∧ (0 ≤ steps ∧ steps ≤ 11)
  · obtain ⟨h1, h2, h3⟩ := hgood
    obtain ⟨ns, ks, rfl, rfl, ok, st, hl⟩ := Nt.fireB3_ok h1
    obtain ⟨k, rfl, hk⟩ := Nt.inB_ok h2
    obtain ⟨t, rfl⟩ := Int.eq_ofNat_of_zero_le h3.1
    rw [Nt.nats_length] at hk
    rw [Nt.bestOf_ok ok st hl (by omega) (by omega)]
    exact sBestOk_any ns ks ok st hl k t (by omega) (by omega) w v base u base' hs ht
  · have HS := Lib.hid hs
    have HT := Lib.hid ht
    obtain ⟨a, cap, rfl, _, hm, _⟩ := hs.any
    obtain ⟨a', cap', rfl, _, hm', _⟩ := ht.any
    clear hs ht
    go_enter Try.func30, Try.ntmps30
    go_wp2_with fail
    refine (l3Ok_any xs 3 ys _ _ _ _ _ HS.out HT.out).mono ?_
    rintro e w1 ⟨rfl, hq⟩
    have HK1 := Lib.hid hq.kept
    clear hq HS HT
    cases ho : Nt.fireB xs 3 ys
    · have HF := Lib.hid (Nt.bestOf_no1 (node := node) (steps := steps) ho)
      clear hgood
      go_wp2_with fail
      go_ret
      exact ⟨_, rfl, by rw [HF.out]; exact (Sl.empty3 w1).mono HK1.out.size, HK1.out.alloc _⟩
    · cases h2 : Nt.inB xs.length node
      · have HF := Lib.hid (Nt.bestOf_no2 (ys := ys) (steps := steps) h2)
        have D1 : Hid (decide (0 ≤ node ∧ node ≤ (xs.length : Int) - 1) = false) := Lib.hid (decide_eq_false (by have := Nt.inB_no h2; omega))
        clear hgood h2
        go_wp2_with (go_at_call 37; refine (l1In_any _ _ _ _).mono ?_; rintro e w' ⟨rfl, rfl⟩; rw [D1.out])
        go_ret
        exact ⟨_, rfl, by rw [HF.out]; exact (Sl.empty3 w1).mono HK1.out.size, HK1.out.alloc _⟩
      · have h3 : ¬ (0 ≤ steps ∧ steps ≤ 11) := fun h3 => hgood ⟨ho, h2, h3⟩
        have HF := Lib.hid (Nt.bestOf_no3 (xs := xs) (ys := ys) (node := node) h3)
        have D1 : Hid (decide (0 ≤ node ∧ node ≤ (xs.length : Int) - 1) = true) := Lib.hid (decide_eq_true (by obtain ⟨x, hx, hx2⟩ := Nt.inB_ok h2; omega))
        have D2 : Hid (decide (0 ≤ steps ∧ steps ≤ 11) = false) := Lib.hid (decide_eq_false h3)
        clear hgood h2 h3
        go_wp2_with (go_at_call 37; refine (l1In_any _ _ _ _).mono ?_; rintro e w' ⟨rfl, rfl⟩; first | rw [D1.out] | rw [D2.out])
        go_ret
        exact ⟨_, rfl, by rw [HF.out]; exact (Sl.empty3 w1).mono HK1.out.size, HK1.out.alloc _⟩
end Go.Proofs.Ythhnhnfflmmmlaa
