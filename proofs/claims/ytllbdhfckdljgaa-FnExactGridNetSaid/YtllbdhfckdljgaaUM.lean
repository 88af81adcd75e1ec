/-
  Walks: rises, tours and climbs, by the model.
  Walks: what tours climb most, and the best ones, by the model.
-/
import Derived.Test.YtllbdhfckdljgaaTB
import Derived.Test.YtllbdhfckdljgaaTC
import Derived.StillTailTactics
namespace Go.Proofs.Ytllbdhfckdljgaa
open Go.RowKit

theorem rise_mod (x y : Nat) (hx : x < 3) (hy : y < 3) : ((y : Int) - (x : Int) + 3 + 1).tmod 3 = Nt.rise x y + 1 := by
  rw [Int.tmod_eq_emod_of_nonneg (by omega)]
  unfold Nt.rise
  omega

theorem goes_more {ns : List Nat} {zs : List Int} {k j p q : Nat} (hj : j + 1 = k) (hp : zs.getD j 0 = (p : Int)) (hq : zs.getD k 0 = (q : Int)) (hqn : q < ns.length) : Nt.goesB (Nt.nats ns) zs k = (ns.getD p 0).testBit q := by
  subst hj
  unfold Nt.goesB
  rw [hq, Nt.nats_length, Nt.inB_yes hqn, Nat.add_sub_cancel, hp, Int.toNat_natCast, Int.toNat_natCast, Nt.nats_get, Nt.bit_nat]
  simp
theorem goes_first {xs zs : List Int} {q : Nat} (hq : zs.getD 0 0 = (q : Int)) (hqn : q < xs.length) : Nt.goesB xs zs 0 = true := by
  unfold Nt.goesB
  rw [hq, Nt.inB_yes hqn]
  rfl
theorem goes_not {xs zs : List Int} {k : Nat} (h : Nt.inB xs.length (zs.getD k 0) = false) : Nt.goesB xs zs k = false := by
  unfold Nt.goesB
  rw [h, Bool.false_and]
theorem goes_in {xs zs : List Int} {k : Nat} (h : Nt.goesB xs zs k = true) : ∃ p : Nat, zs.getD k 0 = (p : Int) ∧ p < xs.length := by
  unfold Nt.goesB at h
  rw [Bool.and_eq_true] at h
  exact Nt.inB_ok h.1

theorem l1In_is {b : Bool} {n lo hi : Int} (h : decide (lo ≤ n ∧ n ≤ hi) = b) (w : World) :
    Calls Try.prog 59 #[.int .i64 n, .int .i64 lo, .int .i64 hi] w fun e w' => e = .returned (.bool b) ∧ w = w' :=
  (l1In_any n lo hi w).mono fun _ _ e => ⟨by rw [e.1, h], e.2⟩

set_option maxHeartbeats 400000 in
set_option maxRecDepth 100000 in
theorem l6Rise_any (x y : Nat) (hx : x < 3) (hy : y < 3) (w : World) :
    Calls Try.prog 72 #[.int .i64 (x : Int), .int .i64 (y : Int)] w fun e w' => e = .returned (.int .i64 (Nt.rise x y)) ∧ w = w' := by
  have f1 := rise_mod x y hx hy
  have h1 := @Nt.rise_lo x y
  have h2 := @Nt.rise_hi x y
  generalize Nt.rise x y = r at *
  go_enter Try.func72, Try.ntmps72
  go_wp2
  go_ret
  exact ⟨by first | rfl | go_num, rfl⟩

set_option maxHeartbeats 2000000 in
set_option maxRecDepth 100000 in
theorem sTourOk_any (xs zs : List Int) (w : World) (v : Value) (base : Nat) (u : Value) (base' : Nat) (hs : Sl w base v xs) (ht : Sl w base' u zs) :
    Calls Try.prog 71 #[v, u] w fun e w' => e = .returned (.bool (Nt.tourB xs zs)) ∧ Qt w w' := by
  have HS := Lib.hid hs
  have HT := Lib.hid ht
  obtain ⟨a, cap, rfl, _, hm, _⟩ := hs.any
  obtain ⟨a', cap', rfl, _, hm', _⟩ := ht.any
  clear hs ht
  go_enter Try.func71, Try.ntmps71
  go_wp2_with fail
  refine (sNetOk_any xs _ _ _ HS.out).mono ?_
  rintro e w1 ⟨rfl, hq⟩
  have HQ1 := Lib.hid hq
  have HS1 := Lib.hid (hq.sl HS.out)
  have HT1 := Lib.hid (hq.sl HT.out)
  clear hq HS HT
  cases ho : Nt.okB xs
  · have HF := Lib.hid (Nt.tourB_no1 (zs := zs) ho)
    go_wp2
    go_ret
    exact ⟨by rw [HF.out]; rfl, HQ1.out⟩
  · by_cases hl : 1 ≤ zs.length ∧ zs.length ≤ 12
    · have d1 : decide ((1 : Int) ≤ (zs.length : Int) ∧ (zs.length : Int) ≤ 12) = true := decide_eq_true (by omega)
      obtain ⟨hl1, hl2⟩ := hl
      obtain ⟨ns, rfl, ok⟩ := Nt.okB_ok ho
      obtain ⟨n, hn⟩ : ∃ n, n = ns.length := ⟨_, rfl⟩
      have hp := ok.some
      have h6 := ok.few
      have hln : (Nt.nats ns).length = n := by rw [Nt.nats_length]; exact hn.symm
      rw [← hn] at hp h6
      rw [hln] at hm HS1 ⊢
      have HC : Hid (∀ k, k < n → ∃ g, a = some ⟨g, 0, none⟩ ∧ w1.cell? ⟨g, k, none⟩ = some (.int .i64 ((ns.getD k 0 : Nat) : Int))) := Lib.hid (fun k hk => by
        obtain ⟨a2, cap2, e2, _, _, hc2⟩ := HS1.out.any
        simp at e2
        obtain ⟨rfl, _, rfl⟩ := e2
        obtain ⟨g, hg, _, _, hc3, _⟩ := hc2 k (by omega)
        exact ⟨g, hg, by rw [hc3, Nt.nats_get]⟩)
      have HT2 : Hid (∀ k, k < zs.length → ∃ g, a' = some ⟨g, 0, none⟩ ∧ w1.cell? ⟨g, k, none⟩ = some (.int .i64 (zs.getD k 0))) := Lib.hid (fun k hk => by
        obtain ⟨a2, cap2, e2, _, _, hc2⟩ := HT1.out.any
        simp at e2
        obtain ⟨rfl, rfl⟩ := e2
        obtain ⟨g, hg, _, _, hc3, _⟩ := hc2 k hk
        exact ⟨g, hg, hc3⟩)
      obtain ⟨g, rfl, _⟩ := HC.out 0 (by omega)
      obtain ⟨g', rfl, _⟩ := HT2.out 0 (by omega)
      have HCC : Hid (∀ k, k < n → w1.cell? ⟨g, k, none⟩ = some (.int .i64 ((ns.getD k 0 : Nat) : Int))) := Lib.hid (fun k hk => by
        obtain ⟨g2, e2, h2⟩ := HC.out k hk
        simp at e2; subst e2; exact h2)
      have HZZ : Hid (∀ k, k < zs.length → w1.cell? ⟨g', k, none⟩ = some (.int .i64 (zs.getD k 0))) := Lib.hid (fun k hk => by
        obtain ⟨g2, e2, h2⟩ := HT2.out k hk
        simp at e2; subst e2; exact h2)
      have HN := Lib.hid hn
      have HO := Lib.hid ho
      clear HC HT2 ho hln hn ok HS1 HT1
      go_wp2_with (go_at_call 59; refine (l1In_any _ _ _ _).mono ?_; rintro e w' ⟨rfl, rfl⟩; rw [d1])
      clear d1
      go_loopw [5] (fun i wr => ∃ k : Nat, k ≤ zs.length ∧ i = .int .i64 k ∧ Nt.goesTo (Nt.nats ns) zs k ∧ Qt w1 wr) (fun i _ => zs.length - (intOf i).toNat)
      case atStart => exact ⟨0, Nat.zero_le _, rfl, fun j hj => absurd hj (by omega), Qt.refl _⟩
      case round =>
        obtain ⟨k, hk, rfl, hgo, hq⟩ := hrel
        have HQ := Lib.hid (HQ1.out.trans hq)
        have HW := Lib.hid hq
        have HG := Lib.hid hgo
        by_cases hlt : k < zs.length
        · have ck := (hq.cell _).trans (HZZ.out k hlt)
          generalize hz : zs.getD k 0 = z at *
          have HZ := Lib.hid hz
          cases hb : Nt.inB n z
          · have d1 : decide (0 ≤ z ∧ z ≤ (n : Int) - 1) = false := decide_eq_false (by have := Nt.inB_no hb; omega)
            have HF := Lib.hid (Nt.tourB_no3 (xs := Nt.nats ns) hlt (goes_not (by rw [HZ.out, Nt.nats_length, ← HN.out]; exact hb)))
            clear hz hq hgo hb
            go_wp2_with fail
            go_quiet ((go_at_call 59; exact quietL (l1In_any _ _ _ _)))
            go_wp2
            go_ret
            exact ⟨by rw [HF.out]; rfl, HQ.out.draw _⟩
          · have d1 : decide (0 ≤ z ∧ z ≤ (n : Int) - 1) = true := decide_eq_true (by obtain ⟨x, hx, hx2⟩ := Nt.inB_ok hb; omega)
            have D1 := Lib.hid d1
            clear d1
            obtain ⟨q, rfl, hq2⟩ := Nt.inB_ok hb
            by_cases hk0 : k = 0
            · subst hk0
              have HS0 := Lib.hid (goes_first (xs := Nt.nats ns) HZ.out (by rw [Nt.nats_length, ← HN.out]; exact hq2))
              have dk : decide ((0 : Int) < ((0 : Nat) : Int)) = false := by decide
              clear hz hq hgo hb
              go_wp2_with fail
              go_quiet ((go_at_call 59; exact quietL (l1In_is D1.out _)))
              go_wp2
              go_roundw
              case rel => exact ⟨0 + 1, by omega, by go_num, Nt.goesTo_succ HG.out HS0.out, HW.out.draw _⟩
              case measure => simp [intOf]; omega
            · obtain ⟨j, hj⟩ : ∃ j, j + 1 = k := ⟨k - 1, by omega⟩
              obtain ⟨p, hpz, hpn⟩ := goes_in (hgo j (by omega))
              rw [Nt.nats_length, ← HN.out] at hpn
              have HS0 := Lib.hid (goes_more (ns := ns) hj hpz HZ.out (by rw [← HN.out]; exact hq2))
              have cj := (hq.cell _).trans (HZZ.out j (by omega))
              rw [hpz] at cj
              have cp := (hq.cell _).trans (HCC.out p hpn)
              have dk : decide ((0 : Int) < (k : Int)) = true := decide_eq_true (by omega)
              have dk2 : decide (0 < k) = true := decide_eq_true (by omega)
              have hkp : 0 < k := by omega
              have s1 : IntKind.i64.wrap ((k : Int) - 1) = (j : Int) := by rw [IntWalk.i64_in _ (by omega)]; omega
              have p1 := shr_nonneg (ns.getD p 0) q
              have e1 := shr_bit (ns.getD p 0) q
              have hjl : j < zs.length := by omega
              clear hz hq hgo hb hj hpz hk0
              generalize ns.getD p 0 = r at *
              cases hbit : r.testBit q
              · have HF := Lib.hid (Nt.tourB_no3 (xs := Nt.nats ns) hlt (by rw [HS0.out]; exact hbit))
                rw [hbit] at e1
                simp only [Bool.false_eq_true, if_false] at e1
                clear hbit
                go_wp2_with fail
                go_quiet ((go_at_call 59; exact quietL (l1In_is D1.out _)))
                go_wp2
                go_ret
                exact ⟨by rw [HF.out]; rfl, HQ.out.draw _⟩
              · have HF : Hid (Nt.goesB (Nt.nats ns) zs k = true) := Lib.hid (by rw [HS0.out]; exact hbit)
                rw [hbit] at e1
                simp only [if_true] at e1
                clear hbit
                go_wp2_with fail
                go_quiet ((go_at_call 59; exact quietL (l1In_is D1.out _)))
                go_wp2
                go_roundw
                case rel => exact ⟨k + 1, by omega, by go_num, Nt.goesTo_succ HG.out HF.out, HW.out.draw _⟩
                case measure => simp [intOf]; omega
        · have hk' : k = zs.length := by omega
          subst hk'
          have HF := Lib.hid (Nt.tourB_yes HO.out hl1 hl2 HG.out)
          clear hq hgo
          go_wp2
          go_ret
          exact ⟨by rw [HF.out]; rfl, HQ.out⟩
    · have d1 : decide ((1 : Int) ≤ (zs.length : Int) ∧ (zs.length : Int) ≤ 12) = false := decide_eq_false (by omega)
      have HF := Lib.hid (Nt.tourB_no2 (xs := xs) hl)
      clear hl
      go_wp2_with (go_at_call 59; refine (l1In_any _ _ _ _).mono ?_; rintro e w' ⟨rfl, rfl⟩; rw [d1])
      go_ret
      exact ⟨by rw [HF.out]; rfl, HQ1.out⟩

set_option maxHeartbeats 2000000 in
set_option maxRecDepth 100000 in
theorem sClimbOf_any (xs ys zs : List Int) (w : World) (v : Value) (base : Nat) (u : Value) (base' : Nat) (t : Value) (base2 : Nat) (hs : Sl w base v xs) (ht : Sl w base' u ys) (hz : Sl w base2 t zs) :
    Calls Try.prog 65 #[v, u, t] w fun e w' => e = .returned (.tuple #[.int .i64 (Nt.climbOf xs ys zs), .bool (Nt.climbB xs ys zs)]) ∧ Qt w w' := by
  have HS := Lib.hid hs
  have HT := Lib.hid ht
  have HZ := Lib.hid hz
  obtain ⟨a, cap, rfl, _, hm, _⟩ := hs.any
  obtain ⟨a', cap', rfl, _, hm', _⟩ := ht.any
  obtain ⟨a2, cap2, rfl, _, hm2, _⟩ := hz.any
  clear hs ht hz
  go_enter Try.func65, Try.ntmps65
  go_wp2_with fail
  refine (l3Ok_any xs 3 ys _ _ _ _ _ HS.out HT.out).mono ?_
  rintro e w1 ⟨rfl, hq⟩
  have HQ1 := Lib.hid hq
  have HS1 := Lib.hid (hq.sl HS.out)
  have HT1 := Lib.hid (hq.sl HT.out)
  have HZ1 := Lib.hid (hq.sl HZ.out)
  clear hq HS HT HZ
  cases h1 : Nt.fireB xs 3 ys
  · have HB := Lib.hid (Nt.climbB_no2 (zs := zs) h1)
    have HF := Lib.hid (Nt.climbOf_no HB.out)
    go_wp2
    go_ret2
    exact ⟨by rw [HB.out, HF.out]; rfl, HQ1.out⟩
  · go_wp2_with fail
    refine (sTourOk_any xs zs _ _ _ _ _ HS1.out HZ1.out).mono ?_
    rintro e w2 ⟨rfl, hq⟩
    have HQ2 := Lib.hid (HQ1.out.trans hq)
    have HT2 := Lib.hid (hq.sl HT1.out)
    have HZ2 := Lib.hid (hq.sl HZ1.out)
    clear hq HS1 HT1 HZ1 HQ1
    cases h2 : Nt.tourB xs zs
    · have HB := Lib.hid (Nt.climbB_no1 (ys := ys) h2)
      have HF := Lib.hid (Nt.climbOf_no HB.out)
      go_wp2
      go_ret2
      exact ⟨by rw [HB.out, HF.out]; rfl, HQ2.out⟩
    · have hB : Nt.climbB xs ys zs = true := by unfold Nt.climbB; rw [h1, h2]; rfl
      obtain ⟨ns, ks, tr, rfl, rfl, rfl, ok, st, hl, htr⟩ := Nt.climbB_ok hB
      have HB := Lib.hid hB
      have HF := Lib.hid (Nt.climbOf_ok ok st hl htr)
      obtain ⟨n, hn⟩ : ∃ n, n = ks.length := ⟨_, rfl⟩
      obtain ⟨L, hL⟩ : ∃ L, L = tr.length := ⟨_, rfl⟩
      have hp := st.some
      have h6 := st.few
      have hL1 := htr.some
      have hL2 := htr.few
      rw [← hn] at hp h6
      rw [← hL] at hL1 hL2
      obtain ⟨g, cp, e, _, hcs⟩ := HT2.out.row hn.symm hp
      obtain ⟨g2, cp2, e2, _, hcz⟩ := HZ2.out.row hL.symm (by omega)
      rw [e, e2]
      have HC := Lib.hid hcs
      have HZC := Lib.hid hcz
      have HIN := Lib.hid (fun k (hk : k < L) => (by have := htr.inn k (by omega); omega : tr.getD k 0 < n))
      have HLT := Lib.hid (fun k (hk : k < n) => st.lt k (by omega))
      have HCL : Hid (∀ m, Nt.climbTo ks tr (m + 1) = Nt.climbTo ks tr m + Nt.rise (ks.getD (tr.getD m 0) 0) (ks.getD (tr.getD (m + 1) 0) 0)) := Lib.hid (fun m => rfl)
      have HEND : Hid (Nt.climb ks tr = Nt.climbTo ks tr (L - 1)) := Lib.hid (by rw [hL]; rfl)
      have HBD := Lib.hid (fun m => Nt.climbTo_bounds ks tr m)
      clear hcs hcz ok st hl htr hn hL h1 h2 hB e e2 HT2 HZ2 hm hm' hm2
      go_wp2_with fail
      go_loopw [8, 9] (fun c i wr => ∃ m k : Nat, m + 1 = k ∧ k ≤ L ∧ i = .int .i64 k ∧ c = .int .i64 (Nt.climbTo ks tr m) ∧ Qt w2 wr) (fun _ i _ => L - (intOf i).toNat)
      case atStart => exact ⟨0, 1, rfl, hL1, rfl, rfl, Qt.refl _⟩
      case round =>
        obtain ⟨m, k, hmk, hk, rfl, rfl, hq⟩ := hrel
        have HQ := Lib.hid (HQ2.out.trans hq)
        have HW := Lib.hid hq
        by_cases hlt : k < L
        · have c1 := (hq.cell _).trans (HZC.out m (by omega))
          have c2 := (hq.cell _).trans (HZC.out k hlt)
          have i1 := HIN.out m (by omega)
          have i2 := HIN.out k hlt
          have c3 := (hq.cell _).trans (HC.out _ i1)
          have c4 := (hq.cell _).trans (HC.out _ i2)
          have hx := HLT.out _ i1
          have hy := HLT.out _ i2
          have hbd := HBD.out m
          have HST := Lib.hid (HCL.out m)
          rw [hmk] at HST
          have s1 : IntKind.i64.wrap ((k : Int) - 1) = (m : Int) := by rw [IntWalk.i64_in _ (by omega)]; omega
          have hmL : m < L := by omega
          clear hq
          generalize Nt.climbTo ks tr m = c at *
          generalize tr.getD m 0 = p at *
          generalize tr.getD k 0 = q at *
          generalize ks.getD p 0 = x at *
          generalize ks.getD q 0 = y at *
          have r1 := @Nt.rise_lo x y
          have r2 := @Nt.rise_hi x y
          have s2 : IntKind.i64.wrap (c + Nt.rise x y) = c + Nt.rise x y := IntWalk.i64_in _ (by omega)
          clear hmk
          go_wp2_with fail
          go_quiet ((go_at_call 72; exact quietL (l6Rise_any x y hx hy _)))
          go_wp2
          go_roundw
          case rel => exact ⟨k, k + 1, rfl, by omega, by go_num, by rw [HST.out], HW.out.draw _⟩
          case measure => simp [intOf]; omega
        · have hk' : k = L := by omega
          subst hk'
          have HE : Hid (Nt.climb ks tr = Nt.climbTo ks tr m) := Lib.hid (by rw [HEND.out]; congr 1; omega)
          clear hq
          go_wp2
          go_ret2
          exact ⟨by rw [HB.out, HF.out, HE.out] <;> rfl, HQ.out⟩
end Go.Proofs.Ytllbdhfckdljgaa

namespace Go.Proofs.Ytllbdhfckdljgaa
open Go.RowKit

theorem set_same (xs : List Int) (k : Nat) : xs.set k (xs.getD k 0) = xs := by
  by_cases h : k < xs.length
  · apply List.ext_getElem (by simp)
    intro i h1 h2
    by_cases e : k = i
    · subst e; simp [List.getD_eq_getElem?_getD, h]
    · simp [e]
  · rw [List.set_eq_of_length_le (by omega)]
theorem set_get (xs : List Int) {k n : Nat} (x : Int) (hn : xs.length = n) (h : k < n) : (xs.set k x).getD k 0 = x := by
  subst hn
  simp [List.getD_eq_getElem?_getD, h]
theorem turnedL_le (ns ks : List Nat) (t k : Nat) (hk : k < ks.length) : (Nt.turnedL ns ks t).getD k 0 ≤ t := by
  rw [Nt.turnedL_get _ _ _ hk]
  exact Nt.turned_le ns ks k t
/-- What a node's most is, once some neighbours have been looked at. -/
def mostTo (ns ks : List Nat) (t k j : Nat) : Int := Nt.overTo (Nt.viaK ns ks t k) (fun j => (ns.getD k 0).testBit j) ((Nt.turned ns ks k t : Nat) : Int) j
theorem mostTo_bounds (ns ks : List Nat) (t k j : Nat) : 0 ≤ mostTo ns ks t k j ∧ mostTo ns ks t k j ≤ (t : Int) + 1 := by
  unfold mostTo
  constructor
  · have := (Nt.overTo_ge (Nt.viaK ns ks t k) (fun j => (ns.getD k 0).testBit j) ((Nt.turned ns ks k t : Nat) : Int) j).1
    omega
  · have h := Nt.turned_le ns ks k t
    exact Nt.overTo_le (by omega) _ (fun i _ _ => Nt.viaK_le t k i)
theorem mostTo_end {ns ks : List Nat} (ok : Nt.Ok ns) (st : Nt.St 3 ks) (hl : ks.length = ns.length) (t : Nat) {k : Nat} (hk : k < ks.length) : mostTo ns ks t k ks.length = (((Nt.turnedL ns ks (t + 1)).getD k 0 : Nat) : Int) := by
  have h := Nt.most_turned ok st hl (t + 1) k hk
  rw [Nt.turnedL_get _ _ _ hk, ← h, Nt.mostK]
  unfold mostTo
  exact Nt.overTo_cong (Nt.most_turned ok st hl t k hk).symm _ (fun j hj => by unfold Nt.viaK; rw [Nt.most_turned ok st hl t j hj])

theorem best_take {ns ks : List Nat} {k t i : Nat} (hi : i < Nt.fewestT ns ks k t) :
    Nt.nats ((Nt.best ns ks k t).take (i + 1 + 1)) = Nt.nats ((Nt.best ns ks k t).take (i + 1)) ++ [(((Nt.best ns ks k t).getD (i + 1) 0 : Nat) : Int)] :=
  Nt.take_more _ _ (by rw [Nt.best_length]; omega)
theorem best_one (ns ks : List Nat) (k t : Nat) : (Nt.best ns ks k t).take (0 + 1) = [k] := by
  have h1 := Nt.best_length ns ks k t
  have h2 := Nt.best_head ns ks k t
  cases h : Nt.best ns ks k t with
  | nil => rw [h] at h1; simp at h1
  | cons x l => rw [h] at h2; simpa using h2
theorem best_all (ns ks : List Nat) (k t : Nat) : (Nt.best ns ks k t).take (Nt.fewestT ns ks k t + 1) = Nt.best ns ks k t := by
  rw [← Nt.best_length]; exact List.take_length
theorem take_at (tr : List Nat) {i : Nat} (_h : i < tr.length) : (Nt.nats (tr.take (i + 1))).getD i 0 = ((tr.getD i 0 : Nat) : Int) := by
  rw [Nt.nats_get, List.getD_eq_getElem?_getD, List.getElem?_take, if_pos (by omega), ← List.getD_eq_getElem?_getD]

end Go.Proofs.Ytllbdhfckdljgaa
