/-
  Walks: rises, tours and climbs, by the program.
-/
import Derived.Test.YtllbdhfckdljgaaTI
import Derived.Test.YtllbdhfckdljgaaUM
namespace Go.Proofs.Ytllbdhfckdljgaa
open Go.RowKit

set_option maxHeartbeats 400000 in
set_option maxRecDepth 100000 in
theorem isNode_any (n : Nat) (a : Int) (w : World) :
    Calls Try.prog 49 #[.int .i64 (n : Int), .int .i64 a] w fun e w' => e = .returned (.bool (Nt.inB n a)) ∧ w = w' := by
  by_cases h1 : 0 ≤ a <;> by_cases h2 : a < (n : Int)
  all_goals
    have HB : Hid (Nt.inB n a = decide (0 ≤ a ∧ a < (n : Int))) := Lib.hid rfl
    go_enter Try.func49, Try.ntmps49
    go_wp2
    go_ret
    exact ⟨by rw [HB.out]; simp [h1, h2], rfl⟩

set_option maxHeartbeats 1000000 in
set_option maxRecDepth 100000 in
theorem rise_any (ks : List Nat) (st : Nt.St 3 ks) (a b : Nat) (ha : a < ks.length) (hb : b < ks.length) (w : World) (v : Value) (base : Nat) (hs : Sl w base v (Nt.nats ks)) :
    Calls Try.prog 66 #[v, .int .i64 (a : Int), .int .i64 (b : Int)] w fun e w' => e = .returned (.int .i64 (Nt.rise (ks.getD a 0) (ks.getD b 0))) ∧ Qt w w' := by
  obtain ⟨n, hn⟩ : ∃ n, n = ks.length := ⟨_, rfl⟩
  have hp := st.some
  rw [← hn] at hp
  obtain ⟨g, cap, rfl, hg, hc⟩ := hs.row hn.symm hp
  have c1 := hc a (by omega)
  have c2 := hc b (by omega)
  have hx := st.lt a ha
  have hy := st.lt b hb
  have han : a < n := by omega
  have hbn : b < n := by omega
  clear hs hc st ha hb hn
  generalize ks.getD a 0 = x at *
  generalize ks.getD b 0 = y at *
  have hr1 := @Nt.rise_one x y hy
  have hr2 := @Nt.rise_down x y hx
  have hr3 := @Nt.rise_lo x y
  have hr4 := @Nt.rise_hi x y
  have hnx : (x + 1) % 3 < 3 := by omega
  have hny : (y + 1) % 3 < 3 := by omega
  have N1 := Lib.hid (fun w => (nextKind_any 3 x (by omega) (by omega) w).mono (fun _ _ e => (⟨e.1, e.2.symm⟩ : _ ∧ _ = w)))
  have N2 := Lib.hid (fun w => (nextKind_any 3 y (by omega) (by omega) w).mono (fun _ _ e => (⟨e.1, e.2.symm⟩ : _ ∧ _ = w)))
  generalize (x + 1) % 3 = p at *
  generalize (y + 1) % 3 = q at *
  by_cases h1 : y = p
  · have d1 : ((y : Int) == (p : Int)) = true := by simp [h1]
    have HF : Hid (Nt.rise x y = 1) := Lib.hid (hr1.2 h1)
    clear hr1 hr2 hr3 hr4 h1
    go_enter Try.func66, Try.ntmps66
    go_wp2_with fail
    go_quiet ((go_at_call 73; first | exact quietL ((N1.out _).mono fun _ _ e => ⟨e.1, e.2.symm⟩) | exact quietL ((N2.out _).mono fun _ _ e => ⟨e.1, e.2.symm⟩)))
    go_wp2
    go_ret
    exact ⟨by rw [HF.out] <;> rfl, (Qt.refl _).draw _⟩
  · have d1 : ((y : Int) == (p : Int)) = false := by simp; omega
    by_cases h2 : x = q
    · have d2 : ((x : Int) == (q : Int)) = true := by simp [h2]
      have HF : Hid (Nt.rise x y = -1) := Lib.hid (hr2.2 h2)
      clear hr1 hr2 hr3 hr4 h1 h2
      go_enter Try.func66, Try.ntmps66
      go_wp2_with fail
      go_quiet ((go_at_call 73; first | exact quietL ((N1.out _).mono fun _ _ e => ⟨e.1, e.2.symm⟩) | exact quietL ((N2.out _).mono fun _ _ e => ⟨e.1, e.2.symm⟩)))
      have c1b : (w.drewN nq).cell? ⟨g, a, none⟩ = some (.int .i64 (x : Int)) := c1
      have c2b : (w.drewN nq).cell? ⟨g, b, none⟩ = some (.int .i64 (y : Int)) := c2
      have HQ := Lib.hid ((Qt.refl w).draw nq)
      clear c1 c2
      generalize w.drewN nq = w2 at *
      go_wp2_with fail
      go_quiet ((go_at_call 73; first | exact quietL ((N1.out _).mono fun _ _ e => ⟨e.1, e.2.symm⟩) | exact quietL ((N2.out _).mono fun _ _ e => ⟨e.1, e.2.symm⟩)))
      go_wp2
      go_ret
      exact ⟨by rw [HF.out] <;> rfl, HQ.out.draw _⟩
    · have d2 : ((x : Int) == (q : Int)) = false := by simp; omega
      have HF : Hid (Nt.rise x y = 0) := Lib.hid (by omega)
      clear hr1 hr2 hr3 hr4 h1 h2
      go_enter Try.func66, Try.ntmps66
      go_wp2_with fail
      go_quiet ((go_at_call 73; first | exact quietL ((N1.out _).mono fun _ _ e => ⟨e.1, e.2.symm⟩) | exact quietL ((N2.out _).mono fun _ _ e => ⟨e.1, e.2.symm⟩)))
      have c1b : (w.drewN nq).cell? ⟨g, a, none⟩ = some (.int .i64 (x : Int)) := c1
      have c2b : (w.drewN nq).cell? ⟨g, b, none⟩ = some (.int .i64 (y : Int)) := c2
      have HQ := Lib.hid ((Qt.refl w).draw nq)
      clear c1 c2
      generalize w.drewN nq = w2 at *
      go_wp2_with fail
      go_quiet ((go_at_call 73; first | exact quietL ((N1.out _).mono fun _ _ e => ⟨e.1, e.2.symm⟩) | exact quietL ((N2.out _).mono fun _ _ e => ⟨e.1, e.2.symm⟩)))
      go_wp2
      go_ret
      exact ⟨by rw [HF.out] <;> rfl, HQ.out.draw _⟩

set_option maxHeartbeats 2000000 in
set_option maxRecDepth 100000 in
theorem iTourOk_any (xs zs : List Int) (w : World) (v : Value) (base : Nat) (u : Value) (base' : Nat) (hs : Sl w base v xs) (ht : Sl w base' u zs) :
    Calls Try.prog 22 #[v, u] w fun e w' => e = .returned (.bool (Nt.tourB xs zs)) ∧ w = w' := by
  have HS := Lib.hid hs
  have HT := Lib.hid ht
  obtain ⟨a, cap, rfl, _, hm, _⟩ := hs.any
  obtain ⟨a', cap', rfl, _, hm', _⟩ := ht.any
  clear hs ht
  cases ho : Nt.okB xs
  · have HF := Lib.hid (Nt.tourB_no1 (zs := zs) ho)
    go_enter Try.func22, Try.ntmps22
    go_wp2_with (go_at_call 18; refine (iNetOk_any xs _ _ _ HS.out).mono ?_; rintro e w' ⟨rfl, rfl⟩; rw [ho])
    go_ret
    exact ⟨by rw [HF.out]; rfl, rfl⟩
  · by_cases hl0 : zs.length < 1
    · have HF := Lib.hid (Nt.tourB_no2 (xs := xs) (zs := zs) (by omega))
      go_enter Try.func22, Try.ntmps22
      go_wp2_with (go_at_call 18; refine (iNetOk_any xs _ _ _ HS.out).mono ?_; rintro e w' ⟨rfl, rfl⟩; rw [ho])
      go_ret
      exact ⟨by rw [HF.out]; rfl, rfl⟩
    · by_cases hl12 : 12 < zs.length
      · have HF := Lib.hid (Nt.tourB_no2 (xs := xs) (zs := zs) (by omega))
        go_enter Try.func22, Try.ntmps22
        go_wp2_with (go_at_call 18; refine (iNetOk_any xs _ _ _ HS.out).mono ?_; rintro e w' ⟨rfl, rfl⟩; rw [ho])
        go_ret
        exact ⟨by rw [HF.out]; rfl, rfl⟩
      · obtain ⟨ns, rfl, ok⟩ := Nt.okB_ok ho
        obtain ⟨n, hn⟩ : ∃ n, n = ns.length := ⟨_, rfl⟩
        obtain ⟨L, hL⟩ : ∃ L, L = zs.length := ⟨_, rfl⟩
        have hp := ok.some
        have h6 := ok.few
        have hln : (Nt.nats ns).length = n := by rw [Nt.nats_length]; exact hn.symm
        rw [← hn] at hp h6
        obtain ⟨g, cp, e1, _, hcs⟩ := HS.out.row hn.symm hp
        have hz := HT.out.shape hL.symm (by omega)
        obtain ⟨g', cp', e2, _, _⟩ := hz
        have HC := Lib.hid hcs
        have HZZ : Hid (∀ k, k < L → w.cell? ⟨g', k, none⟩ = some (.int .i64 (zs.getD k 0))) := Lib.hid (fun k hk => by
          have h := HT.out
          rw [e2] at h
          exact (h.at k (by omega)).1)
        have HSQ := HS
        rw [hln] at HS hm e1 ⊢
        rw [← hL] at HT hm' hl0 hl12 ⊢
        have HY : Hid (Sl w base (Value.slice a n cap) (Nt.nats ns)) := Lib.hid HS.out
        clear HS HSQ HT
        rw [e1] at HY ⊢
        rw [← hL] at e2
        rw [e2]
        have HN := Lib.hid hn
        have HL := Lib.hid hL
        clear hcs hn hL ok hln e1 e2
        have hl1 : 1 ≤ L := by omega
        have hl2 : L ≤ 12 := by omega
        go_enter Try.func22, Try.ntmps22
        go_wp2_with (go_at_call 18; refine (iNetOk_any (Nt.nats ns) _ _ _ HY.out).mono ?_; rintro e w' ⟨rfl, rfl⟩; rw [ho])
        have HO := Lib.hid ho
        clear ho
        go_loop [22] (fun i => ∃ k : Nat, k ≤ L ∧ i = .int .i64 k ∧ Nt.goesTo (Nt.nats ns) zs k) (fun i => L - (intOf i).toNat)
        case atStart => exact ⟨0, Nat.zero_le _, rfl, fun j hj => absurd hj (by omega)⟩
        case round =>
          obtain ⟨k, hk, rfl, hgo⟩ := hrel
          have HG := Lib.hid hgo
          by_cases hlt : k < L
          · have ck := HZZ.out k hlt
            generalize hz : zs.getD k 0 = z at *
            have HZ := Lib.hid hz
            cases hb : Nt.inB n z
            · have HF := Lib.hid (Nt.tourB_no3 (xs := Nt.nats ns) (zs := zs) (k := k) (by rw [← HL.out]; exact hlt) (goes_not (by rw [HZ.out, Nt.nats_length, ← HN.out]; exact hb)))
              have HB := Lib.hid hb
              clear hz hgo hb
              go_wp2_with (go_at_call 49; refine (isNode_any _ _ _).mono ?_; rintro e w' ⟨rfl, rfl⟩; rw [HB.out])
              go_ret
              exact ⟨by rw [HF.out]; rfl, rfl⟩
            · obtain ⟨q, rfl, hq2⟩ := Nt.inB_ok hb
              have HB := Lib.hid hb
              by_cases hk0 : k = 0
              · subst hk0
                have HS0 := Lib.hid (goes_first (xs := Nt.nats ns) HZ.out (by rw [Nt.nats_length, ← HN.out]; exact hq2))
                clear hz hgo hb
                go_wp2_with (go_at_call 49; refine (isNode_any _ _ _).mono ?_; rintro e w' ⟨rfl, rfl⟩; rw [HB.out])
                go_round
                case rel => exact ⟨0 + 1, by omega, by go_num, Nt.goesTo_succ HG.out HS0.out⟩
                case measure => simp [intOf]; omega
              · obtain ⟨j, hj⟩ : ∃ j, j + 1 = k := ⟨k - 1, by omega⟩
                obtain ⟨p, hpz, hpn⟩ := goes_in (hgo j (by omega))
                rw [Nt.nats_length, ← HN.out] at hpn
                have HS0 := Lib.hid (goes_more (ns := ns) hj hpz HZ.out (by rw [← HN.out]; exact hq2))
                have cj := HZZ.out j (by omega)
                rw [hpz] at cj
                have cp := HC.out p hpn
                have s1 : IntKind.i64.wrap ((k : Int) - 1) = (j : Int) := by rw [IntWalk.i64_in _ (by omega)]; omega
                have s2 : (k : Int) - 1 = (j : Int) := by omega
                have hkp : 0 < k := by omega
                have hjl : j < L := by omega
                clear hz hgo hb hj hpz hk0
                generalize ns.getD p 0 = r at *
                cases hbit : r.testBit q
                · have HF := Lib.hid (Nt.tourB_no3 (xs := Nt.nats ns) (zs := zs) (k := k) (by rw [← HL.out]; exact hlt) (by rw [HS0.out]; exact hbit))
                  go_wp2_with (first | (go_at_call 49; refine (isNode_any _ _ _).mono ?_; rintro e w' ⟨rfl, rfl⟩; rw [HB.out]) | (go_at_call 45; refine (hasNode_nat r q _ (by omega)).mono ?_; rintro e w' ⟨rfl, rfl⟩; rw [hbit]))
                  go_ret
                  exact ⟨by rw [HF.out]; rfl, rfl⟩
                · have HF : Hid (Nt.goesB (Nt.nats ns) zs k = true) := Lib.hid (by rw [HS0.out]; exact hbit)
                  go_wp2_with (first | (go_at_call 49; refine (isNode_any _ _ _).mono ?_; rintro e w' ⟨rfl, rfl⟩; rw [HB.out]) | (go_at_call 45; refine (hasNode_nat r q _ (by omega)).mono ?_; rintro e w' ⟨rfl, rfl⟩; rw [hbit]))
                  go_round
                  case rel => exact ⟨k + 1, by omega, by go_num, Nt.goesTo_succ HG.out HF.out⟩
                  case measure => simp [intOf]; omega
          · have hk' : k = L := by omega
            subst hk'
            have HF : Hid (Nt.tourB (Nt.nats ns) zs = true) := Lib.hid (Nt.tourB_yes HO.out (by rw [← HL.out]; exact hl1) (by rw [← HL.out]; exact hl2) (by rw [← HL.out]; exact HG.out))
            clear hgo
            go_wp2
            go_ret
            exact ⟨by rw [HF.out]; rfl, rfl⟩

set_option maxHeartbeats 2000000 in
set_option maxRecDepth 100000 in
theorem iClimbOf_any (xs ys zs : List Int) (w : World) (v : Value) (base : Nat) (u : Value) (base' : Nat) (t : Value) (base2 : Nat) (hs : Sl w base v xs) (ht : Sl w base' u ys) (hz : Sl w base2 t zs) :
    Calls Try.prog 54 #[v, u, t] w fun e w' => e = .returned (.tuple #[.int .i64 (Nt.climbOf xs ys zs), .bool (Nt.climbB xs ys zs)]) ∧ Qt w w' := by
  have HS := Lib.hid hs
  have HT := Lib.hid ht
  have HZ := Lib.hid hz
  obtain ⟨a, cap, rfl, _, hm, _⟩ := hs.any
  obtain ⟨a', cap', rfl, _, hm', _⟩ := ht.any
  obtain ⟨a2, cap2, rfl, _, hm2, _⟩ := hz.any
  clear hs ht hz
  cases h2 : Nt.tourB xs zs
  · have HB := Lib.hid (Nt.climbB_no1 (ys := ys) h2)
    have HF := Lib.hid (Nt.climbOf_no HB.out)
    go_enter Try.func54, Try.ntmps54
    go_wp2_with (go_at_call 22; refine (iTourOk_any xs zs _ _ _ _ _ HS.out HZ.out).mono ?_; rintro e w' ⟨rfl, rfl⟩; rw [h2])
    go_ret2
    exact ⟨by rw [HB.out, HF.out]; rfl, Qt.refl _⟩
  · cases h1 : Nt.fireB xs 3 ys
    · have HB := Lib.hid (Nt.climbB_no2 (zs := zs) h1)
      have HF := Lib.hid (Nt.climbOf_no HB.out)
      go_enter Try.func54, Try.ntmps54
      go_wp2_with (first | (go_at_call 22; refine (iTourOk_any xs zs _ _ _ _ _ HS.out HZ.out).mono ?_; rintro e w' ⟨rfl, rfl⟩; rw [h2]) | (go_at_call 51; refine (turningOk_any xs ys _ _ _ _ _ HS.out HT.out).mono ?_; rintro e w' ⟨rfl, rfl⟩; rw [h1]))
      go_ret2
      exact ⟨by rw [HB.out, HF.out]; rfl, Qt.refl _⟩
    · have hB : Nt.climbB xs ys zs = true := by unfold Nt.climbB; rw [h1, h2]; rfl
      obtain ⟨ns, ks, tr, rfl, rfl, rfl, ok, st, hl, htr⟩ := Nt.climbB_ok hB
      have HB := Lib.hid hB
      have HF := Lib.hid (Nt.climbOf_ok ok st hl htr)
      obtain ⟨n, hn⟩ : ∃ n, n = ks.length := ⟨_, rfl⟩
      obtain ⟨L, hL⟩ : ∃ L, L = tr.length := ⟨_, rfl⟩
      have hL1 := htr.some
      have hL2 := htr.few
      rw [← hL] at hL1 hL2
      obtain ⟨g2, cp2, e2, _, hcz⟩ := HZ.out.row hL.symm (by omega)
      rw [e2] at HZ ⊢
      have HZC := Lib.hid hcz
      have HIN := Lib.hid (fun k (hk : k < L) => (by have := htr.inn k (by omega); omega : tr.getD k 0 < ks.length))
      have HST := Lib.hid st
      have HCL : Hid (∀ m, Nt.climbTo ks tr (m + 1) = Nt.climbTo ks tr m + Nt.rise (ks.getD (tr.getD m 0) 0) (ks.getD (tr.getD (m + 1) 0) 0)) := Lib.hid (fun m => rfl)
      have HEND : Hid (Nt.climb ks tr = Nt.climbTo ks tr (L - 1)) := Lib.hid (by rw [hL]; rfl)
      have HBD := Lib.hid (fun m => Nt.climbTo_bounds ks tr m)
      clear hcz ok st hl htr hn hL hB e2 hm hm' hm2
      go_enter Try.func54, Try.ntmps54
      go_wp2_with (first | (go_at_call 22; refine (iTourOk_any _ _ _ _ _ _ _ HS.out HZ.out).mono ?_; rintro e w' ⟨rfl, rfl⟩; rw [h2]) | (go_at_call 51; refine (turningOk_any _ _ _ _ _ _ _ HS.out HT.out).mono ?_; rintro e w' ⟨rfl, rfl⟩; rw [h1]))
      clear h1 h2
      go_loopw [8, 9] (fun c i wr => ∃ m k : Nat, m + 1 = k ∧ k ≤ L ∧ i = .int .i64 k ∧ c = .int .i64 (Nt.climbTo ks tr m) ∧ Qt w wr) (fun _ i _ => L - (intOf i).toNat)
      case atStart => exact ⟨0, 1, rfl, hL1, rfl, rfl, Qt.refl _⟩
      case round =>
        obtain ⟨m, k, hmk, hk, rfl, rfl, hq⟩ := hrel
        have HQ := Lib.hid hq
        by_cases hlt : k < L
        · have c1 := (hq.cell _).trans (HZC.out m (by omega))
          have c2 := (hq.cell _).trans (HZC.out k hlt)
          have i1 := HIN.out m (by omega)
          have i2 := HIN.out k hlt
          have hbd := HBD.out m
          have HCM := Lib.hid (HCL.out m)
          rw [hmk] at HCM
          have s1 : IntKind.i64.wrap ((k : Int) - 1) = (m : Int) := by rw [IntWalk.i64_in _ (by omega)]; omega
          have hmL : m < L := by omega
          clear hq
          generalize Nt.climbTo ks tr m = c at *
          generalize tr.getD m 0 = p at *
          generalize tr.getD k 0 = q at *
          have HR := Lib.hid (fun d => rise_any ks HST.out p q i1 i2 (wr.drewN d) _ _ (((Qt.refl wr).draw d).sl (HQ.out.sl HT.out)))
          have r1 := @Nt.rise_lo (ks.getD p 0) (ks.getD q 0)
          have r2 := @Nt.rise_hi (ks.getD p 0) (ks.getD q 0)
          generalize Nt.rise (ks.getD p 0) (ks.getD q 0) = r at *
          have s2 : IntKind.i64.wrap (c + r) = c + r := IntWalk.i64_in _ (by omega)
          clear hmk i1 i2
          go_wp2_with fail
          go_quiet ((go_at_call 66; exact quietQ (HR.out _)))
          go_wp2
          go_roundw
          case rel => exact ⟨k, k + 1, rfl, by omega, by go_num, by rw [HCM.out], HQ.out.draw _⟩
          case measure => simp [intOf]; omega
        · have hk' : k = L := by omega
          subst hk'
          have HE : Hid (Nt.climb ks tr = Nt.climbTo ks tr m) := Lib.hid (by rw [HEND.out]; congr 1; omega)
          clear hq
          go_wp2
          go_ret2
          exact ⟨by rw [HB.out, HF.out, HE.out] <;> rfl, HQ.out⟩
end Go.Proofs.Ytllbdhfckdljgaa
