/-
  Walks: scripts of lights, by the model.
  Walks: states lit by scripts, runs by scripts, pulses, by the model.
  Walks: firings by scripts counted, pulses, by the model.
  Walks: pulses, by the model.
-/
import Derived.Test.YtilbdpcijdcffabFA
import Derived.Test.YtilbdpcijdcffabSL
namespace Go.Proofs.Ytilbdpcijdcffab
open Go.RowKit

set_option maxHeartbeats 2000000 in
set_option maxRecDepth 100000 in
theorem sScriptOk_any (n : Int) (xs : List (Int × Int)) (w : World) (v : Value) (base : Nat) (hs : Sg w base v xs) :
    Calls Try.prog 22 #[.int .i64 n, v] w fun e w' => e = .returned (.bool (Nt.scB n xs)) ∧ Qt w w' := by
  obtain ⟨a, cap, rfl, _, hm, hc⟩ := hs.any
  have HC := Lib.hid hc
  clear hc hs
  go_enter Try.func22, Try.ntmps22
  go_wp2
  go_loopw [5] (fun i wr => ∃ k : Nat, k ≤ xs.length ∧ i = .int .i64 k ∧ Nt.lTo n xs k ∧ Qt w wr) (fun i _ => xs.length - (intOf i).toNat)
  case atStart => exact ⟨0, Nat.zero_le _, rfl, fun j hj => absurd hj (by omega), Qt.refl _⟩
  case round =>
    obtain ⟨k, hk, rfl, hto, hq⟩ := hrel
    have HT := Lib.hid hto
    have HQ := Lib.hid hq
    clear hto
    by_cases hlt : k < xs.length
    · obtain ⟨g, rfl, _, _, c1, c2⟩ := HC.out k hlt
      have hprev : 0 < k → w.cell? ⟨g, (k - 1) * 2, none⟩ = some (.int .i64 (Nt.at2 xs (k - 1)).1) ∧ w.cell? ⟨g, (k - 1) * 2 + 1, none⟩ = some (.int .i64 (Nt.at2 xs (k - 1)).2) := fun h0 => by
        obtain ⟨g', e, _, _, p1, p2⟩ := HC.out (k - 1) (by omega)
        simp at e
        subst e
        exact ⟨p1, p2⟩
      have k1 := (hq.cell _).trans c1
      have k2 := (hq.cell _).trans c2
      have HLK : Hid (Nt.lOk n xs k ↔ (0 ≤ (Nt.at2 xs k).1 ∧ (Nt.at2 xs k).1 ≤ 59 ∧ 0 ≤ (Nt.at2 xs k).2 ∧ (Nt.at2 xs k).2 < n) ∧ (0 < k → (Nt.at2 xs (k - 1)).1 < (Nt.at2 xs k).1 ∨ (Nt.at2 xs (k - 1)).1 = (Nt.at2 xs k).1 ∧ (Nt.at2 xs (k - 1)).2 < (Nt.at2 xs k).2)) := Lib.hid Iff.rfl
      have HNO := Lib.hid (fun h => Nt.scB_no1 (n := n) hlt h)
      have HYES := Lib.hid (fun h => Nt.lTo_succ HT.out h)
      clear c1 c2
      generalize (Nt.at2 xs k).1 = t at *
      generalize (Nt.at2 xs k).2 = d at *
      by_cases h1 : 0 ≤ t ∧ t ≤ 59
      · have d1 : decide (0 ≤ t ∧ t ≤ 59) = true := dec_of h1
        by_cases h2 : d < 0
        · have HF := Lib.hid (HNO.out (fun h => by have := (HLK.out.1 h).1; omega))
          have d2 : decide (d < 0) = true := dec_of h2
          clear hprev hq h1 h2
          go_wp2_with (go_at_call 23; refine (l1In_any _ _ _ _).mono ?_; rintro e w' ⟨rfl, rfl⟩; rw [d1])
          go_ret
          exact ⟨by rw [HF.out]; rfl, HQ.out⟩
        · have d2 : decide (d < 0) = false := dec_not h2
          by_cases h3 : n ≤ d
          · have HF := Lib.hid (HNO.out (fun h => by have := (HLK.out.1 h).1; omega))
            have d3 : decide (n ≤ d) = true := dec_of h3
            clear hprev hq h1 h2 h3
            go_wp2_with (go_at_call 23; refine (l1In_any _ _ _ _).mono ?_; rintro e w' ⟨rfl, rfl⟩; rw [d1])
            go_ret
            exact ⟨by rw [HF.out]; rfl, HQ.out⟩
          · have d3 : decide (n ≤ d) = false := dec_not h3
            by_cases h0 : 0 < k
            · obtain ⟨p1, p2⟩ := hprev h0
              have q1 := (hq.cell _).trans p1
              have q2 := (hq.cell _).trans p2
              obtain ⟨j, hj⟩ : ∃ j, j = k - 1 := ⟨_, rfl⟩
              rw [← hj] at q1 q2 HLK
              have s1 : IntKind.i64.wrap ((k : Int) - 1) = (j : Int) := by rw [IntWalk.i64_in _ (by omega)]; omega
              have hjl : j < xs.length := by omega
              have d0 : decide (0 < k) = true := dec_of h0
              have HH := Lib.hid (And.intro h1 (And.intro h2 h3))
              clear hprev p1 p2 hq h1 h2 h3
              generalize (Nt.at2 xs j).1 = t' at *
              generalize (Nt.at2 xs j).2 = d' at *
              by_cases h4 : t < t'
              · have d4 : decide (t < t') = true := dec_of h4
                have HF := Lib.hid (HNO.out (fun h => by have := (HLK.out.1 h).2 h0; omega))
                clear h4 hj h0
                go_wp2_with (go_at_call 23; refine (l1In_any _ _ _ _).mono ?_; rintro e w' ⟨rfl, rfl⟩; rw [d1])
                go_quiet (fail)
                go_wp2
                go_ret
                exact ⟨by rw [HF.out]; rfl, HQ.out.draw _⟩
              · have d4 : decide (t < t') = false := dec_not h4
                by_cases h5 : t = t'
                · have d5 : (t == t') = true := by simp [h5]
                  by_cases h6 : d ≤ d'
                  · have d6 : decide (d ≤ d') = true := dec_of h6
                    have HF := Lib.hid (HNO.out (fun h => by have := (HLK.out.1 h).2 h0; omega))
                    clear h4 h5 h6 hj h0
                    go_wp2_with (go_at_call 23; refine (l1In_any _ _ _ _).mono ?_; rintro e w' ⟨rfl, rfl⟩; rw [d1])
                    go_quiet (fail)
                    go_wp2
                    go_ret
                    exact ⟨by rw [HF.out]; rfl, HQ.out.draw _⟩
                  · have d6 : decide (d ≤ d') = false := dec_not h6
                    have HF := Lib.hid (HYES.out (HLK.out.2 (by have := HH.out; exact ⟨by omega, fun _ => by omega⟩)))
                    clear h4 h5 h6 hj h0
                    go_wp2_with (go_at_call 23; refine (l1In_any _ _ _ _).mono ?_; rintro e w' ⟨rfl, rfl⟩; rw [d1])
                    go_quiet (fail)
                    go_wp2
                    go_roundw
                    case rel => exact ⟨k + 1, by omega, by go_num, HF.out, HQ.out.draw _⟩
                    case measure => simp [intOf]; omega
                · have d5 : (t == t') = false := by simp [h5]
                  have HF := Lib.hid (HYES.out (HLK.out.2 (by have := HH.out; exact ⟨by omega, fun _ => by omega⟩)))
                  clear h4 h5 hj h0
                  go_wp2_with (go_at_call 23; refine (l1In_any _ _ _ _).mono ?_; rintro e w' ⟨rfl, rfl⟩; rw [d1])
                  go_quiet (fail)
                  go_wp2
                  go_roundw
                  case rel => exact ⟨k + 1, by omega, by go_num, HF.out, HQ.out.draw _⟩
                  case measure => simp [intOf]; omega
            · have d0 : decide (0 < k) = false := dec_not h0
              have d0' : decide ((0 : Int) < (k : Int)) = false := dec_not (by omega)
              have HF := Lib.hid (HYES.out (HLK.out.2 ⟨by omega, fun h => absurd h h0⟩))
              clear hprev hq h1 h2 h3 h0
              go_wp2_with (go_at_call 23; refine (l1In_any _ _ _ _).mono ?_; rintro e w' ⟨rfl, rfl⟩; rw [d1])
              go_quiet (fail)
              go_wp2
              go_roundw
              case rel => exact ⟨k + 1, by omega, by go_num, HF.out, HQ.out.draw _⟩
              case measure => simp [intOf]; omega
      · have d1 : decide (0 ≤ t ∧ t ≤ 59) = false := dec_not h1
        have HF := Lib.hid (HNO.out (fun h => by have := (HLK.out.1 h).1; omega))
        clear hprev hq h1
        go_wp2_with (go_at_call 23; refine (l1In_any _ _ _ _).mono ?_; rintro e w' ⟨rfl, rfl⟩; rw [d1])
        go_ret
        exact ⟨by rw [HF.out]; rfl, HQ.out⟩
    · have hk' : xs.length = k := by omega
      subst hk'
      have HE := Lib.hid (Nt.scB_end HT.out)
      clear hq
      by_cases h1 : 1 ≤ n ∧ n ≤ 6
      · have d1 : decide (1 ≤ n ∧ n ≤ 6) = true := dec_of h1
        by_cases h2 : xs.length ≤ 8
        · have d2 : decide ((xs.length : Int) ≤ 8) = true := dec_of (by omega)
          have d3 : decide (xs.length ≤ 8) = true := dec_of h2
          have HF : Hid (Nt.scB n xs = true) := Lib.hid (by rw [HE.out, d1, d3]; rfl)
          clear h1 h2
          go_wp2_with (go_at_call 23; refine (l1In_any _ _ _ _).mono ?_; rintro e w' ⟨rfl, rfl⟩; rw [d1])
          go_ret
          exact ⟨by rw [HF.out]; rfl, HQ.out⟩
        · have d2 : decide ((xs.length : Int) ≤ 8) = false := dec_not (by omega)
          have d3 : decide (xs.length ≤ 8) = false := dec_not h2
          have HF : Hid (Nt.scB n xs = false) := Lib.hid (by rw [HE.out, d3, Bool.and_false])
          clear h1 h2
          go_wp2_with (go_at_call 23; refine (l1In_any _ _ _ _).mono ?_; rintro e w' ⟨rfl, rfl⟩; rw [d1])
          go_ret
          exact ⟨by rw [HF.out]; rfl, HQ.out⟩
      · have d1 : decide (1 ≤ n ∧ n ≤ 6) = false := dec_not h1
        have HF : Hid (Nt.scB n xs = false) := Lib.hid (by rw [HE.out, d1, Bool.false_and])
        clear h1
        go_wp2_with (go_at_call 23; refine (l1In_any _ _ _ _).mono ?_; rintro e w' ⟨rfl, rfl⟩; rw [d1])
        go_ret
        exact ⟨by rw [HF.out]; rfl, HQ.out⟩
end Go.Proofs.Ytilbdpcijdcffab

namespace Go.Proofs.Ytilbdpcijdcffab
open Go.RowKit

set_option maxHeartbeats 2000000 in
set_option maxRecDepth 100000 in
theorem l10Lit_any (ks : List Nat) (sc : List (Nat × Nat)) (t : Nat) (hk1 : 1 ≤ ks.length) (hk6 : ks.length ≤ 6) (so : Nt.SOk ks.length sc) (w : World) (v : Value) (base : Nat) (u : Value) (base' : Nat) (hs : Sl w base v (Nt.nats ks)) (hg : Sg w base' u (Nt.prs sc)) :
    Calls Try.prog 25 #[v, u, .int .i64 (t : Int)] w fun e w' => ∃ z, e = .returned z ∧ Sl w' w.heap.size z (Nt.nats (Nt.litS ks sc t)) ∧ Kept [] w w' := by
  obtain ⟨n, hn⟩ : ∃ n, n = ks.length := ⟨_, rfl⟩
  have hp : 0 < n := by omega
  obtain ⟨m, hm⟩ : ∃ m, m = sc.length := ⟨_, rfl⟩
  have hm8 := so.few
  rw [← hm] at hm8
  have HLN : Hid (∀ k, (Nt.nats (Nt.litS ks (sc.take k) t)).length = n) := Lib.hid (fun k => by rw [Nt.nats_length, Nt.litS_length, hn])
  have HL0 : Hid (Nt.litS ks (sc.take 0) t = ks) := Lib.hid (by rw [List.take_zero]; exact Nt.litS_nil ks t)
  have HLE : Hid (Nt.litS ks (sc.take m) t = Nt.litS ks sc t) := Lib.hid (by rw [hm, List.take_length])
  have HSTEP : Hid (∀ k, k < m → ∃ a b : Nat, Nt.at2 (Nt.prs sc) k = ((a : Int), (b : Int)) ∧ b < n ∧
      (a = t → (Nt.litS ks (sc.take k) t).getD b 0 = 0 → Nt.litS ks (sc.take (k + 1)) t = (Nt.litS ks (sc.take k) t).set b 1) ∧
      ((a ≠ t ∨ (Nt.litS ks (sc.take k) t).getD b 0 ≠ 0) → Nt.litS ks (sc.take (k + 1)) t = Nt.litS ks (sc.take k) t)) := Lib.hid (fun k hk => by
    have hk' : k < sc.length := by omega
    refine ⟨(sc[k]).1, (sc[k]).2, Nt.at2_prs sc hk', by rw [hn]; exact so.node _ (List.getElem_mem hk'), fun h1 h2 => (Nt.litS_hit hk' h1 h2).symm, fun h => (Nt.litS_miss hk' fun j _ e => ?_).symm⟩
    rw [e] at h
    rcases h with h | h
    · exact absurd rfl h
    · exact h)
  have HX := Lib.hid (show 0 < (Nt.nats ks).length ∧ (Nt.nats ks).length ≤ 1000 from by rw [Nt.nats_length]; omega)
  have HE := Lib.hid (Sl.empty3 w)
  have HS2 := Lib.hid (hs.stay ((Kept.refl [] w).alloc (.cells #[] 3)))
  have HG := Lib.hid hg
  have HPL : (Nt.prs sc).length = m := by rw [Nt.prs_length, hm]
  obtain ⟨a, cap, rfl, _, _, hc⟩ := hg.any
  obtain ⟨a1, cap1, rfl, _, _, _⟩ := hs.any
  have HC := Lib.hid hc
  rw [HPL] at HG HC ⊢
  clear hs hg hc hm so hk1 hk6 hn HPL
  go_enter Try.func25, Try.ntmps25
  go_wp2_with (at_builtin; refine app_sl rfl _ _ rfl w.heap.size _ [] HE.out rfl _ _ (Nt.nats ks) HS2.out HX.out.1 rfl (by have := HX.out.2; simp; omega) (by simp) ?_; intro z w2 hs2 hk2; have HZ := Lib.hid hs2; have HK2 := Lib.hid (((Kept.refl [] w).alloc (.cells #[] 3)).own hk2 (fun g' hg' => by simp [Value.ownBlock] at hg'; omega)); clear hs2 hk2)
  have hz0 : Sl w2 w.heap.size z (Nt.nats (Nt.litS ks (sc.take 0) t)) := by have h := HZ.out; rw [List.nil_append] at h; rw [HL0.out]; exact h
  obtain ⟨gz, capz, rfl, hgz, _⟩ := hz0.shape (HLN.out 0) hp
  have HZ0 := Lib.hid hz0
  clear hz0 HZ HE HS2 HX
  go_loopw [8] (fun i wr => ∃ k : Nat, k ≤ m ∧ i = .int .i64 k ∧ Sl wr w.heap.size (.slice (some ⟨gz, 0, none⟩) n capz) (Nt.nats (Nt.litS ks (sc.take k) t)) ∧ Kept [] w wr) (fun i _ => m - (intOf i).toNat)
  case atStart => exact ⟨0, Nat.zero_le _, rfl, HZ0.out, HK2.out⟩
  case round =>
    clear HZ0 HK2
    obtain ⟨k, hk, rfl, hsl, hkept⟩ := hrel
    have HSL := Lib.hid hsl
    have HK := Lib.hid hkept
    by_cases hlt : k < m
    · obtain ⟨g, rfl, _, hgl, c1, c2⟩ := HC.out k hlt
      obtain ⟨x, b, hx, hb, hhit, hmiss⟩ := HSTEP.out k hlt
      rw [hx] at c1 c2
      have k1 := (hkept.cell (p := ⟨g, k * 2, none⟩) hgl (by simp)).trans c1
      have k2 := (hkept.cell (p := ⟨g, k * 2 + 1, none⟩) hgl (by simp)).trans c2
      obtain ⟨cb, fb⟩ := hsl.at b (by rw [HLN.out]; exact hb)
      rw [Nt.nats_get] at cb
      have HHIT := Lib.hid hhit
      have HMISS := Lib.hid hmiss
      clear hsl hkept c1 c2 hx hhit hmiss
      generalize (Nt.litS ks (sc.take k) t).getD b 0 = z at *
      by_cases h1 : x = t
      · have d1 : ((x : Int) == (t : Int)) = true := by simp [h1]
        by_cases h2 : z = 0
        · have HY : Hid (Nt.litS ks (sc.take (k + 1)) t = (Nt.litS ks (sc.take k) t).set b 1) := Lib.hid (HHIT.out h1 h2)
          have d2 : ((z : Int) == 0) = true := by simp [h2]
          clear h1 h2
          go_wp2
          go_roundw
          case rel => exact ⟨k + 1, by omega, by go_num, by rw [HY.out, Nt.nats_set]; exact HSL.out.set (HLN.out k).symm b _, HK.out.setCell (.inr hgz) _⟩
          case measure => simp [intOf]; omega
        · have HY : Hid (Nt.litS ks (sc.take (k + 1)) t = Nt.litS ks (sc.take k) t) := Lib.hid (HMISS.out (.inr h2))
          have d2 : ((z : Int) == 0) = false := beq_eq_false_iff_ne.2 (by omega)
          clear h1 h2
          go_wp2
          go_roundw
          case rel => exact ⟨k + 1, by omega, by go_num, by rw [HY.out]; exact HSL.out, HK.out⟩
          case measure => simp [intOf]; omega
      · have HY : Hid (Nt.litS ks (sc.take (k + 1)) t = Nt.litS ks (sc.take k) t) := Lib.hid (HMISS.out (.inl h1))
        have d1 : ((x : Int) == (t : Int)) = false := beq_eq_false_iff_ne.2 (by omega)
        clear h1
        go_wp2
        go_roundw
        case rel => exact ⟨k + 1, by omega, by go_num, by rw [HY.out]; exact HSL.out, HK.out⟩
        case measure => simp [intOf]; omega
    · have hk' : m = k := by omega
      subst hk'
      clear hsl hkept
      go_wp2
      go_ret
      exact ⟨_, rfl, by rw [← HLE.out]; exact HSL.out, HK.out⟩

set_option maxHeartbeats 2000000 in
set_option maxRecDepth 100000 in
theorem sScriptRun_any (xs : List Int) (kinds : Int) (ys : List Int) (ls : List (Int × Int)) (steps : Int) (w : World) (v : Value) (base : Nat) (u : Value) (base' : Nat) (r : Value) (base2 : Nat) (hs : Sl w base v xs) (ht : Sl w base' u ys) (hg : Sg w base2 r ls) :
    Calls Try.prog 7 #[v, .int .i64 kinds, u, r, .int .i64 steps] w fun e w' => ∃ z, e = .returned z ∧ Sl w' w.heap.size z (Nt.srunOf xs kinds ys ls steps) ∧ Kept [] w w' := by
  have HS := Lib.hid hs
  have HT := Lib.hid ht
  have HG := Lib.hid hg
  obtain ⟨a, cap, rfl, _, hm, _⟩ := hs.any
  obtain ⟨a', cap', rfl, _, hm', _⟩ := ht.any
  obtain ⟨a2, cap2, rfl, _, hm2, _⟩ := hg.any
  clear hs ht hg
  go_enter Try.func7, Try.ntmps7
  go_wp2_with fail
  refine (l3Ok_any xs kinds ys _ _ _ _ _ HS.out HT.out).mono ?_
  rintro e w1 ⟨rfl, hq⟩
  have HK1 := Lib.hid hq.kept
  have HS1 := Lib.hid (hq.sl HS.out)
  have HT1 := Lib.hid (hq.sl HT.out)
  have HG1 := Lib.hid (HG.out.stay hq.kept)
  clear hq HS HT HG
  cases ho : Nt.fireB xs kinds ys
  · have HF := Lib.hid (Nt.srunOf_no (Nt.playB_no1 (steps := steps) (ls := ls) ho))
    clear ho
    go_wp2_with fail
    go_ret
    exact ⟨_, rfl, by rw [HF.out]; exact (Sl.empty3 w1).mono HK1.out.size, HK1.out.alloc _⟩
  · go_wp2_with fail
    refine (sScriptOk_any (xs.length : Int) ls _ _ _ HG1.out).mono ?_
    rintro e w2 ⟨rfl, hq⟩
    have HK2 := Lib.hid (HK1.out.trans hq.kept (by simp))
    have HS2 := Lib.hid (hq.sl HS1.out)
    have HT2 := Lib.hid (hq.sl HT1.out)
    have HG2 := Lib.hid (HG1.out.stay hq.kept)
    clear hq HK1 HS1 HT1 HG1
    cases hd : Nt.scB (xs.length : Int) ls
    · have HF := Lib.hid (Nt.srunOf_no (Nt.playB_no2 (kinds := kinds) (ys := ys) (steps := steps) hd))
      clear ho hd
      go_wp2_with fail
      go_ret
      exact ⟨_, rfl, by rw [HF.out]; exact (Sl.empty3 w2).mono HK2.out.size, HK2.out.alloc _⟩
    · cases h2 : Nt.stepsB steps
      · have HF := Lib.hid (Nt.srunOf_no (Nt.playB_no3 (xs := xs) (kinds := kinds) (ys := ys) (ls := ls) h2))
        clear ho hd
        go_wp2_with (go_at_call 23; refine (l1In_any steps 0 60 _).mono ?_; rintro e w' ⟨rfl, rfl⟩; rw [show decide (0 ≤ steps ∧ steps ≤ 60) = false from h2])
        go_ret
        exact ⟨_, rfl, by rw [HF.out]; exact (Sl.empty3 w2).mono HK2.out.size, HK2.out.alloc _⟩
      · obtain ⟨ns, c, ks, sc, t, rfl, rfl, rfl, rfl, rfl, ok, st, hl, so, ht60⟩ := Nt.playB_ok (Nt.playB_all ho hd h2)
        have HF := Lib.hid (Nt.srunOf_ok ok st hl so ht60)
        have HO := Lib.hid (And.intro ok (And.intro st (And.intro hl so)))
        have HRL := Lib.hid (fun k => Nt.runS_length ns c ks sc k)
        have HX := Lib.hid (show 0 < (Nt.nats ks).length ∧ (Nt.nats ks).length ≤ 1000 from by rw [Nt.nats_length]; have := st.some; have := st.few; omega)
        have HE := Lib.hid (Sl.empty3 w2)
        have HT3 := Lib.hid (HT2.out.stay ((Kept.refl [] w2).alloc (.cells #[] 3)))
        clear ok st hl ho hd so
        go_wp2_with (first
          | (go_at_call 23; refine (l1In_any _ 0 60 _).mono ?_; rintro e w' ⟨rfl, rfl⟩; rw [show decide (0 ≤ (t : Int) ∧ (t : Int) ≤ 60) = true from h2])
          | (at_builtin; refine app_sl rfl _ _ rfl w2.heap.size _ [] HE.out rfl _ _ (Nt.nats ks) HT3.out HX.out.1 rfl (by have := HX.out.2; simp; omega) (by simp) ?_; intro z w3 hs2 hk2; have HZ := Lib.hid hs2; have HK3 := Lib.hid (((Kept.refl [] w2).alloc (.cells #[] 3)).own hk2 (fun g' hg' => by simp [Value.ownBlock] at hg'; omega)); clear hs2 hk2))
        clear h2 HE HT3
        have hz0 : Sl w3 w2.heap.size z (Nt.nats (Nt.runS ns c ks sc 0)) := by have h := HZ.out; rw [List.nil_append] at h; exact h
        have HZ0 := Lib.hid hz0
        clear hz0 HZ
        go_loopw [11, 12] (fun z i wr => ∃ k : Nat, k ≤ t ∧ i = .int .i64 k ∧ Sl wr w2.heap.size z (Nt.nats (Nt.runS ns c ks sc k)) ∧ Kept [] w2 wr) (fun _ i _ => t - (intOf i).toNat)
        case atStart => exact ⟨0, Nat.zero_le _, rfl, HZ0.out, HK3.out⟩
        case round =>
          clear HZ0 HK3
          obtain ⟨k, hk, rfl, hsl, hkept⟩ := hrel
          have HSL := Lib.hid hsl
          have HK := Lib.hid hkept
          clear hsl hkept
          by_cases hlt : k < t
          · obtain ⟨ok, st, hl, so⟩ := HO.out
            have HR1 := Lib.hid (show 1 ≤ (Nt.runS ns c ks sc k).length ∧ (Nt.runS ns c ks sc k).length ≤ 6 from by rw [HRL.out]; exact ⟨st.some, st.few⟩)
            have HSO : Hid (Nt.SOk (Nt.runS ns c ks sc k).length sc) := Lib.hid (by rw [HRL.out, hl]; exact so)
            clear ok st hl so
            go_wp2_with fail
            refine (l10Lit_any (Nt.runS ns c ks sc k) sc k HR1.out.1 HR1.out.2 HSO.out _ _ _ _ _ HSL.out (HG2.out.stay HK.out)).mono ?_
            rintro e w4 ⟨z4, rfl, hs4, hk4⟩
            have HS4 := Lib.hid hs4
            have HK4 := Lib.hid (HK.out.trans hk4 (by simp))
            clear hs4 hk4
            go_wp2_with fail
            refine (l3Step_any ns c (Nt.litS (Nt.runS ns c ks sc k) sc k) HO.out.1 (Nt.litS_st (Nt.runS_st ns HO.out.2.1 sc k) sc k) (by rw [Nt.litS_length, HRL.out]; exact HO.out.2.2.1) _ _ _ _ _ (HS2.out.stay HK4.out) HS4.out).mono ?_
            rintro e w5 ⟨z5, rfl, hs5, hk5⟩
            have HS5 := Lib.hid (hs5.mono HK4.out.size)
            have HK5 := Lib.hid (HK4.out.trans hk5 (by simp))
            clear hs5 hk5
            go_wp2_with fail
            go_roundw
            case rel => exact ⟨k + 1, by omega, by go_num, HS5.out, HK5.out⟩
            case measure => simp [intOf]; omega
          · have hk' : k = t := by omega
            subst hk'
            go_wp2_with fail
            go_ret
            exact ⟨_, rfl, by rw [HF.out]; exact HSL.out.mono HK2.out.size, HK2.out.trans HK.out (by simp)⟩
end Go.Proofs.Ytilbdpcijdcffab

namespace Go.Proofs.Ytilbdpcijdcffab
open Go.RowKit

set_option maxHeartbeats 4000000 in
set_option maxRecDepth 100000 in
theorem sScriptFired_any (xs : List Int) (kinds : Int) (ys : List Int) (ls : List (Int × Int)) (steps : Int) (w : World) (v : Value) (base : Nat) (u : Value) (base' : Nat) (r : Value) (base2 : Nat) (hs : Sl w base v xs) (ht : Sl w base' u ys) (hg : Sg w base2 r ls) :
    Calls Try.prog 16 #[v, .int .i64 kinds, u, r, .int .i64 steps] w fun e w' => ∃ z, e = .returned z ∧ Sl w' w.heap.size z (Nt.sfiredOf xs kinds ys ls steps) ∧ Kept [] w w' := by
  have HS := Lib.hid hs
  have HT := Lib.hid ht
  have HG := Lib.hid hg
  obtain ⟨a, cap, rfl, _, hm, _⟩ := hs.any
  obtain ⟨a', cap', rfl, _, hm', _⟩ := ht.any
  obtain ⟨a2, cap2, rfl, _, hm2, _⟩ := hg.any
  clear hs ht hg
  go_enter Try.func16, Try.ntmps16
  go_wp2_with fail
  refine (l3Ok_any xs kinds ys _ _ _ _ _ HS.out HT.out).mono ?_
  rintro e w1 ⟨rfl, hq⟩
  have HK1 := Lib.hid hq.kept
  have HS1 := Lib.hid (hq.sl HS.out)
  have HT1 := Lib.hid (hq.sl HT.out)
  have HG1 := Lib.hid (HG.out.stay hq.kept)
  clear hq HS HT HG
  cases ho : Nt.fireB xs kinds ys
  · have HF := Lib.hid (Nt.sfiredOf_no (Nt.playB_no1 (steps := steps) (ls := ls) ho))
    clear ho
    go_wp2_with fail
    go_ret
    exact ⟨_, rfl, by rw [HF.out]; exact (Sl.empty3 w1).mono HK1.out.size, HK1.out.alloc _⟩
  · go_wp2_with fail
    refine (sScriptOk_any (xs.length : Int) ls _ _ _ HG1.out).mono ?_
    rintro e w2 ⟨rfl, hq⟩
    have HK2 := Lib.hid (HK1.out.trans hq.kept (by simp))
    have HS2 := Lib.hid (hq.sl HS1.out)
    have HT2 := Lib.hid (hq.sl HT1.out)
    have HG2 := Lib.hid (HG1.out.stay hq.kept)
    clear hq HK1 HS1 HT1 HG1
    cases hd : Nt.scB (xs.length : Int) ls
    · have HF := Lib.hid (Nt.sfiredOf_no (Nt.playB_no2 (kinds := kinds) (ys := ys) (steps := steps) hd))
      clear ho hd
      go_wp2_with fail
      go_ret
      exact ⟨_, rfl, by rw [HF.out]; exact (Sl.empty3 w2).mono HK2.out.size, HK2.out.alloc _⟩
    · cases h2 : Nt.stepsB steps
      · have HF := Lib.hid (Nt.sfiredOf_no (Nt.playB_no3 (xs := xs) (kinds := kinds) (ys := ys) (ls := ls) h2))
        clear ho hd
        go_wp2_with (go_at_call 23; refine (l1In_any steps 0 60 _).mono ?_; rintro e w' ⟨rfl, rfl⟩; rw [show decide (0 ≤ steps ∧ steps ≤ 60) = false from h2])
        go_ret
        exact ⟨_, rfl, by rw [HF.out]; exact (Sl.empty3 w2).mono HK2.out.size, HK2.out.alloc _⟩
      · obtain ⟨ns, c, ks, sc, t, rfl, rfl, rfl, rfl, rfl, ok, st, hl, so, ht60⟩ := Nt.playB_ok (Nt.playB_all ho hd h2)
        obtain ⟨n, hn⟩ : ∃ n, n = ns.length := ⟨_, rfl⟩
        have hp : 0 < n := by have := ok.some; omega
        have h6 : n ≤ 6 := by have := ok.few; omega
        have HF := Lib.hid (Nt.sfiredOf_ok ok st hl so ht60)
        have HO := Lib.hid (And.intro ok (And.intro st (And.intro hl so)))
        have HRL : Hid (∀ k, (Nt.runS ns c ks sc k).length = n) := Lib.hid (fun k => by rw [Nt.runS_length, hl, hn])
        have HLL : Hid (∀ k, (Nt.litS (Nt.runS ns c ks sc k) sc k).length = n) := Lib.hid (fun k => by rw [Nt.litS_length, Nt.runS_length, hl, hn])
        have HFS : Hid (∀ j k, Nt.firedS ns c ks sc j (k + 1) = Nt.firedS ns c ks sc j k + (if (Nt.runS ns c ks sc k).getD j 0 = 0 ∧ (Nt.litS (Nt.runS ns c ks sc k) sc k).getD j 0 = 1 then 1 else 0) + if (Nt.runS ns c ks sc (k + 1)).getD j 0 = 1 then 1 else 0) := Lib.hid (fun _ _ => rfl)
        have HFE := Lib.hid (fun j k => Nt.firedS_le ns c ks sc j k)
        have HF0 : Hid (∀ j, Nt.firedS ns c ks sc j 0 = 0) := Lib.hid (fun _ => rfl)
        have HEND : Hid (∀ zs : List Int, zs.length = n → (∀ j, j < n → zs.getD j 0 = ((Nt.firedS ns c ks sc j t : Nat) : Int)) → zs = Nt.nats (Nt.firedSL ns c ks sc t)) := Lib.hid (fun zs hz hj => by
          refine List.ext_getElem (by rw [hz, Nt.nats_length, Nt.firedSL_length, hn]) fun i h1 h2 => ?_
          have h3 := hj i (by omega)
          have h4 := Nt.nats_get (Nt.firedSL ns c ks sc t) i
          rw [Nt.firedSL_get _ _ _ _ _ (by omega)] at h4
          rw [List.getD_eq_getElem?_getD, List.getElem?_eq_getElem h1, Option.getD_some] at h3
          rw [List.getD_eq_getElem?_getD, List.getElem?_eq_getElem h2, Option.getD_some] at h4
          rw [h3, h4])
        have HX := Lib.hid (show 0 < (Nt.nats ks).length ∧ (Nt.nats ks).length ≤ 1000 from by rw [Nt.nats_length, hl, ← hn]; omega)
        have hln : (Nt.nats ns).length = n := by rw [Nt.nats_length, hn]
        rw [hln] at HS2 ⊢
        clear ok st hl ho hd so hn hln hm hm' hm2
        go_wp2_with (first
          | (go_at_call 23; refine (l1In_any _ 0 60 _).mono ?_; rintro e w' ⟨rfl, rfl⟩; rw [show decide (0 ≤ (t : Int) ∧ (t : Int) ≤ 60) = true from h2])
          | (at_make; refine make_int _ n rfl _ _ rfl rfl rfl ?_ ?_))
        · omega
        · intro w3 hs3 hk3 hz3
          have HC0 := Lib.hid hs3
          have HK3 := Lib.hid hk3
          have HE := Lib.hid (Sl.empty3 w3)
          have HT3 := Lib.hid (HT2.out.stay (hk3.alloc (.cells #[] 3)))
          clear h2 hs3 hk3
          go_wp2_with (at_builtin; refine app_sl rfl _ _ rfl w3.heap.size _ [] HE.out rfl _ _ (Nt.nats ks) HT3.out HX.out.1 rfl (by have := HX.out.2; simp; omega) (by simp) ?_; intro z w4 hs4 hk4; have HZ := Lib.hid hs4; have HK4 := Lib.hid (((Kept.refl [] w3).alloc (.cells #[] 3)).own hk4 (fun g' hg' => by simp [Value.ownBlock] at hg'; omega)); clear hs4 hk4)
          have hz0 : Sl w4 w3.heap.size z (Nt.nats (Nt.runS ns c ks sc 0)) := by have h := HZ.out; rw [List.nil_append] at h; exact h
          have HZ0 := Lib.hid hz0
          have HC1 := Lib.hid (HC0.out.stay HK4.out)
          have HK5 := Lib.hid (HK3.out.trans HK4.out (by simp))
          have hgz : w2.heap.size < w4.heap.size := Nat.lt_of_lt_of_le hz3 HK4.out.size
          clear hz0 HZ HE HT3 HC0 HK3 HK4
          go_loopw [12, 13] (fun z i wr => ∃ (k : Nat) (zs : List Int), k ≤ t ∧ i = .int .i64 k ∧ Sl wr w2.heap.size (.slice (some ⟨w2.heap.size, 0, none⟩) n n) zs ∧ zs.length = n ∧ (∀ j, j < n → zs.getD j 0 = ((Nt.firedS ns c ks sc j k : Nat) : Int)) ∧ Sl wr (w2.heap.size + 1) z (Nt.nats (Nt.runS ns c ks sc k)) ∧ Kept [] w2 wr) (fun _ i _ => t - (intOf i).toNat)
          case atStart => exact ⟨0, _, Nat.zero_le _, rfl, HC1.out, by simp, fun j hj => by rw [HF0.out]; simp [List.getD_eq_getElem?_getD, hj], HZ0.out.mono hz3, HK5.out⟩
          case round =>
            clear HZ0 HC1 HK5 hgz
            obtain ⟨k, zs, hk, rfl, hsc, hzl, hzv, hsl, hkept⟩ := hrel
            have HSC := Lib.hid hsc
            have HZL := Lib.hid hzl
            have HZV := Lib.hid hzv
            have HSL := Lib.hid hsl
            have HK := Lib.hid hkept
            clear hsl hkept hsc hzl hzv
            by_cases hlt : k < t
            · obtain ⟨ok, st, hl, so⟩ := HO.out
              have hnl : n = ns.length := by have := HRL.out 0; rw [← hl]; exact this.symm
              have HSO : Hid (Nt.SOk (Nt.runS ns c ks sc k).length sc) := Lib.hid (by rw [HRL.out, hnl]; exact so)
              have HNL := Lib.hid hnl
              obtain ⟨gn, capn, e1, hgn, hcn⟩ := HSL.out.row (HRL.out k) hp
              subst e1
              have hbn := (HSL.out.block (g := gn) rfl).1
              have HCN := Lib.hid hcn
              clear ok st hl so hnl hcn
              go_wp2_with fail
              refine (l10Lit_any (Nt.runS ns c ks sc k) sc k (by rw [HRL.out]; exact hp) (by rw [HRL.out]; exact h6) HSO.out _ _ _ _ _ HSL.out (HG2.out.stay HK.out)).mono ?_
              rintro e w5 ⟨z5, rfl, hs5, hk5⟩
              obtain ⟨gl, capl, rfl, hgl, hcl⟩ := hs5.row (HLL.out k) hp
              have hbl := (hs5.block (g := gl) rfl).1
              have HS5 := Lib.hid hs5
              have HCL := Lib.hid hcl
              have HK5 := Lib.hid (HK.out.trans hk5 (by simp))
              have HC5 := Lib.hid (HSC.out.stay hk5)
              have HCN5 := Lib.hid (fun j (hj : j < n) => (hk5.cell (p := ⟨gn, j, none⟩) hgn (by simp)).trans (HCN.out j hj))
              have hgn5 : gn < w5.heap.size := Nat.lt_of_lt_of_le hgn hk5.size
              have hwk : w2.heap.size < wr.heap.size := by have := (HSC.out.block (g := w2.heap.size) rfl).2; exact this
              clear hs5 hk5 hcl HSC HCN hgn
              go_wp2_with fail
              refine (l3Step_any ns c (Nt.litS (Nt.runS ns c ks sc k) sc k) HO.out.1 (Nt.litS_st (Nt.runS_st ns HO.out.2.1 sc k) sc k) (by rw [HLL.out]; exact HNL.out) _ _ _ _ _ (HS2.out.stay HK5.out) HS5.out).mono ?_
              rintro e w6 ⟨z6, rfl, hs6, hk6⟩
              have hs6' : Sl w6 w5.heap.size z6 (Nt.nats (Nt.runS ns c ks sc (k + 1))) := hs6
              obtain ⟨gx, capx, rfl, hgx, hcx⟩ := hs6'.row (HRL.out (k + 1)) hp
              have hbx := (hs6'.block (g := gx) rfl).1
              have HS6 := Lib.hid (hs6'.mono (show w2.heap.size + 1 ≤ w5.heap.size by omega))
              have HCX := Lib.hid hcx
              have HK6 := Lib.hid (HK5.out.trans hk6 (by simp))
              have HC6 := Lib.hid (HC5.out.stay hk6)
              have HCN6 := Lib.hid (fun j (hj : j < n) => (hk6.cell (p := ⟨gn, j, none⟩) hgn5 (by simp)).trans (HCN5.out j hj))
              have HCL6 := Lib.hid (fun j (hj : j < n) => (hk6.cell (p := ⟨gl, j, none⟩) hgl (by simp)).trans (HCL.out j hj))
              have hgn6 : gn < w6.heap.size := Nat.lt_of_lt_of_le hgn5 hk6.size
              have hgl6 : gl < w6.heap.size := Nat.lt_of_lt_of_le hgl hk6.size
              have hn1 : ¬ gn = w2.heap.size := by omega
              have hn2 : ¬ gl = w2.heap.size := by omega
              have hn3 : ¬ gx = w2.heap.size := by omega
              have HNE := Lib.hid (And.intro hn1 (And.intro hn2 hn3))
              clear hs6 hs6' hk6 hcx HC5 HCN5 HCL HS5 HK5 HSL hgn5 hgl hbn hbl hbx hwk hn1 hn2 hn3
              go_wp2_with fail
              go_loopw [16] (fun i wx => ∃ (j : Nat) (xs : List Int), j ≤ n ∧ i = .int .i64 j ∧ Sl wx w2.heap.size (.slice (some ⟨w2.heap.size, 0, none⟩) n n) xs ∧ xs.length = n ∧ (∀ q, q < n → xs.getD q 0 = (((if q < j then Nt.firedS ns c ks sc q (k + 1) else Nt.firedS ns c ks sc q k) : Nat) : Int)) ∧ Kept [w2.heap.size] w6 wx) (fun i _ => n - (intOf i).toNat)
              case atStart => exact ⟨0, zs, Nat.zero_le _, rfl, HC6.out, HZL.out, fun q hq => by rw [if_neg (by omega)]; exact HZV.out q hq, Kept.refl _ _⟩
              case round =>
                clear HC6 HZL HZV
                obtain ⟨j, xs, hj, rfl, hsx, hxl, hxv, hkx⟩ := hrel
                have HSX := Lib.hid hsx
                have HXL := Lib.hid hxl
                have HXV := Lib.hid hxv
                have HKX := Lib.hid hkx
                by_cases hjn : j < n
                · obtain ⟨n1, n2, n3⟩ := HNE.out
                  have kn := (hkx.cell (p := ⟨gn, j, none⟩) hgn6 (by simp; exact n1)).trans (HCN6.out j hjn)
                  have kl := (hkx.cell (p := ⟨gl, j, none⟩) hgl6 (by simp; exact n2)).trans (HCL6.out j hjn)
                  have kx := (hkx.cell (p := ⟨gx, j, none⟩) hgx (by simp; exact n3)).trans (HCX.out j hjn)
                  obtain ⟨cj, fj⟩ := hsx.at j (by rw [hxl]; exact hjn)
                  have hxj := hxv j hjn
                  rw [if_neg (by omega)] at hxj
                  rw [hxj] at cj
                  have hfe := HFE.out j k
                  have HFN := Lib.hid (HFS.out j k)
                  have HKOther : Hid (∀ (W : World) (x : Value) (g2 : Nat), ¬ g2 = w2.heap.size → (W.setCell ⟨w2.heap.size, j, none⟩ x).cell? ⟨g2, j, none⟩ = W.cell? ⟨g2, j, none⟩) := Lib.hid (fun W x g2 h => World.cell?_setCell_other _ _ _ _ (by intro e; exact h (congrArg Addr.block e).symm))
                  have HSET : Hid (∀ f : Nat, f = Nt.firedS ns c ks sc j (k + 1) → ∀ q, q < n → (xs.set j (f : Int)).getD q 0 = (((if q < j + 1 then Nt.firedS ns c ks sc q (k + 1) else Nt.firedS ns c ks sc q k) : Nat) : Int)) := Lib.hid (fun f hf q hq => by
                    rw [List.getD_eq_getElem?_getD, List.getElem?_set]
                    by_cases e : j = q
                    · subst e
                      rw [if_pos rfl, if_pos (by rw [HXL.out]; exact hjn), if_pos (by omega), hf]; rfl
                    · rw [if_neg e, ← List.getD_eq_getElem?_getD, HXV.out q hq]
                      by_cases e2 : q < j
                      · rw [if_pos e2, if_pos (by omega)]
                      · rw [if_neg e2, if_neg (by omega)])
                  have HSAME : Hid (Nt.firedS ns c ks sc j (k + 1) = Nt.firedS ns c ks sc j k → ∀ q, q < n → xs.getD q 0 = (((if q < j + 1 then Nt.firedS ns c ks sc q (k + 1) else Nt.firedS ns c ks sc q k) : Nat) : Int)) := Lib.hid (fun hf q hq => by
                    rw [HXV.out q hq]
                    by_cases e : q = j
                    · subst e; rw [if_neg (by omega), if_pos (by omega), hf]
                    · by_cases e2 : q < j
                      · rw [if_pos e2, if_pos (by omega)]
                      · rw [if_neg e2, if_neg (by omega)])
                  clear hsx hxl hxv hkx hxj
                  generalize Nt.firedS ns c ks sc j k = f at *
                  generalize (Nt.runS ns c ks sc k).getD j 0 = a at *
                  generalize (Nt.litS (Nt.runS ns c ks sc k) sc k).getD j 0 = b at *
                  generalize (Nt.runS ns c ks sc (k + 1)).getD j 0 = d at *
                  have s1 : IntKind.i64.wrap ((f : Int) + 1) = ((f + 1 : Nat) : Int) := by rw [IntWalk.i64_in _ (by omega)]; omega
                  have s2 : IntKind.i64.wrap (((f + 1 : Nat) : Int) + 1) = ((f + 2 : Nat) : Int) := by rw [IntWalk.i64_in _ (by omega)]; omega
                  have hd0 : ∀ z : Nat, ((z : Int) == 0) = decide (z = 0) := fun z => by rw [Bool.eq_iff_iff, beq_iff_eq, decide_eq_true_iff]; omega
                  have hd1 : ∀ z : Nat, ((z : Int) == 1) = decide (z = 1) := fun z => by rw [Bool.eq_iff_iff, beq_iff_eq, decide_eq_true_iff]; omega
                  have da := hd0 a
                  have db := hd1 b
                  have dd := hd1 d
                  clear hd0 hd1
                  by_cases ha : a = 0 ∧ b = 1
                  · rw [decide_eq_true ha.1] at da
                    rw [decide_eq_true ha.2] at db
                    have HKN := Lib.hid (HSX.out.set HXL.out.symm j ((f + 1 : Nat) : Int))
                    have kx1 : ∀ x, (wr.setCell ⟨w2.heap.size, j, none⟩ x).cell? ⟨gx, j, none⟩ = some (.int .i64 (d : Int)) := fun x => (HKOther.out _ x gx n3).trans kx
                    by_cases hd : d = 1
                    · rw [decide_eq_true hd] at dd
                      have HY : Hid (f + 2 = Nt.firedS ns c ks sc j (k + 1)) := Lib.hid (by rw [HFN.out, if_pos ha, if_pos hd])
                      obtain ⟨cj1, fj1⟩ := HKN.out.at j (by rw [List.length_set, HXL.out]; exact hjn)
                      rw [List.getD_eq_getElem?_getD, List.getElem?_set_self (by rw [HXL.out]; exact hjn), Option.getD_some] at cj1
                      have HKN2 := Lib.hid (HKN.out.set (by rw [List.length_set]; exact HXL.out.symm) j ((f + 2 : Nat) : Int))
                      rw [List.set_set] at HKN2
                      have kx2 := kx1 (.int .i64 ((f + 1 : Nat) : Int))
                      clear ha hd HFN kx1
                      generalize hf1 : f + 1 = f1 at *
                      generalize f + 2 = f2 at *
                      clear hf1
                      go_wp2
                      go_roundw
                      case rel => exact ⟨j + 1, _, by omega, by go_num, HKN2.out, by rw [List.length_set]; exact HXL.out, HSET.out f2 HY.out, (HKX.out.setCell (.inl (by simp)) _).setCell (.inl (by simp)) _⟩
                      case measure => simp [intOf]; omega
                    · rw [decide_eq_false hd] at dd
                      have HY : Hid (f + 1 = Nt.firedS ns c ks sc j (k + 1)) := Lib.hid (by rw [HFN.out, if_pos ha, if_neg hd])
                      have kx2 := kx1 (.int .i64 ((f + 1 : Nat) : Int))
                      clear ha hd HFN kx1 s2
                      generalize f + 1 = f1 at *
                      go_wp2
                      go_roundw
                      case rel => exact ⟨j + 1, _, by omega, by go_num, HKN.out, by rw [List.length_set]; exact HXL.out, HSET.out f1 HY.out, HKX.out.setCell (.inl (by simp)) _⟩
                      case measure => simp [intOf]; omega
                  · have hab : decide (a = 0) = false ∨ (decide (a = 0) = true ∧ decide (b = 1) = false) := by
                      by_cases e : a = 0
                      · right; exact ⟨decide_eq_true e, decide_eq_false (fun e2 => ha ⟨e, e2⟩)⟩
                      · left; exact decide_eq_false e
                    by_cases hd : d = 1
                    · rw [decide_eq_true hd] at dd
                      have HY : Hid (f + 1 = Nt.firedS ns c ks sc j (k + 1)) := Lib.hid (by rw [HFN.out, if_neg ha, if_pos hd, Nat.add_zero])
                      have HKN := Lib.hid (HSX.out.set HXL.out.symm j ((f + 1 : Nat) : Int))
                      clear ha hd HFN s2
                      generalize f + 1 = f1 at *
                      rcases hab with e | ⟨e, e2⟩
                      · rw [e] at da
                        clear db
                        go_wp2
                        go_roundw
                        case rel => exact ⟨j + 1, _, by omega, by go_num, HKN.out, by rw [List.length_set]; exact HXL.out, HSET.out f1 HY.out, HKX.out.setCell (.inl (by simp)) _⟩
                        case measure => simp [intOf]; omega
                      · rw [e] at da
                        rw [e2] at db
                        go_wp2
                        go_roundw
                        case rel => exact ⟨j + 1, _, by omega, by go_num, HKN.out, by rw [List.length_set]; exact HXL.out, HSET.out f1 HY.out, HKX.out.setCell (.inl (by simp)) _⟩
                        case measure => simp [intOf]; omega
                    · rw [decide_eq_false hd] at dd
                      have HY : Hid (Nt.firedS ns c ks sc j (k + 1) = f) := Lib.hid (by rw [HFN.out, if_neg ha, if_neg hd]; rfl)
                      clear ha hd HFN s1 s2
                      rcases hab with e | ⟨e, e2⟩
                      · rw [e] at da
                        clear db
                        go_wp2
                        go_roundw
                        case rel => exact ⟨j + 1, xs, by omega, by go_num, HSX.out, HXL.out, HSAME.out HY.out, HKX.out⟩
                        case measure => simp [intOf]; omega
                      · rw [e] at da
                        rw [e2] at db
                        go_wp2
                        go_roundw
                        case rel => exact ⟨j + 1, xs, by omega, by go_num, HSX.out, HXL.out, HSAME.out HY.out, HKX.out⟩
                        case measure => simp [intOf]; omega
                · have hj' : n = j := by omega
                  subst hj'
                  have HV9 : Hid (∀ q, q < n → xs.getD q 0 = ((Nt.firedS ns c ks sc q (k + 1) : Nat) : Int)) := Lib.hid (fun q hq => by have := hxv q hq; rw [if_pos hq] at this; exact this)
                  have HS9 := Lib.hid (HS6.out.kept hkx (fun g hg hm => by have h3 := HNE.out.2.2; simp [Value.ownBlock] at hg; simp at hm; omega))
                  have HK9 := Lib.hid (HK6.out.trans hkx (fun x hx => by right; simp at hx; omega))
                  clear hsx hxl hxv hkx HKX HXV
                  go_wp2_with fail
                  go_roundw
                  case rel => exact ⟨k + 1, xs, by omega, by go_num, HSX.out, HXL.out, HV9.out, HS9.out, HK9.out⟩
                  case measure => simp [intOf]; omega
            · have hk' : t = k := by omega
              subst hk'
              have HE9 := Lib.hid (HEND.out zs HZL.out HZV.out)
              go_wp2_with fail
              go_ret
              exact ⟨_, rfl, by rw [HF.out, ← HE9.out]; exact HSC.out.mono HK2.out.size, HK2.out.trans HK.out (by simp)⟩
end Go.Proofs.Ytilbdpcijdcffab

namespace Go.Proofs.Ytilbdpcijdcffab
open Go.RowKit


set_option maxHeartbeats 2000000 in
set_option maxRecDepth 100000 in
theorem sPulse_any (node every many : Int) (w : World) :
    Calls Try.prog 18 #[.int .i64 node, .int .i64 every, .int .i64 many] w fun e w' => ∃ z, e = .returned z ∧ Sg w' w.heap.size z (Nt.pulOf node every many) ∧ Kept [] w w' := by
  have HE0 := Lib.hid (Sg.empty w)
  have HKA := Lib.hid ((Kept.refl [] w).alloc (.cells #[] 41))
  cases h1 : decide (0 ≤ node ∧ node ≤ 5)
  · have HF := Lib.hid (Nt.pulOf_no (node := node) (every := every) (many := many) (by unfold Nt.pulB; rw [h1, Bool.false_and]))
    go_enter Try.func18, Try.ntmps18
    go_wp2_with (go_at_call 23; refine (l1In_any node 0 5 _).mono ?_; rintro e w' ⟨rfl, rfl⟩; rw [h1])
    go_ret
    exact ⟨_, rfl, by rw [HF.out]; exact HE0.out, HKA.out⟩
  · cases h2 : decide (1 ≤ every ∧ every ≤ 60)
    · have HF := Lib.hid (Nt.pulOf_no (node := node) (every := every) (many := many) (by unfold Nt.pulB; rw [h2, Bool.false_and, Bool.and_false]))
      go_enter Try.func18, Try.ntmps18
      go_wp2_with (go_at_call 23; first | ((with_reducible refine (l1In_any node 0 5 _).mono ?_); rintro e w' ⟨rfl, rfl⟩; rw [h1]) | ((with_reducible refine (l1In_any every 1 60 _).mono ?_); rintro e w' ⟨rfl, rfl⟩; rw [h2]))
      go_ret
      exact ⟨_, rfl, by rw [HF.out]; exact HE0.out, HKA.out⟩
    · cases h3 : decide (0 ≤ many ∧ many ≤ 8)
      · have HF := Lib.hid (Nt.pulOf_no (node := node) (every := every) (many := many) (by unfold Nt.pulB; rw [h3, Bool.false_and, Bool.and_false, Bool.and_false]))
        go_enter Try.func18, Try.ntmps18
        go_wp2_with (go_at_call 23; first | ((with_reducible refine (l1In_any node 0 5 _).mono ?_); rintro e w' ⟨rfl, rfl⟩; rw [h1]) | ((with_reducible refine (l1In_any every 1 60 _).mono ?_); rintro e w' ⟨rfl, rfl⟩; rw [h2]) | ((with_reducible refine (l1In_any many 0 8 _).mono ?_); rintro e w' ⟨rfl, rfl⟩; rw [h3]))
        go_ret
        exact ⟨_, rfl, by rw [HF.out]; exact HE0.out, HKA.out⟩
      · have g1 := of_decide_eq_true h1
        have g2 := of_decide_eq_true h2
        have g3 := of_decide_eq_true h3
        obtain ⟨a, rfl⟩ := Int.eq_ofNat_of_zero_le g1.1
        obtain ⟨e, rfl⟩ := Int.eq_ofNat_of_zero_le (show 0 ≤ every by omega)
        obtain ⟨m, rfl⟩ := Int.eq_ofNat_of_zero_le g3.1
        have hem : 0 < m → (e : Int) * ((m : Int) - 1) = ((e * (m - 1) : Nat) : Int) := fun h => by
          rw [Int.natCast_mul]
          congr 1
          omega
        have hmul : e * (m - 1) ≤ 60 * 8 := Nat.mul_le_mul (by omega) (by omega)
        have HP : Hid (Nt.pulB (a : Int) (e : Int) (m : Int) = !(decide (0 < (m : Int)) && decide (60 ≤ (e : Int) * ((m : Int) - 1)))) := Lib.hid (by unfold Nt.pulB; rw [h1, h2, h3]; rfl)
        by_cases h0 : 0 < m
        · have hm1 : (m : Int) - 1 = ((m - 1 : Nat) : Int) := by omega
          have hpm : (e : Int) * ((m - 1 : Nat) : Int) = ((e * (m - 1) : Nat) : Int) := (Int.natCast_mul e (m - 1)).symm
          have hm7 : m - 1 ≤ 8 := by omega
          have HQ : Hid (Nt.pulB (a : Int) (e : Int) (m : Int) = !(decide (60 ≤ e * (m - 1)))) := Lib.hid (by
            rw [HP.out, hem h0, decide_eq_true (by omega : (0 : Int) < (m : Int)), Bool.true_and]
            congr 1
            rw [Bool.eq_iff_iff, decide_eq_true_iff, decide_eq_true_iff]
            omega)
          have s1 : IntKind.i64.wrap ((m : Int) - 1) = ((m - 1 : Nat) : Int) := by rw [IntWalk.i64_in _ (by omega)]; exact hm1
          have S2 := Lib.hid (show IntKind.i64.wrap ((e : Int) * ((m - 1 : Nat) : Int)) = ((e * (m - 1) : Nat) : Int) from by rw [hpm]; exact IntWalk.i64_in _ (by omega))
          have S3 := Lib.hid (show wrap64 ((e : Int) * ((m - 1 : Nat) : Int)) = ((e * (m - 1) : Nat) : Int) from by rw [hpm]; exact IntWalk.wrap64_in _ (by omega))
          have d0 : decide (0 < m) = true := dec_of h0
          clear hem hpm hm1
          by_cases h4 : 60 ≤ e * (m - 1)
          · have d4 : decide (60 ≤ e * (m - 1)) = true := dec_of h4
            have HF := Lib.hid (Nt.pulOf_no (by rw [HQ.out, d4]; rfl))
            clear HQ HP
            have s2 := S2.out
            have s3 := S3.out
            generalize e * (m - 1) = em at *
            generalize m - 1 = m1 at *
            go_enter Try.func18, Try.ntmps18
            go_wp2_with (go_at_call 23; first | ((with_reducible refine (l1In_any (a : Int) 0 5 _).mono ?_); rintro e w' ⟨rfl, rfl⟩; rw [h1]) | ((with_reducible refine (l1In_any (e : Int) 1 60 _).mono ?_); rintro e w' ⟨rfl, rfl⟩; rw [h2]) | ((with_reducible refine (l1In_any (m : Int) 0 8 _).mono ?_); rintro e w' ⟨rfl, rfl⟩; rw [h3]))
            go_ret
            exact ⟨_, rfl, by rw [HF.out]; exact HE0.out, HKA.out⟩
          · have d4 : decide (60 ≤ e * (m - 1)) = false := dec_not h4
            have HF := Lib.hid (Nt.pulOf_ok (a := a) (e := e) (m := m) (by rw [HQ.out, d4]; rfl))
            have HNX : Hid (∀ k, Nt.prs (Nt.pulseS a e (k + 1)) = Nt.prs (Nt.pulseS a e k) ++ [(((e * k : Nat) : Int), (a : Int))]) := Lib.hid (fun k => by
              rw [Nt.pulseS, Nt.prs_append]; rfl)
            have HLN : Hid (∀ k, (Nt.prs (Nt.pulseS a e k)).length = k) := Lib.hid (fun k => by rw [Nt.prs_length, Nt.pulseS_length])
            have HW : Hid (∀ k, k < m → IntKind.i64.wrap ((e : Int) * (k : Int)) = ((e * k : Nat) : Int) ∧ wrap64 ((e : Int) * (k : Int)) = ((e * k : Nat) : Int)) := Lib.hid (fun k hk => by
              have h5 : e * k ≤ 60 * 8 := Nat.mul_le_mul (by omega) (by omega)
              have h6 : (e : Int) * (k : Int) = ((e * k : Nat) : Int) := (Int.natCast_mul e k).symm
              rw [h6]
              exact ⟨IntWalk.i64_in _ (by omega), IntWalk.wrap64_in _ (by omega)⟩)
            clear HQ HP
            have s2 := S2.out
            have s3 := S3.out
            generalize e * (m - 1) = em at *
            generalize m - 1 = m1 at *
            go_enter Try.func18, Try.ntmps18
            go_wp2_with (first | (go_at_call 23; first | ((with_reducible refine (l1In_any (a : Int) 0 5 _).mono ?_); rintro e w' ⟨rfl, rfl⟩; rw [h1]) | ((with_reducible refine (l1In_any (e : Int) 1 60 _).mono ?_); rintro e w' ⟨rfl, rfl⟩; rw [h2]) | ((with_reducible refine (l1In_any (m : Int) 0 8 _).mono ?_); rintro e w' ⟨rfl, rfl⟩; rw [h3])))
            go_loopw [7, 8] (fun u i wr => ∃ k : Nat, k ≤ m ∧ i = .int .i64 k ∧ Sg wr w.heap.size u (Nt.prs (Nt.pulseS a e k)) ∧ Kept [] w wr) (fun _ i _ => m - (intOf i).toNat)
            case atStart => exact ⟨0, Nat.zero_le _, rfl, HE0.out, HKA.out⟩
            case round =>
              clear HE0 HKA
              obtain ⟨k, hk, rfl, hsl, hkept⟩ := hrel
              have HSL := Lib.hid hsl
              have HK := Lib.hid hkept
              have hsz := hkept.size
              by_cases hlt : k < m
              · obtain ⟨t1, t2⟩ := HW.out k hlt
                have HN := Lib.hid (HNX.out k)
                have HL : Hid ((Nt.prs (Nt.pulseS a e k)).length ≤ 1000000) := Lib.hid (by rw [HLN.out]; omega)
                clear hsl hkept
                generalize e * k = ek at *
                go_wp2_with (at_builtin; refine app_light _ _ rfl _ _ rfl w.heap.size _ _ HSL.out rfl rfl HL.out (by omega) ?_; intro u' w1 hs1 hk1; have HS1 := Lib.hid hs1; have HK1 := Lib.hid hk1; clear hs1 hk1)
                go_roundw
                case rel => exact ⟨k + 1, by omega, by go_num, by rw [HN.out]; exact HS1.out, HK.out.own HK1.out (fun g hg => (HSL.out.block hg).1)⟩
                case measure => simp [intOf]; omega
              · have hk' : m = k := by omega
                subst hk'
                clear hsl hkept
                go_wp2
                go_ret
                exact ⟨_, rfl, by rw [HF.out]; exact HSL.out, HK.out⟩
        · have d0 : decide (0 < m) = false := dec_not h0
          have d0' : decide ((0 : Int) < (m : Int)) = false := dec_not (by omega)
          have HF := Lib.hid (Nt.pulOf_ok (a := a) (e := e) (m := m) (by rw [HP.out, d0']; rfl))
          have HNX : Hid (∀ k, Nt.prs (Nt.pulseS a e (k + 1)) = Nt.prs (Nt.pulseS a e k) ++ [(((e * k : Nat) : Int), (a : Int))]) := Lib.hid (fun k => by
            rw [Nt.pulseS, Nt.prs_append]; rfl)
          have HLN : Hid (∀ k, (Nt.prs (Nt.pulseS a e k)).length = k) := Lib.hid (fun k => by rw [Nt.prs_length, Nt.pulseS_length])
          have HW : Hid (∀ k, k < m → IntKind.i64.wrap ((e : Int) * (k : Int)) = ((e * k : Nat) : Int) ∧ wrap64 ((e : Int) * (k : Int)) = ((e * k : Nat) : Int)) := Lib.hid (fun k hk => by
            have h5 : e * k ≤ 60 * 8 := Nat.mul_le_mul (by omega) (by omega)
            have h6 : (e : Int) * (k : Int) = ((e * k : Nat) : Int) := (Int.natCast_mul e k).symm
            rw [h6]
            exact ⟨IntWalk.i64_in _ (by omega), IntWalk.wrap64_in _ (by omega)⟩)
          clear HP hem
          go_enter Try.func18, Try.ntmps18
          go_wp2_with (first | (go_at_call 23; first | ((with_reducible refine (l1In_any (a : Int) 0 5 _).mono ?_); rintro e w' ⟨rfl, rfl⟩; rw [h1]) | ((with_reducible refine (l1In_any (e : Int) 1 60 _).mono ?_); rintro e w' ⟨rfl, rfl⟩; rw [h2]) | ((with_reducible refine (l1In_any (m : Int) 0 8 _).mono ?_); rintro e w' ⟨rfl, rfl⟩; rw [h3])))
          go_loopw [7, 8] (fun u i wr => ∃ k : Nat, k ≤ m ∧ i = .int .i64 k ∧ Sg wr w.heap.size u (Nt.prs (Nt.pulseS a e k)) ∧ Kept [] w wr) (fun _ i _ => m - (intOf i).toNat)
          case atStart => exact ⟨0, Nat.zero_le _, rfl, HE0.out, HKA.out⟩
          case round =>
            clear HE0 HKA
            obtain ⟨k, hk, rfl, hsl, hkept⟩ := hrel
            have HSL := Lib.hid hsl
            have HK := Lib.hid hkept
            have hsz := hkept.size
            by_cases hlt : k < m
            · exact absurd hlt (by omega)
            · have hk' : m = k := by omega
              subst hk'
              clear hsl hkept
              go_wp2
              go_ret
              exact ⟨_, rfl, by rw [HF.out]; exact HSL.out, HK.out⟩
end Go.Proofs.Ytilbdpcijdcffab
