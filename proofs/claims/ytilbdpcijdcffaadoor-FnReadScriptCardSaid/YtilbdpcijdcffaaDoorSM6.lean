/-
  Walks: texts read as scripts, by the model.
-/
import Derived.Test.YtilbdpcijdcffaaDoorSM5
namespace Go.Proofs.YtilbdpcijdcffaaDoor
open Go.RowKit

theorem light2_at {p : List Nat} {ps : List ByteArray} (h : ps.map tx = Nt.cut 58 p) (h2 : ps.length = 2) : Nt.light2 p = (Nt.dval (tx (atT ps 0)), Nt.dval (tx (atT ps 1))) := by
  unfold Nt.light2
  rw [← h]
  match ps, h2 with
  | [a, b], _ => rfl

/-- 'append(out, Light{..})' of one light, inside a statement whose order is open. -/
theorem step_app_light {ops : Array Oper} {o : Oper} {a : Act} {K : Act → World → Prop} {Q : Exit → Act → World → Prop} {E : Prop} {W : World} (x y : Int) (hgd : o.guard = none) (s z : Operand)
    (ho : o.op = .call { callee := .builtin .append, args := #[s, z], argTypes := #[23, 23] })
    (base : Nat) (v : Value) (xs : List (Int × Int)) (hown : Sg W base v xs) (hs : a.eval s = v) (b : Nat) (hx : a.eval z = .slice (some ⟨b, 0, none⟩) 1 1) (hc0 : W.cell? ⟨b, 0, none⟩ = some (.int .i64 x)) (hc1 : W.cell? ⟨b, 1, none⟩ = some (.int .i64 y))
    (hlen : xs.length ≤ 4000000) (hbase : base ≤ W.heap.size)
    (h : ∀ v' w', Sg w' base v' (xs ++ [(x, y)]) → Kept v.ownBlock.toList W w' → K (a.put o.dst v') w') :
    if Region.wanted o (yielded ops a.tmps) = true then Oper.wp Tryd.prog o a W K Q else E := by
  have hw : Region.wanted o (yielded ops a.tmps) = true := by simp [Region.wanted, hgd]
  rw [if_pos hw]
  obtain ⟨i0, hi, hz0, hz1, hz2⟩ := info_parts info_light
  refine wp_append_own W s z _ ho base 41 i0 (.agg #[.int .i64 0, .int .i64 0]) 2 16 Tryd.underlying23 hi hz0 hz1 hz2 rfl (by decide) v xs.length (lcells xs) hs hown
    ⟨b, 0, none⟩ 1 1 [.int .i64 x, .int .i64 y] hx rfl ?_ (by intro u hu; simp at hu; rcases hu with rfl | rfl <;> rfl) (by unfold maxLen; omega) (by omega) hbase ?_
  · intro j u hj
    match j, hj with
    | 0, hj => simp at hj; subst hj; simpa [Addr.add] using hc0
    | 1, hj => simp at hj; subst hj; simpa [Addr.add] using hc1
  · intro v' w' h1 h2 _
    refine h v' w' ?_ ?_
    · unfold Sg
      rw [List.length_append, lcells_append]
      exact h1
    · exact (Kept.refl _ _).grown h2 fun k hk => .inl (by rw [hk]; simp)
theorem opAt_list2 {l : List Oper} {i : Nat} {o : Oper} (h : l[i]? = some o) : l.toArray[i]? = some o := by simpa using h

theorem sg_ts_apart {w : World} {b1 b2 : Nat} {v u : Value} {xs : List (Int × Int)} {ps : List ByteArray} (h : Sg w b1 v xs) (k : Ts w b2 u ps) : ∀ g, u.ownBlock = some g → ¬ g ∈ v.ownBlock.toList := by
  intro g hg hm
  rcases k.2 with ⟨rfl, _⟩ | ⟨g1, c1, cur1, rfl, _, h1, _⟩
  · simp [Value.ownBlock] at hg
  · rcases h.2 with ⟨rfl, _⟩ | ⟨g2, c2, cur2, rfl, _, h2, _⟩
    · simp [Value.ownBlock] at hm
    · simp [Value.ownBlock] at hg hm
      subst hg
      subst hm
      rw [h1] at h2
      have h3 := (Obj.cells.inj (Option.some.inj h2)).2.1
      exact absurd h3 (by decide)

set_option linter.unusedSimpArgs false in

set_option maxHeartbeats 4000000 in
set_option maxRecDepth 100000 in
theorem sReadScript_any (n : Int) (s : ByteArray) (hs : s.size ≤ 1100000) (w : World) :
    Calls Tryd.prog 13 #[.int .i64 n, .string s] w fun e w' => ∃ u, e = .returned (.tuple #[u, .bool (Nt.readB n (tx s))]) ∧ Sg w' w.heap.size u (Nt.readOf n (tx s)) ∧ Kept [] w w' := by
  have HS := Lib.hid hs
  have HG0 := Lib.hid (Sg.empty w)
  have HA0 := Lib.hid ((Kept.refl [] w).alloc (.cells #[] 41))
  clear hs
  go_enter Tryd.func13, Tryd.ntmps13
  go_wp2_with fail
  refine (l1Comma_any s HS.out _).mono ?_
  rintro e w1 ⟨u1, ps, rfl, hts, hpm, hk1⟩
  have HG1 := Lib.hid (HG0.out.stay hk1)
  have HK1 := Lib.hid (HA0.out.trans hk1 (by simp))
  obtain ⟨N, hN⟩ : ∃ N, N = ps.length := ⟨_, rfl⟩
  have HCL : Hid ((Nt.cut 44 (tx s)).length = N) := Lib.hid (by rw [← hpm, List.length_map, hN])
  have HPART : Hid (∀ k, k < N → tx (atT ps k) = (Nt.cut 44 (tx s)).getD k [] ∧ tx (atT ps k) ∈ Nt.cut 44 (tx s)) := Lib.hid (fun k hk => by
    have hk' : k < ps.length := by omega
    have e : (Nt.cut 44 (tx s)).getD k [] = tx (atT ps k) := by
      rw [← hpm, List.getD_eq_getElem?_getD, List.getElem?_map, List.getElem?_eq_getElem hk', atT_get hk']; rfl
    refine ⟨e.symm, ?_⟩
    rw [← hpm, atT_get hk']
    exact List.mem_map.2 ⟨_, List.getElem_mem hk', rfl⟩)
  have HPSZ : Hid (∀ k, k < N → (atT ps k).size ≤ 1100000) := Lib.hid (fun k hk => by
    have h2 : ∀ (t : List Nat) (p : List Nat), p ∈ Nt.cut 44 t → p.length ≤ t.length := fun t p hp => by
      have h1 := Nt.join_cut 44 t
      have h3 : ∀ (ps : List (List Nat)) (q : List Nat), q ∈ ps → q.length ≤ (Nt.join 44 ps).length := by
        intro ps
        induction ps with
        | nil => intro q hq; simp at hq
        | cons a r ih =>
          intro q hq
          cases r with
          | nil => simp at hq; rw [hq]; exact Nat.le_refl _
          | cons b r2 =>
            show q.length ≤ (a ++ 44 :: Nt.join 44 (b :: r2)).length
            rw [List.length_append, List.length_cons]
            rw [List.mem_cons] at hq
            rcases hq with rfl | hq
            · omega
            · have := ih q hq; omega
      have := h3 _ p hp
      rw [h1] at this
      exact this
    have := h2 _ _ (HPART.out k hk).2
    rw [tx_length, tx_length] at this
    have := HS.out
    omega)
  have hNs : N ≤ 1100001 := by
    have h1 := Nt.cut_length 44 (tx s)
    rw [HCL.out, tx_length] at h1
    have := HS.out
    omega
  have HN0 : Hid (0 < N) := Lib.hid (by
    rw [← HCL.out]
    cases h : Nt.cut 44 (tx s) with
    | nil => exact absurd h (Nt.cut_ne 44 (tx s))
    | cons a b => simp)
  have hts2 := hts.mono HA0.out.size
  obtain ⟨aP, cP, rfl, _, _, _⟩ := hts.any
  rw [← hN] at hts2 ⊢
  have HC := Lib.hid hts2
  have HNP := Lib.hid hN
  clear hts hpm hk1 hN hts2 HG0 HA0
  by_cases hd : tx s = [46]
  · have d1 : (s.toList == [46]) = true := by rw [str_beq, decide_eq_true (by simpa using hd)]
    have HLS : Hid (([] : List (Int × Int)) = Nt.lightsOf (tx s)) := Lib.hid (by unfold Nt.lightsOf; rw [if_pos hd])
    have HNE : Hid (tx s ≠ []) := Lib.hid (by rw [hd]; simp)
    have HSL : Hid (Sg w1 w.heap.size (.slice (some ⟨w.heap.size, 0, none⟩) 0 0) []) := HG1
    have HK := HK1
    have d0 : decide (0 < N) = true := dec_of HN0.out
    have d0' : decide ((0 : Int) < (N : Int)) = true := dec_of (by have := HN0.out; omega)
    clear hd HG1 HK1 HPART HPSZ HC HCL
    go_wp2
    go_loopw [6, 8] (fun u i wr => u = .slice (some ⟨w.heap.size, 0, none⟩) 0 0 ∧ i = .int .i64 0 ∧ wr = w1) (fun _ _ _ => 0)
    case atStart => exact ⟨rfl, rfl, rfl⟩
    case round =>
      obtain ⟨rfl, rfl, rfl⟩ := hrel
      go_wp2_with fail
      refine (sScriptText_any n [] _ _ _ HSL.out).mono ?_
      rintro e w4 ⟨z, rfl, hz, hk4⟩
      have HZ := Lib.hid hz
      have HG4 := Lib.hid (HSL.out.stay hk4)
      have HK4 := Lib.hid (HK.out.trans hk4 (by simp))
      clear hz hk4
      by_cases hzs : z = s
      · subst hzs
        have HR := Lib.hid (Nt.read_of HZ.out.symm HNE.out)
        go_wp2_with fail
        go_ret2
        exact ⟨_, by rw [HR.out.1]; rfl, by rw [HR.out.2.1]; exact HG4.out, HK4.out⟩
      · have d2 : (z.toList == s.toList) = false := str_no (fun e => hzs (tx_inj e))
        have HF : Hid (Nt.readB n (tx s) = false) := Lib.hid (by
          rw [Nt.readB_iff HNE.out]
          refine decide_eq_false (fun e => hzs (tx_inj ?_))
          rw [HZ.out, HLS.out, e])
        have HE4 := Lib.hid ((Sg.empty w4).mono HK4.out.size)
        clear hzs
        go_wp2_with fail
        go_ret2
        exact ⟨_, by rw [HF.out]; rfl, by rw [Nt.readOf_no HF.out]; exact HE4.out, HK4.out.alloc _⟩
  · have d1 : (s.toList == [46]) = false := by rw [str_beq, decide_eq_false (by simpa using hd)]
    have HD := Lib.hid hd
    clear hd
    go_wp2
    go_loopw [6, 8] (fun u i wr => ∃ (k : Nat) (ls : List (Int × Int)), k ≤ N ∧ i = .int .i64 k ∧ Sg wr w.heap.size u ls ∧ ls.length = k ∧ (∀ j, j < k → Nt.at2 ls j = Nt.light2 ((Nt.cut 44 (tx s)).getD j []) ∧ (Nt.cut 58 ((Nt.cut 44 (tx s)).getD j [])).length = 2) ∧ Kept [] w wr ∧ Ts wr w.heap.size (.slice aP N cP) ps) (fun _ i _ => N - (intOf i).toNat)
    case atStart => exact ⟨0, [], Nat.zero_le _, rfl, HG1.out, rfl, fun j hj => absurd hj (by omega), HK1.out, HC.out⟩
    case round =>
      clear HG1 HK1
      obtain ⟨k, ls, hk, rfl, hsl, hll, hrl, hkept, hkept1⟩ := hrel
      have HSL := Lib.hid hsl
      have HRL := Lib.hid hrl
      have HK := Lib.hid hkept
      have HKB := Lib.hid hkept1
      by_cases hlt : k < N
      · obtain ⟨aX, cX, eX, _, _, hcx⟩ := hkept1.any
        rw [← HNP.out] at eX hcx
        simp only [Value.slice.injEq] at eX
        obtain ⟨rfl, _, rfl⟩ := eX
        obtain ⟨g, rfl, _, hg, k1⟩ := hcx k hlt
        clear hcx
        have HP := Lib.hid (HPART.out k hlt)
        have HZ := Lib.hid (HPSZ.out k hlt)
        clear hsl hrl hkept hkept1
        generalize atT ps k = part at *
        go_wp2_with fail
        refine (l1Colon_any part HZ.out _).mono ?_
        rintro e w3 ⟨u3, qs, rfl, hqs, hqm, hk3⟩
        have HQM := Lib.hid hqm
        have HK3 := Lib.hid (HK.out.trans hk3 (by simp))
        have HKB3 := Lib.hid (HKB.out.stay hk3)
        have HSL3 := Lib.hid (HSL.out.stay hk3)
        obtain ⟨aQ, cQ, rfl, _, hqlen, hcq⟩ := hqs.any
        have HCQ := Lib.hid hcq
        have HTQ := Lib.hid hqs
        clear hqs hqm hk3 hcq HSL HK HKB
        by_cases h2 : qs.length = 2
        · obtain ⟨gq, rfl, _, hgq, r0⟩ := HCQ.out 0 (by omega)
          obtain ⟨gq2, e2, _, _, r1⟩ := HCQ.out 1 (by omega)
          simp at e2
          subst e2
          have HL2 := Lib.hid (light2_at HQM.out h2)
          have hsz : ∀ j, j < 2 → (atT qs j).size ≤ 9223372036854775807 := fun j hj => by
            have h3 : tx (atT qs j) ∈ Nt.cut 58 (tx part) := by
              rw [← HQM.out, atT_get (by omega)]
              exact List.mem_map.2 ⟨_, List.getElem_mem (by omega), rfl⟩
            have h4 : (tx (atT qs j)).length ≤ (tx part).length := by
              have h1 := Nt.join_cut 58 (tx part)
              have h5 : ∀ (ps : List (List Nat)) (q : List Nat), q ∈ ps → q.length ≤ (Nt.join 58 ps).length := by
                intro ps
                induction ps with
                | nil => intro q hq; simp at hq
                | cons a r ih =>
                  intro q hq
                  cases r with
                  | nil => simp at hq; rw [hq]; exact Nat.le_refl _
                  | cons b r2 =>
                    show q.length ≤ (a ++ 58 :: Nt.join 58 (b :: r2)).length
                    rw [List.length_append, List.length_cons]
                    rw [List.mem_cons] at hq
                    rcases hq with rfl | hq
                    · omega
                    · have := ih q hq; omega
              have := h5 _ _ h3
              rw [h1] at this
              exact this
            rw [tx_length, tx_length] at h4
            have := HZ.out
            omega
          have HN1 : Hid (∀ W : World, Calls Tryd.prog 27 #[.string (atT qs 0)] W fun e w' => e = .returned (.int .i64 (Nt.dval (tx (atT qs 0)))) ∧ W = w') := Lib.hid (fun W => l1Digits_any _ (hsz 0 (by omega)) W)
          have HN2 : Hid (∀ W : World, Calls Tryd.prog 27 #[.string (atT qs 1)] W fun e w' => e = .returned (.int .i64 (Nt.dval (tx (atT qs 1)))) ∧ W = w') := Lib.hid (fun W => l1Digits_any _ (hsz 1 (by omega)) W)
          have HNX : Hid (∀ ls' : List (Int × Int), ls' = ls ++ [(Nt.dval (tx (atT qs 0)), Nt.dval (tx (atT qs 1)))] → ∀ j, j < k + 1 → Nt.at2 ls' j = Nt.light2 ((Nt.cut 44 (tx s)).getD j []) ∧ (Nt.cut 58 ((Nt.cut 44 (tx s)).getD j [])).length = 2) := Lib.hid (fun ls' hls j hj => by
            subst hls
            by_cases e : j = k
            · subst e
              rw [← HP.out.1, HL2.out, ← HQM.out, List.length_map]
              refine ⟨?_, h2⟩
              simp [Nt.at2, List.getD_eq_getElem?_getD, ← hll]
            · obtain ⟨h5, h6⟩ := HRL.out j (by omega)
              refine ⟨?_, h6⟩
              rw [← h5]
              simp [Nt.at2, List.getD_eq_getElem?_getD, List.getElem?_append_left (show j < ls.length by omega)])
          generalize Nt.dval (tx (atT qs 0)) = x at *
          generalize Nt.dval (tx (atT qs 1)) = y at *
          have hne : ((qs.length : Int) != 2) = false := by rw [h2]; rfl
          rw [h2] at hne HTQ ⊢
          have HLL := Lib.hid hll
          clear hsz h2 HL2 HQM HCQ
          generalize atT qs 0 = q0 at *
          generalize atT qs 1 = q1 at *
          go_wp2_with fail
          have HSL5 : Hid (Sg w3.drew w.heap.size _ ls) := HSL3
          have HK5 : Hid (Kept [] w w3.drew) := Lib.hid HK3.out.drew
          have HKB5 : Hid (Ts w3.drew w.heap.size (.slice (some ⟨g, 0, none⟩) N cP) ps) := HKB3
          have hs4 : w3.drew.cell? ⟨gq, 0, none⟩ = some (.string q0) ∧ w3.drew.cell? ⟨gq, 1, none⟩ = some (.string q1) := ⟨r0, r1⟩
          have HQB : Hid (∀ b, (Value.slice (some ⟨gq, 0, none⟩) 2 cQ).ownBlock = some b → ∀ (v9 : Value) (l9 : List (Int × Int)), Sg w3.drew w.heap.size v9 l9 → ¬ b ∈ v9.ownBlock.toList) := Lib.hid (fun b hb v9 l9 h9 => sg_ts_apart h9 (show Ts w3.drew _ (.slice (some ⟨gq, 0, none⟩) 2 cQ) qs from HTQ.out) b hb)
          have hszW := HK5.out.size
          have hgq3 : gq < w3.drew.heap.size := hgq
          clear HSL3 HK3 HKB3 r0 r1 k1 HTQ hgq
          refine wp_region_held_drew (S := fun w' => w'.cell? ⟨gq, 0, none⟩ = some (.string q0) ∧ w'.cell? ⟨gq, 1, none⟩ = some (.string q1)) (by kernel_rfl) hs4 (fun hHeld => ?_)
          refine wpAnyH_take (i := 0) (v := ?_) (opAt_list2 rfl) (by kernel_rfl) (by kernel_rfl) (by kernel_rfl) (fun _ _ _ h => h) (Or.inl ⟨by rfl, ?_⟩) (by assumption) ?_
          rotate_left
          · intro w9 hSw
            (try dsimp only at hSw)
            go_simp
            try with_reducible rfl
          try simp only [Act.put, List.setIfInBounds_toArray, List.set_cons_zero, List.set_cons_succ]
          refine wpAnyH_take (i := 1) (v := ?_) (opAt_list2 rfl) (by kernel_rfl) (by kernel_rfl) (by kernel_rfl) (fun _ _ _ h => h) (Or.inl ⟨by rfl, ?_⟩) (by assumption) ?_
          rotate_left
          · intro w9 hSw
            (try dsimp only at hSw)
            go_simp
            try with_reducible rfl
          try simp only [Act.put, List.setIfInBounds_toArray, List.set_cons_zero, List.set_cons_succ]
          refine wpAnyH_take (i := 5) (v := ?_) (opAt_list2 rfl) (by kernel_rfl) (by kernel_rfl) (by kernel_rfl) (fun _ _ _ h => h) (Or.inl ⟨by rfl, ?_⟩) (by assumption) ?_
          rotate_left
          · intro w9 hSw
            (try dsimp only at hSw)
            go_simp
            try with_reducible rfl
          try simp only [Act.put, List.setIfInBounds_toArray, List.set_cons_zero, List.set_cons_succ]
          refine wpAnyH_take (i := 2) (v := ?_) (opAt_list2 rfl) (by kernel_rfl) (by kernel_rfl) (by kernel_rfl) (fun _ _ _ h => h) (Or.inl ⟨by rfl, ?_⟩) (by assumption) ?_
          rotate_left
          · intro w9 hSw
            (try dsimp only at hSw)
            go_simp
            try with_reducible rfl
          try simp only [Act.put, List.setIfInBounds_toArray, List.set_cons_zero, List.set_cons_succ]
          refine wpAnyH_take (i := 6) (v := ?_) (opAt_list2 rfl) (by kernel_rfl) (by kernel_rfl) (by kernel_rfl) (fun _ _ _ h => h) (Or.inl ⟨by rfl, ?_⟩) (by assumption) ?_
          rotate_left
          · intro w9 hSw
            (try dsimp only at hSw)
            go_simp
            try with_reducible rfl
          try simp only [Act.put, List.setIfInBounds_toArray, List.set_cons_zero, List.set_cons_succ]
          refine wpAnyH_take (i := 3) (v := ?_) (opAt_list2 rfl) (by kernel_rfl) (by kernel_rfl) (by kernel_rfl) (fun _ _ _ h => h) (Or.inl ⟨by rfl, ?_⟩) (by assumption) ?_
          rotate_left
          · intro w9 hSw
            (try dsimp only at hSw)
            go_simp
            try with_reducible rfl
          try simp only [Act.put, List.setIfInBounds_toArray, List.set_cons_zero, List.set_cons_succ]
          refine wpAnyH_take (i := 7) (v := ?_) (opAt_list2 rfl) (by kernel_rfl) (by kernel_rfl) (by kernel_rfl) (fun _ _ _ h => h) (Or.inl ⟨by rfl, ?_⟩) (by assumption) ?_
          rotate_left
          · intro w9 hSw
            (try dsimp only at hSw)
            go_simp
            try with_reducible rfl
          try simp only [Act.put, List.setIfInBounds_toArray, List.set_cons_zero, List.set_cons_succ]
          refine wpAnyH_ready (rs := [4]) (by kernel_rfl) (by simp) ?_
          refine AllReadyH.cons (opAt_list2 rfl) (fun K hK => ?_) AllReadyH.nil
          go_simp
          refine (HN1.out _).mono ?_
          rintro e w' ⟨rfl, rfl⟩
          refine hK.out _ _ hHeld (fun hHeld => ?_)
          clear hK K
          try simp only [Act.put, List.setIfInBounds_toArray, List.set_cons_zero, List.set_cons_succ]
          refine wpAnyH_ready (rs := [8]) (by kernel_rfl) (by simp) ?_
          refine AllReadyH.cons (opAt_list2 rfl) (fun K hK => ?_) AllReadyH.nil
          go_simp
          refine (HN2.out _).mono ?_
          rintro e w' ⟨rfl, rfl⟩
          refine hK.out _ _ hHeld (fun hHeld => ?_)
          clear hK K
          try simp only [Act.put, List.setIfInBounds_toArray, List.set_cons_zero, List.set_cons_succ]
          refine wpAnyH_take (i := 9) (v := ?_) (opAt_list2 rfl) (by kernel_rfl) (by kernel_rfl) (by kernel_rfl) (fun _ _ _ h => h) (Or.inl ⟨by rfl, ?_⟩) (by assumption) ?_
          rotate_left
          · intro w9 hSw
            (try dsimp only at hSw)
            go_simp
            try with_reducible rfl
          try simp only [Act.put, List.setIfInBounds_toArray, List.set_cons_zero, List.set_cons_succ]
          generalize w3.drew = w5 at *
          have hka5 : Kept [] w5 (w5.alloc (.cells #[.int .i64 x, .int .i64 y] 41)) := (Kept.refl [] w5).alloc _
          have HSL6 := Lib.hid (HSL5.out.stay hka5)
          have HKB6 := Lib.hid (HKB5.out.stay hka5)
          have HK6 := Lib.hid (HK5.out.trans hka5 (by simp))
          have HKA5 := Lib.hid hka5
          have n0 : (w5.alloc (.cells #[.int .i64 x, .int .i64 y] 41)).cell? ⟨w5.heap.size, 0, none⟩ = some (.int .i64 x) := by simp
          have n1 : (w5.alloc (.cells #[.int .i64 x, .int .i64 y] 41)).cell? ⟨w5.heap.size, 1, none⟩ = some (.int .i64 y) := by simp
          have hs6 : (w5.alloc (.cells #[.int .i64 x, .int .i64 y] 41)).cell? ⟨gq, 0, none⟩ = some (.string q0) ∧ (w5.alloc (.cells #[.int .i64 x, .int .i64 y] 41)).cell? ⟨gq, 1, none⟩ = some (.string q1) := ⟨(hka5.cell (p := ⟨gq, 0, none⟩) hgq3 (by simp)).trans hs4.1, (hka5.cell (p := ⟨gq, 1, none⟩) hgq3 (by simp)).trans hs4.2⟩
          have hgq6 : gq < (w5.alloc (.cells #[.int .i64 x, .int .i64 y] 41)).heap.size := Nat.lt_of_lt_of_le hgq3 hka5.size
          have hsz6 := HK6.out.size
          clear hka5
          refine wpAnyH_ready (rs := [10]) (by kernel_rfl) (by simp) ?_
          refine AllReadyH.cons (opAt_list2 rfl) (fun K hK => ?_) AllReadyH.nil
          go_simp
          refine hK.out _ _ hs6 (fun hHeld => ?_)
          clear hK K
          try simp only [Act.put, List.setIfInBounds_toArray, List.set_cons_zero, List.set_cons_succ]
          refine wpAnyH_ready (rs := [11]) (by kernel_rfl) (by simp) ?_
          refine AllReadyH.cons (opAt_list2 rfl) (fun K hK => ?_) AllReadyH.nil
          refine step_app_light x y rfl _ _ rfl w.heap.size _ ls HSL6.out rfl _ rfl n0 n1 (by have := HLL.out; omega) hsz6 ?_
          intro u9 w9 hs9 hk9
          have hap := HQB.out gq rfl _ ls HSL5.out
          refine hK.out _ _ ⟨(hk9.cell (p := ⟨gq, 0, none⟩) hgq6 hap).trans hs6.1, (hk9.cell (p := ⟨gq, 1, none⟩) hgq6 hap).trans hs6.2⟩ (fun hHeld => ?_)
          clear hK K
          try simp only [Act.put, List.setIfInBounds_toArray, List.set_cons_zero, List.set_cons_succ]
          refine wpAnyH_take (i := 12) (v := ?_) (opAt_list2 rfl) (by kernel_rfl) (by kernel_rfl) (by kernel_rfl) (fun _ _ _ h => h) (Or.inl ⟨by rfl, ?_⟩) (by assumption) ?_
          rotate_left
          · intro w9 hSw
            (try dsimp only at hSw)
            go_simp
            try with_reducible rfl
          try simp only [Act.put, List.setIfInBounds_toArray, List.set_cons_zero, List.set_cons_succ]
          refine wpAnyH_done (by kernel_rfl) ?_ _
          have HS9 := Lib.hid hs9
          have HK9 := Lib.hid (HK6.out.own hk9 (fun g hg => (HSL6.out.block hg).1))
          have HKB9 := Lib.hid (HKB6.out.kept hk9 (sg_ts_apart HSL6.out HKB6.out))
          clear hs9 hk9 hs6 n0 n1 hHeld hs4
          go_wp2
          go_roundw
          case rel => exact ⟨k + 1, _, by omega, by go_num, HS9.out, by rw [List.length_append, HLL.out]; rfl, HNX.out _ rfl, HK9.out, HKB9.out⟩
          case measure => simp [intOf]; omega
        · have hne : ((qs.length : Int) != 2) = true := bne_iff_ne.2 (by omega)
          have HF : Hid (Nt.readB n (tx s) = false) := Lib.hid (Nt.readB_part2 HP.out.2 HD.out (by rw [← HQM.out, List.length_map]; exact h2))
          have HE3 := Lib.hid ((Sg.empty w3).mono HK3.out.size)
          clear h2
          go_wp2_with fail
          go_ret2
          exact ⟨_, by rw [HF.out]; rfl, by rw [Nt.readOf_no HF.out]; exact HE3.out, HK3.out.alloc _⟩
      · have hk' : N = k := by omega
        subst hk'
        have HLS : Hid (ls = Nt.lightsOf (tx s)) := Lib.hid (by
          unfold Nt.lightsOf
          rw [if_neg HD.out]
          apply List.ext_getElem (by rw [List.length_map, HCL.out, hll])
          intro i hi1 hi2
          have h2 := (hrl i (by omega)).1
          rw [Nt.at2_get hi1] at h2
          rw [h2, List.getElem_map, List.getD_eq_getElem?_getD, List.getElem?_eq_getElem (by rw [HCL.out]; omega), Option.getD_some])
        have HNE : Hid (tx s ≠ []) := Lib.hid (fun e => by
          have h2 := (hrl 0 HN0.out).2
          rw [e] at h2
          revert h2
          decide)
        obtain ⟨aL, cL, rfl, _, _, _⟩ := hsl.any
        clear hsl hrl hkept hkept1 hll
        go_wp2_with fail
        refine (sScriptText_any n ls _ _ _ HSL.out).mono ?_
        rintro e w4 ⟨z, rfl, hz, hk4⟩
        have HZ := Lib.hid hz
        have HG4 := Lib.hid (HSL.out.stay hk4)
        have HK4 := Lib.hid (HK.out.trans hk4 (by simp))
        clear hz hk4
        by_cases hzs : z = s
        · subst hzs
          have HR := Lib.hid (Nt.read_of HZ.out.symm HNE.out)
          go_wp2_with fail
          go_ret2
          exact ⟨_, by rw [HR.out.1]; rfl, by rw [HR.out.2.1]; exact HG4.out, HK4.out⟩
        · have d2 : (z.toList == s.toList) = false := str_no (fun e => hzs (tx_inj e))
          have HF : Hid (Nt.readB n (tx s) = false) := Lib.hid (by
            rw [Nt.readB_iff HNE.out]
            refine decide_eq_false (fun e => hzs (tx_inj ?_))
            rw [HZ.out, HLS.out, e])
          have HE4 := Lib.hid ((Sg.empty w4).mono HK4.out.size)
          clear hzs
          go_wp2_with fail
          go_ret2
          exact ⟨_, by rw [HF.out]; rfl, by rw [Nt.readOf_no HF.out]; exact HE4.out, HK4.out.alloc _⟩
end Go.Proofs.YtilbdpcijdcffaaDoor
