/-
  The law PlaceOk, walked.
-/
import Derived.Test.YtofgfhfdmkcmcaaD32
import Derived.Test.YtofgfhfdmkcmcaaL1
import Derived.Test.YtofgfhfdmkcmcaaIP1
namespace Go.Proofs.Ytofgfhfdmkcmcaa
open Go.RowKit

theorem opAt_lst2 {l : List Oper} {i : Nat} {o : Oper} (h : l[i]? = some o) : l.toArray[i]? = some o := by simpa using h

set_option maxRecDepth 100000 in
theorem upon_make0 {o : Oper} {a : Act} {K : Act → World → Prop} {Q : Exit → Act → World → Prop} {w : World} (n : Nat) (hn : n ≤ 2000000)
    (h : ∀ g w', g = w.heap.size → Sl w' g (.slice (some ⟨g, 0, none⟩) n n) (List.replicate n 0) → Kept [] w w' → g < w'.heap.size →
      Oper.upon Try.prog o a K Q (Result.ok (Next.value (.slice (some ⟨g, 0, none⟩) n n)) w')) :
    Oper.upon Try.prog o a K Q ((Sem.run Try.prog (Instr.makeSlice 23 (.int .i64 (n : Int)) (.int .i64 (n : Int))) w).andThen fun a w' => Result.ok (Next.value a) w') := by
  obtain ⟨i0, hi, hz0, hz1, hz2⟩ := info_parts info_int
  obtain ⟨w', hrun, r1, r2⟩ := run_make_full (P := Try.prog) w w.heap.size 23 3 i0 (.int .i64 0) 1 Try.underlying23 hi hz0 hz1 .i64 .i64 n (by rw [hz2]; omega) (by unfold maxLen; omega) (Nat.le_refl _)
  rw [hrun]
  have hs : Sl w' w.heap.size (.slice (some ⟨w.heap.size, 0, none⟩) n n) (List.replicate n 0) := by
    unfold Sl
    have e : ints (List.replicate n 0) = (madeCells (Value.int .i64 0).cells (n * 1)).toList := by
      rw [show (Value.int IntKind.i64 0).cells = #[Value.int .i64 0] from rfl, toList_madeCells_one]
      simp [ints]
    rw [List.length_replicate, e]
    exact r1
  exact h _ w' rfl hs ((Kept.refl _ _).grown r2 (by simp)) (hs.block (g := w.heap.size) rfl).2

theorem pl_zeros {p : Nt.Pi} (h : Nt.plB p = true) : Nt.plB ⟨p.ns, p.c, List.replicate p.ns.length 0⟩ = true := by
  obtain ⟨q, rfl, hq⟩ := Nt.plB_ok h
  have hl : (Nt.nats q.ns).length = q.ns.length := Nt.nats_length _
  have e : List.replicate q.i.ns.length (0 : Int) = Nt.nats (Nt.rest q.ns.length) := by
    show List.replicate (Nt.nats q.ns).length (0 : Int) = _
    rw [hl]; exact (nats_zeros q.ns.length).symm
  rw [e]
  exact Nt.fireB_yes hq.ok (Nt.rest_st (n := q.ns.length) hq.st.c3 hq.st.c5 hq.ok.some hq.ok.few) (by rw [Nt.rest_length])
theorem pl_more {p : Nt.Pi} (h : Nt.plB p = true) (hc : ¬ 5 ≤ p.c) : Nt.plB ⟨p.ns, p.c + 1, p.ks⟩ = true := by
  obtain ⟨q, rfl, hq⟩ := Nt.plB_ok h
  have hc' : q.c + 1 ≤ 5 := by
    have h2 : ¬ (5 : Int) ≤ (q.c : Int) := hc
    omega
  exact Nt.fireB_yes hq.ok (c := q.c + 1) ⟨by have := hq.st.c3; omega, hc', hq.st.some, hq.st.few, fun k hk => Nat.lt_succ_of_lt (hq.st.lt k hk)⟩ hq.len

set_option maxHeartbeats 4000000 in
set_option maxRecDepth 100000 in
theorem FnPlaceOk_calls (w : World) (v : Value) (ha : ArgB w v) :
    Calls Try.prog 3 #[v] w fun e w' => e = .returned (.bool true) ∧ Kept [] w w' := by
  have HA := Lib.hid ha
  obtain ⟨a, len, cap, rfl, hlc, hcm, _⟩ := ha
  by_cases hbig : 1048576 < len
  · have hb : (1048576 : Int) < (len : Int) := by omega
    clear hbig
    go_enter Try.func3, Try.ntmps3
    go_wp2
    go_ret
    exact ⟨rfl, Kept.refl _ _⟩
  have hb : ¬ (1048576 : Int) < (len : Int) := by omega
  clear hbig
  go_enter Try.func3, Try.ntmps3
  go_wp2_with fail
  refine (drawPlaceOk_any _ _ HA.out).mono ?_
  rintro e w1 ⟨y, p, rfl, hp, hl, hk⟩
  have HP0 := Lib.hid hp
  obtain ⟨v1, u1, rfl, h1, h2⟩ := hp
  obtain ⟨b1, c1, rfl, _, _, _⟩ := h1.any
  obtain ⟨b2, c2, rfl, _, _, _⟩ := h2.any
  have hka : Kept [] w1 (w1.alloc (.cells #[.slice b1 p.ns.length c1, .int .i64 p.c, .slice b2 p.ks.length c2] 25)) := (Kept.refl _ _).alloc _
  have HB := Lib.hid (Bk.new w1 25 #[.slice b1 p.ns.length c1, .int .i64 p.c, .slice b2 p.ks.length c2])
  have HP := Lib.hid ((HP0.out.stay hka).mono (Nat.zero_le _))
  have HS := Lib.hid ((h1.stay hka).mono (Nat.zero_le _))
  have HT := Lib.hid ((h2.stay hka).mono (Nat.zero_le _))
  have HK := Lib.hid (hk.trans hka (by simp))
  obtain ⟨r0, r1, r2⟩ := HB.out.three
  clear hk hka hb h1 h2 HP0
  go_wp2_with fail
  generalize w1.alloc (.cells #[.slice b1 p.ns.length c1, .int .i64 p.c, .slice b2 p.ks.length c2] 25) = W1 at *
  refine (iPlaceOk_any p _ _ 0 HP.out).mono ?_
  rintro e w2 ⟨rfl, hk⟩
  have HB2 := Lib.hid (HB.out.stay hk)
  have HP2 := Lib.hid (HP.out.stay hk)
  have HS2 := Lib.hid (HS.out.stay hk)
  have HT2 := Lib.hid (HT.out.stay hk)
  have HK2 := Lib.hid (HK.out.trans hk (by simp))
  clear hk r0 r1 r2 HB HP HS HT HK
  obtain ⟨r0, r1, r2⟩ := HB2.out.three
  generalize hok : Nt.plB p = ok at *
  have HOK := Lib.hid hok
  clear hok
  go_wp2_with fail
  refine (sPlaceOk_any p _ _ 0 HP2.out).mono ?_
  rintro e w3 ⟨rfl, hk⟩
  rw [HOK.out]
  have HB3 := Lib.hid (HB2.out.stay hk)
  have HS3 := Lib.hid (HS2.out.stay hk)
  have HT3 := Lib.hid (HT2.out.stay hk)
  have HK3 := Lib.hid (HK2.out.trans hk (by simp))
  clear hk r0 r1 r2 HB2 HP2 HS2 HT2 HK2
  obtain ⟨r0, r1, r2⟩ := HB3.out.three
  cases ok
  · clear r0 r1 r2
    go_wp2_with fail
    refine (iPlaceOk_any Nt.Pi.zero _ _ 0 (Pv.zero _ _)).mono ?_
    rintro e w4 ⟨rfl, hk⟩
    rw [Nt.plB_zero]
    have HK4 := Lib.hid (HK3.out.trans hk (by simp))
    clear hk
    go_wp2_with fail
    refine (alive_any _).mono ?_
    rintro e w5 ⟨rfl, hk⟩
    have HK5 := Lib.hid (HK4.out.trans hk (by simp))
    clear hk
    go_wp2
    go_ret
    exact ⟨rfl, HK5.out⟩
  · have HZ := Lib.hid (pl_zeros HOK.out)
    have HM := Lib.hid (pl_more HOK.out)
    have hl6 : p.ns.length ≤ 2000000 := by omega
    have HC1 : Hid (∀ W v, Kept [] w3 W → Sl W 0 v (List.replicate p.ns.length 0) → Calls Try.prog 14 #[.agg #[.slice b1 p.ns.length c1, .int .i64 p.c, v]] W fun e w' => e = .returned (.bool true) ∧ Kept [] w3 w') := Lib.hid (fun W v k' hv => (iPlaceOk_any ⟨p.ns, p.c, List.replicate p.ns.length 0⟩ W _ 0 ⟨_, _, rfl, HS3.out.stay k', hv⟩).mono (by rintro e w' ⟨rfl, hk⟩; rw [HZ.out]; exact ⟨rfl, k'.trans hk (by simp)⟩))
    have hc5 : p.c ≤ 5 := by
      obtain ⟨q, hq, hqq⟩ := Nt.plB_ok HOK.out
      have := hqq.st.c5
      rw [hq]; show (q.c : Int) ≤ 5; omega
    have hc3 : 0 ≤ p.c := by
      obtain ⟨q, hq, hqq⟩ := Nt.plB_ok HOK.out
      rw [hq]; show 0 ≤ (q.c : Int); omega
    have hwr : IntKind.i64.wrap (p.c + 1) = p.c + 1 := by rw [IntKind.wrap_i64]; omega
    have HC2 : Hid (¬ 5 ≤ p.c → ∀ W, Kept [] w3 W → Calls Try.prog 14 #[.agg #[.slice b1 p.ns.length c1, .int .i64 (p.c + 1), .slice b2 p.ks.length c2]] W fun e w' => e = .returned (.bool true) ∧ Kept [] w3 w') := Lib.hid (fun h5 W k' => (iPlaceOk_any ⟨p.ns, p.c + 1, p.ks⟩ W _ 0 ⟨_, _, rfl, HS3.out.stay k', HT3.out.stay k'⟩).mono (by rintro e w' ⟨rfl, hk⟩; rw [HM.out h5]; exact ⟨rfl, k'.trans hk (by simp)⟩))
    have HAL : Hid (∀ W, Kept [] w3 W → Calls Try.prog 16 #[] W fun e w' => e = .returned (.bool true) ∧ Kept [] w3 w') := Lib.hid (fun W k' => (alive_any W).mono (by rintro e w' ⟨rfl, hk⟩; exact ⟨rfl, k'.trans hk (by simp)⟩))
    have HSB : Hid (∀ w', Kept [] w3 w' → w'.cell? ⟨w1.heap.size, 0, none⟩ = some (.slice b1 p.ns.length c1) ∧ w'.cell? ⟨w1.heap.size, 1, none⟩ = some (.int .i64 p.c) ∧ w'.cell? ⟨w1.heap.size, 2, none⟩ = some (.slice b2 p.ks.length c2)) := Lib.hid (fun w' k' => (HB3.out.stay k').three)
    obtain ⟨B, hB, d5, d5', hB2⟩ : ∃ B : Bool, Hid (B = false → ¬ 5 ≤ p.c) ∧ decide (5 ≤ p.c) = B ∧ decide (p.c ≥ 5) = B ∧ (B = true ∨ B = false) := ⟨decide (5 ≤ p.c), Lib.hid (fun h => of_decide_eq_false h), rfl, rfl, by cases decide (5 ≤ p.c) <;> simp⟩
    rcases hB2 with rfl | rfl
    · go_wp2_with fail
      refine wp_region_held_drew (S := (fun w' => w'.cell? ⟨w1.heap.size, 0, none⟩ = some (.slice b1 p.ns.length c1) ∧ w'.cell? ⟨w1.heap.size, 1, none⟩ = some (.int .i64 p.c) ∧ w'.cell? ⟨w1.heap.size, 2, none⟩ = some (.slice b2 p.ks.length c2))) (by kernel_rfl) (HSB.out _ ((Kept.refl [] w3).drew)) (fun hHeld => ?_)
      refine wpAnyH_take (i := 0) (v := ?_) (opAt_lst2 rfl) (by kernel_rfl) (by kernel_rfl) (by kernel_rfl) (fun _ _ _ h => h) (Or.inl ⟨by rfl, ?_⟩) (by assumption) ?_
      rotate_left
      · intro w9 hSw
        (try dsimp only at hSw)
        go_simp
        try with_reducible rfl
      try simp only [Act.put, List.setIfInBounds_toArray, List.set_cons_zero, List.set_cons_succ]
      refine wpAnyH_take (i := 1) (v := ?_) (opAt_lst2 rfl) (by kernel_rfl) (by kernel_rfl) (by kernel_rfl) (fun _ _ _ h => h) (Or.inl ⟨by rfl, ?_⟩) (by assumption) ?_
      rotate_left
      · intro w9 hSw
        (try dsimp only at hSw)
        go_simp
        try with_reducible rfl
      try simp only [Act.put, List.setIfInBounds_toArray, List.set_cons_zero, List.set_cons_succ]
      refine wpAnyH_take (i := 2) (v := ?_) (opAt_lst2 rfl) (by kernel_rfl) (by kernel_rfl) (by kernel_rfl) (fun _ _ _ h => h) (Or.inl ⟨by rfl, ?_⟩) (by assumption) ?_
      rotate_left
      · intro w9 hSw
        (try dsimp only at hSw)
        go_simp
        try with_reducible rfl
      try simp only [Act.put, List.setIfInBounds_toArray, List.set_cons_zero, List.set_cons_succ]
      refine wpAnyH_take (i := 3) (v := ?_) (opAt_lst2 rfl) (by kernel_rfl) (by kernel_rfl) (by kernel_rfl) (fun _ _ _ h => h) (Or.inl ⟨by rfl, ?_⟩) (by assumption) ?_
      rotate_left
      · intro w9 hSw
        (try dsimp only at hSw)
        go_simp
        try with_reducible rfl
      try simp only [Act.put, List.setIfInBounds_toArray, List.set_cons_zero, List.set_cons_succ]
      refine wpAnyH_take (i := 4) (v := ?_) (opAt_lst2 rfl) (by kernel_rfl) (by kernel_rfl) (by kernel_rfl) (fun _ _ _ h => h) (Or.inl ⟨by rfl, ?_⟩) (by assumption) ?_
      rotate_left
      · intro w9 hSw
        (try dsimp only at hSw)
        go_simp
        try with_reducible rfl
      try simp only [Act.put, List.setIfInBounds_toArray, List.set_cons_zero, List.set_cons_succ]
      refine wpAnyH_take (i := 5) (v := ?_) (opAt_lst2 rfl) (by kernel_rfl) (by kernel_rfl) (by kernel_rfl) (fun _ _ _ h => h) (Or.inl ⟨by rfl, ?_⟩) (by assumption) ?_
      rotate_left
      · intro w9 hSw
        (try dsimp only at hSw)
        go_simp
        try with_reducible rfl
      try simp only [Act.put, List.setIfInBounds_toArray, List.set_cons_zero, List.set_cons_succ]
      refine wpAnyH_take (i := 6) (v := ?_) (opAt_lst2 rfl) (by kernel_rfl) (by kernel_rfl) (by kernel_rfl) (fun _ _ _ h => h) (Or.inl ⟨by rfl, ?_⟩) (by assumption) ?_
      rotate_left
      · intro w9 hSw
        (try dsimp only at hSw)
        go_simp
        try with_reducible rfl
      try simp only [Act.put, List.setIfInBounds_toArray, List.set_cons_zero, List.set_cons_succ]
      refine wpAnyH_ready (rs := [7]) (by kernel_rfl) (by simp) ?_
      refine AllReadyH.cons (opAt_lst2 rfl) (fun K hK => ?_) AllReadyH.nil
      go_simp
      refine upon_make0 p.ns.length hl6 ?_
      intro g w4 hg hs4 hk4 hz4
      have k4 : Kept [] w3 w4 := Kept.trans (rows' := []) ((Kept.refl [] w3).drew) hk4 (by simp)
      have HS4 : Hid (Sl w4 0 (.slice (some ⟨g, 0, none⟩) p.ns.length p.ns.length) (List.replicate p.ns.length 0)) := Lib.hid (hs4.mono (Nat.zero_le _))
      clear hs4 hk4 hz4 hg
      go_simp
      refine hK.out _ _ (HSB.out _ k4) (fun hHeld => ?_)
      clear hK K
      try simp only [Act.put, List.setIfInBounds_toArray, List.set_cons_zero, List.set_cons_succ]
      refine wpAnyH_take (i := 8) (v := ?_) (opAt_lst2 rfl) (by kernel_rfl) (by kernel_rfl) (by kernel_rfl) (fun _ _ _ h => h) (Or.inl ⟨by rfl, ?_⟩) (by assumption) ?_
      rotate_left
      · intro w9 hSw
        (try dsimp only at hSw)
        go_simp
        try with_reducible rfl
      try simp only [Act.put, List.setIfInBounds_toArray, List.set_cons_zero, List.set_cons_succ]
      refine wpAnyH_ready (rs := [9]) (by kernel_rfl) (by simp) ?_
      refine AllReadyH.cons (opAt_lst2 rfl) (fun K hK => ?_) AllReadyH.nil
      go_simp
      go_at_call 14
      refine (HC1.out _ _ k4 HS4.out).mono ?_
      rintro e6 w6 ⟨rfl, k6⟩
      refine hK.out _ _ (HSB.out _ k6) (fun hHeld => ?_)
      clear hK K
      try simp only [Act.put, List.setIfInBounds_toArray, List.set_cons_zero, List.set_cons_succ]
      refine wpAnyH_take (i := 10) (v := ?_) (opAt_lst2 rfl) (by kernel_rfl) (by kernel_rfl) (by kernel_rfl) (fun _ _ _ h => h) (Or.inl ⟨by rfl, ?_⟩) (by assumption) ?_
      rotate_left
      · intro w9 hSw
        (try dsimp only at hSw)
        go_simp
        try with_reducible rfl
      try simp only [Act.put, List.setIfInBounds_toArray, List.set_cons_zero, List.set_cons_succ]
      refine wpAnyH_take (i := 11) (v := ?_) (opAt_lst2 rfl) (by kernel_rfl) (by kernel_rfl) (by kernel_rfl) (fun _ _ _ h => h) (Or.inl ⟨by rfl, ?_⟩) (by assumption) ?_
      rotate_left
      · intro w9 hSw
        (try dsimp only at hSw)
        go_simp
        try with_reducible rfl
      try simp only [Act.put, List.setIfInBounds_toArray, List.set_cons_zero, List.set_cons_succ]
      refine wpAnyH_take (i := 12) (v := ?_) (opAt_lst2 rfl) (by kernel_rfl) (by kernel_rfl) (by kernel_rfl) (fun _ _ _ h => h) (Or.inl ⟨by rfl, ?_⟩) (by assumption) ?_
      rotate_left
      · intro w9 hSw
        (try dsimp only at hSw)
        go_simp
        try with_reducible rfl
      try simp only [Act.put, List.setIfInBounds_toArray, List.set_cons_zero, List.set_cons_succ]
      refine wpAnyH_take (i := 13) (v := ?_) (opAt_lst2 rfl) (by kernel_rfl) (by kernel_rfl) (by kernel_rfl) (fun _ _ _ h => h) (Or.inl ⟨by rfl, ?_⟩) (by assumption) ?_
      rotate_left
      · intro w9 hSw
        (try dsimp only at hSw)
        go_simp
        try with_reducible rfl
      try simp only [Act.put, List.setIfInBounds_toArray, List.set_cons_zero, List.set_cons_succ]
      refine wpAnyH_take (i := 14) (v := ?_) (opAt_lst2 rfl) (by kernel_rfl) (by kernel_rfl) (by kernel_rfl) (fun _ _ _ h => h) (Or.inl ⟨by rfl, ?_⟩) (by assumption) ?_
      rotate_left
      · intro w9 hSw
        (try dsimp only at hSw)
        go_simp
        try with_reducible rfl
      try simp only [Act.put, List.setIfInBounds_toArray, List.set_cons_zero, List.set_cons_succ]
      refine wpAnyH_take (i := 15) (v := undef) (opAt_lst2 rfl) (by kernel_rfl) (by kernel_rfl) (by kernel_rfl) (fun _ _ _ h => h) (Or.inr ⟨by rfl, rfl⟩) (by assumption) ?_
      try simp only [Act.put, List.setIfInBounds_toArray, List.set_cons_zero, List.set_cons_succ]
      refine wpAnyH_take (i := 16) (v := undef) (opAt_lst2 rfl) (by kernel_rfl) (by kernel_rfl) (by kernel_rfl) (fun _ _ _ h => h) (Or.inr ⟨by rfl, rfl⟩) (by assumption) ?_
      try simp only [Act.put, List.setIfInBounds_toArray, List.set_cons_zero, List.set_cons_succ]
      refine wpAnyH_take (i := 17) (v := undef) (opAt_lst2 rfl) (by kernel_rfl) (by kernel_rfl) (by kernel_rfl) (fun _ _ _ h => h) (Or.inr ⟨by rfl, rfl⟩) (by assumption) ?_
      try simp only [Act.put, List.setIfInBounds_toArray, List.set_cons_zero, List.set_cons_succ]
      refine wpAnyH_take (i := 18) (v := undef) (opAt_lst2 rfl) (by kernel_rfl) (by kernel_rfl) (by kernel_rfl) (fun _ _ _ h => h) (Or.inr ⟨by rfl, rfl⟩) (by assumption) ?_
      try simp only [Act.put, List.setIfInBounds_toArray, List.set_cons_zero, List.set_cons_succ]
      refine wpAnyH_take (i := 19) (v := undef) (opAt_lst2 rfl) (by kernel_rfl) (by kernel_rfl) (by kernel_rfl) (fun _ _ _ h => h) (Or.inr ⟨by rfl, rfl⟩) (by assumption) ?_
      try simp only [Act.put, List.setIfInBounds_toArray, List.set_cons_zero, List.set_cons_succ]
      refine wpAnyH_take (i := 20) (v := undef) (opAt_lst2 rfl) (by kernel_rfl) (by kernel_rfl) (by kernel_rfl) (fun _ _ _ h => h) (Or.inr ⟨by rfl, rfl⟩) (by assumption) ?_
      try simp only [Act.put, List.setIfInBounds_toArray, List.set_cons_zero, List.set_cons_succ]
      refine wpAnyH_take (i := 21) (v := undef) (opAt_lst2 rfl) (by kernel_rfl) (by kernel_rfl) (by kernel_rfl) (fun _ _ _ h => h) (Or.inr ⟨by rfl, rfl⟩) (by assumption) ?_
      try simp only [Act.put, List.setIfInBounds_toArray, List.set_cons_zero, List.set_cons_succ]
      refine wpAnyH_take (i := 22) (v := undef) (opAt_lst2 rfl) (by kernel_rfl) (by kernel_rfl) (by kernel_rfl) (fun _ _ _ h => h) (Or.inr ⟨by rfl, rfl⟩) (by assumption) ?_
      try simp only [Act.put, List.setIfInBounds_toArray, List.set_cons_zero, List.set_cons_succ]
      refine wpAnyH_take (i := 23) (v := undef) (opAt_lst2 rfl) (by kernel_rfl) (by kernel_rfl) (by kernel_rfl) (fun _ _ _ h => h) (Or.inr ⟨by rfl, rfl⟩) (by assumption) ?_
      try simp only [Act.put, List.setIfInBounds_toArray, List.set_cons_zero, List.set_cons_succ]
      refine wpAnyH_take (i := 24) (v := ?_) (opAt_lst2 rfl) (by kernel_rfl) (by kernel_rfl) (by kernel_rfl) (fun _ _ _ h => h) (Or.inl ⟨by rfl, ?_⟩) (by assumption) ?_
      rotate_left
      · intro w9 hSw
        (try dsimp only at hSw)
        go_simp
        try with_reducible rfl
      try simp only [Act.put, List.setIfInBounds_toArray, List.set_cons_zero, List.set_cons_succ]
      refine wpAnyH_take (i := 25) (v := ?_) (opAt_lst2 rfl) (by kernel_rfl) (by kernel_rfl) (by kernel_rfl) (fun _ _ _ h => h) (Or.inl ⟨by rfl, ?_⟩) (by assumption) ?_
      rotate_left
      · intro w9 hSw
        (try dsimp only at hSw)
        go_simp
        try with_reducible rfl
      try simp only [Act.put, List.setIfInBounds_toArray, List.set_cons_zero, List.set_cons_succ]
      refine wpAnyH_take (i := 26) (v := ?_) (opAt_lst2 rfl) (by kernel_rfl) (by kernel_rfl) (by kernel_rfl) (fun _ _ _ h => h) (Or.inl ⟨by rfl, ?_⟩) (by assumption) ?_
      rotate_left
      · intro w9 hSw
        (try dsimp only at hSw)
        go_simp
        try with_reducible rfl
      try simp only [Act.put, List.setIfInBounds_toArray, List.set_cons_zero, List.set_cons_succ]
      refine wpAnyH_ready (rs := [27]) (by kernel_rfl) (by simp) ?_
      refine AllReadyH.cons (opAt_lst2 rfl) (fun K hK => ?_) AllReadyH.nil
      go_simp
      go_at_call 16
      refine (HAL.out _ k6).mono ?_
      rintro e8 w8 ⟨rfl, k8⟩
      refine hK.out _ _ (HSB.out _ k8) (fun hHeld => ?_)
      clear hK K
      try simp only [Act.put, List.setIfInBounds_toArray, List.set_cons_zero, List.set_cons_succ]
      refine wpAnyH_take (i := 28) (v := ?_) (opAt_lst2 rfl) (by kernel_rfl) (by kernel_rfl) (by kernel_rfl) (fun _ _ _ h => h) (Or.inl ⟨by rfl, ?_⟩) (by assumption) ?_
      rotate_left
      · intro w9 hSw
        (try dsimp only at hSw)
        go_simp
        try with_reducible rfl
      try simp only [Act.put, List.setIfInBounds_toArray, List.set_cons_zero, List.set_cons_succ]
      refine wpAnyH_take (i := 29) (v := ?_) (opAt_lst2 rfl) (by kernel_rfl) (by kernel_rfl) (by kernel_rfl) (fun _ _ _ h => h) (Or.inl ⟨by rfl, ?_⟩) (by assumption) ?_
      rotate_left
      · intro w9 hSw
        (try dsimp only at hSw)
        go_simp
        try with_reducible rfl
      try simp only [Act.put, List.setIfInBounds_toArray, List.set_cons_zero, List.set_cons_succ]
      refine wpAnyH_done (by kernel_rfl) ?_ _
      go_wp2
      go_ret
      exact ⟨rfl, HK3.out.trans k8 (by simp)⟩
    · go_wp2_with fail
      refine wp_region_held_drew (S := (fun w' => w'.cell? ⟨w1.heap.size, 0, none⟩ = some (.slice b1 p.ns.length c1) ∧ w'.cell? ⟨w1.heap.size, 1, none⟩ = some (.int .i64 p.c) ∧ w'.cell? ⟨w1.heap.size, 2, none⟩ = some (.slice b2 p.ks.length c2))) (by kernel_rfl) (HSB.out _ ((Kept.refl [] w3).drew)) (fun hHeld => ?_)
      refine wpAnyH_take (i := 0) (v := ?_) (opAt_lst2 rfl) (by kernel_rfl) (by kernel_rfl) (by kernel_rfl) (fun _ _ _ h => h) (Or.inl ⟨by rfl, ?_⟩) (by assumption) ?_
      rotate_left
      · intro w9 hSw
        (try dsimp only at hSw)
        go_simp
        try with_reducible rfl
      try simp only [Act.put, List.setIfInBounds_toArray, List.set_cons_zero, List.set_cons_succ]
      refine wpAnyH_take (i := 1) (v := ?_) (opAt_lst2 rfl) (by kernel_rfl) (by kernel_rfl) (by kernel_rfl) (fun _ _ _ h => h) (Or.inl ⟨by rfl, ?_⟩) (by assumption) ?_
      rotate_left
      · intro w9 hSw
        (try dsimp only at hSw)
        go_simp
        try with_reducible rfl
      try simp only [Act.put, List.setIfInBounds_toArray, List.set_cons_zero, List.set_cons_succ]
      refine wpAnyH_take (i := 2) (v := ?_) (opAt_lst2 rfl) (by kernel_rfl) (by kernel_rfl) (by kernel_rfl) (fun _ _ _ h => h) (Or.inl ⟨by rfl, ?_⟩) (by assumption) ?_
      rotate_left
      · intro w9 hSw
        (try dsimp only at hSw)
        go_simp
        try with_reducible rfl
      try simp only [Act.put, List.setIfInBounds_toArray, List.set_cons_zero, List.set_cons_succ]
      refine wpAnyH_take (i := 3) (v := ?_) (opAt_lst2 rfl) (by kernel_rfl) (by kernel_rfl) (by kernel_rfl) (fun _ _ _ h => h) (Or.inl ⟨by rfl, ?_⟩) (by assumption) ?_
      rotate_left
      · intro w9 hSw
        (try dsimp only at hSw)
        go_simp
        try with_reducible rfl
      try simp only [Act.put, List.setIfInBounds_toArray, List.set_cons_zero, List.set_cons_succ]
      refine wpAnyH_take (i := 4) (v := ?_) (opAt_lst2 rfl) (by kernel_rfl) (by kernel_rfl) (by kernel_rfl) (fun _ _ _ h => h) (Or.inl ⟨by rfl, ?_⟩) (by assumption) ?_
      rotate_left
      · intro w9 hSw
        (try dsimp only at hSw)
        go_simp
        try with_reducible rfl
      try simp only [Act.put, List.setIfInBounds_toArray, List.set_cons_zero, List.set_cons_succ]
      refine wpAnyH_take (i := 5) (v := ?_) (opAt_lst2 rfl) (by kernel_rfl) (by kernel_rfl) (by kernel_rfl) (fun _ _ _ h => h) (Or.inl ⟨by rfl, ?_⟩) (by assumption) ?_
      rotate_left
      · intro w9 hSw
        (try dsimp only at hSw)
        go_simp
        try with_reducible rfl
      try simp only [Act.put, List.setIfInBounds_toArray, List.set_cons_zero, List.set_cons_succ]
      refine wpAnyH_take (i := 6) (v := ?_) (opAt_lst2 rfl) (by kernel_rfl) (by kernel_rfl) (by kernel_rfl) (fun _ _ _ h => h) (Or.inl ⟨by rfl, ?_⟩) (by assumption) ?_
      rotate_left
      · intro w9 hSw
        (try dsimp only at hSw)
        go_simp
        try with_reducible rfl
      try simp only [Act.put, List.setIfInBounds_toArray, List.set_cons_zero, List.set_cons_succ]
      refine wpAnyH_ready (rs := [7]) (by kernel_rfl) (by simp) ?_
      refine AllReadyH.cons (opAt_lst2 rfl) (fun K hK => ?_) AllReadyH.nil
      go_simp
      refine upon_make0 p.ns.length hl6 ?_
      intro g w4 hg hs4 hk4 hz4
      have k4 : Kept [] w3 w4 := Kept.trans (rows' := []) ((Kept.refl [] w3).drew) hk4 (by simp)
      have HS4 : Hid (Sl w4 0 (.slice (some ⟨g, 0, none⟩) p.ns.length p.ns.length) (List.replicate p.ns.length 0)) := Lib.hid (hs4.mono (Nat.zero_le _))
      clear hs4 hk4 hz4 hg
      go_simp
      refine hK.out _ _ (HSB.out _ k4) (fun hHeld => ?_)
      clear hK K
      try simp only [Act.put, List.setIfInBounds_toArray, List.set_cons_zero, List.set_cons_succ]
      refine wpAnyH_take (i := 8) (v := ?_) (opAt_lst2 rfl) (by kernel_rfl) (by kernel_rfl) (by kernel_rfl) (fun _ _ _ h => h) (Or.inl ⟨by rfl, ?_⟩) (by assumption) ?_
      rotate_left
      · intro w9 hSw
        (try dsimp only at hSw)
        go_simp
        try with_reducible rfl
      try simp only [Act.put, List.setIfInBounds_toArray, List.set_cons_zero, List.set_cons_succ]
      refine wpAnyH_ready (rs := [9]) (by kernel_rfl) (by simp) ?_
      refine AllReadyH.cons (opAt_lst2 rfl) (fun K hK => ?_) AllReadyH.nil
      go_simp
      go_at_call 14
      refine (HC1.out _ _ k4 HS4.out).mono ?_
      rintro e6 w6 ⟨rfl, k6⟩
      refine hK.out _ _ (HSB.out _ k6) (fun hHeld => ?_)
      clear hK K
      try simp only [Act.put, List.setIfInBounds_toArray, List.set_cons_zero, List.set_cons_succ]
      refine wpAnyH_take (i := 10) (v := ?_) (opAt_lst2 rfl) (by kernel_rfl) (by kernel_rfl) (by kernel_rfl) (fun _ _ _ h => h) (Or.inl ⟨by rfl, ?_⟩) (by assumption) ?_
      rotate_left
      · intro w9 hSw
        (try dsimp only at hSw)
        go_simp
        try with_reducible rfl
      try simp only [Act.put, List.setIfInBounds_toArray, List.set_cons_zero, List.set_cons_succ]
      refine wpAnyH_take (i := 11) (v := ?_) (opAt_lst2 rfl) (by kernel_rfl) (by kernel_rfl) (by kernel_rfl) (fun _ _ _ h => h) (Or.inl ⟨by rfl, ?_⟩) (by assumption) ?_
      rotate_left
      · intro w9 hSw
        (try dsimp only at hSw)
        go_simp
        try with_reducible rfl
      try simp only [Act.put, List.setIfInBounds_toArray, List.set_cons_zero, List.set_cons_succ]
      refine wpAnyH_take (i := 12) (v := ?_) (opAt_lst2 rfl) (by kernel_rfl) (by kernel_rfl) (by kernel_rfl) (fun _ _ _ h => h) (Or.inl ⟨by rfl, ?_⟩) (by assumption) ?_
      rotate_left
      · intro w9 hSw
        (try dsimp only at hSw)
        go_simp
        try with_reducible rfl
      try simp only [Act.put, List.setIfInBounds_toArray, List.set_cons_zero, List.set_cons_succ]
      refine wpAnyH_take (i := 13) (v := ?_) (opAt_lst2 rfl) (by kernel_rfl) (by kernel_rfl) (by kernel_rfl) (fun _ _ _ h => h) (Or.inl ⟨by rfl, ?_⟩) (by assumption) ?_
      rotate_left
      · intro w9 hSw
        (try dsimp only at hSw)
        go_simp
        try with_reducible rfl
      try simp only [Act.put, List.setIfInBounds_toArray, List.set_cons_zero, List.set_cons_succ]
      refine wpAnyH_take (i := 14) (v := ?_) (opAt_lst2 rfl) (by kernel_rfl) (by kernel_rfl) (by kernel_rfl) (fun _ _ _ h => h) (Or.inl ⟨by rfl, ?_⟩) (by assumption) ?_
      rotate_left
      · intro w9 hSw
        (try dsimp only at hSw)
        go_simp
        try with_reducible rfl
      try simp only [Act.put, List.setIfInBounds_toArray, List.set_cons_zero, List.set_cons_succ]
      refine wpAnyH_take (i := 15) (v := ?_) (opAt_lst2 rfl) (by kernel_rfl) (by kernel_rfl) (by kernel_rfl) (fun _ _ _ h => h) (Or.inl ⟨by rfl, ?_⟩) (by assumption) ?_
      rotate_left
      · intro w9 hSw
        (try dsimp only at hSw)
        go_simp
        try with_reducible rfl
      try simp only [Act.put, List.setIfInBounds_toArray, List.set_cons_zero, List.set_cons_succ]
      refine wpAnyH_take (i := 16) (v := ?_) (opAt_lst2 rfl) (by kernel_rfl) (by kernel_rfl) (by kernel_rfl) (fun _ _ _ h => h) (Or.inl ⟨by rfl, ?_⟩) (by assumption) ?_
      rotate_left
      · intro w9 hSw
        (try dsimp only at hSw)
        go_simp
        try with_reducible rfl
      try simp only [Act.put, List.setIfInBounds_toArray, List.set_cons_zero, List.set_cons_succ]
      refine wpAnyH_take (i := 17) (v := ?_) (opAt_lst2 rfl) (by kernel_rfl) (by kernel_rfl) (by kernel_rfl) (fun _ _ _ h => h) (Or.inl ⟨by rfl, ?_⟩) (by assumption) ?_
      rotate_left
      · intro w9 hSw
        (try dsimp only at hSw)
        go_simp
        try with_reducible rfl
      try simp only [Act.put, List.setIfInBounds_toArray, List.set_cons_zero, List.set_cons_succ]
      refine wpAnyH_take (i := 18) (v := ?_) (opAt_lst2 rfl) (by kernel_rfl) (by kernel_rfl) (by kernel_rfl) (fun _ _ _ h => h) (Or.inl ⟨by rfl, ?_⟩) (by assumption) ?_
      rotate_left
      · intro w9 hSw
        (try dsimp only at hSw)
        go_simp
        try with_reducible rfl
      try simp only [Act.put, List.setIfInBounds_toArray, List.set_cons_zero, List.set_cons_succ]
      refine wpAnyH_take (i := 19) (v := ?_) (opAt_lst2 rfl) (by kernel_rfl) (by kernel_rfl) (by kernel_rfl) (fun _ _ _ h => h) (Or.inl ⟨by rfl, ?_⟩) (by assumption) ?_
      rotate_left
      · intro w9 hSw
        (try dsimp only at hSw)
        go_simp
        try with_reducible rfl
      try simp only [Act.put, List.setIfInBounds_toArray, List.set_cons_zero, List.set_cons_succ]
      refine wpAnyH_take (i := 20) (v := ?_) (opAt_lst2 rfl) (by kernel_rfl) (by kernel_rfl) (by kernel_rfl) (fun _ _ _ h => h) (Or.inl ⟨by rfl, ?_⟩) (by assumption) ?_
      rotate_left
      · intro w9 hSw
        (try dsimp only at hSw)
        go_simp
        try with_reducible rfl
      try simp only [Act.put, List.setIfInBounds_toArray, List.set_cons_zero, List.set_cons_succ]
      refine wpAnyH_take (i := 21) (v := ?_) (opAt_lst2 rfl) (by kernel_rfl) (by kernel_rfl) (by kernel_rfl) (fun _ _ _ h => h) (Or.inl ⟨by rfl, ?_⟩) (by assumption) ?_
      rotate_left
      · intro w9 hSw
        (try dsimp only at hSw)
        go_simp
        try with_reducible rfl
      try simp only [Act.put, List.setIfInBounds_toArray, List.set_cons_zero, List.set_cons_succ]
      refine wpAnyH_take (i := 22) (v := ?_) (opAt_lst2 rfl) (by kernel_rfl) (by kernel_rfl) (by kernel_rfl) (fun _ _ _ h => h) (Or.inl ⟨by rfl, ?_⟩) (by assumption) ?_
      rotate_left
      · intro w9 hSw
        (try dsimp only at hSw)
        go_simp
        try with_reducible rfl
      try simp only [Act.put, List.setIfInBounds_toArray, List.set_cons_zero, List.set_cons_succ]
      refine wpAnyH_ready (rs := [23]) (by kernel_rfl) (by simp) ?_
      refine AllReadyH.cons (opAt_lst2 rfl) (fun K hK => ?_) AllReadyH.nil
      go_simp
      go_at_call 14
      refine (HC2.out (hB.out (by first | trivial | rfl)) _ k6).mono ?_
      rintro e7 w7 ⟨rfl, k7⟩
      refine hK.out _ _ (HSB.out _ k7) (fun hHeld => ?_)
      clear hK K
      try simp only [Act.put, List.setIfInBounds_toArray, List.set_cons_zero, List.set_cons_succ]
      refine wpAnyH_take (i := 24) (v := ?_) (opAt_lst2 rfl) (by kernel_rfl) (by kernel_rfl) (by kernel_rfl) (fun _ _ _ h => h) (Or.inl ⟨by rfl, ?_⟩) (by assumption) ?_
      rotate_left
      · intro w9 hSw
        (try dsimp only at hSw)
        go_simp
        try with_reducible rfl
      try simp only [Act.put, List.setIfInBounds_toArray, List.set_cons_zero, List.set_cons_succ]
      refine wpAnyH_take (i := 25) (v := ?_) (opAt_lst2 rfl) (by kernel_rfl) (by kernel_rfl) (by kernel_rfl) (fun _ _ _ h => h) (Or.inl ⟨by rfl, ?_⟩) (by assumption) ?_
      rotate_left
      · intro w9 hSw
        (try dsimp only at hSw)
        go_simp
        try with_reducible rfl
      try simp only [Act.put, List.setIfInBounds_toArray, List.set_cons_zero, List.set_cons_succ]
      refine wpAnyH_take (i := 26) (v := ?_) (opAt_lst2 rfl) (by kernel_rfl) (by kernel_rfl) (by kernel_rfl) (fun _ _ _ h => h) (Or.inl ⟨by rfl, ?_⟩) (by assumption) ?_
      rotate_left
      · intro w9 hSw
        (try dsimp only at hSw)
        go_simp
        try with_reducible rfl
      try simp only [Act.put, List.setIfInBounds_toArray, List.set_cons_zero, List.set_cons_succ]
      refine wpAnyH_ready (rs := [27]) (by kernel_rfl) (by simp) ?_
      refine AllReadyH.cons (opAt_lst2 rfl) (fun K hK => ?_) AllReadyH.nil
      go_simp
      go_at_call 16
      refine (HAL.out _ k7).mono ?_
      rintro e8 w8 ⟨rfl, k8⟩
      refine hK.out _ _ (HSB.out _ k8) (fun hHeld => ?_)
      clear hK K
      try simp only [Act.put, List.setIfInBounds_toArray, List.set_cons_zero, List.set_cons_succ]
      refine wpAnyH_take (i := 28) (v := ?_) (opAt_lst2 rfl) (by kernel_rfl) (by kernel_rfl) (by kernel_rfl) (fun _ _ _ h => h) (Or.inl ⟨by rfl, ?_⟩) (by assumption) ?_
      rotate_left
      · intro w9 hSw
        (try dsimp only at hSw)
        go_simp
        try with_reducible rfl
      try simp only [Act.put, List.setIfInBounds_toArray, List.set_cons_zero, List.set_cons_succ]
      refine wpAnyH_take (i := 29) (v := ?_) (opAt_lst2 rfl) (by kernel_rfl) (by kernel_rfl) (by kernel_rfl) (fun _ _ _ h => h) (Or.inl ⟨by rfl, ?_⟩) (by assumption) ?_
      rotate_left
      · intro w9 hSw
        (try dsimp only at hSw)
        go_simp
        try with_reducible rfl
      try simp only [Act.put, List.setIfInBounds_toArray, List.set_cons_zero, List.set_cons_succ]
      refine wpAnyH_done (by kernel_rfl) ?_ _
      go_wp2
      go_ret
      exact ⟨rfl, HK3.out.trans k8 (by simp)⟩
end Go.Proofs.Ytofgfhfdmkcmcaa
