/-
  Walks: texts drawn: spoilt ones, and those of places and deeds.
-/
import Derived.Test.YtaacehdfpoiljaaDoorD34
import Derived.Test.YtaacehdfpoiljaaDoorPV2
import Derived.Test.YtaacehdfpoiljaaDoorPD4
import Derived.Test.YtaacehdfpoiljaaDoorIQ3
namespace Go.Proofs.YtaacehdfpoiljaaDoor
open Go.RowKit

theorem opAt_ls {l : List Oper} {i : Nat} {o : Oper} (h : l[i]? = some o) : l.toArray[i]? = some o := by simpa using h
noncomputable def spoilObj : Obj := (.cells #[.string ⟨#[]⟩, .string ⟨#[48]⟩, .string ⟨#[32]⟩, .string ⟨#[10]⟩, .string ⟨#[49]⟩, .string ⟨#[98, 97, 99, 107]⟩] 9)
/-- A block of six texts of four signs at most. -/
def SixB (w : World) (g : Nat) : Prop := ∀ x : Nat, x < 6 → ∃ t : ByteArray, w.cell? ⟨g, x, none⟩ = some (.string t) ∧ t.size ≤ 4
theorem SixB.stay {w w' : World} {g R : Nat} (h : SixB w g) (hk : Kept [R] w w') (hg : g ≠ R) : SixB w' g := fun x hx => by
  obtain ⟨t, ht, h1⟩ := h x hx
  exact ⟨t, (hk.cell (World.block_lt_of_cell? w _ ht) (by simpa using hg)).trans ht, h1⟩
theorem sixB_lit (w : World) : SixB (w.alloc spoilObj) w.heap.size := fun x hx => by
  have hc := Bk.new w 9 #[.string ⟨#[]⟩, .string ⟨#[48]⟩, .string ⟨#[32]⟩, .string ⟨#[10]⟩, .string ⟨#[49]⟩, .string ⟨#[98, 97, 99, 107]⟩]
  match x, hx with
  | 0, _ => exact ⟨_, hc.cell 0 rfl, by decide⟩
  | 1, _ => exact ⟨_, hc.cell 1 rfl, by decide⟩
  | 2, _ => exact ⟨_, hc.cell 2 rfl, by decide⟩
  | 3, _ => exact ⟨_, hc.cell 3 rfl, by decide⟩
  | 4, _ => exact ⟨_, hc.cell 4 rfl, by decide⟩
  | 5, _ => exact ⟨_, hc.cell 5 rfl, by decide⟩
theorem spoil_size (z t : ByteArray) (k : Nat) (hk : k < z.size) (ht : t.size ≤ 4) : ((z.extract 0 k ++ t) ++ z.extract (k + 1) z.size).size ≤ z.size + 4 := by
  rw [ByteArray.size_append, ByteArray.size_append, ByteArray.size_extract, ByteArray.size_extract]
  omega
/-- A text is drawn, not much longer than one that was given. -/
def DrawsTx (w : World) (B R P m : Nat) (e : Ending) (w' : World) : Prop := ∃ z, e = .returned (.string z) ∧ z.size ≤ m ∧ Rd w' B R P ∧ Kept [R] w w'

set_option maxHeartbeats 4000000 in
set_option maxRecDepth 100000 in
theorem spoil_any (B R P : Nat) (hP : P ≤ 80000) (s : ByteArray) (hs : s.size ≤ 100000) (w : World) (hr : Rd w B R P) :
    Calls Tryd.prog 63 #[.pointer (some ⟨R, 0, none⟩), .string s] w (DrawsTx w B R (P + 2) (s.size + 4)) := by
  have HR := Lib.hid hr
  by_cases h0 : s.size = 0
  · have d0 : ((s.size : Int) == 0) = true := by simp [h0]
    clear h0 hr
    go_enter Tryd.func63, Tryd.ntmps63
    go_wp2
    go_ret
    exact ⟨_, rfl, (show 1 ≤ s.size + 4 by omega), HR.out.mono (by omega), Kept.refl _ _⟩
  · have d0 : ((s.size : Int) == 0) = false := beq_eq_false_iff_ne.2 (by omega)
    clear hr
    go_enter Tryd.func63, Tryd.ntmps63
    go_wp2_with fail
    refine (pick_any B R P (by omega) _ (by omega) _ HR.out).mono ?_
    rintro e w2 ⟨k, rfl, h0k, h1k, hr2, hk2⟩
    obtain ⟨k, rfl⟩ := Int.eq_ofNat_of_zero_le h0k
    have hkz : k < s.size := by omega
    have hk1 : IntKind.i64.wrap ((k : Int) + 1) = (k : Int) + 1 := IntWalk.i64_in _ (by omega)
    have HR1 : Hid (Rd w2.drew B R (P + 1)) := Lib.hid hr2
    have HK1 : Hid (Kept [R] w w2.drew) := Lib.hid hk2.drew
    clear hr2 hk2 h0k h1k HR h0 d0
    go_wp2_with fail
    refine wp_region_held_drew (S := fun _ => True) (by kernel_rfl) trivial (fun hHeld => ?_)
    generalize w2.drew = X1 at *
    clear w2
    refine wpAnyH_take (i := 0) (v := ?_) (opAt_ls rfl) (by kernel_rfl) (by kernel_rfl) (by kernel_rfl) (fun _ _ _ h => h) (Or.inl ⟨by rfl, ?_⟩) (by assumption) ?_
    rotate_left
    · intro w9 hSw
      (try dsimp only at hSw)
      go_simp
      try with_reducible rfl
    try simp only [Act.put, List.setIfInBounds_toArray, List.set_cons_zero, List.set_cons_succ]
    refine wpAnyH_take (i := 1) (v := ?_) (opAt_ls rfl) (by kernel_rfl) (by kernel_rfl) (by kernel_rfl) (fun _ _ _ h => h) (Or.inl ⟨by rfl, ?_⟩) (by assumption) ?_
    rotate_left
    · intro w9 hSw
      (try dsimp only at hSw)
      go_simp
      try with_reducible rfl
    try simp only [Act.put, List.setIfInBounds_toArray, List.set_cons_zero, List.set_cons_succ]
    refine wpAnyH_take (i := 2) (v := ?_) (opAt_ls rfl) (by kernel_rfl) (by kernel_rfl) (by kernel_rfl) (fun _ _ _ h => h) (Or.inl ⟨by rfl, ?_⟩) (by assumption) ?_
    rotate_left
    · intro w9 hSw
      (try dsimp only at hSw)
      go_simp
      rw [if_pos (by omega)]
      try with_reducible rfl
    try simp only [Act.put, List.setIfInBounds_toArray, List.set_cons_zero, List.set_cons_succ]
    refine wpAnyH_take (i := 4) (v := ?_) (opAt_ls rfl) (by kernel_rfl) (by kernel_rfl) (by kernel_rfl) (fun _ _ _ h => h) (Or.inl ⟨by rfl, ?_⟩) (by assumption) ?_
    rotate_left
    · intro w9 hSw
      (try dsimp only at hSw)
      go_simp
      try with_reducible rfl
    try simp only [Act.put, List.setIfInBounds_toArray, List.set_cons_zero, List.set_cons_succ]
    refine wpAnyH_take (i := 9) (v := ?_) (opAt_ls rfl) (by kernel_rfl) (by kernel_rfl) (by kernel_rfl) (fun _ _ _ h => h) (Or.inl ⟨by rfl, ?_⟩) (by assumption) ?_
    rotate_left
    · intro w9 hSw
      (try dsimp only at hSw)
      go_simp
      try with_reducible rfl
    try simp only [Act.put, List.setIfInBounds_toArray, List.set_cons_zero, List.set_cons_succ]
    refine wpAnyH_take (i := 10) (v := ?_) (opAt_ls rfl) (by kernel_rfl) (by kernel_rfl) (by kernel_rfl) (fun _ _ _ h => h) (Or.inl ⟨by rfl, ?_⟩) (by assumption) ?_
    rotate_left
    · intro w9 hSw
      (try dsimp only at hSw)
      go_simp
      try with_reducible rfl
    try simp only [Act.put, List.setIfInBounds_toArray, List.set_cons_zero, List.set_cons_succ]
    refine wpAnyH_take (i := 11) (v := ?_) (opAt_ls rfl) (by kernel_rfl) (by kernel_rfl) (by kernel_rfl) (fun _ _ _ h => h) (Or.inl ⟨by rfl, ?_⟩) (by assumption) ?_
    rotate_left
    · intro w9 hSw
      (try dsimp only at hSw)
      go_simp
      try with_reducible rfl
    try simp only [Act.put, List.setIfInBounds_toArray, List.set_cons_zero, List.set_cons_succ]
    refine wpAnyH_take (i := 12) (v := ?_) (opAt_ls rfl) (by kernel_rfl) (by kernel_rfl) (by kernel_rfl) (fun _ _ _ h => h) (Or.inl ⟨by rfl, ?_⟩) (by assumption) ?_
    rotate_left
    · intro w9 hSw
      (try dsimp only at hSw)
      go_simp
      rw [if_pos (by omega)]
      try with_reducible rfl
    try simp only [Act.put, List.setIfInBounds_toArray, List.set_cons_zero, List.set_cons_succ]
    refine wpAnyH_ready (rs := [3, 5]) (by kernel_rfl) (by simp) ?_
    refine (AllReadyH.cons (opAt_ls rfl) (fun K hK => ?_) (AllReadyH.cons (opAt_ls rfl) (fun K hK => ?_) AllReadyH.nil))
    · go_simp
      refine hK.out _ (X1.alloc spoilObj) trivial (fun hHeld => ?_)
      clear hK K
      try simp only [Act.put, List.setIfInBounds_toArray, List.set_cons_zero, List.set_cons_succ]
      have HRn := Lib.hid (HR1.out.kept ((Kept.refl [] X1).alloc spoilObj) (by simp))
      have HS1 := Lib.hid (sixB_lit X1)
      have hne : X1.heap.size ≠ R := Nat.ne_of_gt HR1.out.lt
      have HK1 := Lib.hid (HK1.out.alloc spoilObj)
      generalize X1.alloc spoilObj = X2 at *
      generalize X1.heap.size = gl at *
      clear HR1
      have HR1 := HRn
      clear HRn
      refine wpAnyH_ready (rs := [5]) (by kernel_rfl) (by simp) ?_
      refine (AllReadyH.cons (opAt_ls rfl) (fun K hK => ?_) AllReadyH.nil)
      go_simp
      go_at_call 62
      refine (pick_any _ _ _ (by omega) 6 (by omega) _ HR1.out).mono ?_
      rintro e X3 ⟨x, rfl, h0x, h1x, hrx, hkx⟩
      refine hK.out _ _ trivial (fun hHeld => ?_)
      clear hK K
      try simp only [Act.put, List.setIfInBounds_toArray, List.set_cons_zero, List.set_cons_succ]
      obtain ⟨x, rfl⟩ := Int.eq_ofNat_of_zero_le h0x
      have hx6 : x < 6 := by omega
      have HR1 := Lib.hid hrx
      have HK1 := Lib.hid (HK1.out.trans hkx (by simp))
      have HS1 := Lib.hid (HS1.out.stay hkx hne)
      clear hrx hkx h0x h1x
      refine wpAnyH_take (i := 6) (v := ?_) (opAt_ls rfl) (by kernel_rfl) (by kernel_rfl) (by kernel_rfl) (fun _ _ _ h => h) (Or.inl ⟨by rfl, ?_⟩) (by assumption) ?_
      rotate_left
      · intro w9 hSw
        (try dsimp only at hSw)
        go_simp
        rw [if_pos (by omega)]
        try with_reducible rfl
      try simp only [Act.put, List.setIfInBounds_toArray, List.set_cons_zero, List.set_cons_succ]
      refine wpAnyH_ready (rs := [7]) (by kernel_rfl) (by simp) ?_
      refine (AllReadyH.cons (opAt_ls rfl) (fun K hK => ?_) AllReadyH.nil)
      obtain ⟨t, ht, htz⟩ := HS1.out x hx6
      go_simp
      refine hK.out _ _ trivial (fun hHeld => ?_)
      clear hK K
      try simp only [Act.put, List.setIfInBounds_toArray, List.set_cons_zero, List.set_cons_succ]
      clear ht
      refine wpAnyH_take (i := 8) (v := ?_) (opAt_ls rfl) (by kernel_rfl) (by kernel_rfl) (by kernel_rfl) (fun _ _ _ h => h) (Or.inl ⟨by rfl, ?_⟩) (by assumption) ?_
      rotate_left
      · intro w9 hSw
        (try dsimp only at hSw)
        go_simp
        rw [if_neg (by omega)]
        try with_reducible rfl
      try simp only [Act.put, List.setIfInBounds_toArray, List.set_cons_zero, List.set_cons_succ]
      refine wpAnyH_take (i := 13) (v := ?_) (opAt_ls rfl) (by kernel_rfl) (by kernel_rfl) (by kernel_rfl) (fun _ _ _ h => h) (Or.inl ⟨by rfl, ?_⟩) (by assumption) ?_
      rotate_left
      · intro w9 hSw
        (try dsimp only at hSw)
        go_simp
        rw [if_neg (by omega)]
        try with_reducible rfl
      try simp only [Act.put, List.setIfInBounds_toArray, List.set_cons_zero, List.set_cons_succ]
      refine wpAnyH_take (i := 14) (v := ?_) (opAt_ls rfl) (by kernel_rfl) (by kernel_rfl) (by kernel_rfl) (fun _ _ _ h => h) (Or.inl ⟨by rfl, ?_⟩) (by assumption) ?_
      rotate_left
      · intro w9 hSw
        (try dsimp only at hSw)
        go_simp
        try with_reducible rfl
      try simp only [Act.put, List.setIfInBounds_toArray, List.set_cons_zero, List.set_cons_succ]
      refine wpAnyH_done (by kernel_rfl) ?_ _
      go_wp2
      go_ret
      exact ⟨_, rfl, spoil_size s t k hkz htz, HR1.out.mono (by omega), HK1.out⟩
    · go_simp
      go_at_call 62
      refine (pick_any _ _ _ (by omega) 6 (by omega) _ HR1.out).mono ?_
      rintro e X2 ⟨x, rfl, h0x, h1x, hrx, hkx⟩
      refine hK.out _ _ trivial (fun hHeld => ?_)
      clear hK K
      try simp only [Act.put, List.setIfInBounds_toArray, List.set_cons_zero, List.set_cons_succ]
      obtain ⟨x, rfl⟩ := Int.eq_ofNat_of_zero_le h0x
      have hx6 : x < 6 := by omega
      have HR1 := Lib.hid hrx
      have HK1 := Lib.hid (HK1.out.trans hkx (by simp))
      clear hrx hkx h0x h1x
      refine wpAnyH_ready (rs := [3]) (by kernel_rfl) (by simp) ?_
      refine (AllReadyH.cons (opAt_ls rfl) (fun K hK => ?_) AllReadyH.nil)
      go_simp
      refine hK.out _ (X2.alloc spoilObj) trivial (fun hHeld => ?_)
      clear hK K
      try simp only [Act.put, List.setIfInBounds_toArray, List.set_cons_zero, List.set_cons_succ]
      have HRn := Lib.hid (HR1.out.kept ((Kept.refl [] X2).alloc spoilObj) (by simp))
      have HS1 := Lib.hid (sixB_lit X2)
      have hne : X2.heap.size ≠ R := Nat.ne_of_gt HR1.out.lt
      have HK1 := Lib.hid (HK1.out.alloc spoilObj)
      generalize X2.alloc spoilObj = X3 at *
      generalize X2.heap.size = gl at *
      clear HR1
      have HR1 := HRn
      clear HRn
      refine wpAnyH_take (i := 6) (v := ?_) (opAt_ls rfl) (by kernel_rfl) (by kernel_rfl) (by kernel_rfl) (fun _ _ _ h => h) (Or.inl ⟨by rfl, ?_⟩) (by assumption) ?_
      rotate_left
      · intro w9 hSw
        (try dsimp only at hSw)
        go_simp
        rw [if_pos (by omega)]
        try with_reducible rfl
      try simp only [Act.put, List.setIfInBounds_toArray, List.set_cons_zero, List.set_cons_succ]
      refine wpAnyH_ready (rs := [7]) (by kernel_rfl) (by simp) ?_
      refine (AllReadyH.cons (opAt_ls rfl) (fun K hK => ?_) AllReadyH.nil)
      obtain ⟨t, ht, htz⟩ := HS1.out x hx6
      go_simp
      refine hK.out _ _ trivial (fun hHeld => ?_)
      clear hK K
      try simp only [Act.put, List.setIfInBounds_toArray, List.set_cons_zero, List.set_cons_succ]
      clear ht
      refine wpAnyH_take (i := 8) (v := ?_) (opAt_ls rfl) (by kernel_rfl) (by kernel_rfl) (by kernel_rfl) (fun _ _ _ h => h) (Or.inl ⟨by rfl, ?_⟩) (by assumption) ?_
      rotate_left
      · intro w9 hSw
        (try dsimp only at hSw)
        go_simp
        rw [if_neg (by omega)]
        try with_reducible rfl
      try simp only [Act.put, List.setIfInBounds_toArray, List.set_cons_zero, List.set_cons_succ]
      refine wpAnyH_take (i := 13) (v := ?_) (opAt_ls rfl) (by kernel_rfl) (by kernel_rfl) (by kernel_rfl) (fun _ _ _ h => h) (Or.inl ⟨by rfl, ?_⟩) (by assumption) ?_
      rotate_left
      · intro w9 hSw
        (try dsimp only at hSw)
        go_simp
        rw [if_neg (by omega)]
        try with_reducible rfl
      try simp only [Act.put, List.setIfInBounds_toArray, List.set_cons_zero, List.set_cons_succ]
      refine wpAnyH_take (i := 14) (v := ?_) (opAt_ls rfl) (by kernel_rfl) (by kernel_rfl) (by kernel_rfl) (fun _ _ _ h => h) (Or.inl ⟨by rfl, ?_⟩) (by assumption) ?_
      rotate_left
      · intro w9 hSw
        (try dsimp only at hSw)
        go_simp
        try with_reducible rfl
      try simp only [Act.put, List.setIfInBounds_toArray, List.set_cons_zero, List.set_cons_succ]
      refine wpAnyH_done (by kernel_rfl) ?_ _
      go_wp2
      go_ret
      exact ⟨_, rfl, spoil_size s t k hkz htz, HR1.out.mono (by omega), HK1.out⟩

set_option maxHeartbeats 2000000 in
set_option maxRecDepth 100000 in
theorem drawReadPlace_any (w : World) (v : Value) (ha : ArgB w v) : Calls Tryd.prog 21 #[v] w fun e w' => ∃ z, e = .returned (.string z) ∧ z.size ≤ 1000 ∧ Kept [] w w' := by
  have HA := Lib.hid ha
  obtain ⟨a, n, cap, rfl, _, _, _⟩ := ha
  go_enter Tryd.func21, Tryd.ntmps21
  go_wp2_with fail
  refine (open_any _ _ HA.out).mono ?_
  rintro e w1 ⟨rfl, hr, hk⟩
  have HR := Lib.hid hr
  have HK := Lib.hid hk
  clear hr hk
  go_wp2_with fail
  refine (place_any _ _ 0 (by omega) 0 (by omega) (by omega) _ HR.out).mono ?_
  rintro e w2 ⟨y, p, rfl, hs, _, hr2, hk2⟩
  have HS := Lib.hid hs
  have HR2 := Lib.hid hr2
  have HK2 := Lib.hid (HK.out.trans hk2 (fun x hx => by right; simp at hx; omega))
  obtain ⟨b1, n1, q1, b2, n2, q2, rfl⟩ := hs.form
  clear hs hr2 hk2 HR HK
  go_wp2_with fail
  refine (sPlaceText_any p _ _ _ HS.out).mono ?_
  rintro e w3 ⟨z, rfl, hz, hk3⟩
  have hz5 : z.size ≤ 500 := by rw [← tx_length, hz]; exact ptxt_small p
  have HR3 := Lib.hid (HR2.out.kept hk3 (by simp))
  have HK3 := Lib.hid (HK2.out.trans hk3 (by simp))
  clear hz hk3 HR2 HK2 HS
  go_wp2_with fail
  refine (pick_any _ _ _ (by omega) 3 (by omega) _ HR3.out).mono ?_
  rintro e w4 ⟨x, rfl, h0x, h1x, hr4, hk4⟩
  have HR4 := Lib.hid hr4
  have HK4 := Lib.hid (HK3.out.trans hk4 (fun x hx => by right; simp at hx; omega))
  clear hr4 hk4 HR3 HK3
  by_cases hx : x = 0
  · subst hx
    clear h0x h1x
    go_wp2_with fail
    refine (spoil_any _ _ _ (by omega) z (by omega) _ HR4.out).mono ?_
    rintro e w5 ⟨z2, rfl, hz2, _, hk5⟩
    have HK5 := Lib.hid (HK4.out.trans hk5 (fun x hx => by right; simp at hx; omega))
    have HZ2 : Hid (z2.size ≤ 1000) := Lib.hid (by omega)
    clear hk5 hz2
    go_wp2
    go_ret
    exact ⟨_, rfl, HZ2.out, HK5.out⟩
  · have hx' : (x == 0) = false := by simpa using hx
    clear hx
    go_wp2
    go_ret
    exact ⟨_, rfl, by omega, HK4.out⟩

/-- A deed is drawn, and nothing else has turned. -/
def DrawnDe (w : World) (e : Ending) (w' : World) : Prop := ∃ k a b : Int, e = .returned (.agg #[.int .i64 k, .int .i64 a, .int .i64 b]) ∧ Kept [] w w'
theorem place_short {p : Nt.Pi} {w : World} {base n cap m q : Nat} {b c : Option Addr} {x : Value} (h : Pv w base (.agg #[.slice b n cap, x, .slice c m q]) p) (h6 : p.ns.length ≤ 6) : n ≤ 100 := by
  obtain ⟨v, u, e, h1, _⟩ := h
  simp only [Value.agg.injEq, Array.mk.injEq, List.cons.injEq, and_true] at e
  obtain ⟨e1, _, _⟩ := e
  rw [← e1] at h1
  have := h1.same_len
  omega

set_option maxHeartbeats 2000000 in
set_option maxRecDepth 100000 in
theorem drawDeedText_any (w : World) (v : Value) (ha : ArgB w v) : Calls Tryd.prog 23 #[v] w fun e w' => ∃ k a b : Int, e = .returned (.agg #[.int .i64 k, .int .i64 a, .int .i64 b]) ∧ Kept [] w w' := by
  have HB0 := Lib.hid (Bk.new w 36 #[.int .i64 0, .int .i64 0, .int .i64 0])
  have HK0 : Hid (Kept [] w (w.alloc (.cells #[.int .i64 0, .int .i64 0, .int .i64 0] 36))) := Lib.hid ((Kept.refl [] w).alloc _)
  have HA := Lib.hid (ha.stay HK0.out)
  obtain ⟨a, n, cap, rfl, _, _, _⟩ := ha
  go_enter Tryd.func23, Tryd.ntmps23
  go_wp2_with fail
  generalize w.alloc (.cells #[.int .i64 0, .int .i64 0, .int .i64 0] 36) = W0 at *
  refine (open_any _ _ HA.out).mono ?_
  rintro e w1 ⟨rfl, hr, hk⟩
  have HR := Lib.hid hr
  have HK := Lib.hid (HK0.out.trans hk (by simp))
  have HB1 := Lib.hid (HB0.out.stay hk)
  have HZ : Hid (w.heap.size < W0.heap.size) := Lib.hid HB0.out.lt
  clear hr hk HB0
  go_wp2_with fail
  refine (place_any _ _ 0 (by omega) 0 (by omega) (by omega) _ HR.out).mono ?_
  rintro e w2 ⟨y, p, rfl, hs, hl6, hr2, hk2⟩
  have HS := Lib.hid hs
  have HR2 := Lib.hid hr2
  have HK2 := Lib.hid (HK.out.trans hk2 (fun x hx => by right; have := HZ.out; simp at hx; omega))
  have HB2 := Lib.hid (HB1.out.kept hk2 (by have := HZ.out; simp; omega))
  obtain ⟨b1, n1, q1, b2, n2, q2, rfl⟩ := hs.form
  have hn := place_short HS.out hl6
  clear hs hr2 hk2 HR HK HB1 hl6
  go_wp2_with fail
  refine (deed_any _ _ _ (by omega) _ HR2.out b1 b2 n1 q1 n2 q2 p.c hn).mono ?_
  rintro e w3 ⟨k, a, b, rfl, _, hk3⟩
  have HK3 := Lib.hid (HK2.out.trans hk3 (fun x hx => by right; have := HZ.out; simp at hx; omega))
  have HB3 := Lib.hid (HB2.out.kept hk3 (by have := HZ.out; simp; omega))
  obtain ⟨r0, r1, r2⟩ := HB3.out.three
  have f0 := HB3.out.frozen 0
  have f1 := HB3.out.frozen 1
  have f2 := HB3.out.frozen 2
  have hzr := HB3.out.lt
  clear hk3 HR2 HK2 HB2 HS
  go_wp2
  (try simp only [Exit.inBlock, Exit.then])
  refine bodyPost_ret (results_cell_row rfl _ _ w.heap.size 36 #[.int .i64 k, .int .i64 a, .int .i64 b] (0, 0) _ rfl (HB3.out.set3 _ _ _) Tryd.underlying36 rfl (by kernel_rfl)) rfl ?_
  exact ⟨k, a, b, rfl, HK3.out.set3 (Nat.le_refl _) _ _ _⟩

set_option maxHeartbeats 2000000 in
set_option maxRecDepth 100000 in
theorem drawReadDeed_any (w : World) (v : Value) (ha : ArgB w v) : Calls Tryd.prog 27 #[v] w fun e w' => ∃ z, e = .returned (.string z) ∧ z.size ≤ 1000 ∧ Kept [] w w' := by
  have HA := Lib.hid ha
  obtain ⟨a, n, cap, rfl, _, _, _⟩ := ha
  go_enter Tryd.func27, Tryd.ntmps27
  go_wp2_with fail
  refine (open_any _ _ HA.out).mono ?_
  rintro e w1 ⟨rfl, hr, hk⟩
  have HR := Lib.hid hr
  have HK := Lib.hid hk
  clear hr hk
  go_wp2_with fail
  refine (place_any _ _ 0 (by omega) 0 (by omega) (by omega) _ HR.out).mono ?_
  rintro e w2 ⟨y, p, rfl, hs, hl6, hr2, hk2⟩
  have HS := Lib.hid hs
  have HR2 := Lib.hid hr2
  have HK2 := Lib.hid (HK.out.trans hk2 (fun x hx => by right; simp at hx; omega))
  obtain ⟨b1, n1, q1, b2, n2, q2, rfl⟩ := hs.form
  have hn := place_short HS.out hl6
  clear hs hr2 hk2 HR HK hl6
  go_wp2_with fail
  refine (deed_any _ _ _ (by omega) _ HR2.out b1 b2 n1 q1 n2 q2 p.c hn).mono ?_
  rintro e w3 ⟨k, a, b, rfl, hr3, hk3⟩
  have HR3 := Lib.hid hr3
  have HK3 := Lib.hid (HK2.out.trans hk3 (fun x hx => by right; simp at hx; omega))
  clear hr3 hk3 HR2 HK2 HS
  go_wp2_with fail
  refine (sDeedText_any k a b _).mono ?_
  rintro e w4 ⟨z, rfl, hz, hk4⟩
  have hz5 : z.size ≤ 500 := by rw [← tx_length, hz]; exact Nat.le_trans (deedT_small _) (by omega)
  have HR4 := Lib.hid (HR3.out.kept hk4 (by simp))
  have HK4 := Lib.hid (HK3.out.trans hk4 (by simp))
  clear hz hk4 HR3 HK3
  go_wp2_with fail
  refine (pick_any _ _ _ (by omega) 3 (by omega) _ HR4.out).mono ?_
  rintro e w5 ⟨x, rfl, h0x, h1x, hr5, hk5⟩
  have HR5 := Lib.hid hr5
  have HK5 := Lib.hid (HK4.out.trans hk5 (fun x hx => by right; simp at hx; omega))
  clear hr5 hk5 HR4 HK4
  by_cases hx : x = 0
  · subst hx
    clear h0x h1x
    go_wp2_with fail
    refine (spoil_any _ _ _ (by omega) z (by omega) _ HR5.out).mono ?_
    rintro e w6 ⟨z2, rfl, hz2, _, hk6⟩
    have HK6 := Lib.hid (HK5.out.trans hk6 (fun x hx => by right; simp at hx; omega))
    have HZ2 : Hid (z2.size ≤ 1000) := Lib.hid (by omega)
    clear hk6 hz2
    go_wp2
    go_ret
    exact ⟨_, rfl, HZ2.out, HK6.out⟩
  · have hx' : (x == 0) = false := by simpa using hx
    clear hx
    go_wp2
    go_ret
    exact ⟨_, rfl, by omega, HK5.out⟩
end Go.Proofs.YtaacehdfpoiljaaDoor
