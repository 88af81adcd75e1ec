/-
  Walks: the text that is drawn for what reads scripts.
-/
import Derived.Test.YtilbdpcijdcffaaDoorDS
import Derived.Test.YtilbdpcijdcffaaDoorD28
import Derived.Test.YtilbdpcijdcffaaDoorSP2
namespace Go.Proofs.YtilbdpcijdcffaaDoor
open Go.RowKit

/-- A number and a short text are drawn. -/
def DrawnTx (w : World) (e : Ending) (w' : World) : Prop := ∃ (n : Int) (z : ByteArray), e = .returned (.tuple #[.int .i64 n, .string z]) ∧ z.size ≤ 200 ∧ Kept [] w w'
/-- A block of six texts of one sign at most. -/
def Six (w : World) (g : Nat) : Prop := ∀ x : Nat, x < 6 → ∃ t : ByteArray, w.cell? ⟨g, x, none⟩ = some (.string t) ∧ t.size ≤ 1
theorem Six.lt {w : World} {g : Nat} (h : Six w g) : g < w.heap.size := by
  obtain ⟨t, ht, _⟩ := h 0 (by omega)
  exact World.block_lt_of_cell? w _ ht
theorem Six.stay {w w' : World} {g R : Nat} (h : Six w g) (hk : Kept [R] w w') (hg : g ≠ R) : Six w' g := fun x hx => by
  obtain ⟨t, ht, h1⟩ := h x hx
  exact ⟨t, (hk.cell (World.block_lt_of_cell? w _ ht) (by simpa using hg)).trans ht, h1⟩
noncomputable def sixObj : Obj := .cells #[.string ⟨#[]⟩, .string ⟨#[58]⟩, .string ⟨#[44]⟩, .string ⟨#[48]⟩, .string ⟨#[57]⟩, .string ⟨#[46]⟩] 9
theorem six_lit (w : World) : Six (w.alloc sixObj) w.heap.size := fun x hx => by
  have hc : (w.alloc sixObj).cell? ⟨w.heap.size, x, none⟩ = (#[.string ⟨#[]⟩, .string ⟨#[58]⟩, .string ⟨#[44]⟩, .string ⟨#[48]⟩, .string ⟨#[57]⟩, .string ⟨#[46]⟩] : Array Value)[x]? := by
    show (match (w.heap.push sixObj)[w.heap.size]? with | some (.cells c _ _) => c[x]? | _ => none) = _
    rw [Array.getElem?_push_size]
    rfl
  rw [hc]
  match x, hx with
  | 0, _ => exact ⟨_, rfl, by decide⟩
  | 1, _ => exact ⟨_, rfl, by decide⟩
  | 2, _ => exact ⟨_, rfl, by decide⟩
  | 3, _ => exact ⟨_, rfl, by decide⟩
  | 4, _ => exact ⟨_, rfl, by decide⟩
  | 5, _ => exact ⟨_, rfl, by decide⟩
theorem Kept.todrew {rows : List Nat} {w w' : World} (h : Kept rows w w') : Kept rows w w'.drew := ⟨h.os, h.tape, h.output, h.size, h.block⟩
theorem cut_size (z : ByteArray) (t : ByteArray) (k l : Nat) (h : z.size ≤ 60) (ht : t.size ≤ 1) : ((z.extract 0 k ++ t) ++ z.extract l z.size).size ≤ 200 := by
  rw [ByteArray.size_append, ByteArray.size_append, ByteArray.size_extract, ByteArray.size_extract]
  omega

set_option maxHeartbeats 4000000 in
set_option maxRecDepth 100000 in
theorem drawReadScript_any (w : World) (v : Value) (ha : ArgB w v) : Calls Tryd.prog 12 #[v] w (DrawnTx w) := by
  have HA := Lib.hid ha
  obtain ⟨a, n, cap, rfl, _, _, _⟩ := ha
  go_enter Tryd.func12, Tryd.ntmps12
  go_wp2_with fail
  refine (open_any _ _ HA.out).mono ?_
  rintro e w1 ⟨rfl, hr, hk⟩
  have HR := Lib.hid hr
  have HK := Lib.hid hk
  have hRlt := hr.lt
  have hsw : w.heap.size ≤ w1.heap.size := hk.size
  have hBR : w.heap.size ≤ w.heap.size := Nat.le_refl _
  clear hr hk
  go_wp2_with fail
  refine (pick_any _ _ _ (by omega) 6 (by omega) _ HR.out).mono ?_
  rintro e w2 ⟨x, rfl, h0x, h1x, hrx, hkx⟩
  have hbx : x ≤ 5 := by omega
  have HR2 := Lib.hid hrx
  have HK2 := Lib.hid (HK.out.trans hkx (fun x hx => by right; simp at hx; omega))
  have hR2 := hrx.lt
  clear hrx hkx h1x HR HK HA
  go_wp2_with fail
  refine (script0_any _ _ _ (by omega) (1 + x) (by omega) (by omega) _ HR2.out).mono ?_
  rintro e w3 ⟨u, ls, rfl, hg, hb, hr3, hk3⟩
  have HG := Lib.hid hg
  have HB := Lib.hid hb
  have HR3 := Lib.hid hr3
  have HK3 := Lib.hid (HK2.out.trans hk3 (fun x hx => by right; simp at hx; omega))
  clear hg hb hr3 hk3 HR2 HK2
  go_wp2_with fail
  refine (sScriptText_any (1 + x) ls _ _ _ HG.out).mono ?_
  rintro e w4 ⟨z, rfl, hz, hk4⟩
  have hz60 : z.size ≤ 60 := by rw [← tx_length, hz]; exact Nt.textOf_length _ _
  have hz0 : 0 < z.size := by
    rw [← tx_length, hz]
    exact List.length_pos_iff.2 (Nt.textOf_ne HB.out)
  have HR4 := Lib.hid (HR3.out.kept hk4 (by simp))
  have HK4 := Lib.hid (HK3.out.trans hk4 (by simp))
  clear hz hk4 HR3 HK3 HG HB
  go_wp2_with fail
  refine (pick_any _ _ _ (by omega) 3 (by omega) _ HR4.out).mono ?_
  rintro e w5 ⟨y, rfl, h0y, h1y, hr5, hk5⟩
  have HR5 := Lib.hid hr5
  have HK5 := Lib.hid (HK4.out.trans hk5 (fun x hx => by right; simp at hx; omega))
  clear hr5 hk5 HR4 HK4
  by_cases hy : y = 0
  · subst hy
    clear h0y h1y
    go_wp2_with fail
    refine (pick_any _ _ _ (by omega) _ (by omega) _ HR5.out).mono ?_
    rintro e w6 ⟨k, rfl, h0k, h1k, hr6, hk6⟩
    obtain ⟨k, rfl⟩ := Int.eq_ofNat_of_zero_le h0k
    have hkz : k < z.size := by omega
    have HR6 := Lib.hid hr6
    have HK6 := Lib.hid (HK5.out.trans hk6 (fun x hx => by right; simp at hx; omega))
    have hs6 := HK6.out.size
    have hR6 := hr6.lt
    have hRd : w.heap.size < w6.drew.heap.size := hr6.lt
    have HRd : Hid (Rd w6.drew w.heap.size w.heap.size 60) := Lib.hid (Rd.mono (w := w6.drew) hr6 (by omega))
    have HKd : Hid (Kept [] w w6.drew) := Lib.hid (Kept.todrew HK6.out)
    clear hr6 hk6 HR5 HK5 h0k h1k HR6 HK6 hs6 hR6
    clear w1 w2 w3 w4 w5 hRlt hR2 hsw
    go_wp2_with fail
    refine wp_region_held_drew (S := fun _ => True) (by kernel_rfl) trivial (fun hHeld => ?_)
    generalize w6.drew = wd at *
    clear w6
    refine wpAnyH_take (i := 0) (v := ?_) (opAt_list rfl) (by kernel_rfl) (by kernel_rfl) (by kernel_rfl) (fun _ _ _ h => h) (Or.inl ⟨by rfl, ?_⟩) (by assumption) ?_
    rotate_left
    · intro w9 hSw
      (try dsimp only at hSw)
      go_simp
      try with_reducible rfl
    try simp only [Act.put, List.setIfInBounds_toArray, List.set_cons_zero, List.set_cons_succ]
    refine wpAnyH_take (i := 1) (v := ?_) (opAt_list rfl) (by kernel_rfl) (by kernel_rfl) (by kernel_rfl) (fun _ _ _ h => h) (Or.inl ⟨by rfl, ?_⟩) (by assumption) ?_
    rotate_left
    · intro w9 hSw
      (try dsimp only at hSw)
      go_simp
      try with_reducible rfl
    try simp only [Act.put, List.setIfInBounds_toArray, List.set_cons_zero, List.set_cons_succ]
    refine wpAnyH_take (i := 2) (v := ?_) (opAt_list rfl) (by kernel_rfl) (by kernel_rfl) (by kernel_rfl) (fun _ _ _ h => h) (Or.inl ⟨by rfl, ?_⟩) (by assumption) ?_
    rotate_left
    · intro w9 hSw
      (try dsimp only at hSw)
      go_simp
      try with_reducible rfl
    try simp only [Act.put, List.setIfInBounds_toArray, List.set_cons_zero, List.set_cons_succ]
    refine wpAnyH_take (i := 3) (v := ?_) (opAt_list rfl) (by kernel_rfl) (by kernel_rfl) (by kernel_rfl) (fun _ _ _ h => h) (Or.inl ⟨by rfl, ?_⟩) (by assumption) ?_
    rotate_left
    · intro w9 hSw
      (try dsimp only at hSw)
      go_simp
      rw [if_pos (by omega)]
      try with_reducible rfl
    try simp only [Act.put, List.setIfInBounds_toArray, List.set_cons_zero, List.set_cons_succ]
    refine wpAnyH_take (i := 5) (v := ?_) (opAt_list rfl) (by kernel_rfl) (by kernel_rfl) (by kernel_rfl) (fun _ _ _ h => h) (Or.inl ⟨by rfl, ?_⟩) (by assumption) ?_
    rotate_left
    · intro w9 hSw
      (try dsimp only at hSw)
      go_simp
      try with_reducible rfl
    try simp only [Act.put, List.setIfInBounds_toArray, List.set_cons_zero, List.set_cons_succ]
    refine wpAnyH_take (i := 10) (v := ?_) (opAt_list rfl) (by kernel_rfl) (by kernel_rfl) (by kernel_rfl) (fun _ _ _ h => h) (Or.inl ⟨by rfl, ?_⟩) (by assumption) ?_
    rotate_left
    · intro w9 hSw
      (try dsimp only at hSw)
      go_simp
      try with_reducible rfl
    try simp only [Act.put, List.setIfInBounds_toArray, List.set_cons_zero, List.set_cons_succ]
    refine wpAnyH_take (i := 11) (v := ?_) (opAt_list rfl) (by kernel_rfl) (by kernel_rfl) (by kernel_rfl) (fun _ _ _ h => h) (Or.inl ⟨by rfl, ?_⟩) (by assumption) ?_
    rotate_left
    · intro w9 hSw
      (try dsimp only at hSw)
      go_simp
      try with_reducible rfl
    try simp only [Act.put, List.setIfInBounds_toArray, List.set_cons_zero, List.set_cons_succ]
    refine wpAnyH_take (i := 12) (v := ?_) (opAt_list rfl) (by kernel_rfl) (by kernel_rfl) (by kernel_rfl) (fun _ _ _ h => h) (Or.inl ⟨by rfl, ?_⟩) (by assumption) ?_
    rotate_left
    · intro w9 hSw
      (try dsimp only at hSw)
      go_simp
      try with_reducible rfl
    try simp only [Act.put, List.setIfInBounds_toArray, List.set_cons_zero, List.set_cons_succ]
    refine wpAnyH_ready (rs := [4, 6]) (by kernel_rfl) (by simp) ?_
    refine AllReadyH.cons (opAt_list rfl) (fun K hK => ?_) (AllReadyH.cons (opAt_list rfl) (fun K hK => ?_) AllReadyH.nil)
    · go_simp
      refine hK.out _ (wd.alloc sixObj) trivial (fun hHeld => ?_)
      clear hK K
      try simp only [Act.put, List.setIfInBounds_toArray, List.set_cons_zero, List.set_cons_succ]
      have HR11 := Lib.hid (HRd.out.kept ((Kept.refl [] wd).alloc sixObj) (by simp))
      have HK11 := Lib.hid (HKd.out.alloc sixObj)
      have HS11 := Lib.hid (six_lit wd)
      have hne11 : wd.heap.size ≠ w.heap.size := by omega
      generalize wd.alloc sixObj = w11 at *
      clear hRd
      generalize wd.heap.size = g11 at *
      clear HRd HKd wd
      refine wpAnyH_ready (rs := [6]) (by kernel_rfl) (by simp) ?_
      refine AllReadyH.cons (opAt_list rfl) (fun K hK => ?_) AllReadyH.nil
      · go_simp
        go_at_call 15
        refine (pick_any _ _ _ (by omega) 6 (by omega) _ HR11.out).mono ?_
        rintro e w22 ⟨i, rfl, h0i, h1i, hrx, hkx⟩
        refine hK.out _ _ trivial (fun hHeld => ?_)
        clear hK K
        try simp only [Act.put, List.setIfInBounds_toArray, List.set_cons_zero, List.set_cons_succ]
        obtain ⟨i, rfl⟩ := Int.eq_ofNat_of_zero_le h0i
        have him : i < 6 := by omega
        have HR22 := Lib.hid hrx
        have HK22 := Lib.hid (HK11.out.trans hkx (fun x hx => by right; simp at hx; omega))
        have HS22 := Lib.hid (HS11.out.stay hkx hne11)
        clear hrx hkx h0i h1i HR11 HK11 HS11
        refine wpAnyH_take (i := 7) (v := ?_) (opAt_list rfl) (by kernel_rfl) (by kernel_rfl) (by kernel_rfl) (fun _ _ _ h => h) (Or.inl ⟨by rfl, ?_⟩) (by assumption) ?_
        rotate_left
        · intro w9 hSw
          (try dsimp only at hSw)
          go_simp
          rw [if_pos (by omega)]
          try with_reducible rfl
        try simp only [Act.put, List.setIfInBounds_toArray, List.set_cons_zero, List.set_cons_succ]
        refine wpAnyH_ready (rs := [8, 13]) (by kernel_rfl) (by simp) ?_
        refine AllReadyH.cons (opAt_list rfl) (fun K hK => ?_) (AllReadyH.cons (opAt_list rfl) (fun K hK => ?_) AllReadyH.nil)
        · obtain ⟨t, ht, htz⟩ := HS22.out i him
          go_simp
          refine hK.out _ _ trivial (fun hHeld => ?_)
          clear hK K
          try simp only [Act.put, List.setIfInBounds_toArray, List.set_cons_zero, List.set_cons_succ]
          clear ht
          refine wpAnyH_take (i := 9) (v := ?_) (opAt_list rfl) (by kernel_rfl) (by kernel_rfl) (by kernel_rfl) (fun _ _ _ h => h) (Or.inl ⟨by rfl, ?_⟩) (by assumption) ?_
          rotate_left
          · intro w9 hSw
            (try dsimp only at hSw)
            go_simp
            rw [if_neg (by omega)]
            try with_reducible rfl
          try simp only [Act.put, List.setIfInBounds_toArray, List.set_cons_zero, List.set_cons_succ]
          refine wpAnyH_ready (rs := [13]) (by kernel_rfl) (by simp) ?_
          refine AllReadyH.cons (opAt_list rfl) (fun K hK => ?_) AllReadyH.nil
          · go_simp
            go_at_call 15
            refine (pick_any _ _ _ (by omega) 2 (by omega) _ HR22.out).mono ?_
            rintro e w44 ⟨j, rfl, h0j, h1j, hrx, hkx⟩
            refine hK.out _ _ trivial (fun hHeld => ?_)
            clear hK K
            try simp only [Act.put, List.setIfInBounds_toArray, List.set_cons_zero, List.set_cons_succ]
            obtain ⟨j, rfl⟩ := Int.eq_ofNat_of_zero_le h0j
            have hjm : j < 2 := by omega
            have HR44 := Lib.hid hrx
            have HK44 := Lib.hid (HK22.out.trans hkx (fun x hx => by right; simp at hx; omega))
            have HS44 := Lib.hid (HS22.out.stay hkx hne11)
            clear hrx hkx h0j h1j HR22 HK22 HS22
            have hkj : IntKind.i64.wrap ((k : Int) + (j : Int)) = (k : Int) + (j : Int) := by rw [IntKind.wrap_i64]; omega
            refine wpAnyH_take (i := 14) (v := ?_) (opAt_list rfl) (by kernel_rfl) (by kernel_rfl) (by kernel_rfl) (fun _ _ _ h => h) (Or.inl ⟨by rfl, ?_⟩) (by assumption) ?_
            rotate_left
            · intro w9 hSw
              (try dsimp only at hSw)
              go_simp
              try with_reducible rfl
            try simp only [Act.put, List.setIfInBounds_toArray, List.set_cons_zero, List.set_cons_succ]
            refine wpAnyH_take (i := 15) (v := ?_) (opAt_list rfl) (by kernel_rfl) (by kernel_rfl) (by kernel_rfl) (fun _ _ _ h => h) (Or.inl ⟨by rfl, ?_⟩) (by assumption) ?_
            rotate_left
            · intro w9 hSw
              (try dsimp only at hSw)
              go_simp
              rw [if_pos (by omega)]
              try with_reducible rfl
            try simp only [Act.put, List.setIfInBounds_toArray, List.set_cons_zero, List.set_cons_succ]
            refine wpAnyH_take (i := 17) (v := ?_) (opAt_list rfl) (by kernel_rfl) (by kernel_rfl) (by kernel_rfl) (fun _ _ _ h => h) (Or.inl ⟨by rfl, ?_⟩) (by assumption) ?_
            rotate_left
            · intro w9 hSw
              (try dsimp only at hSw)
              go_simp
              try with_reducible rfl
            try simp only [Act.put, List.setIfInBounds_toArray, List.set_cons_zero, List.set_cons_succ]
            refine wpAnyH_take (i := 16) (v := ?_) (opAt_list rfl) (by kernel_rfl) (by kernel_rfl) (by kernel_rfl) (fun _ _ _ h => h) (Or.inl ⟨by rfl, ?_⟩) (by assumption) ?_
            rotate_left
            · intro w9 hSw
              (try dsimp only at hSw)
              go_simp
              rw [if_neg (by omega)]
              try with_reducible rfl
            try simp only [Act.put, List.setIfInBounds_toArray, List.set_cons_zero, List.set_cons_succ]
            refine wpAnyH_take (i := 18) (v := ?_) (opAt_list rfl) (by kernel_rfl) (by kernel_rfl) (by kernel_rfl) (fun _ _ _ h => h) (Or.inl ⟨by rfl, ?_⟩) (by assumption) ?_
            rotate_left
            · intro w9 hSw
              (try dsimp only at hSw)
              go_simp
              try with_reducible rfl
            try simp only [Act.put, List.setIfInBounds_toArray, List.set_cons_zero, List.set_cons_succ]
            refine wpAnyH_done (by kernel_rfl) ?_ _
            go_wp2
            go_ret2
            exact ⟨_, _, rfl, cut_size z _ k _ hz60 (by assumption), HK44.out⟩
        · go_simp
          go_at_call 15
          refine (pick_any _ _ _ (by omega) 2 (by omega) _ HR22.out).mono ?_
          rintro e w33 ⟨j, rfl, h0j, h1j, hrx, hkx⟩
          refine hK.out _ _ trivial (fun hHeld => ?_)
          clear hK K
          try simp only [Act.put, List.setIfInBounds_toArray, List.set_cons_zero, List.set_cons_succ]
          obtain ⟨j, rfl⟩ := Int.eq_ofNat_of_zero_le h0j
          have hjm : j < 2 := by omega
          have HR33 := Lib.hid hrx
          have HK33 := Lib.hid (HK22.out.trans hkx (fun x hx => by right; simp at hx; omega))
          have HS33 := Lib.hid (HS22.out.stay hkx hne11)
          clear hrx hkx h0j h1j HR22 HK22 HS22
          have hkj : IntKind.i64.wrap ((k : Int) + (j : Int)) = (k : Int) + (j : Int) := by rw [IntKind.wrap_i64]; omega
          refine wpAnyH_take (i := 14) (v := ?_) (opAt_list rfl) (by kernel_rfl) (by kernel_rfl) (by kernel_rfl) (fun _ _ _ h => h) (Or.inl ⟨by rfl, ?_⟩) (by assumption) ?_
          rotate_left
          · intro w9 hSw
            (try dsimp only at hSw)
            go_simp
            try with_reducible rfl
          try simp only [Act.put, List.setIfInBounds_toArray, List.set_cons_zero, List.set_cons_succ]
          refine wpAnyH_take (i := 15) (v := ?_) (opAt_list rfl) (by kernel_rfl) (by kernel_rfl) (by kernel_rfl) (fun _ _ _ h => h) (Or.inl ⟨by rfl, ?_⟩) (by assumption) ?_
          rotate_left
          · intro w9 hSw
            (try dsimp only at hSw)
            go_simp
            rw [if_pos (by omega)]
            try with_reducible rfl
          try simp only [Act.put, List.setIfInBounds_toArray, List.set_cons_zero, List.set_cons_succ]
          refine wpAnyH_take (i := 17) (v := ?_) (opAt_list rfl) (by kernel_rfl) (by kernel_rfl) (by kernel_rfl) (fun _ _ _ h => h) (Or.inl ⟨by rfl, ?_⟩) (by assumption) ?_
          rotate_left
          · intro w9 hSw
            (try dsimp only at hSw)
            go_simp
            try with_reducible rfl
          try simp only [Act.put, List.setIfInBounds_toArray, List.set_cons_zero, List.set_cons_succ]
          refine wpAnyH_ready (rs := [8]) (by kernel_rfl) (by simp) ?_
          refine AllReadyH.cons (opAt_list rfl) (fun K hK => ?_) AllReadyH.nil
          · obtain ⟨t, ht, htz⟩ := HS33.out i him
            go_simp
            refine hK.out _ _ trivial (fun hHeld => ?_)
            clear hK K
            try simp only [Act.put, List.setIfInBounds_toArray, List.set_cons_zero, List.set_cons_succ]
            clear ht
            refine wpAnyH_take (i := 9) (v := ?_) (opAt_list rfl) (by kernel_rfl) (by kernel_rfl) (by kernel_rfl) (fun _ _ _ h => h) (Or.inl ⟨by rfl, ?_⟩) (by assumption) ?_
            rotate_left
            · intro w9 hSw
              (try dsimp only at hSw)
              go_simp
              rw [if_neg (by omega)]
              try with_reducible rfl
            try simp only [Act.put, List.setIfInBounds_toArray, List.set_cons_zero, List.set_cons_succ]
            refine wpAnyH_take (i := 16) (v := ?_) (opAt_list rfl) (by kernel_rfl) (by kernel_rfl) (by kernel_rfl) (fun _ _ _ h => h) (Or.inl ⟨by rfl, ?_⟩) (by assumption) ?_
            rotate_left
            · intro w9 hSw
              (try dsimp only at hSw)
              go_simp
              rw [if_neg (by omega)]
              try with_reducible rfl
            try simp only [Act.put, List.setIfInBounds_toArray, List.set_cons_zero, List.set_cons_succ]
            refine wpAnyH_take (i := 18) (v := ?_) (opAt_list rfl) (by kernel_rfl) (by kernel_rfl) (by kernel_rfl) (fun _ _ _ h => h) (Or.inl ⟨by rfl, ?_⟩) (by assumption) ?_
            rotate_left
            · intro w9 hSw
              (try dsimp only at hSw)
              go_simp
              try with_reducible rfl
            try simp only [Act.put, List.setIfInBounds_toArray, List.set_cons_zero, List.set_cons_succ]
            refine wpAnyH_done (by kernel_rfl) ?_ _
            go_wp2
            go_ret2
            exact ⟨_, _, rfl, cut_size z _ k _ hz60 (by assumption), HK33.out⟩
    · go_simp
      go_at_call 15
      refine (pick_any _ _ _ (by omega) 6 (by omega) _ HRd.out).mono ?_
      rintro e w11 ⟨i, rfl, h0i, h1i, hrx, hkx⟩
      refine hK.out _ _ trivial (fun hHeld => ?_)
      clear hK K
      try simp only [Act.put, List.setIfInBounds_toArray, List.set_cons_zero, List.set_cons_succ]
      obtain ⟨i, rfl⟩ := Int.eq_ofNat_of_zero_le h0i
      have him : i < 6 := by omega
      have HR11 := Lib.hid hrx
      have HK11 := Lib.hid (HKd.out.trans hkx (fun x hx => by right; simp at hx; omega))
      have hRd11 : w.heap.size < w11.heap.size := hrx.lt
      clear hrx hkx h0i h1i HRd HKd
      refine wpAnyH_ready (rs := [4, 13]) (by kernel_rfl) (by simp) ?_
      refine AllReadyH.cons (opAt_list rfl) (fun K hK => ?_) (AllReadyH.cons (opAt_list rfl) (fun K hK => ?_) AllReadyH.nil)
      · go_simp
        refine hK.out _ (w11.alloc sixObj) trivial (fun hHeld => ?_)
        clear hK K
        try simp only [Act.put, List.setIfInBounds_toArray, List.set_cons_zero, List.set_cons_succ]
        have HR22 := Lib.hid (HR11.out.kept ((Kept.refl [] w11).alloc sixObj) (by simp))
        have HK22 := Lib.hid (HK11.out.alloc sixObj)
        have HS22 := Lib.hid (six_lit w11)
        have hne22 : w11.heap.size ≠ w.heap.size := by omega
        generalize w11.alloc sixObj = w22 at *
        clear hRd11
        generalize w11.heap.size = g22 at *
        clear HR11 HK11 w11
        refine wpAnyH_take (i := 7) (v := ?_) (opAt_list rfl) (by kernel_rfl) (by kernel_rfl) (by kernel_rfl) (fun _ _ _ h => h) (Or.inl ⟨by rfl, ?_⟩) (by assumption) ?_
        rotate_left
        · intro w9 hSw
          (try dsimp only at hSw)
          go_simp
          rw [if_pos (by omega)]
          try with_reducible rfl
        try simp only [Act.put, List.setIfInBounds_toArray, List.set_cons_zero, List.set_cons_succ]
        refine wpAnyH_ready (rs := [8, 13]) (by kernel_rfl) (by simp) ?_
        refine AllReadyH.cons (opAt_list rfl) (fun K hK => ?_) (AllReadyH.cons (opAt_list rfl) (fun K hK => ?_) AllReadyH.nil)
        · obtain ⟨t, ht, htz⟩ := HS22.out i him
          go_simp
          refine hK.out _ _ trivial (fun hHeld => ?_)
          clear hK K
          try simp only [Act.put, List.setIfInBounds_toArray, List.set_cons_zero, List.set_cons_succ]
          clear ht
          refine wpAnyH_take (i := 9) (v := ?_) (opAt_list rfl) (by kernel_rfl) (by kernel_rfl) (by kernel_rfl) (fun _ _ _ h => h) (Or.inl ⟨by rfl, ?_⟩) (by assumption) ?_
          rotate_left
          · intro w9 hSw
            (try dsimp only at hSw)
            go_simp
            rw [if_neg (by omega)]
            try with_reducible rfl
          try simp only [Act.put, List.setIfInBounds_toArray, List.set_cons_zero, List.set_cons_succ]
          refine wpAnyH_ready (rs := [13]) (by kernel_rfl) (by simp) ?_
          refine AllReadyH.cons (opAt_list rfl) (fun K hK => ?_) AllReadyH.nil
          · go_simp
            go_at_call 15
            refine (pick_any _ _ _ (by omega) 2 (by omega) _ HR22.out).mono ?_
            rintro e w44 ⟨j, rfl, h0j, h1j, hrx, hkx⟩
            refine hK.out _ _ trivial (fun hHeld => ?_)
            clear hK K
            try simp only [Act.put, List.setIfInBounds_toArray, List.set_cons_zero, List.set_cons_succ]
            obtain ⟨j, rfl⟩ := Int.eq_ofNat_of_zero_le h0j
            have hjm : j < 2 := by omega
            have HR44 := Lib.hid hrx
            have HK44 := Lib.hid (HK22.out.trans hkx (fun x hx => by right; simp at hx; omega))
            have HS44 := Lib.hid (HS22.out.stay hkx hne22)
            clear hrx hkx h0j h1j HR22 HK22 HS22
            have hkj : IntKind.i64.wrap ((k : Int) + (j : Int)) = (k : Int) + (j : Int) := by rw [IntKind.wrap_i64]; omega
            refine wpAnyH_take (i := 14) (v := ?_) (opAt_list rfl) (by kernel_rfl) (by kernel_rfl) (by kernel_rfl) (fun _ _ _ h => h) (Or.inl ⟨by rfl, ?_⟩) (by assumption) ?_
            rotate_left
            · intro w9 hSw
              (try dsimp only at hSw)
              go_simp
              try with_reducible rfl
            try simp only [Act.put, List.setIfInBounds_toArray, List.set_cons_zero, List.set_cons_succ]
            refine wpAnyH_take (i := 15) (v := ?_) (opAt_list rfl) (by kernel_rfl) (by kernel_rfl) (by kernel_rfl) (fun _ _ _ h => h) (Or.inl ⟨by rfl, ?_⟩) (by assumption) ?_
            rotate_left
            · intro w9 hSw
              (try dsimp only at hSw)
              go_simp
              rw [if_pos (by omega)]
              try with_reducible rfl
            try simp only [Act.put, List.setIfInBounds_toArray, List.set_cons_zero, List.set_cons_succ]
            refine wpAnyH_take (i := 17) (v := ?_) (opAt_list rfl) (by kernel_rfl) (by kernel_rfl) (by kernel_rfl) (fun _ _ _ h => h) (Or.inl ⟨by rfl, ?_⟩) (by assumption) ?_
            rotate_left
            · intro w9 hSw
              (try dsimp only at hSw)
              go_simp
              try with_reducible rfl
            try simp only [Act.put, List.setIfInBounds_toArray, List.set_cons_zero, List.set_cons_succ]
            refine wpAnyH_take (i := 16) (v := ?_) (opAt_list rfl) (by kernel_rfl) (by kernel_rfl) (by kernel_rfl) (fun _ _ _ h => h) (Or.inl ⟨by rfl, ?_⟩) (by assumption) ?_
            rotate_left
            · intro w9 hSw
              (try dsimp only at hSw)
              go_simp
              rw [if_neg (by omega)]
              try with_reducible rfl
            try simp only [Act.put, List.setIfInBounds_toArray, List.set_cons_zero, List.set_cons_succ]
            refine wpAnyH_take (i := 18) (v := ?_) (opAt_list rfl) (by kernel_rfl) (by kernel_rfl) (by kernel_rfl) (fun _ _ _ h => h) (Or.inl ⟨by rfl, ?_⟩) (by assumption) ?_
            rotate_left
            · intro w9 hSw
              (try dsimp only at hSw)
              go_simp
              try with_reducible rfl
            try simp only [Act.put, List.setIfInBounds_toArray, List.set_cons_zero, List.set_cons_succ]
            refine wpAnyH_done (by kernel_rfl) ?_ _
            go_wp2
            go_ret2
            exact ⟨_, _, rfl, cut_size z _ k _ hz60 (by assumption), HK44.out⟩
        · go_simp
          go_at_call 15
          refine (pick_any _ _ _ (by omega) 2 (by omega) _ HR22.out).mono ?_
          rintro e w33 ⟨j, rfl, h0j, h1j, hrx, hkx⟩
          refine hK.out _ _ trivial (fun hHeld => ?_)
          clear hK K
          try simp only [Act.put, List.setIfInBounds_toArray, List.set_cons_zero, List.set_cons_succ]
          obtain ⟨j, rfl⟩ := Int.eq_ofNat_of_zero_le h0j
          have hjm : j < 2 := by omega
          have HR33 := Lib.hid hrx
          have HK33 := Lib.hid (HK22.out.trans hkx (fun x hx => by right; simp at hx; omega))
          have HS33 := Lib.hid (HS22.out.stay hkx hne22)
          clear hrx hkx h0j h1j HR22 HK22 HS22
          have hkj : IntKind.i64.wrap ((k : Int) + (j : Int)) = (k : Int) + (j : Int) := by rw [IntKind.wrap_i64]; omega
          refine wpAnyH_take (i := 14) (v := ?_) (opAt_list rfl) (by kernel_rfl) (by kernel_rfl) (by kernel_rfl) (fun _ _ _ h => h) (Or.inl ⟨by rfl, ?_⟩) (by assumption) ?_
          rotate_left
          · intro w9 hSw
            (try dsimp only at hSw)
            go_simp
            try with_reducible rfl
          try simp only [Act.put, List.setIfInBounds_toArray, List.set_cons_zero, List.set_cons_succ]
          refine wpAnyH_take (i := 15) (v := ?_) (opAt_list rfl) (by kernel_rfl) (by kernel_rfl) (by kernel_rfl) (fun _ _ _ h => h) (Or.inl ⟨by rfl, ?_⟩) (by assumption) ?_
          rotate_left
          · intro w9 hSw
            (try dsimp only at hSw)
            go_simp
            rw [if_pos (by omega)]
            try with_reducible rfl
          try simp only [Act.put, List.setIfInBounds_toArray, List.set_cons_zero, List.set_cons_succ]
          refine wpAnyH_take (i := 17) (v := ?_) (opAt_list rfl) (by kernel_rfl) (by kernel_rfl) (by kernel_rfl) (fun _ _ _ h => h) (Or.inl ⟨by rfl, ?_⟩) (by assumption) ?_
          rotate_left
          · intro w9 hSw
            (try dsimp only at hSw)
            go_simp
            try with_reducible rfl
          try simp only [Act.put, List.setIfInBounds_toArray, List.set_cons_zero, List.set_cons_succ]
          refine wpAnyH_ready (rs := [8]) (by kernel_rfl) (by simp) ?_
          refine AllReadyH.cons (opAt_list rfl) (fun K hK => ?_) AllReadyH.nil
          · obtain ⟨t, ht, htz⟩ := HS33.out i him
            go_simp
            refine hK.out _ _ trivial (fun hHeld => ?_)
            clear hK K
            try simp only [Act.put, List.setIfInBounds_toArray, List.set_cons_zero, List.set_cons_succ]
            clear ht
            refine wpAnyH_take (i := 9) (v := ?_) (opAt_list rfl) (by kernel_rfl) (by kernel_rfl) (by kernel_rfl) (fun _ _ _ h => h) (Or.inl ⟨by rfl, ?_⟩) (by assumption) ?_
            rotate_left
            · intro w9 hSw
              (try dsimp only at hSw)
              go_simp
              rw [if_neg (by omega)]
              try with_reducible rfl
            try simp only [Act.put, List.setIfInBounds_toArray, List.set_cons_zero, List.set_cons_succ]
            refine wpAnyH_take (i := 16) (v := ?_) (opAt_list rfl) (by kernel_rfl) (by kernel_rfl) (by kernel_rfl) (fun _ _ _ h => h) (Or.inl ⟨by rfl, ?_⟩) (by assumption) ?_
            rotate_left
            · intro w9 hSw
              (try dsimp only at hSw)
              go_simp
              rw [if_neg (by omega)]
              try with_reducible rfl
            try simp only [Act.put, List.setIfInBounds_toArray, List.set_cons_zero, List.set_cons_succ]
            refine wpAnyH_take (i := 18) (v := ?_) (opAt_list rfl) (by kernel_rfl) (by kernel_rfl) (by kernel_rfl) (fun _ _ _ h => h) (Or.inl ⟨by rfl, ?_⟩) (by assumption) ?_
            rotate_left
            · intro w9 hSw
              (try dsimp only at hSw)
              go_simp
              try with_reducible rfl
            try simp only [Act.put, List.setIfInBounds_toArray, List.set_cons_zero, List.set_cons_succ]
            refine wpAnyH_done (by kernel_rfl) ?_ _
            go_wp2
            go_ret2
            exact ⟨_, _, rfl, cut_size z _ k _ hz60 (by assumption), HK33.out⟩
      · go_simp
        go_at_call 15
        refine (pick_any _ _ _ (by omega) 2 (by omega) _ HR11.out).mono ?_
        rintro e w22 ⟨j, rfl, h0j, h1j, hrx, hkx⟩
        refine hK.out _ _ trivial (fun hHeld => ?_)
        clear hK K
        try simp only [Act.put, List.setIfInBounds_toArray, List.set_cons_zero, List.set_cons_succ]
        obtain ⟨j, rfl⟩ := Int.eq_ofNat_of_zero_le h0j
        have hjm : j < 2 := by omega
        have HR22 := Lib.hid hrx
        have HK22 := Lib.hid (HK11.out.trans hkx (fun x hx => by right; simp at hx; omega))
        have hRd22 : w.heap.size < w22.heap.size := hrx.lt
        clear hrx hkx h0j h1j HR11 HK11
        have hkj : IntKind.i64.wrap ((k : Int) + (j : Int)) = (k : Int) + (j : Int) := by rw [IntKind.wrap_i64]; omega
        refine wpAnyH_take (i := 14) (v := ?_) (opAt_list rfl) (by kernel_rfl) (by kernel_rfl) (by kernel_rfl) (fun _ _ _ h => h) (Or.inl ⟨by rfl, ?_⟩) (by assumption) ?_
        rotate_left
        · intro w9 hSw
          (try dsimp only at hSw)
          go_simp
          try with_reducible rfl
        try simp only [Act.put, List.setIfInBounds_toArray, List.set_cons_zero, List.set_cons_succ]
        refine wpAnyH_take (i := 15) (v := ?_) (opAt_list rfl) (by kernel_rfl) (by kernel_rfl) (by kernel_rfl) (fun _ _ _ h => h) (Or.inl ⟨by rfl, ?_⟩) (by assumption) ?_
        rotate_left
        · intro w9 hSw
          (try dsimp only at hSw)
          go_simp
          rw [if_pos (by omega)]
          try with_reducible rfl
        try simp only [Act.put, List.setIfInBounds_toArray, List.set_cons_zero, List.set_cons_succ]
        refine wpAnyH_take (i := 17) (v := ?_) (opAt_list rfl) (by kernel_rfl) (by kernel_rfl) (by kernel_rfl) (fun _ _ _ h => h) (Or.inl ⟨by rfl, ?_⟩) (by assumption) ?_
        rotate_left
        · intro w9 hSw
          (try dsimp only at hSw)
          go_simp
          try with_reducible rfl
        try simp only [Act.put, List.setIfInBounds_toArray, List.set_cons_zero, List.set_cons_succ]
        refine wpAnyH_ready (rs := [4]) (by kernel_rfl) (by simp) ?_
        refine AllReadyH.cons (opAt_list rfl) (fun K hK => ?_) AllReadyH.nil
        · go_simp
          refine hK.out _ (w22.alloc sixObj) trivial (fun hHeld => ?_)
          clear hK K
          try simp only [Act.put, List.setIfInBounds_toArray, List.set_cons_zero, List.set_cons_succ]
          have HR33 := Lib.hid (HR22.out.kept ((Kept.refl [] w22).alloc sixObj) (by simp))
          have HK33 := Lib.hid (HK22.out.alloc sixObj)
          have HS33 := Lib.hid (six_lit w22)
          have hne33 : w22.heap.size ≠ w.heap.size := by omega
          generalize w22.alloc sixObj = w33 at *
          clear hRd22
          generalize w22.heap.size = g33 at *
          clear HR22 HK22 w22
          refine wpAnyH_take (i := 7) (v := ?_) (opAt_list rfl) (by kernel_rfl) (by kernel_rfl) (by kernel_rfl) (fun _ _ _ h => h) (Or.inl ⟨by rfl, ?_⟩) (by assumption) ?_
          rotate_left
          · intro w9 hSw
            (try dsimp only at hSw)
            go_simp
            rw [if_pos (by omega)]
            try with_reducible rfl
          try simp only [Act.put, List.setIfInBounds_toArray, List.set_cons_zero, List.set_cons_succ]
          refine wpAnyH_ready (rs := [8]) (by kernel_rfl) (by simp) ?_
          refine AllReadyH.cons (opAt_list rfl) (fun K hK => ?_) AllReadyH.nil
          · obtain ⟨t, ht, htz⟩ := HS33.out i him
            go_simp
            refine hK.out _ _ trivial (fun hHeld => ?_)
            clear hK K
            try simp only [Act.put, List.setIfInBounds_toArray, List.set_cons_zero, List.set_cons_succ]
            clear ht
            refine wpAnyH_take (i := 9) (v := ?_) (opAt_list rfl) (by kernel_rfl) (by kernel_rfl) (by kernel_rfl) (fun _ _ _ h => h) (Or.inl ⟨by rfl, ?_⟩) (by assumption) ?_
            rotate_left
            · intro w9 hSw
              (try dsimp only at hSw)
              go_simp
              rw [if_neg (by omega)]
              try with_reducible rfl
            try simp only [Act.put, List.setIfInBounds_toArray, List.set_cons_zero, List.set_cons_succ]
            refine wpAnyH_take (i := 16) (v := ?_) (opAt_list rfl) (by kernel_rfl) (by kernel_rfl) (by kernel_rfl) (fun _ _ _ h => h) (Or.inl ⟨by rfl, ?_⟩) (by assumption) ?_
            rotate_left
            · intro w9 hSw
              (try dsimp only at hSw)
              go_simp
              rw [if_neg (by omega)]
              try with_reducible rfl
            try simp only [Act.put, List.setIfInBounds_toArray, List.set_cons_zero, List.set_cons_succ]
            refine wpAnyH_take (i := 18) (v := ?_) (opAt_list rfl) (by kernel_rfl) (by kernel_rfl) (by kernel_rfl) (fun _ _ _ h => h) (Or.inl ⟨by rfl, ?_⟩) (by assumption) ?_
            rotate_left
            · intro w9 hSw
              (try dsimp only at hSw)
              go_simp
              try with_reducible rfl
            try simp only [Act.put, List.setIfInBounds_toArray, List.set_cons_zero, List.set_cons_succ]
            refine wpAnyH_done (by kernel_rfl) ?_ _
            go_wp2
            go_ret2
            exact ⟨_, _, rfl, cut_size z _ k _ hz60 (by assumption), HK33.out⟩
  · have hy' : ((y : Int) == 0) = false := by simp; omega
    go_wp2
    go_ret2
    exact ⟨_, _, rfl, by omega, HK5.out⟩
end Go.Proofs.YtilbdpcijdcffaaDoor
