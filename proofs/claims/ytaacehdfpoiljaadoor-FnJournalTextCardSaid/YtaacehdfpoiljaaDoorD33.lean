/-
  Walks: deeds drawn.
-/
import Derived.Test.YtaacehdfpoiljaaDoorD32
import Derived.Test.YtaacehdfpoiljaaDoorTgB
namespace Go.Proofs.YtaacehdfpoiljaaDoor
open Go.RowKit

/-- A deed is drawn: any three numbers. -/
def DrawsDd (w : World) (B R P : Nat) (e : Ending) (w' : World) : Prop :=
  ∃ k a b : Int, e = .returned (.agg #[.int .i64 k, .int .i64 a, .int .i64 b]) ∧ Rd w' B R (P + 10) ∧ Kept [R] w w'

theorem opAt_lst3 {l : List Oper} {i : Nat} {o : Oper} (h : l[i]? = some o) : l.toArray[i]? = some o := by simpa using h
theorem eight_at {w : World} {g : Nat} (h : Bk w g 3 #[.int .i64 0, .int .i64 0, .int .i64 1, .int .i64 1, .int .i64 2, .int .i64 2, .int .i64 3, .int .i64 4]) (z : Nat) (hz : z < 8) :
    ∃ k : Int, w.cell? ⟨g, z, none⟩ = some (.int .i64 k) ∧ 0 ≤ k ∧ k ≤ 4 := by
  have hk : z = 0 ∨ z = 1 ∨ z = 2 ∨ z = 3 ∨ z = 4 ∨ z = 5 ∨ z = 6 ∨ z = 7 := by omega
  rcases hk with rfl | rfl | rfl | rfl | rfl | rfl | rfl | rfl
  · exact ⟨0, h.cell 0 rfl, by omega, by omega⟩
  · exact ⟨0, h.cell 1 rfl, by omega, by omega⟩
  · exact ⟨1, h.cell 2 rfl, by omega, by omega⟩
  · exact ⟨1, h.cell 3 rfl, by omega, by omega⟩
  · exact ⟨2, h.cell 4 rfl, by omega, by omega⟩
  · exact ⟨2, h.cell 5 rfl, by omega, by omega⟩
  · exact ⟨3, h.cell 6 rfl, by omega, by omega⟩
  · exact ⟨4, h.cell 7 rfl, by omega, by omega⟩

set_option maxHeartbeats 4000000 in
set_option maxRecDepth 100000 in
theorem deed_any (B R P : Nat) (hP : P ≤ 80000) (w : World) (hr : Rd w B R P) (a1 a2 : Option Addr) (n c1 m2 c2 : Nat) (pc : Int) (hn : n ≤ 100) :
    Calls Tryd.prog 67 #[.pointer (some ⟨R, 0, none⟩), .agg #[.slice a1 n c1, .int .i64 pc, .slice a2 m2 c2]] w (DrawsDd w B R P) := by
  have hlt := hr.lt
  have hBR := hr.1
  obtain ⟨hk0, hb0, hd0⟩ := two_new w 25 36 #[.slice a1 n c1, .int .i64 pc, .slice a2 m2 c2] #[.int .i64 0, .int .i64 0, .int .i64 0]
  have HR := Lib.hid (hr.kept hk0 (by simp))
  have HB := Lib.hid hb0
  have HD := Lib.hid hd0
  have HK := Lib.hid ((Kept.weak [R] hk0))
  clear hk0 hb0 hd0 hr
  go_enter Tryd.func67, Tryd.ntmps67
  go_wp2_with fail
  generalize ((w.alloc (.cells #[.slice a1 n c1, .int .i64 pc, .slice a2 m2 c2] 25)).alloc (.cells #[.int .i64 0, .int .i64 0, .int .i64 0] 36)) = W0 at *
  have hzW : R < W0.heap.size := HR.out.lt
  go_cut [5] (fun u5 wc => ∃ (gL : Nat) (k : Int), u5 = .pointer (some ⟨gL, 0, none⟩) ∧ Bk wc gL 36 #[.int .i64 k, .int .i64 0, .int .i64 0] ∧ gL ≠ R ∧ W0.heap.size ≤ gL ∧ Rd wc B R (P + 2) ∧ Kept [R] W0 wc)
  case first =>
    have HR1 : Hid (Rd W0.drew B R P) := Lib.hid (HR.out.kept (Kept.refl [] W0).drew (by simp))
    have HK1 : Hid (Kept [R] W0 W0.drew) := Lib.hid ((Kept.refl _ _).drew)
    refine wp_region_held_drew (S := fun _ => True) (by kernel_rfl) trivial (fun hHeld => ?_)
    have hz1 : W0.heap.size = W0.drew.heap.size := rfl
    generalize W0.drew = W1 at *
    refine wpAnyH_take (i := 1) (v := ?_) (opAt_lst3 rfl) (by kernel_rfl) (by kernel_rfl) (by kernel_rfl) (fun _ _ _ h => h) (Or.inl ⟨by rfl, ?_⟩) (by assumption) ?_
    rotate_left
    · intro w9 hSw
      (try dsimp only at hSw)
      go_simp
      try with_reducible rfl
    try simp only [Act.put, List.setIfInBounds_toArray, List.set_cons_zero, List.set_cons_succ]
    refine wpAnyH_take (i := 5) (v := ?_) (opAt_lst3 rfl) (by kernel_rfl) (by kernel_rfl) (by kernel_rfl) (fun _ _ _ h => h) (Or.inl ⟨by rfl, ?_⟩) (by assumption) ?_
    rotate_left
    · intro w9 hSw
      (try dsimp only at hSw)
      go_simp
      try with_reducible rfl
    try simp only [Act.put, List.setIfInBounds_toArray, List.set_cons_zero, List.set_cons_succ]
    refine wpAnyH_ready (rs := [0, 2, 11]) (by kernel_rfl) (by simp) ?_
    refine (AllReadyH.cons (opAt_lst3 rfl) (fun K hK => ?_) (AllReadyH.cons (opAt_lst3 rfl) (fun K hK => ?_) (AllReadyH.cons (opAt_lst3 rfl) (fun K hK => ?_) AllReadyH.nil)))
    · go_simp
      have hka : Kept [] W1 (W1.alloc (.cells #[.int .i64 0, .int .i64 0, .int .i64 1, .int .i64 1, .int .i64 2, .int .i64 2, .int .i64 3, .int .i64 4] 3)) := (Kept.refl _ _).alloc _
      have HA := Lib.hid (Bk.new W1 3 #[.int .i64 0, .int .i64 0, .int .i64 1, .int .i64 1, .int .i64 2, .int .i64 2, .int .i64 3, .int .i64 4])
      refine hK.out _ _ trivial (fun hHeld => ?_)
      clear hK K
      try simp only [Act.put, List.setIfInBounds_toArray, List.set_cons_zero, List.set_cons_succ]
      obtain ⟨gA, hgA⟩ : ∃ g, g = W1.heap.size := ⟨_, rfl⟩
      have hAR : gA ≠ R := by have := HR1.out.lt; omega
      have HR2 := Lib.hid (HR1.out.kept hka (by simp))
      have HK2 := Lib.hid (HK1.out.trans hka (by simp))
      generalize W1.alloc (.cells #[.int .i64 0, .int .i64 0, .int .i64 1, .int .i64 1, .int .i64 2, .int .i64 2, .int .i64 3, .int .i64 4] 3) = W2 at *
      rw [← hgA] at HA ⊢
      clear hgA hka
      refine wpAnyH_ready (rs := [2, 11]) (by kernel_rfl) (by simp) ?_
      refine (AllReadyH.cons (opAt_lst3 rfl) (fun K hK => ?_) (AllReadyH.cons (opAt_lst3 rfl) (fun K hK => ?_) AllReadyH.nil))
      · go_simp
        go_at_call 62
        refine (pick_any B R P (by omega) 8 (by omega) _ HR2.out).mono ?_
        rintro e W3 ⟨z, rfl, hz0, hz, hr, hk⟩
        refine hK.out _ _ trivial (fun hHeld => ?_)
        clear hK K
        try simp only [Act.put, List.setIfInBounds_toArray, List.set_cons_zero, List.set_cons_succ]
        have hz8 : z < 8 := by omega
        have HR3 := Lib.hid hr
        have HK3 := Lib.hid (HK2.out.trans hk (by simp))
        have HA := Lib.hid (HA.out.kept hk (by simp; exact hAR))
        clear hr hk hz
        obtain ⟨z, rfl⟩ := Int.eq_ofNat_of_zero_le hz0
        have hz8' : z < 8 := by omega
        refine wpAnyH_take (i := 3) (v := ?_) (opAt_lst3 rfl) (by kernel_rfl) (by kernel_rfl) (by kernel_rfl) (fun _ _ _ h => h) (Or.inl ⟨by rfl, ?_⟩) (by assumption) ?_
        rotate_left
        · intro w9 hSw
          (try dsimp only at hSw)
          go_simp
          try with_reducible rfl
        try simp only [Act.put, List.setIfInBounds_toArray, List.set_cons_zero, List.set_cons_succ]
        refine wpAnyH_ready (rs := [4, 6, 11]) (by kernel_rfl) (by simp) ?_
        refine (AllReadyH.cons (opAt_lst3 rfl) (fun K hK => ?_) (AllReadyH.cons (opAt_lst3 rfl) (fun K hK => ?_) (AllReadyH.cons (opAt_lst3 rfl) (fun K hK => ?_) AllReadyH.nil)))
        · obtain ⟨kx, hkx, kx0, kx4⟩ := eight_at HA.out z hz8'
          go_simp
          refine hK.out _ _ trivial (fun hHeld => ?_)
          clear hK K
          try simp only [Act.put, List.setIfInBounds_toArray, List.set_cons_zero, List.set_cons_succ]
          clear hkx
          refine wpAnyH_ready (rs := [6, 11]) (by kernel_rfl) (by simp) ?_
          refine (AllReadyH.cons (opAt_lst3 rfl) (fun K hK => ?_) (AllReadyH.cons (opAt_lst3 rfl) (fun K hK => ?_) AllReadyH.nil))
          · go_simp
            go_at_call 62
            refine (pick_any B R (P + 1) (by omega) 60 (by omega) _ HR3.out).mono ?_
            rintro e W4 ⟨y, rfl, hy0, hy, hr, hk⟩
            refine hK.out _ _ trivial (fun hHeld => ?_)
            clear hK K
            try simp only [Act.put, List.setIfInBounds_toArray, List.set_cons_zero, List.set_cons_succ]
            have hy8 : y < 60 := by omega
            have HR4 := Lib.hid hr
            have HK4 := Lib.hid (HK3.out.trans hk (by simp))
            have HA := Lib.hid (HA.out.kept hk (by simp; exact hAR))
            clear hr hk hy
            obtain ⟨d0, d1⟩ := tdiv_small hy0 (show y ≤ 100 by omega) (d := 59) (by omega)
            refine wpAnyH_take (i := 7) (v := ?_) (opAt_lst3 rfl) (by kernel_rfl) (by kernel_rfl) (by kernel_rfl) (fun _ _ _ h => h) (Or.inl ⟨by rfl, ?_⟩) (by assumption) ?_
            rotate_left
            · intro w9 hSw
              (try dsimp only at hSw)
              go_simp
              try with_reducible rfl
            try simp only [Act.put, List.setIfInBounds_toArray, List.set_cons_zero, List.set_cons_succ]
            refine wpAnyH_take (i := 8) (v := ?_) (opAt_lst3 rfl) (by kernel_rfl) (by kernel_rfl) (by kernel_rfl) (fun _ _ _ h => h) (Or.inl ⟨by rfl, ?_⟩) (by assumption) ?_
            rotate_left
            · intro w9 hSw
              (try dsimp only at hSw)
              go_simp
              try with_reducible rfl
            try simp only [Act.put, List.setIfInBounds_toArray, List.set_cons_zero, List.set_cons_succ]
            refine wpAnyH_take (i := 9) (v := ?_) (opAt_lst3 rfl) (by kernel_rfl) (by kernel_rfl) (by kernel_rfl) (fun _ _ _ h => h) (Or.inl ⟨by rfl, ?_⟩) (by assumption) ?_
            rotate_left
            · intro w9 hSw
              (try dsimp only at hSw)
              go_simp
              try with_reducible rfl
            try simp only [Act.put, List.setIfInBounds_toArray, List.set_cons_zero, List.set_cons_succ]
            refine wpAnyH_take (i := 10) (v := ?_) (opAt_lst3 rfl) (by kernel_rfl) (by kernel_rfl) (by kernel_rfl) (fun _ _ _ h => h) (Or.inl ⟨by rfl, ?_⟩) (by assumption) ?_
            rotate_left
            · intro w9 hSw
              (try dsimp only at hSw)
              go_simp
              try with_reducible rfl
            try simp only [Act.put, List.setIfInBounds_toArray, List.set_cons_zero, List.set_cons_succ]
            refine wpAnyH_ready (rs := [11]) (by kernel_rfl) (by simp) ?_
            refine (AllReadyH.cons (opAt_lst3 rfl) (fun K hK => ?_) AllReadyH.nil)
            · go_simp
              have hka : Kept [] W4 (W4.alloc (.cells #[.int .i64 0, .int .i64 0, .int .i64 0] 36)) := (Kept.refl _ _).alloc _
              have HL := Lib.hid (Bk.new W4 36 #[.int .i64 0, .int .i64 0, .int .i64 0])
              refine hK.out _ _ trivial (fun hHeld => ?_)
              clear hK K
              try simp only [Act.put, List.setIfInBounds_toArray, List.set_cons_zero, List.set_cons_succ]
              obtain ⟨gL, hgL⟩ : ∃ g, g = W4.heap.size := ⟨_, rfl⟩
              have hLR : gL ≠ R := by have := HR4.out.lt; omega
              have hLW : W0.heap.size ≤ gL := by have := HK4.out.size; omega
              have HR5 := Lib.hid (HR4.out.kept hka (by simp))
              have HK5 := Lib.hid (HK4.out.trans hka (by simp))
              have HA := Lib.hid (HA.out.stay hka)
              generalize W4.alloc (.cells #[.int .i64 0, .int .i64 0, .int .i64 0] 36) = W5 at *
              rw [← hgL] at HL ⊢
              clear hgL hka
              refine wpAnyH_ready (rs := [12]) (by kernel_rfl) (by simp) ?_
              refine AllReadyH.cons (opAt_lst3 rfl) (fun K hK => ?_) AllReadyH.nil
              obtain ⟨l0, l1, l2⟩ := HL.out.three
              have f0 := HL.out.frozen 0
              have f1 := HL.out.frozen 1
              have f2 := HL.out.frozen 2
              have hll := HL.out.lt
              go_simp
              refine hK.out _ _ trivial (fun hHeld => ?_)
              clear hK K
              try simp only [Act.put, List.setIfInBounds_toArray, List.set_cons_zero, List.set_cons_succ]
              refine wpAnyH_done (by kernel_rfl) ?_ _
              go_wp2_with fail
              go_meet
              exact ⟨gL, _, rfl, HL.out.set3 _ _ _, hLR, hLW, HR5.out.kept (Kept.rows3 _ gL _ _ _) (by simp; omega), HK5.out.trans (Kept.rows3 _ gL _ _ _) (fun q hq => .inr (by simp at hq; omega))⟩
          · go_simp
            have hka : Kept [] W3 (W3.alloc (.cells #[.int .i64 0, .int .i64 0, .int .i64 0] 36)) := (Kept.refl _ _).alloc _
            have HL := Lib.hid (Bk.new W3 36 #[.int .i64 0, .int .i64 0, .int .i64 0])
            refine hK.out _ _ trivial (fun hHeld => ?_)
            clear hK K
            try simp only [Act.put, List.setIfInBounds_toArray, List.set_cons_zero, List.set_cons_succ]
            obtain ⟨gL, hgL⟩ : ∃ g, g = W3.heap.size := ⟨_, rfl⟩
            have hLR : gL ≠ R := by have := HR3.out.lt; omega
            have hLW : W0.heap.size ≤ gL := by have := HK3.out.size; omega
            have HR4 := Lib.hid (HR3.out.kept hka (by simp))
            have HK4 := Lib.hid (HK3.out.trans hka (by simp))
            have HA := Lib.hid (HA.out.stay hka)
            generalize W3.alloc (.cells #[.int .i64 0, .int .i64 0, .int .i64 0] 36) = W4 at *
            rw [← hgL] at HL ⊢
            clear hgL hka
            refine wpAnyH_ready (rs := [6]) (by kernel_rfl) (by simp) ?_
            refine (AllReadyH.cons (opAt_lst3 rfl) (fun K hK => ?_) AllReadyH.nil)
            · go_simp
              go_at_call 62
              refine (pick_any B R (P + 1) (by omega) 60 (by omega) _ HR4.out).mono ?_
              rintro e W5 ⟨y, rfl, hy0, hy, hr, hk⟩
              refine hK.out _ _ trivial (fun hHeld => ?_)
              clear hK K
              try simp only [Act.put, List.setIfInBounds_toArray, List.set_cons_zero, List.set_cons_succ]
              have hy8 : y < 60 := by omega
              have HR5 := Lib.hid hr
              have HK5 := Lib.hid (HK4.out.trans hk (by simp))
              have HA := Lib.hid (HA.out.kept hk (by simp; exact hAR))
              have HL := Lib.hid (HL.out.kept hk (by simp; exact hLR))
              clear hr hk hy
              obtain ⟨d0, d1⟩ := tdiv_small hy0 (show y ≤ 100 by omega) (d := 59) (by omega)
              refine wpAnyH_take (i := 7) (v := ?_) (opAt_lst3 rfl) (by kernel_rfl) (by kernel_rfl) (by kernel_rfl) (fun _ _ _ h => h) (Or.inl ⟨by rfl, ?_⟩) (by assumption) ?_
              rotate_left
              · intro w9 hSw
                (try dsimp only at hSw)
                go_simp
                try with_reducible rfl
              try simp only [Act.put, List.setIfInBounds_toArray, List.set_cons_zero, List.set_cons_succ]
              refine wpAnyH_take (i := 8) (v := ?_) (opAt_lst3 rfl) (by kernel_rfl) (by kernel_rfl) (by kernel_rfl) (fun _ _ _ h => h) (Or.inl ⟨by rfl, ?_⟩) (by assumption) ?_
              rotate_left
              · intro w9 hSw
                (try dsimp only at hSw)
                go_simp
                try with_reducible rfl
              try simp only [Act.put, List.setIfInBounds_toArray, List.set_cons_zero, List.set_cons_succ]
              refine wpAnyH_take (i := 9) (v := ?_) (opAt_lst3 rfl) (by kernel_rfl) (by kernel_rfl) (by kernel_rfl) (fun _ _ _ h => h) (Or.inl ⟨by rfl, ?_⟩) (by assumption) ?_
              rotate_left
              · intro w9 hSw
                (try dsimp only at hSw)
                go_simp
                try with_reducible rfl
              try simp only [Act.put, List.setIfInBounds_toArray, List.set_cons_zero, List.set_cons_succ]
              refine wpAnyH_take (i := 10) (v := ?_) (opAt_lst3 rfl) (by kernel_rfl) (by kernel_rfl) (by kernel_rfl) (fun _ _ _ h => h) (Or.inl ⟨by rfl, ?_⟩) (by assumption) ?_
              rotate_left
              · intro w9 hSw
                (try dsimp only at hSw)
                go_simp
                try with_reducible rfl
              try simp only [Act.put, List.setIfInBounds_toArray, List.set_cons_zero, List.set_cons_succ]
              refine wpAnyH_ready (rs := [12]) (by kernel_rfl) (by simp) ?_
              refine AllReadyH.cons (opAt_lst3 rfl) (fun K hK => ?_) AllReadyH.nil
              obtain ⟨l0, l1, l2⟩ := HL.out.three
              have f0 := HL.out.frozen 0
              have f1 := HL.out.frozen 1
              have f2 := HL.out.frozen 2
              have hll := HL.out.lt
              go_simp
              refine hK.out _ _ trivial (fun hHeld => ?_)
              clear hK K
              try simp only [Act.put, List.setIfInBounds_toArray, List.set_cons_zero, List.set_cons_succ]
              refine wpAnyH_done (by kernel_rfl) ?_ _
              go_wp2_with fail
              go_meet
              exact ⟨gL, _, rfl, HL.out.set3 _ _ _, hLR, hLW, HR5.out.kept (Kept.rows3 _ gL _ _ _) (by simp; omega), HK5.out.trans (Kept.rows3 _ gL _ _ _) (fun q hq => .inr (by simp at hq; omega))⟩
        · go_simp
          go_at_call 62
          refine (pick_any B R (P + 1) (by omega) 60 (by omega) _ HR3.out).mono ?_
          rintro e W4 ⟨y, rfl, hy0, hy, hr, hk⟩
          refine hK.out _ _ trivial (fun hHeld => ?_)
          clear hK K
          try simp only [Act.put, List.setIfInBounds_toArray, List.set_cons_zero, List.set_cons_succ]
          have hy8 : y < 60 := by omega
          have HR4 := Lib.hid hr
          have HK4 := Lib.hid (HK3.out.trans hk (by simp))
          have HA := Lib.hid (HA.out.kept hk (by simp; exact hAR))
          clear hr hk hy
          obtain ⟨d0, d1⟩ := tdiv_small hy0 (show y ≤ 100 by omega) (d := 59) (by omega)
          refine wpAnyH_take (i := 7) (v := ?_) (opAt_lst3 rfl) (by kernel_rfl) (by kernel_rfl) (by kernel_rfl) (fun _ _ _ h => h) (Or.inl ⟨by rfl, ?_⟩) (by assumption) ?_
          rotate_left
          · intro w9 hSw
            (try dsimp only at hSw)
            go_simp
            try with_reducible rfl
          try simp only [Act.put, List.setIfInBounds_toArray, List.set_cons_zero, List.set_cons_succ]
          refine wpAnyH_take (i := 8) (v := ?_) (opAt_lst3 rfl) (by kernel_rfl) (by kernel_rfl) (by kernel_rfl) (fun _ _ _ h => h) (Or.inl ⟨by rfl, ?_⟩) (by assumption) ?_
          rotate_left
          · intro w9 hSw
            (try dsimp only at hSw)
            go_simp
            try with_reducible rfl
          try simp only [Act.put, List.setIfInBounds_toArray, List.set_cons_zero, List.set_cons_succ]
          refine wpAnyH_ready (rs := [4, 11]) (by kernel_rfl) (by simp) ?_
          refine (AllReadyH.cons (opAt_lst3 rfl) (fun K hK => ?_) (AllReadyH.cons (opAt_lst3 rfl) (fun K hK => ?_) AllReadyH.nil))
          · obtain ⟨kx, hkx, kx0, kx4⟩ := eight_at HA.out z hz8'
            go_simp
            refine hK.out _ _ trivial (fun hHeld => ?_)
            clear hK K
            try simp only [Act.put, List.setIfInBounds_toArray, List.set_cons_zero, List.set_cons_succ]
            clear hkx
            refine wpAnyH_take (i := 9) (v := ?_) (opAt_lst3 rfl) (by kernel_rfl) (by kernel_rfl) (by kernel_rfl) (fun _ _ _ h => h) (Or.inl ⟨by rfl, ?_⟩) (by assumption) ?_
            rotate_left
            · intro w9 hSw
              (try dsimp only at hSw)
              go_simp
              try with_reducible rfl
            try simp only [Act.put, List.setIfInBounds_toArray, List.set_cons_zero, List.set_cons_succ]
            refine wpAnyH_take (i := 10) (v := ?_) (opAt_lst3 rfl) (by kernel_rfl) (by kernel_rfl) (by kernel_rfl) (fun _ _ _ h => h) (Or.inl ⟨by rfl, ?_⟩) (by assumption) ?_
            rotate_left
            · intro w9 hSw
              (try dsimp only at hSw)
              go_simp
              try with_reducible rfl
            try simp only [Act.put, List.setIfInBounds_toArray, List.set_cons_zero, List.set_cons_succ]
            refine wpAnyH_ready (rs := [11]) (by kernel_rfl) (by simp) ?_
            refine (AllReadyH.cons (opAt_lst3 rfl) (fun K hK => ?_) AllReadyH.nil)
            · go_simp
              have hka : Kept [] W4 (W4.alloc (.cells #[.int .i64 0, .int .i64 0, .int .i64 0] 36)) := (Kept.refl _ _).alloc _
              have HL := Lib.hid (Bk.new W4 36 #[.int .i64 0, .int .i64 0, .int .i64 0])
              refine hK.out _ _ trivial (fun hHeld => ?_)
              clear hK K
              try simp only [Act.put, List.setIfInBounds_toArray, List.set_cons_zero, List.set_cons_succ]
              obtain ⟨gL, hgL⟩ : ∃ g, g = W4.heap.size := ⟨_, rfl⟩
              have hLR : gL ≠ R := by have := HR4.out.lt; omega
              have hLW : W0.heap.size ≤ gL := by have := HK4.out.size; omega
              have HR5 := Lib.hid (HR4.out.kept hka (by simp))
              have HK5 := Lib.hid (HK4.out.trans hka (by simp))
              have HA := Lib.hid (HA.out.stay hka)
              generalize W4.alloc (.cells #[.int .i64 0, .int .i64 0, .int .i64 0] 36) = W5 at *
              rw [← hgL] at HL ⊢
              clear hgL hka
              refine wpAnyH_ready (rs := [12]) (by kernel_rfl) (by simp) ?_
              refine AllReadyH.cons (opAt_lst3 rfl) (fun K hK => ?_) AllReadyH.nil
              obtain ⟨l0, l1, l2⟩ := HL.out.three
              have f0 := HL.out.frozen 0
              have f1 := HL.out.frozen 1
              have f2 := HL.out.frozen 2
              have hll := HL.out.lt
              go_simp
              refine hK.out _ _ trivial (fun hHeld => ?_)
              clear hK K
              try simp only [Act.put, List.setIfInBounds_toArray, List.set_cons_zero, List.set_cons_succ]
              refine wpAnyH_done (by kernel_rfl) ?_ _
              go_wp2_with fail
              go_meet
              exact ⟨gL, _, rfl, HL.out.set3 _ _ _, hLR, hLW, HR5.out.kept (Kept.rows3 _ gL _ _ _) (by simp; omega), HK5.out.trans (Kept.rows3 _ gL _ _ _) (fun q hq => .inr (by simp at hq; omega))⟩
          · go_simp
            have hka : Kept [] W4 (W4.alloc (.cells #[.int .i64 0, .int .i64 0, .int .i64 0] 36)) := (Kept.refl _ _).alloc _
            have HL := Lib.hid (Bk.new W4 36 #[.int .i64 0, .int .i64 0, .int .i64 0])
            refine hK.out _ _ trivial (fun hHeld => ?_)
            clear hK K
            try simp only [Act.put, List.setIfInBounds_toArray, List.set_cons_zero, List.set_cons_succ]
            obtain ⟨gL, hgL⟩ : ∃ g, g = W4.heap.size := ⟨_, rfl⟩
            have hLR : gL ≠ R := by have := HR4.out.lt; omega
            have hLW : W0.heap.size ≤ gL := by have := HK4.out.size; omega
            have HR5 := Lib.hid (HR4.out.kept hka (by simp))
            have HK5 := Lib.hid (HK4.out.trans hka (by simp))
            have HA := Lib.hid (HA.out.stay hka)
            generalize W4.alloc (.cells #[.int .i64 0, .int .i64 0, .int .i64 0] 36) = W5 at *
            rw [← hgL] at HL ⊢
            clear hgL hka
            refine wpAnyH_ready (rs := [4]) (by kernel_rfl) (by simp) ?_
            refine (AllReadyH.cons (opAt_lst3 rfl) (fun K hK => ?_) AllReadyH.nil)
            · obtain ⟨kx, hkx, kx0, kx4⟩ := eight_at HA.out z hz8'
              go_simp
              refine hK.out _ _ trivial (fun hHeld => ?_)
              clear hK K
              try simp only [Act.put, List.setIfInBounds_toArray, List.set_cons_zero, List.set_cons_succ]
              clear hkx
              refine wpAnyH_take (i := 9) (v := ?_) (opAt_lst3 rfl) (by kernel_rfl) (by kernel_rfl) (by kernel_rfl) (fun _ _ _ h => h) (Or.inl ⟨by rfl, ?_⟩) (by assumption) ?_
              rotate_left
              · intro w9 hSw
                (try dsimp only at hSw)
                go_simp
                try with_reducible rfl
              try simp only [Act.put, List.setIfInBounds_toArray, List.set_cons_zero, List.set_cons_succ]
              refine wpAnyH_take (i := 10) (v := ?_) (opAt_lst3 rfl) (by kernel_rfl) (by kernel_rfl) (by kernel_rfl) (fun _ _ _ h => h) (Or.inl ⟨by rfl, ?_⟩) (by assumption) ?_
              rotate_left
              · intro w9 hSw
                (try dsimp only at hSw)
                go_simp
                try with_reducible rfl
              try simp only [Act.put, List.setIfInBounds_toArray, List.set_cons_zero, List.set_cons_succ]
              refine wpAnyH_ready (rs := [12]) (by kernel_rfl) (by simp) ?_
              refine AllReadyH.cons (opAt_lst3 rfl) (fun K hK => ?_) AllReadyH.nil
              obtain ⟨l0, l1, l2⟩ := HL.out.three
              have f0 := HL.out.frozen 0
              have f1 := HL.out.frozen 1
              have f2 := HL.out.frozen 2
              have hll := HL.out.lt
              go_simp
              refine hK.out _ _ trivial (fun hHeld => ?_)
              clear hK K
              try simp only [Act.put, List.setIfInBounds_toArray, List.set_cons_zero, List.set_cons_succ]
              refine wpAnyH_done (by kernel_rfl) ?_ _
              go_wp2_with fail
              go_meet
              exact ⟨gL, _, rfl, HL.out.set3 _ _ _, hLR, hLW, HR5.out.kept (Kept.rows3 _ gL _ _ _) (by simp; omega), HK5.out.trans (Kept.rows3 _ gL _ _ _) (fun q hq => .inr (by simp at hq; omega))⟩
        · go_simp
          have hka : Kept [] W3 (W3.alloc (.cells #[.int .i64 0, .int .i64 0, .int .i64 0] 36)) := (Kept.refl _ _).alloc _
          have HL := Lib.hid (Bk.new W3 36 #[.int .i64 0, .int .i64 0, .int .i64 0])
          refine hK.out _ _ trivial (fun hHeld => ?_)
          clear hK K
          try simp only [Act.put, List.setIfInBounds_toArray, List.set_cons_zero, List.set_cons_succ]
          obtain ⟨gL, hgL⟩ : ∃ g, g = W3.heap.size := ⟨_, rfl⟩
          have hLR : gL ≠ R := by have := HR3.out.lt; omega
          have hLW : W0.heap.size ≤ gL := by have := HK3.out.size; omega
          have HR4 := Lib.hid (HR3.out.kept hka (by simp))
          have HK4 := Lib.hid (HK3.out.trans hka (by simp))
          have HA := Lib.hid (HA.out.stay hka)
          generalize W3.alloc (.cells #[.int .i64 0, .int .i64 0, .int .i64 0] 36) = W4 at *
          rw [← hgL] at HL ⊢
          clear hgL hka
          refine wpAnyH_ready (rs := [4, 6]) (by kernel_rfl) (by simp) ?_
          refine (AllReadyH.cons (opAt_lst3 rfl) (fun K hK => ?_) (AllReadyH.cons (opAt_lst3 rfl) (fun K hK => ?_) AllReadyH.nil))
          · obtain ⟨kx, hkx, kx0, kx4⟩ := eight_at HA.out z hz8'
            go_simp
            refine hK.out _ _ trivial (fun hHeld => ?_)
            clear hK K
            try simp only [Act.put, List.setIfInBounds_toArray, List.set_cons_zero, List.set_cons_succ]
            clear hkx
            refine wpAnyH_ready (rs := [6]) (by kernel_rfl) (by simp) ?_
            refine (AllReadyH.cons (opAt_lst3 rfl) (fun K hK => ?_) AllReadyH.nil)
            · go_simp
              go_at_call 62
              refine (pick_any B R (P + 1) (by omega) 60 (by omega) _ HR4.out).mono ?_
              rintro e W5 ⟨y, rfl, hy0, hy, hr, hk⟩
              refine hK.out _ _ trivial (fun hHeld => ?_)
              clear hK K
              try simp only [Act.put, List.setIfInBounds_toArray, List.set_cons_zero, List.set_cons_succ]
              have hy8 : y < 60 := by omega
              have HR5 := Lib.hid hr
              have HK5 := Lib.hid (HK4.out.trans hk (by simp))
              have HA := Lib.hid (HA.out.kept hk (by simp; exact hAR))
              have HL := Lib.hid (HL.out.kept hk (by simp; exact hLR))
              clear hr hk hy
              obtain ⟨d0, d1⟩ := tdiv_small hy0 (show y ≤ 100 by omega) (d := 59) (by omega)
              refine wpAnyH_take (i := 7) (v := ?_) (opAt_lst3 rfl) (by kernel_rfl) (by kernel_rfl) (by kernel_rfl) (fun _ _ _ h => h) (Or.inl ⟨by rfl, ?_⟩) (by assumption) ?_
              rotate_left
              · intro w9 hSw
                (try dsimp only at hSw)
                go_simp
                try with_reducible rfl
              try simp only [Act.put, List.setIfInBounds_toArray, List.set_cons_zero, List.set_cons_succ]
              refine wpAnyH_take (i := 8) (v := ?_) (opAt_lst3 rfl) (by kernel_rfl) (by kernel_rfl) (by kernel_rfl) (fun _ _ _ h => h) (Or.inl ⟨by rfl, ?_⟩) (by assumption) ?_
              rotate_left
              · intro w9 hSw
                (try dsimp only at hSw)
                go_simp
                try with_reducible rfl
              try simp only [Act.put, List.setIfInBounds_toArray, List.set_cons_zero, List.set_cons_succ]
              refine wpAnyH_take (i := 9) (v := ?_) (opAt_lst3 rfl) (by kernel_rfl) (by kernel_rfl) (by kernel_rfl) (fun _ _ _ h => h) (Or.inl ⟨by rfl, ?_⟩) (by assumption) ?_
              rotate_left
              · intro w9 hSw
                (try dsimp only at hSw)
                go_simp
                try with_reducible rfl
              try simp only [Act.put, List.setIfInBounds_toArray, List.set_cons_zero, List.set_cons_succ]
              refine wpAnyH_take (i := 10) (v := ?_) (opAt_lst3 rfl) (by kernel_rfl) (by kernel_rfl) (by kernel_rfl) (fun _ _ _ h => h) (Or.inl ⟨by rfl, ?_⟩) (by assumption) ?_
              rotate_left
              · intro w9 hSw
                (try dsimp only at hSw)
                go_simp
                try with_reducible rfl
              try simp only [Act.put, List.setIfInBounds_toArray, List.set_cons_zero, List.set_cons_succ]
              refine wpAnyH_ready (rs := [12]) (by kernel_rfl) (by simp) ?_
              refine AllReadyH.cons (opAt_lst3 rfl) (fun K hK => ?_) AllReadyH.nil
              obtain ⟨l0, l1, l2⟩ := HL.out.three
              have f0 := HL.out.frozen 0
              have f1 := HL.out.frozen 1
              have f2 := HL.out.frozen 2
              have hll := HL.out.lt
              go_simp
              refine hK.out _ _ trivial (fun hHeld => ?_)
              clear hK K
              try simp only [Act.put, List.setIfInBounds_toArray, List.set_cons_zero, List.set_cons_succ]
              refine wpAnyH_done (by kernel_rfl) ?_ _
              go_wp2_with fail
              go_meet
              exact ⟨gL, _, rfl, HL.out.set3 _ _ _, hLR, hLW, HR5.out.kept (Kept.rows3 _ gL _ _ _) (by simp; omega), HK5.out.trans (Kept.rows3 _ gL _ _ _) (fun q hq => .inr (by simp at hq; omega))⟩
          · go_simp
            go_at_call 62
            refine (pick_any B R (P + 1) (by omega) 60 (by omega) _ HR4.out).mono ?_
            rintro e W5 ⟨y, rfl, hy0, hy, hr, hk⟩
            refine hK.out _ _ trivial (fun hHeld => ?_)
            clear hK K
            try simp only [Act.put, List.setIfInBounds_toArray, List.set_cons_zero, List.set_cons_succ]
            have hy8 : y < 60 := by omega
            have HR5 := Lib.hid hr
            have HK5 := Lib.hid (HK4.out.trans hk (by simp))
            have HA := Lib.hid (HA.out.kept hk (by simp; exact hAR))
            have HL := Lib.hid (HL.out.kept hk (by simp; exact hLR))
            clear hr hk hy
            obtain ⟨d0, d1⟩ := tdiv_small hy0 (show y ≤ 100 by omega) (d := 59) (by omega)
            refine wpAnyH_take (i := 7) (v := ?_) (opAt_lst3 rfl) (by kernel_rfl) (by kernel_rfl) (by kernel_rfl) (fun _ _ _ h => h) (Or.inl ⟨by rfl, ?_⟩) (by assumption) ?_
            rotate_left
            · intro w9 hSw
              (try dsimp only at hSw)
              go_simp
              try with_reducible rfl
            try simp only [Act.put, List.setIfInBounds_toArray, List.set_cons_zero, List.set_cons_succ]
            refine wpAnyH_take (i := 8) (v := ?_) (opAt_lst3 rfl) (by kernel_rfl) (by kernel_rfl) (by kernel_rfl) (fun _ _ _ h => h) (Or.inl ⟨by rfl, ?_⟩) (by assumption) ?_
            rotate_left
            · intro w9 hSw
              (try dsimp only at hSw)
              go_simp
              try with_reducible rfl
            try simp only [Act.put, List.setIfInBounds_toArray, List.set_cons_zero, List.set_cons_succ]
            refine wpAnyH_ready (rs := [4]) (by kernel_rfl) (by simp) ?_
            refine (AllReadyH.cons (opAt_lst3 rfl) (fun K hK => ?_) AllReadyH.nil)
            · obtain ⟨kx, hkx, kx0, kx4⟩ := eight_at HA.out z hz8'
              go_simp
              refine hK.out _ _ trivial (fun hHeld => ?_)
              clear hK K
              try simp only [Act.put, List.setIfInBounds_toArray, List.set_cons_zero, List.set_cons_succ]
              clear hkx
              refine wpAnyH_take (i := 9) (v := ?_) (opAt_lst3 rfl) (by kernel_rfl) (by kernel_rfl) (by kernel_rfl) (fun _ _ _ h => h) (Or.inl ⟨by rfl, ?_⟩) (by assumption) ?_
              rotate_left
              · intro w9 hSw
                (try dsimp only at hSw)
                go_simp
                try with_reducible rfl
              try simp only [Act.put, List.setIfInBounds_toArray, List.set_cons_zero, List.set_cons_succ]
              refine wpAnyH_take (i := 10) (v := ?_) (opAt_lst3 rfl) (by kernel_rfl) (by kernel_rfl) (by kernel_rfl) (fun _ _ _ h => h) (Or.inl ⟨by rfl, ?_⟩) (by assumption) ?_
              rotate_left
              · intro w9 hSw
                (try dsimp only at hSw)
                go_simp
                try with_reducible rfl
              try simp only [Act.put, List.setIfInBounds_toArray, List.set_cons_zero, List.set_cons_succ]
              refine wpAnyH_ready (rs := [12]) (by kernel_rfl) (by simp) ?_
              refine AllReadyH.cons (opAt_lst3 rfl) (fun K hK => ?_) AllReadyH.nil
              obtain ⟨l0, l1, l2⟩ := HL.out.three
              have f0 := HL.out.frozen 0
              have f1 := HL.out.frozen 1
              have f2 := HL.out.frozen 2
              have hll := HL.out.lt
              go_simp
              refine hK.out _ _ trivial (fun hHeld => ?_)
              clear hK K
              try simp only [Act.put, List.setIfInBounds_toArray, List.set_cons_zero, List.set_cons_succ]
              refine wpAnyH_done (by kernel_rfl) ?_ _
              go_wp2_with fail
              go_meet
              exact ⟨gL, _, rfl, HL.out.set3 _ _ _, hLR, hLW, HR5.out.kept (Kept.rows3 _ gL _ _ _) (by simp; omega), HK5.out.trans (Kept.rows3 _ gL _ _ _) (fun q hq => .inr (by simp at hq; omega))⟩
      · go_simp
        have hka : Kept [] W2 (W2.alloc (.cells #[.int .i64 0, .int .i64 0, .int .i64 0] 36)) := (Kept.refl _ _).alloc _
        have HL := Lib.hid (Bk.new W2 36 #[.int .i64 0, .int .i64 0, .int .i64 0])
        refine hK.out _ _ trivial (fun hHeld => ?_)
        clear hK K
        try simp only [Act.put, List.setIfInBounds_toArray, List.set_cons_zero, List.set_cons_succ]
        obtain ⟨gL, hgL⟩ : ∃ g, g = W2.heap.size := ⟨_, rfl⟩
        have hLR : gL ≠ R := by have := HR2.out.lt; omega
        have hLW : W0.heap.size ≤ gL := by have := HK2.out.size; omega
        have HR3 := Lib.hid (HR2.out.kept hka (by simp))
        have HK3 := Lib.hid (HK2.out.trans hka (by simp))
        have HA := Lib.hid (HA.out.stay hka)
        generalize W2.alloc (.cells #[.int .i64 0, .int .i64 0, .int .i64 0] 36) = W3 at *
        rw [← hgL] at HL ⊢
        clear hgL hka
        refine wpAnyH_ready (rs := [2]) (by kernel_rfl) (by simp) ?_
        refine (AllReadyH.cons (opAt_lst3 rfl) (fun K hK => ?_) AllReadyH.nil)
        · go_simp
          go_at_call 62
          refine (pick_any B R P (by omega) 8 (by omega) _ HR3.out).mono ?_
          rintro e W4 ⟨z, rfl, hz0, hz, hr, hk⟩
          refine hK.out _ _ trivial (fun hHeld => ?_)
          clear hK K
          try simp only [Act.put, List.setIfInBounds_toArray, List.set_cons_zero, List.set_cons_succ]
          have hz8 : z < 8 := by omega
          have HR4 := Lib.hid hr
          have HK4 := Lib.hid (HK3.out.trans hk (by simp))
          have HA := Lib.hid (HA.out.kept hk (by simp; exact hAR))
          have HL := Lib.hid (HL.out.kept hk (by simp; exact hLR))
          clear hr hk hz
          obtain ⟨z, rfl⟩ := Int.eq_ofNat_of_zero_le hz0
          have hz8' : z < 8 := by omega
          refine wpAnyH_take (i := 3) (v := ?_) (opAt_lst3 rfl) (by kernel_rfl) (by kernel_rfl) (by kernel_rfl) (fun _ _ _ h => h) (Or.inl ⟨by rfl, ?_⟩) (by assumption) ?_
          rotate_left
          · intro w9 hSw
            (try dsimp only at hSw)
            go_simp
            try with_reducible rfl
          try simp only [Act.put, List.setIfInBounds_toArray, List.set_cons_zero, List.set_cons_succ]
          refine wpAnyH_ready (rs := [4, 6]) (by kernel_rfl) (by simp) ?_
          refine (AllReadyH.cons (opAt_lst3 rfl) (fun K hK => ?_) (AllReadyH.cons (opAt_lst3 rfl) (fun K hK => ?_) AllReadyH.nil))
          · obtain ⟨kx, hkx, kx0, kx4⟩ := eight_at HA.out z hz8'
            go_simp
            refine hK.out _ _ trivial (fun hHeld => ?_)
            clear hK K
            try simp only [Act.put, List.setIfInBounds_toArray, List.set_cons_zero, List.set_cons_succ]
            clear hkx
            refine wpAnyH_ready (rs := [6]) (by kernel_rfl) (by simp) ?_
            refine (AllReadyH.cons (opAt_lst3 rfl) (fun K hK => ?_) AllReadyH.nil)
            · go_simp
              go_at_call 62
              refine (pick_any B R (P + 1) (by omega) 60 (by omega) _ HR4.out).mono ?_
              rintro e W5 ⟨y, rfl, hy0, hy, hr, hk⟩
              refine hK.out _ _ trivial (fun hHeld => ?_)
              clear hK K
              try simp only [Act.put, List.setIfInBounds_toArray, List.set_cons_zero, List.set_cons_succ]
              have hy8 : y < 60 := by omega
              have HR5 := Lib.hid hr
              have HK5 := Lib.hid (HK4.out.trans hk (by simp))
              have HA := Lib.hid (HA.out.kept hk (by simp; exact hAR))
              have HL := Lib.hid (HL.out.kept hk (by simp; exact hLR))
              clear hr hk hy
              obtain ⟨d0, d1⟩ := tdiv_small hy0 (show y ≤ 100 by omega) (d := 59) (by omega)
              refine wpAnyH_take (i := 7) (v := ?_) (opAt_lst3 rfl) (by kernel_rfl) (by kernel_rfl) (by kernel_rfl) (fun _ _ _ h => h) (Or.inl ⟨by rfl, ?_⟩) (by assumption) ?_
              rotate_left
              · intro w9 hSw
                (try dsimp only at hSw)
                go_simp
                try with_reducible rfl
              try simp only [Act.put, List.setIfInBounds_toArray, List.set_cons_zero, List.set_cons_succ]
              refine wpAnyH_take (i := 8) (v := ?_) (opAt_lst3 rfl) (by kernel_rfl) (by kernel_rfl) (by kernel_rfl) (fun _ _ _ h => h) (Or.inl ⟨by rfl, ?_⟩) (by assumption) ?_
              rotate_left
              · intro w9 hSw
                (try dsimp only at hSw)
                go_simp
                try with_reducible rfl
              try simp only [Act.put, List.setIfInBounds_toArray, List.set_cons_zero, List.set_cons_succ]
              refine wpAnyH_take (i := 9) (v := ?_) (opAt_lst3 rfl) (by kernel_rfl) (by kernel_rfl) (by kernel_rfl) (fun _ _ _ h => h) (Or.inl ⟨by rfl, ?_⟩) (by assumption) ?_
              rotate_left
              · intro w9 hSw
                (try dsimp only at hSw)
                go_simp
                try with_reducible rfl
              try simp only [Act.put, List.setIfInBounds_toArray, List.set_cons_zero, List.set_cons_succ]
              refine wpAnyH_take (i := 10) (v := ?_) (opAt_lst3 rfl) (by kernel_rfl) (by kernel_rfl) (by kernel_rfl) (fun _ _ _ h => h) (Or.inl ⟨by rfl, ?_⟩) (by assumption) ?_
              rotate_left
              · intro w9 hSw
                (try dsimp only at hSw)
                go_simp
                try with_reducible rfl
              try simp only [Act.put, List.setIfInBounds_toArray, List.set_cons_zero, List.set_cons_succ]
              refine wpAnyH_ready (rs := [12]) (by kernel_rfl) (by simp) ?_
              refine AllReadyH.cons (opAt_lst3 rfl) (fun K hK => ?_) AllReadyH.nil
              obtain ⟨l0, l1, l2⟩ := HL.out.three
              have f0 := HL.out.frozen 0
              have f1 := HL.out.frozen 1
              have f2 := HL.out.frozen 2
              have hll := HL.out.lt
              go_simp
              refine hK.out _ _ trivial (fun hHeld => ?_)
              clear hK K
              try simp only [Act.put, List.setIfInBounds_toArray, List.set_cons_zero, List.set_cons_succ]
              refine wpAnyH_done (by kernel_rfl) ?_ _
              go_wp2_with fail
              go_meet
              exact ⟨gL, _, rfl, HL.out.set3 _ _ _, hLR, hLW, HR5.out.kept (Kept.rows3 _ gL _ _ _) (by simp; omega), HK5.out.trans (Kept.rows3 _ gL _ _ _) (fun q hq => .inr (by simp at hq; omega))⟩
          · go_simp
            go_at_call 62
            refine (pick_any B R (P + 1) (by omega) 60 (by omega) _ HR4.out).mono ?_
            rintro e W5 ⟨y, rfl, hy0, hy, hr, hk⟩
            refine hK.out _ _ trivial (fun hHeld => ?_)
            clear hK K
            try simp only [Act.put, List.setIfInBounds_toArray, List.set_cons_zero, List.set_cons_succ]
            have hy8 : y < 60 := by omega
            have HR5 := Lib.hid hr
            have HK5 := Lib.hid (HK4.out.trans hk (by simp))
            have HA := Lib.hid (HA.out.kept hk (by simp; exact hAR))
            have HL := Lib.hid (HL.out.kept hk (by simp; exact hLR))
            clear hr hk hy
            obtain ⟨d0, d1⟩ := tdiv_small hy0 (show y ≤ 100 by omega) (d := 59) (by omega)
            refine wpAnyH_take (i := 7) (v := ?_) (opAt_lst3 rfl) (by kernel_rfl) (by kernel_rfl) (by kernel_rfl) (fun _ _ _ h => h) (Or.inl ⟨by rfl, ?_⟩) (by assumption) ?_
            rotate_left
            · intro w9 hSw
              (try dsimp only at hSw)
              go_simp
              try with_reducible rfl
            try simp only [Act.put, List.setIfInBounds_toArray, List.set_cons_zero, List.set_cons_succ]
            refine wpAnyH_take (i := 8) (v := ?_) (opAt_lst3 rfl) (by kernel_rfl) (by kernel_rfl) (by kernel_rfl) (fun _ _ _ h => h) (Or.inl ⟨by rfl, ?_⟩) (by assumption) ?_
            rotate_left
            · intro w9 hSw
              (try dsimp only at hSw)
              go_simp
              try with_reducible rfl
            try simp only [Act.put, List.setIfInBounds_toArray, List.set_cons_zero, List.set_cons_succ]
            refine wpAnyH_ready (rs := [4]) (by kernel_rfl) (by simp) ?_
            refine (AllReadyH.cons (opAt_lst3 rfl) (fun K hK => ?_) AllReadyH.nil)
            · obtain ⟨kx, hkx, kx0, kx4⟩ := eight_at HA.out z hz8'
              go_simp
              refine hK.out _ _ trivial (fun hHeld => ?_)
              clear hK K
              try simp only [Act.put, List.setIfInBounds_toArray, List.set_cons_zero, List.set_cons_succ]
              clear hkx
              refine wpAnyH_take (i := 9) (v := ?_) (opAt_lst3 rfl) (by kernel_rfl) (by kernel_rfl) (by kernel_rfl) (fun _ _ _ h => h) (Or.inl ⟨by rfl, ?_⟩) (by assumption) ?_
              rotate_left
              · intro w9 hSw
                (try dsimp only at hSw)
                go_simp
                try with_reducible rfl
              try simp only [Act.put, List.setIfInBounds_toArray, List.set_cons_zero, List.set_cons_succ]
              refine wpAnyH_take (i := 10) (v := ?_) (opAt_lst3 rfl) (by kernel_rfl) (by kernel_rfl) (by kernel_rfl) (fun _ _ _ h => h) (Or.inl ⟨by rfl, ?_⟩) (by assumption) ?_
              rotate_left
              · intro w9 hSw
                (try dsimp only at hSw)
                go_simp
                try with_reducible rfl
              try simp only [Act.put, List.setIfInBounds_toArray, List.set_cons_zero, List.set_cons_succ]
              refine wpAnyH_ready (rs := [12]) (by kernel_rfl) (by simp) ?_
              refine AllReadyH.cons (opAt_lst3 rfl) (fun K hK => ?_) AllReadyH.nil
              obtain ⟨l0, l1, l2⟩ := HL.out.three
              have f0 := HL.out.frozen 0
              have f1 := HL.out.frozen 1
              have f2 := HL.out.frozen 2
              have hll := HL.out.lt
              go_simp
              refine hK.out _ _ trivial (fun hHeld => ?_)
              clear hK K
              try simp only [Act.put, List.setIfInBounds_toArray, List.set_cons_zero, List.set_cons_succ]
              refine wpAnyH_done (by kernel_rfl) ?_ _
              go_wp2_with fail
              go_meet
              exact ⟨gL, _, rfl, HL.out.set3 _ _ _, hLR, hLW, HR5.out.kept (Kept.rows3 _ gL _ _ _) (by simp; omega), HK5.out.trans (Kept.rows3 _ gL _ _ _) (fun q hq => .inr (by simp at hq; omega))⟩
    · go_simp
      go_at_call 62
      refine (pick_any B R P (by omega) 8 (by omega) _ HR1.out).mono ?_
      rintro e W2 ⟨z, rfl, hz0, hz, hr, hk⟩
      refine hK.out _ _ trivial (fun hHeld => ?_)
      clear hK K
      try simp only [Act.put, List.setIfInBounds_toArray, List.set_cons_zero, List.set_cons_succ]
      have hz8 : z < 8 := by omega
      have HR2 := Lib.hid hr
      have HK2 := Lib.hid (HK1.out.trans hk (by simp))
      clear hr hk hz
      obtain ⟨z, rfl⟩ := Int.eq_ofNat_of_zero_le hz0
      have hz8' : z < 8 := by omega
      refine wpAnyH_ready (rs := [0, 6, 11]) (by kernel_rfl) (by simp) ?_
      refine (AllReadyH.cons (opAt_lst3 rfl) (fun K hK => ?_) (AllReadyH.cons (opAt_lst3 rfl) (fun K hK => ?_) (AllReadyH.cons (opAt_lst3 rfl) (fun K hK => ?_) AllReadyH.nil)))
      · go_simp
        have hka : Kept [] W2 (W2.alloc (.cells #[.int .i64 0, .int .i64 0, .int .i64 1, .int .i64 1, .int .i64 2, .int .i64 2, .int .i64 3, .int .i64 4] 3)) := (Kept.refl _ _).alloc _
        have HA := Lib.hid (Bk.new W2 3 #[.int .i64 0, .int .i64 0, .int .i64 1, .int .i64 1, .int .i64 2, .int .i64 2, .int .i64 3, .int .i64 4])
        refine hK.out _ _ trivial (fun hHeld => ?_)
        clear hK K
        try simp only [Act.put, List.setIfInBounds_toArray, List.set_cons_zero, List.set_cons_succ]
        obtain ⟨gA, hgA⟩ : ∃ g, g = W2.heap.size := ⟨_, rfl⟩
        have hAR : gA ≠ R := by have := HR2.out.lt; omega
        have HR3 := Lib.hid (HR2.out.kept hka (by simp))
        have HK3 := Lib.hid (HK2.out.trans hka (by simp))
        generalize W2.alloc (.cells #[.int .i64 0, .int .i64 0, .int .i64 1, .int .i64 1, .int .i64 2, .int .i64 2, .int .i64 3, .int .i64 4] 3) = W3 at *
        rw [← hgA] at HA ⊢
        clear hgA hka
        refine wpAnyH_take (i := 3) (v := ?_) (opAt_lst3 rfl) (by kernel_rfl) (by kernel_rfl) (by kernel_rfl) (fun _ _ _ h => h) (Or.inl ⟨by rfl, ?_⟩) (by assumption) ?_
        rotate_left
        · intro w9 hSw
          (try dsimp only at hSw)
          go_simp
          try with_reducible rfl
        try simp only [Act.put, List.setIfInBounds_toArray, List.set_cons_zero, List.set_cons_succ]
        refine wpAnyH_ready (rs := [4, 6, 11]) (by kernel_rfl) (by simp) ?_
        refine (AllReadyH.cons (opAt_lst3 rfl) (fun K hK => ?_) (AllReadyH.cons (opAt_lst3 rfl) (fun K hK => ?_) (AllReadyH.cons (opAt_lst3 rfl) (fun K hK => ?_) AllReadyH.nil)))
        · obtain ⟨kx, hkx, kx0, kx4⟩ := eight_at HA.out z hz8'
          go_simp
          refine hK.out _ _ trivial (fun hHeld => ?_)
          clear hK K
          try simp only [Act.put, List.setIfInBounds_toArray, List.set_cons_zero, List.set_cons_succ]
          clear hkx
          refine wpAnyH_ready (rs := [6, 11]) (by kernel_rfl) (by simp) ?_
          refine (AllReadyH.cons (opAt_lst3 rfl) (fun K hK => ?_) (AllReadyH.cons (opAt_lst3 rfl) (fun K hK => ?_) AllReadyH.nil))
          · go_simp
            go_at_call 62
            refine (pick_any B R (P + 1) (by omega) 60 (by omega) _ HR3.out).mono ?_
            rintro e W4 ⟨y, rfl, hy0, hy, hr, hk⟩
            refine hK.out _ _ trivial (fun hHeld => ?_)
            clear hK K
            try simp only [Act.put, List.setIfInBounds_toArray, List.set_cons_zero, List.set_cons_succ]
            have hy8 : y < 60 := by omega
            have HR4 := Lib.hid hr
            have HK4 := Lib.hid (HK3.out.trans hk (by simp))
            have HA := Lib.hid (HA.out.kept hk (by simp; exact hAR))
            clear hr hk hy
            obtain ⟨d0, d1⟩ := tdiv_small hy0 (show y ≤ 100 by omega) (d := 59) (by omega)
            refine wpAnyH_take (i := 7) (v := ?_) (opAt_lst3 rfl) (by kernel_rfl) (by kernel_rfl) (by kernel_rfl) (fun _ _ _ h => h) (Or.inl ⟨by rfl, ?_⟩) (by assumption) ?_
            rotate_left
            · intro w9 hSw
              (try dsimp only at hSw)
              go_simp
              try with_reducible rfl
            try simp only [Act.put, List.setIfInBounds_toArray, List.set_cons_zero, List.set_cons_succ]
            refine wpAnyH_take (i := 8) (v := ?_) (opAt_lst3 rfl) (by kernel_rfl) (by kernel_rfl) (by kernel_rfl) (fun _ _ _ h => h) (Or.inl ⟨by rfl, ?_⟩) (by assumption) ?_
            rotate_left
            · intro w9 hSw
              (try dsimp only at hSw)
              go_simp
              try with_reducible rfl
            try simp only [Act.put, List.setIfInBounds_toArray, List.set_cons_zero, List.set_cons_succ]
            refine wpAnyH_take (i := 9) (v := ?_) (opAt_lst3 rfl) (by kernel_rfl) (by kernel_rfl) (by kernel_rfl) (fun _ _ _ h => h) (Or.inl ⟨by rfl, ?_⟩) (by assumption) ?_
            rotate_left
            · intro w9 hSw
              (try dsimp only at hSw)
              go_simp
              try with_reducible rfl
            try simp only [Act.put, List.setIfInBounds_toArray, List.set_cons_zero, List.set_cons_succ]
            refine wpAnyH_take (i := 10) (v := ?_) (opAt_lst3 rfl) (by kernel_rfl) (by kernel_rfl) (by kernel_rfl) (fun _ _ _ h => h) (Or.inl ⟨by rfl, ?_⟩) (by assumption) ?_
            rotate_left
            · intro w9 hSw
              (try dsimp only at hSw)
              go_simp
              try with_reducible rfl
            try simp only [Act.put, List.setIfInBounds_toArray, List.set_cons_zero, List.set_cons_succ]
            refine wpAnyH_ready (rs := [11]) (by kernel_rfl) (by simp) ?_
            refine (AllReadyH.cons (opAt_lst3 rfl) (fun K hK => ?_) AllReadyH.nil)
            · go_simp
              have hka : Kept [] W4 (W4.alloc (.cells #[.int .i64 0, .int .i64 0, .int .i64 0] 36)) := (Kept.refl _ _).alloc _
              have HL := Lib.hid (Bk.new W4 36 #[.int .i64 0, .int .i64 0, .int .i64 0])
              refine hK.out _ _ trivial (fun hHeld => ?_)
              clear hK K
              try simp only [Act.put, List.setIfInBounds_toArray, List.set_cons_zero, List.set_cons_succ]
              obtain ⟨gL, hgL⟩ : ∃ g, g = W4.heap.size := ⟨_, rfl⟩
              have hLR : gL ≠ R := by have := HR4.out.lt; omega
              have hLW : W0.heap.size ≤ gL := by have := HK4.out.size; omega
              have HR5 := Lib.hid (HR4.out.kept hka (by simp))
              have HK5 := Lib.hid (HK4.out.trans hka (by simp))
              have HA := Lib.hid (HA.out.stay hka)
              generalize W4.alloc (.cells #[.int .i64 0, .int .i64 0, .int .i64 0] 36) = W5 at *
              rw [← hgL] at HL ⊢
              clear hgL hka
              refine wpAnyH_ready (rs := [12]) (by kernel_rfl) (by simp) ?_
              refine AllReadyH.cons (opAt_lst3 rfl) (fun K hK => ?_) AllReadyH.nil
              obtain ⟨l0, l1, l2⟩ := HL.out.three
              have f0 := HL.out.frozen 0
              have f1 := HL.out.frozen 1
              have f2 := HL.out.frozen 2
              have hll := HL.out.lt
              go_simp
              refine hK.out _ _ trivial (fun hHeld => ?_)
              clear hK K
              try simp only [Act.put, List.setIfInBounds_toArray, List.set_cons_zero, List.set_cons_succ]
              refine wpAnyH_done (by kernel_rfl) ?_ _
              go_wp2_with fail
              go_meet
              exact ⟨gL, _, rfl, HL.out.set3 _ _ _, hLR, hLW, HR5.out.kept (Kept.rows3 _ gL _ _ _) (by simp; omega), HK5.out.trans (Kept.rows3 _ gL _ _ _) (fun q hq => .inr (by simp at hq; omega))⟩
          · go_simp
            have hka : Kept [] W3 (W3.alloc (.cells #[.int .i64 0, .int .i64 0, .int .i64 0] 36)) := (Kept.refl _ _).alloc _
            have HL := Lib.hid (Bk.new W3 36 #[.int .i64 0, .int .i64 0, .int .i64 0])
            refine hK.out _ _ trivial (fun hHeld => ?_)
            clear hK K
            try simp only [Act.put, List.setIfInBounds_toArray, List.set_cons_zero, List.set_cons_succ]
            obtain ⟨gL, hgL⟩ : ∃ g, g = W3.heap.size := ⟨_, rfl⟩
            have hLR : gL ≠ R := by have := HR3.out.lt; omega
            have hLW : W0.heap.size ≤ gL := by have := HK3.out.size; omega
            have HR4 := Lib.hid (HR3.out.kept hka (by simp))
            have HK4 := Lib.hid (HK3.out.trans hka (by simp))
            have HA := Lib.hid (HA.out.stay hka)
            generalize W3.alloc (.cells #[.int .i64 0, .int .i64 0, .int .i64 0] 36) = W4 at *
            rw [← hgL] at HL ⊢
            clear hgL hka
            refine wpAnyH_ready (rs := [6]) (by kernel_rfl) (by simp) ?_
            refine (AllReadyH.cons (opAt_lst3 rfl) (fun K hK => ?_) AllReadyH.nil)
            · go_simp
              go_at_call 62
              refine (pick_any B R (P + 1) (by omega) 60 (by omega) _ HR4.out).mono ?_
              rintro e W5 ⟨y, rfl, hy0, hy, hr, hk⟩
              refine hK.out _ _ trivial (fun hHeld => ?_)
              clear hK K
              try simp only [Act.put, List.setIfInBounds_toArray, List.set_cons_zero, List.set_cons_succ]
              have hy8 : y < 60 := by omega
              have HR5 := Lib.hid hr
              have HK5 := Lib.hid (HK4.out.trans hk (by simp))
              have HA := Lib.hid (HA.out.kept hk (by simp; exact hAR))
              have HL := Lib.hid (HL.out.kept hk (by simp; exact hLR))
              clear hr hk hy
              obtain ⟨d0, d1⟩ := tdiv_small hy0 (show y ≤ 100 by omega) (d := 59) (by omega)
              refine wpAnyH_take (i := 7) (v := ?_) (opAt_lst3 rfl) (by kernel_rfl) (by kernel_rfl) (by kernel_rfl) (fun _ _ _ h => h) (Or.inl ⟨by rfl, ?_⟩) (by assumption) ?_
              rotate_left
              · intro w9 hSw
                (try dsimp only at hSw)
                go_simp
                try with_reducible rfl
              try simp only [Act.put, List.setIfInBounds_toArray, List.set_cons_zero, List.set_cons_succ]
              refine wpAnyH_take (i := 8) (v := ?_) (opAt_lst3 rfl) (by kernel_rfl) (by kernel_rfl) (by kernel_rfl) (fun _ _ _ h => h) (Or.inl ⟨by rfl, ?_⟩) (by assumption) ?_
              rotate_left
              · intro w9 hSw
                (try dsimp only at hSw)
                go_simp
                try with_reducible rfl
              try simp only [Act.put, List.setIfInBounds_toArray, List.set_cons_zero, List.set_cons_succ]
              refine wpAnyH_take (i := 9) (v := ?_) (opAt_lst3 rfl) (by kernel_rfl) (by kernel_rfl) (by kernel_rfl) (fun _ _ _ h => h) (Or.inl ⟨by rfl, ?_⟩) (by assumption) ?_
              rotate_left
              · intro w9 hSw
                (try dsimp only at hSw)
                go_simp
                try with_reducible rfl
              try simp only [Act.put, List.setIfInBounds_toArray, List.set_cons_zero, List.set_cons_succ]
              refine wpAnyH_take (i := 10) (v := ?_) (opAt_lst3 rfl) (by kernel_rfl) (by kernel_rfl) (by kernel_rfl) (fun _ _ _ h => h) (Or.inl ⟨by rfl, ?_⟩) (by assumption) ?_
              rotate_left
              · intro w9 hSw
                (try dsimp only at hSw)
                go_simp
                try with_reducible rfl
              try simp only [Act.put, List.setIfInBounds_toArray, List.set_cons_zero, List.set_cons_succ]
              refine wpAnyH_ready (rs := [12]) (by kernel_rfl) (by simp) ?_
              refine AllReadyH.cons (opAt_lst3 rfl) (fun K hK => ?_) AllReadyH.nil
              obtain ⟨l0, l1, l2⟩ := HL.out.three
              have f0 := HL.out.frozen 0
              have f1 := HL.out.frozen 1
              have f2 := HL.out.frozen 2
              have hll := HL.out.lt
              go_simp
              refine hK.out _ _ trivial (fun hHeld => ?_)
              clear hK K
              try simp only [Act.put, List.setIfInBounds_toArray, List.set_cons_zero, List.set_cons_succ]
              refine wpAnyH_done (by kernel_rfl) ?_ _
              go_wp2_with fail
              go_meet
              exact ⟨gL, _, rfl, HL.out.set3 _ _ _, hLR, hLW, HR5.out.kept (Kept.rows3 _ gL _ _ _) (by simp; omega), HK5.out.trans (Kept.rows3 _ gL _ _ _) (fun q hq => .inr (by simp at hq; omega))⟩
        · go_simp
          go_at_call 62
          refine (pick_any B R (P + 1) (by omega) 60 (by omega) _ HR3.out).mono ?_
          rintro e W4 ⟨y, rfl, hy0, hy, hr, hk⟩
          refine hK.out _ _ trivial (fun hHeld => ?_)
          clear hK K
          try simp only [Act.put, List.setIfInBounds_toArray, List.set_cons_zero, List.set_cons_succ]
          have hy8 : y < 60 := by omega
          have HR4 := Lib.hid hr
          have HK4 := Lib.hid (HK3.out.trans hk (by simp))
          have HA := Lib.hid (HA.out.kept hk (by simp; exact hAR))
          clear hr hk hy
          obtain ⟨d0, d1⟩ := tdiv_small hy0 (show y ≤ 100 by omega) (d := 59) (by omega)
          refine wpAnyH_take (i := 7) (v := ?_) (opAt_lst3 rfl) (by kernel_rfl) (by kernel_rfl) (by kernel_rfl) (fun _ _ _ h => h) (Or.inl ⟨by rfl, ?_⟩) (by assumption) ?_
          rotate_left
          · intro w9 hSw
            (try dsimp only at hSw)
            go_simp
            try with_reducible rfl
          try simp only [Act.put, List.setIfInBounds_toArray, List.set_cons_zero, List.set_cons_succ]
          refine wpAnyH_take (i := 8) (v := ?_) (opAt_lst3 rfl) (by kernel_rfl) (by kernel_rfl) (by kernel_rfl) (fun _ _ _ h => h) (Or.inl ⟨by rfl, ?_⟩) (by assumption) ?_
          rotate_left
          · intro w9 hSw
            (try dsimp only at hSw)
            go_simp
            try with_reducible rfl
          try simp only [Act.put, List.setIfInBounds_toArray, List.set_cons_zero, List.set_cons_succ]
          refine wpAnyH_ready (rs := [4, 11]) (by kernel_rfl) (by simp) ?_
          refine (AllReadyH.cons (opAt_lst3 rfl) (fun K hK => ?_) (AllReadyH.cons (opAt_lst3 rfl) (fun K hK => ?_) AllReadyH.nil))
          · obtain ⟨kx, hkx, kx0, kx4⟩ := eight_at HA.out z hz8'
            go_simp
            refine hK.out _ _ trivial (fun hHeld => ?_)
            clear hK K
            try simp only [Act.put, List.setIfInBounds_toArray, List.set_cons_zero, List.set_cons_succ]
            clear hkx
            refine wpAnyH_take (i := 9) (v := ?_) (opAt_lst3 rfl) (by kernel_rfl) (by kernel_rfl) (by kernel_rfl) (fun _ _ _ h => h) (Or.inl ⟨by rfl, ?_⟩) (by assumption) ?_
            rotate_left
            · intro w9 hSw
              (try dsimp only at hSw)
              go_simp
              try with_reducible rfl
            try simp only [Act.put, List.setIfInBounds_toArray, List.set_cons_zero, List.set_cons_succ]
            refine wpAnyH_take (i := 10) (v := ?_) (opAt_lst3 rfl) (by kernel_rfl) (by kernel_rfl) (by kernel_rfl) (fun _ _ _ h => h) (Or.inl ⟨by rfl, ?_⟩) (by assumption) ?_
            rotate_left
            · intro w9 hSw
              (try dsimp only at hSw)
              go_simp
              try with_reducible rfl
            try simp only [Act.put, List.setIfInBounds_toArray, List.set_cons_zero, List.set_cons_succ]
            refine wpAnyH_ready (rs := [11]) (by kernel_rfl) (by simp) ?_
            refine (AllReadyH.cons (opAt_lst3 rfl) (fun K hK => ?_) AllReadyH.nil)
            · go_simp
              have hka : Kept [] W4 (W4.alloc (.cells #[.int .i64 0, .int .i64 0, .int .i64 0] 36)) := (Kept.refl _ _).alloc _
              have HL := Lib.hid (Bk.new W4 36 #[.int .i64 0, .int .i64 0, .int .i64 0])
              refine hK.out _ _ trivial (fun hHeld => ?_)
              clear hK K
              try simp only [Act.put, List.setIfInBounds_toArray, List.set_cons_zero, List.set_cons_succ]
              obtain ⟨gL, hgL⟩ : ∃ g, g = W4.heap.size := ⟨_, rfl⟩
              have hLR : gL ≠ R := by have := HR4.out.lt; omega
              have hLW : W0.heap.size ≤ gL := by have := HK4.out.size; omega
              have HR5 := Lib.hid (HR4.out.kept hka (by simp))
              have HK5 := Lib.hid (HK4.out.trans hka (by simp))
              have HA := Lib.hid (HA.out.stay hka)
              generalize W4.alloc (.cells #[.int .i64 0, .int .i64 0, .int .i64 0] 36) = W5 at *
              rw [← hgL] at HL ⊢
              clear hgL hka
              refine wpAnyH_ready (rs := [12]) (by kernel_rfl) (by simp) ?_
              refine AllReadyH.cons (opAt_lst3 rfl) (fun K hK => ?_) AllReadyH.nil
              obtain ⟨l0, l1, l2⟩ := HL.out.three
              have f0 := HL.out.frozen 0
              have f1 := HL.out.frozen 1
              have f2 := HL.out.frozen 2
              have hll := HL.out.lt
              go_simp
              refine hK.out _ _ trivial (fun hHeld => ?_)
              clear hK K
              try simp only [Act.put, List.setIfInBounds_toArray, List.set_cons_zero, List.set_cons_succ]
              refine wpAnyH_done (by kernel_rfl) ?_ _
              go_wp2_with fail
              go_meet
              exact ⟨gL, _, rfl, HL.out.set3 _ _ _, hLR, hLW, HR5.out.kept (Kept.rows3 _ gL _ _ _) (by simp; omega), HK5.out.trans (Kept.rows3 _ gL _ _ _) (fun q hq => .inr (by simp at hq; omega))⟩
          · go_simp
            have hka : Kept [] W4 (W4.alloc (.cells #[.int .i64 0, .int .i64 0, .int .i64 0] 36)) := (Kept.refl _ _).alloc _
            have HL := Lib.hid (Bk.new W4 36 #[.int .i64 0, .int .i64 0, .int .i64 0])
            refine hK.out _ _ trivial (fun hHeld => ?_)
            clear hK K
            try simp only [Act.put, List.setIfInBounds_toArray, List.set_cons_zero, List.set_cons_succ]
            obtain ⟨gL, hgL⟩ : ∃ g, g = W4.heap.size := ⟨_, rfl⟩
            have hLR : gL ≠ R := by have := HR4.out.lt; omega
            have hLW : W0.heap.size ≤ gL := by have := HK4.out.size; omega
            have HR5 := Lib.hid (HR4.out.kept hka (by simp))
            have HK5 := Lib.hid (HK4.out.trans hka (by simp))
            have HA := Lib.hid (HA.out.stay hka)
            generalize W4.alloc (.cells #[.int .i64 0, .int .i64 0, .int .i64 0] 36) = W5 at *
            rw [← hgL] at HL ⊢
            clear hgL hka
            refine wpAnyH_ready (rs := [4]) (by kernel_rfl) (by simp) ?_
            refine (AllReadyH.cons (opAt_lst3 rfl) (fun K hK => ?_) AllReadyH.nil)
            · obtain ⟨kx, hkx, kx0, kx4⟩ := eight_at HA.out z hz8'
              go_simp
              refine hK.out _ _ trivial (fun hHeld => ?_)
              clear hK K
              try simp only [Act.put, List.setIfInBounds_toArray, List.set_cons_zero, List.set_cons_succ]
              clear hkx
              refine wpAnyH_take (i := 9) (v := ?_) (opAt_lst3 rfl) (by kernel_rfl) (by kernel_rfl) (by kernel_rfl) (fun _ _ _ h => h) (Or.inl ⟨by rfl, ?_⟩) (by assumption) ?_
              rotate_left
              · intro w9 hSw
                (try dsimp only at hSw)
                go_simp
                try with_reducible rfl
              try simp only [Act.put, List.setIfInBounds_toArray, List.set_cons_zero, List.set_cons_succ]
              refine wpAnyH_take (i := 10) (v := ?_) (opAt_lst3 rfl) (by kernel_rfl) (by kernel_rfl) (by kernel_rfl) (fun _ _ _ h => h) (Or.inl ⟨by rfl, ?_⟩) (by assumption) ?_
              rotate_left
              · intro w9 hSw
                (try dsimp only at hSw)
                go_simp
                try with_reducible rfl
              try simp only [Act.put, List.setIfInBounds_toArray, List.set_cons_zero, List.set_cons_succ]
              refine wpAnyH_ready (rs := [12]) (by kernel_rfl) (by simp) ?_
              refine AllReadyH.cons (opAt_lst3 rfl) (fun K hK => ?_) AllReadyH.nil
              obtain ⟨l0, l1, l2⟩ := HL.out.three
              have f0 := HL.out.frozen 0
              have f1 := HL.out.frozen 1
              have f2 := HL.out.frozen 2
              have hll := HL.out.lt
              go_simp
              refine hK.out _ _ trivial (fun hHeld => ?_)
              clear hK K
              try simp only [Act.put, List.setIfInBounds_toArray, List.set_cons_zero, List.set_cons_succ]
              refine wpAnyH_done (by kernel_rfl) ?_ _
              go_wp2_with fail
              go_meet
              exact ⟨gL, _, rfl, HL.out.set3 _ _ _, hLR, hLW, HR5.out.kept (Kept.rows3 _ gL _ _ _) (by simp; omega), HK5.out.trans (Kept.rows3 _ gL _ _ _) (fun q hq => .inr (by simp at hq; omega))⟩
        · go_simp
          have hka : Kept [] W3 (W3.alloc (.cells #[.int .i64 0, .int .i64 0, .int .i64 0] 36)) := (Kept.refl _ _).alloc _
          have HL := Lib.hid (Bk.new W3 36 #[.int .i64 0, .int .i64 0, .int .i64 0])
          refine hK.out _ _ trivial (fun hHeld => ?_)
          clear hK K
          try simp only [Act.put, List.setIfInBounds_toArray, List.set_cons_zero, List.set_cons_succ]
          obtain ⟨gL, hgL⟩ : ∃ g, g = W3.heap.size := ⟨_, rfl⟩
          have hLR : gL ≠ R := by have := HR3.out.lt; omega
          have hLW : W0.heap.size ≤ gL := by have := HK3.out.size; omega
          have HR4 := Lib.hid (HR3.out.kept hka (by simp))
          have HK4 := Lib.hid (HK3.out.trans hka (by simp))
          have HA := Lib.hid (HA.out.stay hka)
          generalize W3.alloc (.cells #[.int .i64 0, .int .i64 0, .int .i64 0] 36) = W4 at *
          rw [← hgL] at HL ⊢
          clear hgL hka
          refine wpAnyH_ready (rs := [4, 6]) (by kernel_rfl) (by simp) ?_
          refine (AllReadyH.cons (opAt_lst3 rfl) (fun K hK => ?_) (AllReadyH.cons (opAt_lst3 rfl) (fun K hK => ?_) AllReadyH.nil))
          · obtain ⟨kx, hkx, kx0, kx4⟩ := eight_at HA.out z hz8'
            go_simp
            refine hK.out _ _ trivial (fun hHeld => ?_)
            clear hK K
            try simp only [Act.put, List.setIfInBounds_toArray, List.set_cons_zero, List.set_cons_succ]
            clear hkx
            refine wpAnyH_ready (rs := [6]) (by kernel_rfl) (by simp) ?_
            refine (AllReadyH.cons (opAt_lst3 rfl) (fun K hK => ?_) AllReadyH.nil)
            · go_simp
              go_at_call 62
              refine (pick_any B R (P + 1) (by omega) 60 (by omega) _ HR4.out).mono ?_
              rintro e W5 ⟨y, rfl, hy0, hy, hr, hk⟩
              refine hK.out _ _ trivial (fun hHeld => ?_)
              clear hK K
              try simp only [Act.put, List.setIfInBounds_toArray, List.set_cons_zero, List.set_cons_succ]
              have hy8 : y < 60 := by omega
              have HR5 := Lib.hid hr
              have HK5 := Lib.hid (HK4.out.trans hk (by simp))
              have HA := Lib.hid (HA.out.kept hk (by simp; exact hAR))
              have HL := Lib.hid (HL.out.kept hk (by simp; exact hLR))
              clear hr hk hy
              obtain ⟨d0, d1⟩ := tdiv_small hy0 (show y ≤ 100 by omega) (d := 59) (by omega)
              refine wpAnyH_take (i := 7) (v := ?_) (opAt_lst3 rfl) (by kernel_rfl) (by kernel_rfl) (by kernel_rfl) (fun _ _ _ h => h) (Or.inl ⟨by rfl, ?_⟩) (by assumption) ?_
              rotate_left
              · intro w9 hSw
                (try dsimp only at hSw)
                go_simp
                try with_reducible rfl
              try simp only [Act.put, List.setIfInBounds_toArray, List.set_cons_zero, List.set_cons_succ]
              refine wpAnyH_take (i := 8) (v := ?_) (opAt_lst3 rfl) (by kernel_rfl) (by kernel_rfl) (by kernel_rfl) (fun _ _ _ h => h) (Or.inl ⟨by rfl, ?_⟩) (by assumption) ?_
              rotate_left
              · intro w9 hSw
                (try dsimp only at hSw)
                go_simp
                try with_reducible rfl
              try simp only [Act.put, List.setIfInBounds_toArray, List.set_cons_zero, List.set_cons_succ]
              refine wpAnyH_take (i := 9) (v := ?_) (opAt_lst3 rfl) (by kernel_rfl) (by kernel_rfl) (by kernel_rfl) (fun _ _ _ h => h) (Or.inl ⟨by rfl, ?_⟩) (by assumption) ?_
              rotate_left
              · intro w9 hSw
                (try dsimp only at hSw)
                go_simp
                try with_reducible rfl
              try simp only [Act.put, List.setIfInBounds_toArray, List.set_cons_zero, List.set_cons_succ]
              refine wpAnyH_take (i := 10) (v := ?_) (opAt_lst3 rfl) (by kernel_rfl) (by kernel_rfl) (by kernel_rfl) (fun _ _ _ h => h) (Or.inl ⟨by rfl, ?_⟩) (by assumption) ?_
              rotate_left
              · intro w9 hSw
                (try dsimp only at hSw)
                go_simp
                try with_reducible rfl
              try simp only [Act.put, List.setIfInBounds_toArray, List.set_cons_zero, List.set_cons_succ]
              refine wpAnyH_ready (rs := [12]) (by kernel_rfl) (by simp) ?_
              refine AllReadyH.cons (opAt_lst3 rfl) (fun K hK => ?_) AllReadyH.nil
              obtain ⟨l0, l1, l2⟩ := HL.out.three
              have f0 := HL.out.frozen 0
              have f1 := HL.out.frozen 1
              have f2 := HL.out.frozen 2
              have hll := HL.out.lt
              go_simp
              refine hK.out _ _ trivial (fun hHeld => ?_)
              clear hK K
              try simp only [Act.put, List.setIfInBounds_toArray, List.set_cons_zero, List.set_cons_succ]
              refine wpAnyH_done (by kernel_rfl) ?_ _
              go_wp2_with fail
              go_meet
              exact ⟨gL, _, rfl, HL.out.set3 _ _ _, hLR, hLW, HR5.out.kept (Kept.rows3 _ gL _ _ _) (by simp; omega), HK5.out.trans (Kept.rows3 _ gL _ _ _) (fun q hq => .inr (by simp at hq; omega))⟩
          · go_simp
            go_at_call 62
            refine (pick_any B R (P + 1) (by omega) 60 (by omega) _ HR4.out).mono ?_
            rintro e W5 ⟨y, rfl, hy0, hy, hr, hk⟩
            refine hK.out _ _ trivial (fun hHeld => ?_)
            clear hK K
            try simp only [Act.put, List.setIfInBounds_toArray, List.set_cons_zero, List.set_cons_succ]
            have hy8 : y < 60 := by omega
            have HR5 := Lib.hid hr
            have HK5 := Lib.hid (HK4.out.trans hk (by simp))
            have HA := Lib.hid (HA.out.kept hk (by simp; exact hAR))
            have HL := Lib.hid (HL.out.kept hk (by simp; exact hLR))
            clear hr hk hy
            obtain ⟨d0, d1⟩ := tdiv_small hy0 (show y ≤ 100 by omega) (d := 59) (by omega)
            refine wpAnyH_take (i := 7) (v := ?_) (opAt_lst3 rfl) (by kernel_rfl) (by kernel_rfl) (by kernel_rfl) (fun _ _ _ h => h) (Or.inl ⟨by rfl, ?_⟩) (by assumption) ?_
            rotate_left
            · intro w9 hSw
              (try dsimp only at hSw)
              go_simp
              try with_reducible rfl
            try simp only [Act.put, List.setIfInBounds_toArray, List.set_cons_zero, List.set_cons_succ]
            refine wpAnyH_take (i := 8) (v := ?_) (opAt_lst3 rfl) (by kernel_rfl) (by kernel_rfl) (by kernel_rfl) (fun _ _ _ h => h) (Or.inl ⟨by rfl, ?_⟩) (by assumption) ?_
            rotate_left
            · intro w9 hSw
              (try dsimp only at hSw)
              go_simp
              try with_reducible rfl
            try simp only [Act.put, List.setIfInBounds_toArray, List.set_cons_zero, List.set_cons_succ]
            refine wpAnyH_ready (rs := [4]) (by kernel_rfl) (by simp) ?_
            refine (AllReadyH.cons (opAt_lst3 rfl) (fun K hK => ?_) AllReadyH.nil)
            · obtain ⟨kx, hkx, kx0, kx4⟩ := eight_at HA.out z hz8'
              go_simp
              refine hK.out _ _ trivial (fun hHeld => ?_)
              clear hK K
              try simp only [Act.put, List.setIfInBounds_toArray, List.set_cons_zero, List.set_cons_succ]
              clear hkx
              refine wpAnyH_take (i := 9) (v := ?_) (opAt_lst3 rfl) (by kernel_rfl) (by kernel_rfl) (by kernel_rfl) (fun _ _ _ h => h) (Or.inl ⟨by rfl, ?_⟩) (by assumption) ?_
              rotate_left
              · intro w9 hSw
                (try dsimp only at hSw)
                go_simp
                try with_reducible rfl
              try simp only [Act.put, List.setIfInBounds_toArray, List.set_cons_zero, List.set_cons_succ]
              refine wpAnyH_take (i := 10) (v := ?_) (opAt_lst3 rfl) (by kernel_rfl) (by kernel_rfl) (by kernel_rfl) (fun _ _ _ h => h) (Or.inl ⟨by rfl, ?_⟩) (by assumption) ?_
              rotate_left
              · intro w9 hSw
                (try dsimp only at hSw)
                go_simp
                try with_reducible rfl
              try simp only [Act.put, List.setIfInBounds_toArray, List.set_cons_zero, List.set_cons_succ]
              refine wpAnyH_ready (rs := [12]) (by kernel_rfl) (by simp) ?_
              refine AllReadyH.cons (opAt_lst3 rfl) (fun K hK => ?_) AllReadyH.nil
              obtain ⟨l0, l1, l2⟩ := HL.out.three
              have f0 := HL.out.frozen 0
              have f1 := HL.out.frozen 1
              have f2 := HL.out.frozen 2
              have hll := HL.out.lt
              go_simp
              refine hK.out _ _ trivial (fun hHeld => ?_)
              clear hK K
              try simp only [Act.put, List.setIfInBounds_toArray, List.set_cons_zero, List.set_cons_succ]
              refine wpAnyH_done (by kernel_rfl) ?_ _
              go_wp2_with fail
              go_meet
              exact ⟨gL, _, rfl, HL.out.set3 _ _ _, hLR, hLW, HR5.out.kept (Kept.rows3 _ gL _ _ _) (by simp; omega), HK5.out.trans (Kept.rows3 _ gL _ _ _) (fun q hq => .inr (by simp at hq; omega))⟩
      · go_simp
        go_at_call 62
        refine (pick_any B R (P + 1) (by omega) 60 (by omega) _ HR2.out).mono ?_
        rintro e W3 ⟨y, rfl, hy0, hy, hr, hk⟩
        refine hK.out _ _ trivial (fun hHeld => ?_)
        clear hK K
        try simp only [Act.put, List.setIfInBounds_toArray, List.set_cons_zero, List.set_cons_succ]
        have hy8 : y < 60 := by omega
        have HR3 := Lib.hid hr
        have HK3 := Lib.hid (HK2.out.trans hk (by simp))
        clear hr hk hy
        obtain ⟨d0, d1⟩ := tdiv_small hy0 (show y ≤ 100 by omega) (d := 59) (by omega)
        refine wpAnyH_take (i := 7) (v := ?_) (opAt_lst3 rfl) (by kernel_rfl) (by kernel_rfl) (by kernel_rfl) (fun _ _ _ h => h) (Or.inl ⟨by rfl, ?_⟩) (by assumption) ?_
        rotate_left
        · intro w9 hSw
          (try dsimp only at hSw)
          go_simp
          try with_reducible rfl
        try simp only [Act.put, List.setIfInBounds_toArray, List.set_cons_zero, List.set_cons_succ]
        refine wpAnyH_take (i := 8) (v := ?_) (opAt_lst3 rfl) (by kernel_rfl) (by kernel_rfl) (by kernel_rfl) (fun _ _ _ h => h) (Or.inl ⟨by rfl, ?_⟩) (by assumption) ?_
        rotate_left
        · intro w9 hSw
          (try dsimp only at hSw)
          go_simp
          try with_reducible rfl
        try simp only [Act.put, List.setIfInBounds_toArray, List.set_cons_zero, List.set_cons_succ]
        refine wpAnyH_ready (rs := [0, 11]) (by kernel_rfl) (by simp) ?_
        refine (AllReadyH.cons (opAt_lst3 rfl) (fun K hK => ?_) (AllReadyH.cons (opAt_lst3 rfl) (fun K hK => ?_) AllReadyH.nil))
        · go_simp
          have hka : Kept [] W3 (W3.alloc (.cells #[.int .i64 0, .int .i64 0, .int .i64 1, .int .i64 1, .int .i64 2, .int .i64 2, .int .i64 3, .int .i64 4] 3)) := (Kept.refl _ _).alloc _
          have HA := Lib.hid (Bk.new W3 3 #[.int .i64 0, .int .i64 0, .int .i64 1, .int .i64 1, .int .i64 2, .int .i64 2, .int .i64 3, .int .i64 4])
          refine hK.out _ _ trivial (fun hHeld => ?_)
          clear hK K
          try simp only [Act.put, List.setIfInBounds_toArray, List.set_cons_zero, List.set_cons_succ]
          obtain ⟨gA, hgA⟩ : ∃ g, g = W3.heap.size := ⟨_, rfl⟩
          have hAR : gA ≠ R := by have := HR3.out.lt; omega
          have HR4 := Lib.hid (HR3.out.kept hka (by simp))
          have HK4 := Lib.hid (HK3.out.trans hka (by simp))
          generalize W3.alloc (.cells #[.int .i64 0, .int .i64 0, .int .i64 1, .int .i64 1, .int .i64 2, .int .i64 2, .int .i64 3, .int .i64 4] 3) = W4 at *
          rw [← hgA] at HA ⊢
          clear hgA hka
          refine wpAnyH_take (i := 3) (v := ?_) (opAt_lst3 rfl) (by kernel_rfl) (by kernel_rfl) (by kernel_rfl) (fun _ _ _ h => h) (Or.inl ⟨by rfl, ?_⟩) (by assumption) ?_
          rotate_left
          · intro w9 hSw
            (try dsimp only at hSw)
            go_simp
            try with_reducible rfl
          try simp only [Act.put, List.setIfInBounds_toArray, List.set_cons_zero, List.set_cons_succ]
          refine wpAnyH_ready (rs := [4, 11]) (by kernel_rfl) (by simp) ?_
          refine (AllReadyH.cons (opAt_lst3 rfl) (fun K hK => ?_) (AllReadyH.cons (opAt_lst3 rfl) (fun K hK => ?_) AllReadyH.nil))
          · obtain ⟨kx, hkx, kx0, kx4⟩ := eight_at HA.out z hz8'
            go_simp
            refine hK.out _ _ trivial (fun hHeld => ?_)
            clear hK K
            try simp only [Act.put, List.setIfInBounds_toArray, List.set_cons_zero, List.set_cons_succ]
            clear hkx
            refine wpAnyH_take (i := 9) (v := ?_) (opAt_lst3 rfl) (by kernel_rfl) (by kernel_rfl) (by kernel_rfl) (fun _ _ _ h => h) (Or.inl ⟨by rfl, ?_⟩) (by assumption) ?_
            rotate_left
            · intro w9 hSw
              (try dsimp only at hSw)
              go_simp
              try with_reducible rfl
            try simp only [Act.put, List.setIfInBounds_toArray, List.set_cons_zero, List.set_cons_succ]
            refine wpAnyH_take (i := 10) (v := ?_) (opAt_lst3 rfl) (by kernel_rfl) (by kernel_rfl) (by kernel_rfl) (fun _ _ _ h => h) (Or.inl ⟨by rfl, ?_⟩) (by assumption) ?_
            rotate_left
            · intro w9 hSw
              (try dsimp only at hSw)
              go_simp
              try with_reducible rfl
            try simp only [Act.put, List.setIfInBounds_toArray, List.set_cons_zero, List.set_cons_succ]
            refine wpAnyH_ready (rs := [11]) (by kernel_rfl) (by simp) ?_
            refine (AllReadyH.cons (opAt_lst3 rfl) (fun K hK => ?_) AllReadyH.nil)
            · go_simp
              have hka : Kept [] W4 (W4.alloc (.cells #[.int .i64 0, .int .i64 0, .int .i64 0] 36)) := (Kept.refl _ _).alloc _
              have HL := Lib.hid (Bk.new W4 36 #[.int .i64 0, .int .i64 0, .int .i64 0])
              refine hK.out _ _ trivial (fun hHeld => ?_)
              clear hK K
              try simp only [Act.put, List.setIfInBounds_toArray, List.set_cons_zero, List.set_cons_succ]
              obtain ⟨gL, hgL⟩ : ∃ g, g = W4.heap.size := ⟨_, rfl⟩
              have hLR : gL ≠ R := by have := HR4.out.lt; omega
              have hLW : W0.heap.size ≤ gL := by have := HK4.out.size; omega
              have HR5 := Lib.hid (HR4.out.kept hka (by simp))
              have HK5 := Lib.hid (HK4.out.trans hka (by simp))
              have HA := Lib.hid (HA.out.stay hka)
              generalize W4.alloc (.cells #[.int .i64 0, .int .i64 0, .int .i64 0] 36) = W5 at *
              rw [← hgL] at HL ⊢
              clear hgL hka
              refine wpAnyH_ready (rs := [12]) (by kernel_rfl) (by simp) ?_
              refine AllReadyH.cons (opAt_lst3 rfl) (fun K hK => ?_) AllReadyH.nil
              obtain ⟨l0, l1, l2⟩ := HL.out.three
              have f0 := HL.out.frozen 0
              have f1 := HL.out.frozen 1
              have f2 := HL.out.frozen 2
              have hll := HL.out.lt
              go_simp
              refine hK.out _ _ trivial (fun hHeld => ?_)
              clear hK K
              try simp only [Act.put, List.setIfInBounds_toArray, List.set_cons_zero, List.set_cons_succ]
              refine wpAnyH_done (by kernel_rfl) ?_ _
              go_wp2_with fail
              go_meet
              exact ⟨gL, _, rfl, HL.out.set3 _ _ _, hLR, hLW, HR5.out.kept (Kept.rows3 _ gL _ _ _) (by simp; omega), HK5.out.trans (Kept.rows3 _ gL _ _ _) (fun q hq => .inr (by simp at hq; omega))⟩
          · go_simp
            have hka : Kept [] W4 (W4.alloc (.cells #[.int .i64 0, .int .i64 0, .int .i64 0] 36)) := (Kept.refl _ _).alloc _
            have HL := Lib.hid (Bk.new W4 36 #[.int .i64 0, .int .i64 0, .int .i64 0])
            refine hK.out _ _ trivial (fun hHeld => ?_)
            clear hK K
            try simp only [Act.put, List.setIfInBounds_toArray, List.set_cons_zero, List.set_cons_succ]
            obtain ⟨gL, hgL⟩ : ∃ g, g = W4.heap.size := ⟨_, rfl⟩
            have hLR : gL ≠ R := by have := HR4.out.lt; omega
            have hLW : W0.heap.size ≤ gL := by have := HK4.out.size; omega
            have HR5 := Lib.hid (HR4.out.kept hka (by simp))
            have HK5 := Lib.hid (HK4.out.trans hka (by simp))
            have HA := Lib.hid (HA.out.stay hka)
            generalize W4.alloc (.cells #[.int .i64 0, .int .i64 0, .int .i64 0] 36) = W5 at *
            rw [← hgL] at HL ⊢
            clear hgL hka
            refine wpAnyH_ready (rs := [4]) (by kernel_rfl) (by simp) ?_
            refine (AllReadyH.cons (opAt_lst3 rfl) (fun K hK => ?_) AllReadyH.nil)
            · obtain ⟨kx, hkx, kx0, kx4⟩ := eight_at HA.out z hz8'
              go_simp
              refine hK.out _ _ trivial (fun hHeld => ?_)
              clear hK K
              try simp only [Act.put, List.setIfInBounds_toArray, List.set_cons_zero, List.set_cons_succ]
              clear hkx
              refine wpAnyH_take (i := 9) (v := ?_) (opAt_lst3 rfl) (by kernel_rfl) (by kernel_rfl) (by kernel_rfl) (fun _ _ _ h => h) (Or.inl ⟨by rfl, ?_⟩) (by assumption) ?_
              rotate_left
              · intro w9 hSw
                (try dsimp only at hSw)
                go_simp
                try with_reducible rfl
              try simp only [Act.put, List.setIfInBounds_toArray, List.set_cons_zero, List.set_cons_succ]
              refine wpAnyH_take (i := 10) (v := ?_) (opAt_lst3 rfl) (by kernel_rfl) (by kernel_rfl) (by kernel_rfl) (fun _ _ _ h => h) (Or.inl ⟨by rfl, ?_⟩) (by assumption) ?_
              rotate_left
              · intro w9 hSw
                (try dsimp only at hSw)
                go_simp
                try with_reducible rfl
              try simp only [Act.put, List.setIfInBounds_toArray, List.set_cons_zero, List.set_cons_succ]
              refine wpAnyH_ready (rs := [12]) (by kernel_rfl) (by simp) ?_
              refine AllReadyH.cons (opAt_lst3 rfl) (fun K hK => ?_) AllReadyH.nil
              obtain ⟨l0, l1, l2⟩ := HL.out.three
              have f0 := HL.out.frozen 0
              have f1 := HL.out.frozen 1
              have f2 := HL.out.frozen 2
              have hll := HL.out.lt
              go_simp
              refine hK.out _ _ trivial (fun hHeld => ?_)
              clear hK K
              try simp only [Act.put, List.setIfInBounds_toArray, List.set_cons_zero, List.set_cons_succ]
              refine wpAnyH_done (by kernel_rfl) ?_ _
              go_wp2_with fail
              go_meet
              exact ⟨gL, _, rfl, HL.out.set3 _ _ _, hLR, hLW, HR5.out.kept (Kept.rows3 _ gL _ _ _) (by simp; omega), HK5.out.trans (Kept.rows3 _ gL _ _ _) (fun q hq => .inr (by simp at hq; omega))⟩
        · go_simp
          have hka : Kept [] W3 (W3.alloc (.cells #[.int .i64 0, .int .i64 0, .int .i64 0] 36)) := (Kept.refl _ _).alloc _
          have HL := Lib.hid (Bk.new W3 36 #[.int .i64 0, .int .i64 0, .int .i64 0])
          refine hK.out _ _ trivial (fun hHeld => ?_)
          clear hK K
          try simp only [Act.put, List.setIfInBounds_toArray, List.set_cons_zero, List.set_cons_succ]
          obtain ⟨gL, hgL⟩ : ∃ g, g = W3.heap.size := ⟨_, rfl⟩
          have hLR : gL ≠ R := by have := HR3.out.lt; omega
          have hLW : W0.heap.size ≤ gL := by have := HK3.out.size; omega
          have HR4 := Lib.hid (HR3.out.kept hka (by simp))
          have HK4 := Lib.hid (HK3.out.trans hka (by simp))
          generalize W3.alloc (.cells #[.int .i64 0, .int .i64 0, .int .i64 0] 36) = W4 at *
          rw [← hgL] at HL ⊢
          clear hgL hka
          refine wpAnyH_ready (rs := [0]) (by kernel_rfl) (by simp) ?_
          refine (AllReadyH.cons (opAt_lst3 rfl) (fun K hK => ?_) AllReadyH.nil)
          · go_simp
            have hka : Kept [] W4 (W4.alloc (.cells #[.int .i64 0, .int .i64 0, .int .i64 1, .int .i64 1, .int .i64 2, .int .i64 2, .int .i64 3, .int .i64 4] 3)) := (Kept.refl _ _).alloc _
            have HA := Lib.hid (Bk.new W4 3 #[.int .i64 0, .int .i64 0, .int .i64 1, .int .i64 1, .int .i64 2, .int .i64 2, .int .i64 3, .int .i64 4])
            refine hK.out _ _ trivial (fun hHeld => ?_)
            clear hK K
            try simp only [Act.put, List.setIfInBounds_toArray, List.set_cons_zero, List.set_cons_succ]
            obtain ⟨gA, hgA⟩ : ∃ g, g = W4.heap.size := ⟨_, rfl⟩
            have hAR : gA ≠ R := by have := HR4.out.lt; omega
            have HR5 := Lib.hid (HR4.out.kept hka (by simp))
            have HK5 := Lib.hid (HK4.out.trans hka (by simp))
            have HL := Lib.hid (HL.out.stay hka)
            generalize W4.alloc (.cells #[.int .i64 0, .int .i64 0, .int .i64 1, .int .i64 1, .int .i64 2, .int .i64 2, .int .i64 3, .int .i64 4] 3) = W5 at *
            rw [← hgA] at HA ⊢
            clear hgA hka
            refine wpAnyH_take (i := 3) (v := ?_) (opAt_lst3 rfl) (by kernel_rfl) (by kernel_rfl) (by kernel_rfl) (fun _ _ _ h => h) (Or.inl ⟨by rfl, ?_⟩) (by assumption) ?_
            rotate_left
            · intro w9 hSw
              (try dsimp only at hSw)
              go_simp
              try with_reducible rfl
            try simp only [Act.put, List.setIfInBounds_toArray, List.set_cons_zero, List.set_cons_succ]
            refine wpAnyH_ready (rs := [4]) (by kernel_rfl) (by simp) ?_
            refine (AllReadyH.cons (opAt_lst3 rfl) (fun K hK => ?_) AllReadyH.nil)
            · obtain ⟨kx, hkx, kx0, kx4⟩ := eight_at HA.out z hz8'
              go_simp
              refine hK.out _ _ trivial (fun hHeld => ?_)
              clear hK K
              try simp only [Act.put, List.setIfInBounds_toArray, List.set_cons_zero, List.set_cons_succ]
              clear hkx
              refine wpAnyH_take (i := 9) (v := ?_) (opAt_lst3 rfl) (by kernel_rfl) (by kernel_rfl) (by kernel_rfl) (fun _ _ _ h => h) (Or.inl ⟨by rfl, ?_⟩) (by assumption) ?_
              rotate_left
              · intro w9 hSw
                (try dsimp only at hSw)
                go_simp
                try with_reducible rfl
              try simp only [Act.put, List.setIfInBounds_toArray, List.set_cons_zero, List.set_cons_succ]
              refine wpAnyH_take (i := 10) (v := ?_) (opAt_lst3 rfl) (by kernel_rfl) (by kernel_rfl) (by kernel_rfl) (fun _ _ _ h => h) (Or.inl ⟨by rfl, ?_⟩) (by assumption) ?_
              rotate_left
              · intro w9 hSw
                (try dsimp only at hSw)
                go_simp
                try with_reducible rfl
              try simp only [Act.put, List.setIfInBounds_toArray, List.set_cons_zero, List.set_cons_succ]
              refine wpAnyH_ready (rs := [12]) (by kernel_rfl) (by simp) ?_
              refine AllReadyH.cons (opAt_lst3 rfl) (fun K hK => ?_) AllReadyH.nil
              obtain ⟨l0, l1, l2⟩ := HL.out.three
              have f0 := HL.out.frozen 0
              have f1 := HL.out.frozen 1
              have f2 := HL.out.frozen 2
              have hll := HL.out.lt
              go_simp
              refine hK.out _ _ trivial (fun hHeld => ?_)
              clear hK K
              try simp only [Act.put, List.setIfInBounds_toArray, List.set_cons_zero, List.set_cons_succ]
              refine wpAnyH_done (by kernel_rfl) ?_ _
              go_wp2_with fail
              go_meet
              exact ⟨gL, _, rfl, HL.out.set3 _ _ _, hLR, hLW, HR5.out.kept (Kept.rows3 _ gL _ _ _) (by simp; omega), HK5.out.trans (Kept.rows3 _ gL _ _ _) (fun q hq => .inr (by simp at hq; omega))⟩
      · go_simp
        have hka : Kept [] W2 (W2.alloc (.cells #[.int .i64 0, .int .i64 0, .int .i64 0] 36)) := (Kept.refl _ _).alloc _
        have HL := Lib.hid (Bk.new W2 36 #[.int .i64 0, .int .i64 0, .int .i64 0])
        refine hK.out _ _ trivial (fun hHeld => ?_)
        clear hK K
        try simp only [Act.put, List.setIfInBounds_toArray, List.set_cons_zero, List.set_cons_succ]
        obtain ⟨gL, hgL⟩ : ∃ g, g = W2.heap.size := ⟨_, rfl⟩
        have hLR : gL ≠ R := by have := HR2.out.lt; omega
        have hLW : W0.heap.size ≤ gL := by have := HK2.out.size; omega
        have HR3 := Lib.hid (HR2.out.kept hka (by simp))
        have HK3 := Lib.hid (HK2.out.trans hka (by simp))
        generalize W2.alloc (.cells #[.int .i64 0, .int .i64 0, .int .i64 0] 36) = W3 at *
        rw [← hgL] at HL ⊢
        clear hgL hka
        refine wpAnyH_ready (rs := [0, 6]) (by kernel_rfl) (by simp) ?_
        refine (AllReadyH.cons (opAt_lst3 rfl) (fun K hK => ?_) (AllReadyH.cons (opAt_lst3 rfl) (fun K hK => ?_) AllReadyH.nil))
        · go_simp
          have hka : Kept [] W3 (W3.alloc (.cells #[.int .i64 0, .int .i64 0, .int .i64 1, .int .i64 1, .int .i64 2, .int .i64 2, .int .i64 3, .int .i64 4] 3)) := (Kept.refl _ _).alloc _
          have HA := Lib.hid (Bk.new W3 3 #[.int .i64 0, .int .i64 0, .int .i64 1, .int .i64 1, .int .i64 2, .int .i64 2, .int .i64 3, .int .i64 4])
          refine hK.out _ _ trivial (fun hHeld => ?_)
          clear hK K
          try simp only [Act.put, List.setIfInBounds_toArray, List.set_cons_zero, List.set_cons_succ]
          obtain ⟨gA, hgA⟩ : ∃ g, g = W3.heap.size := ⟨_, rfl⟩
          have hAR : gA ≠ R := by have := HR3.out.lt; omega
          have HR4 := Lib.hid (HR3.out.kept hka (by simp))
          have HK4 := Lib.hid (HK3.out.trans hka (by simp))
          have HL := Lib.hid (HL.out.stay hka)
          generalize W3.alloc (.cells #[.int .i64 0, .int .i64 0, .int .i64 1, .int .i64 1, .int .i64 2, .int .i64 2, .int .i64 3, .int .i64 4] 3) = W4 at *
          rw [← hgA] at HA ⊢
          clear hgA hka
          refine wpAnyH_take (i := 3) (v := ?_) (opAt_lst3 rfl) (by kernel_rfl) (by kernel_rfl) (by kernel_rfl) (fun _ _ _ h => h) (Or.inl ⟨by rfl, ?_⟩) (by assumption) ?_
          rotate_left
          · intro w9 hSw
            (try dsimp only at hSw)
            go_simp
            try with_reducible rfl
          try simp only [Act.put, List.setIfInBounds_toArray, List.set_cons_zero, List.set_cons_succ]
          refine wpAnyH_ready (rs := [4, 6]) (by kernel_rfl) (by simp) ?_
          refine (AllReadyH.cons (opAt_lst3 rfl) (fun K hK => ?_) (AllReadyH.cons (opAt_lst3 rfl) (fun K hK => ?_) AllReadyH.nil))
          · obtain ⟨kx, hkx, kx0, kx4⟩ := eight_at HA.out z hz8'
            go_simp
            refine hK.out _ _ trivial (fun hHeld => ?_)
            clear hK K
            try simp only [Act.put, List.setIfInBounds_toArray, List.set_cons_zero, List.set_cons_succ]
            clear hkx
            refine wpAnyH_ready (rs := [6]) (by kernel_rfl) (by simp) ?_
            refine (AllReadyH.cons (opAt_lst3 rfl) (fun K hK => ?_) AllReadyH.nil)
            · go_simp
              go_at_call 62
              refine (pick_any B R (P + 1) (by omega) 60 (by omega) _ HR4.out).mono ?_
              rintro e W5 ⟨y, rfl, hy0, hy, hr, hk⟩
              refine hK.out _ _ trivial (fun hHeld => ?_)
              clear hK K
              try simp only [Act.put, List.setIfInBounds_toArray, List.set_cons_zero, List.set_cons_succ]
              have hy8 : y < 60 := by omega
              have HR5 := Lib.hid hr
              have HK5 := Lib.hid (HK4.out.trans hk (by simp))
              have HA := Lib.hid (HA.out.kept hk (by simp; exact hAR))
              have HL := Lib.hid (HL.out.kept hk (by simp; exact hLR))
              clear hr hk hy
              obtain ⟨d0, d1⟩ := tdiv_small hy0 (show y ≤ 100 by omega) (d := 59) (by omega)
              refine wpAnyH_take (i := 7) (v := ?_) (opAt_lst3 rfl) (by kernel_rfl) (by kernel_rfl) (by kernel_rfl) (fun _ _ _ h => h) (Or.inl ⟨by rfl, ?_⟩) (by assumption) ?_
              rotate_left
              · intro w9 hSw
                (try dsimp only at hSw)
                go_simp
                try with_reducible rfl
              try simp only [Act.put, List.setIfInBounds_toArray, List.set_cons_zero, List.set_cons_succ]
              refine wpAnyH_take (i := 8) (v := ?_) (opAt_lst3 rfl) (by kernel_rfl) (by kernel_rfl) (by kernel_rfl) (fun _ _ _ h => h) (Or.inl ⟨by rfl, ?_⟩) (by assumption) ?_
              rotate_left
              · intro w9 hSw
                (try dsimp only at hSw)
                go_simp
                try with_reducible rfl
              try simp only [Act.put, List.setIfInBounds_toArray, List.set_cons_zero, List.set_cons_succ]
              refine wpAnyH_take (i := 9) (v := ?_) (opAt_lst3 rfl) (by kernel_rfl) (by kernel_rfl) (by kernel_rfl) (fun _ _ _ h => h) (Or.inl ⟨by rfl, ?_⟩) (by assumption) ?_
              rotate_left
              · intro w9 hSw
                (try dsimp only at hSw)
                go_simp
                try with_reducible rfl
              try simp only [Act.put, List.setIfInBounds_toArray, List.set_cons_zero, List.set_cons_succ]
              refine wpAnyH_take (i := 10) (v := ?_) (opAt_lst3 rfl) (by kernel_rfl) (by kernel_rfl) (by kernel_rfl) (fun _ _ _ h => h) (Or.inl ⟨by rfl, ?_⟩) (by assumption) ?_
              rotate_left
              · intro w9 hSw
                (try dsimp only at hSw)
                go_simp
                try with_reducible rfl
              try simp only [Act.put, List.setIfInBounds_toArray, List.set_cons_zero, List.set_cons_succ]
              refine wpAnyH_ready (rs := [12]) (by kernel_rfl) (by simp) ?_
              refine AllReadyH.cons (opAt_lst3 rfl) (fun K hK => ?_) AllReadyH.nil
              obtain ⟨l0, l1, l2⟩ := HL.out.three
              have f0 := HL.out.frozen 0
              have f1 := HL.out.frozen 1
              have f2 := HL.out.frozen 2
              have hll := HL.out.lt
              go_simp
              refine hK.out _ _ trivial (fun hHeld => ?_)
              clear hK K
              try simp only [Act.put, List.setIfInBounds_toArray, List.set_cons_zero, List.set_cons_succ]
              refine wpAnyH_done (by kernel_rfl) ?_ _
              go_wp2_with fail
              go_meet
              exact ⟨gL, _, rfl, HL.out.set3 _ _ _, hLR, hLW, HR5.out.kept (Kept.rows3 _ gL _ _ _) (by simp; omega), HK5.out.trans (Kept.rows3 _ gL _ _ _) (fun q hq => .inr (by simp at hq; omega))⟩
          · go_simp
            go_at_call 62
            refine (pick_any B R (P + 1) (by omega) 60 (by omega) _ HR4.out).mono ?_
            rintro e W5 ⟨y, rfl, hy0, hy, hr, hk⟩
            refine hK.out _ _ trivial (fun hHeld => ?_)
            clear hK K
            try simp only [Act.put, List.setIfInBounds_toArray, List.set_cons_zero, List.set_cons_succ]
            have hy8 : y < 60 := by omega
            have HR5 := Lib.hid hr
            have HK5 := Lib.hid (HK4.out.trans hk (by simp))
            have HA := Lib.hid (HA.out.kept hk (by simp; exact hAR))
            have HL := Lib.hid (HL.out.kept hk (by simp; exact hLR))
            clear hr hk hy
            obtain ⟨d0, d1⟩ := tdiv_small hy0 (show y ≤ 100 by omega) (d := 59) (by omega)
            refine wpAnyH_take (i := 7) (v := ?_) (opAt_lst3 rfl) (by kernel_rfl) (by kernel_rfl) (by kernel_rfl) (fun _ _ _ h => h) (Or.inl ⟨by rfl, ?_⟩) (by assumption) ?_
            rotate_left
            · intro w9 hSw
              (try dsimp only at hSw)
              go_simp
              try with_reducible rfl
            try simp only [Act.put, List.setIfInBounds_toArray, List.set_cons_zero, List.set_cons_succ]
            refine wpAnyH_take (i := 8) (v := ?_) (opAt_lst3 rfl) (by kernel_rfl) (by kernel_rfl) (by kernel_rfl) (fun _ _ _ h => h) (Or.inl ⟨by rfl, ?_⟩) (by assumption) ?_
            rotate_left
            · intro w9 hSw
              (try dsimp only at hSw)
              go_simp
              try with_reducible rfl
            try simp only [Act.put, List.setIfInBounds_toArray, List.set_cons_zero, List.set_cons_succ]
            refine wpAnyH_ready (rs := [4]) (by kernel_rfl) (by simp) ?_
            refine (AllReadyH.cons (opAt_lst3 rfl) (fun K hK => ?_) AllReadyH.nil)
            · obtain ⟨kx, hkx, kx0, kx4⟩ := eight_at HA.out z hz8'
              go_simp
              refine hK.out _ _ trivial (fun hHeld => ?_)
              clear hK K
              try simp only [Act.put, List.setIfInBounds_toArray, List.set_cons_zero, List.set_cons_succ]
              clear hkx
              refine wpAnyH_take (i := 9) (v := ?_) (opAt_lst3 rfl) (by kernel_rfl) (by kernel_rfl) (by kernel_rfl) (fun _ _ _ h => h) (Or.inl ⟨by rfl, ?_⟩) (by assumption) ?_
              rotate_left
              · intro w9 hSw
                (try dsimp only at hSw)
                go_simp
                try with_reducible rfl
              try simp only [Act.put, List.setIfInBounds_toArray, List.set_cons_zero, List.set_cons_succ]
              refine wpAnyH_take (i := 10) (v := ?_) (opAt_lst3 rfl) (by kernel_rfl) (by kernel_rfl) (by kernel_rfl) (fun _ _ _ h => h) (Or.inl ⟨by rfl, ?_⟩) (by assumption) ?_
              rotate_left
              · intro w9 hSw
                (try dsimp only at hSw)
                go_simp
                try with_reducible rfl
              try simp only [Act.put, List.setIfInBounds_toArray, List.set_cons_zero, List.set_cons_succ]
              refine wpAnyH_ready (rs := [12]) (by kernel_rfl) (by simp) ?_
              refine AllReadyH.cons (opAt_lst3 rfl) (fun K hK => ?_) AllReadyH.nil
              obtain ⟨l0, l1, l2⟩ := HL.out.three
              have f0 := HL.out.frozen 0
              have f1 := HL.out.frozen 1
              have f2 := HL.out.frozen 2
              have hll := HL.out.lt
              go_simp
              refine hK.out _ _ trivial (fun hHeld => ?_)
              clear hK K
              try simp only [Act.put, List.setIfInBounds_toArray, List.set_cons_zero, List.set_cons_succ]
              refine wpAnyH_done (by kernel_rfl) ?_ _
              go_wp2_with fail
              go_meet
              exact ⟨gL, _, rfl, HL.out.set3 _ _ _, hLR, hLW, HR5.out.kept (Kept.rows3 _ gL _ _ _) (by simp; omega), HK5.out.trans (Kept.rows3 _ gL _ _ _) (fun q hq => .inr (by simp at hq; omega))⟩
        · go_simp
          go_at_call 62
          refine (pick_any B R (P + 1) (by omega) 60 (by omega) _ HR3.out).mono ?_
          rintro e W4 ⟨y, rfl, hy0, hy, hr, hk⟩
          refine hK.out _ _ trivial (fun hHeld => ?_)
          clear hK K
          try simp only [Act.put, List.setIfInBounds_toArray, List.set_cons_zero, List.set_cons_succ]
          have hy8 : y < 60 := by omega
          have HR4 := Lib.hid hr
          have HK4 := Lib.hid (HK3.out.trans hk (by simp))
          have HL := Lib.hid (HL.out.kept hk (by simp; exact hLR))
          clear hr hk hy
          obtain ⟨d0, d1⟩ := tdiv_small hy0 (show y ≤ 100 by omega) (d := 59) (by omega)
          refine wpAnyH_take (i := 7) (v := ?_) (opAt_lst3 rfl) (by kernel_rfl) (by kernel_rfl) (by kernel_rfl) (fun _ _ _ h => h) (Or.inl ⟨by rfl, ?_⟩) (by assumption) ?_
          rotate_left
          · intro w9 hSw
            (try dsimp only at hSw)
            go_simp
            try with_reducible rfl
          try simp only [Act.put, List.setIfInBounds_toArray, List.set_cons_zero, List.set_cons_succ]
          refine wpAnyH_take (i := 8) (v := ?_) (opAt_lst3 rfl) (by kernel_rfl) (by kernel_rfl) (by kernel_rfl) (fun _ _ _ h => h) (Or.inl ⟨by rfl, ?_⟩) (by assumption) ?_
          rotate_left
          · intro w9 hSw
            (try dsimp only at hSw)
            go_simp
            try with_reducible rfl
          try simp only [Act.put, List.setIfInBounds_toArray, List.set_cons_zero, List.set_cons_succ]
          refine wpAnyH_ready (rs := [0]) (by kernel_rfl) (by simp) ?_
          refine (AllReadyH.cons (opAt_lst3 rfl) (fun K hK => ?_) AllReadyH.nil)
          · go_simp
            have hka : Kept [] W4 (W4.alloc (.cells #[.int .i64 0, .int .i64 0, .int .i64 1, .int .i64 1, .int .i64 2, .int .i64 2, .int .i64 3, .int .i64 4] 3)) := (Kept.refl _ _).alloc _
            have HA := Lib.hid (Bk.new W4 3 #[.int .i64 0, .int .i64 0, .int .i64 1, .int .i64 1, .int .i64 2, .int .i64 2, .int .i64 3, .int .i64 4])
            refine hK.out _ _ trivial (fun hHeld => ?_)
            clear hK K
            try simp only [Act.put, List.setIfInBounds_toArray, List.set_cons_zero, List.set_cons_succ]
            obtain ⟨gA, hgA⟩ : ∃ g, g = W4.heap.size := ⟨_, rfl⟩
            have hAR : gA ≠ R := by have := HR4.out.lt; omega
            have HR5 := Lib.hid (HR4.out.kept hka (by simp))
            have HK5 := Lib.hid (HK4.out.trans hka (by simp))
            have HL := Lib.hid (HL.out.stay hka)
            generalize W4.alloc (.cells #[.int .i64 0, .int .i64 0, .int .i64 1, .int .i64 1, .int .i64 2, .int .i64 2, .int .i64 3, .int .i64 4] 3) = W5 at *
            rw [← hgA] at HA ⊢
            clear hgA hka
            refine wpAnyH_take (i := 3) (v := ?_) (opAt_lst3 rfl) (by kernel_rfl) (by kernel_rfl) (by kernel_rfl) (fun _ _ _ h => h) (Or.inl ⟨by rfl, ?_⟩) (by assumption) ?_
            rotate_left
            · intro w9 hSw
              (try dsimp only at hSw)
              go_simp
              try with_reducible rfl
            try simp only [Act.put, List.setIfInBounds_toArray, List.set_cons_zero, List.set_cons_succ]
            refine wpAnyH_ready (rs := [4]) (by kernel_rfl) (by simp) ?_
            refine (AllReadyH.cons (opAt_lst3 rfl) (fun K hK => ?_) AllReadyH.nil)
            · obtain ⟨kx, hkx, kx0, kx4⟩ := eight_at HA.out z hz8'
              go_simp
              refine hK.out _ _ trivial (fun hHeld => ?_)
              clear hK K
              try simp only [Act.put, List.setIfInBounds_toArray, List.set_cons_zero, List.set_cons_succ]
              clear hkx
              refine wpAnyH_take (i := 9) (v := ?_) (opAt_lst3 rfl) (by kernel_rfl) (by kernel_rfl) (by kernel_rfl) (fun _ _ _ h => h) (Or.inl ⟨by rfl, ?_⟩) (by assumption) ?_
              rotate_left
              · intro w9 hSw
                (try dsimp only at hSw)
                go_simp
                try with_reducible rfl
              try simp only [Act.put, List.setIfInBounds_toArray, List.set_cons_zero, List.set_cons_succ]
              refine wpAnyH_take (i := 10) (v := ?_) (opAt_lst3 rfl) (by kernel_rfl) (by kernel_rfl) (by kernel_rfl) (fun _ _ _ h => h) (Or.inl ⟨by rfl, ?_⟩) (by assumption) ?_
              rotate_left
              · intro w9 hSw
                (try dsimp only at hSw)
                go_simp
                try with_reducible rfl
              try simp only [Act.put, List.setIfInBounds_toArray, List.set_cons_zero, List.set_cons_succ]
              refine wpAnyH_ready (rs := [12]) (by kernel_rfl) (by simp) ?_
              refine AllReadyH.cons (opAt_lst3 rfl) (fun K hK => ?_) AllReadyH.nil
              obtain ⟨l0, l1, l2⟩ := HL.out.three
              have f0 := HL.out.frozen 0
              have f1 := HL.out.frozen 1
              have f2 := HL.out.frozen 2
              have hll := HL.out.lt
              go_simp
              refine hK.out _ _ trivial (fun hHeld => ?_)
              clear hK K
              try simp only [Act.put, List.setIfInBounds_toArray, List.set_cons_zero, List.set_cons_succ]
              refine wpAnyH_done (by kernel_rfl) ?_ _
              go_wp2_with fail
              go_meet
              exact ⟨gL, _, rfl, HL.out.set3 _ _ _, hLR, hLW, HR5.out.kept (Kept.rows3 _ gL _ _ _) (by simp; omega), HK5.out.trans (Kept.rows3 _ gL _ _ _) (fun q hq => .inr (by simp at hq; omega))⟩
    · go_simp
      have hka : Kept [] W1 (W1.alloc (.cells #[.int .i64 0, .int .i64 0, .int .i64 0] 36)) := (Kept.refl _ _).alloc _
      have HL := Lib.hid (Bk.new W1 36 #[.int .i64 0, .int .i64 0, .int .i64 0])
      refine hK.out _ _ trivial (fun hHeld => ?_)
      clear hK K
      try simp only [Act.put, List.setIfInBounds_toArray, List.set_cons_zero, List.set_cons_succ]
      obtain ⟨gL, hgL⟩ : ∃ g, g = W1.heap.size := ⟨_, rfl⟩
      have hLR : gL ≠ R := by have := HR1.out.lt; omega
      have hLW : W0.heap.size ≤ gL := by have := HK1.out.size; omega
      have HR2 := Lib.hid (HR1.out.kept hka (by simp))
      have HK2 := Lib.hid (HK1.out.trans hka (by simp))
      generalize W1.alloc (.cells #[.int .i64 0, .int .i64 0, .int .i64 0] 36) = W2 at *
      rw [← hgL] at HL ⊢
      clear hgL hka
      refine wpAnyH_ready (rs := [0, 2]) (by kernel_rfl) (by simp) ?_
      refine (AllReadyH.cons (opAt_lst3 rfl) (fun K hK => ?_) (AllReadyH.cons (opAt_lst3 rfl) (fun K hK => ?_) AllReadyH.nil))
      · go_simp
        have hka : Kept [] W2 (W2.alloc (.cells #[.int .i64 0, .int .i64 0, .int .i64 1, .int .i64 1, .int .i64 2, .int .i64 2, .int .i64 3, .int .i64 4] 3)) := (Kept.refl _ _).alloc _
        have HA := Lib.hid (Bk.new W2 3 #[.int .i64 0, .int .i64 0, .int .i64 1, .int .i64 1, .int .i64 2, .int .i64 2, .int .i64 3, .int .i64 4])
        refine hK.out _ _ trivial (fun hHeld => ?_)
        clear hK K
        try simp only [Act.put, List.setIfInBounds_toArray, List.set_cons_zero, List.set_cons_succ]
        obtain ⟨gA, hgA⟩ : ∃ g, g = W2.heap.size := ⟨_, rfl⟩
        have hAR : gA ≠ R := by have := HR2.out.lt; omega
        have HR3 := Lib.hid (HR2.out.kept hka (by simp))
        have HK3 := Lib.hid (HK2.out.trans hka (by simp))
        have HL := Lib.hid (HL.out.stay hka)
        generalize W2.alloc (.cells #[.int .i64 0, .int .i64 0, .int .i64 1, .int .i64 1, .int .i64 2, .int .i64 2, .int .i64 3, .int .i64 4] 3) = W3 at *
        rw [← hgA] at HA ⊢
        clear hgA hka
        refine wpAnyH_ready (rs := [2]) (by kernel_rfl) (by simp) ?_
        refine (AllReadyH.cons (opAt_lst3 rfl) (fun K hK => ?_) AllReadyH.nil)
        · go_simp
          go_at_call 62
          refine (pick_any B R P (by omega) 8 (by omega) _ HR3.out).mono ?_
          rintro e W4 ⟨z, rfl, hz0, hz, hr, hk⟩
          refine hK.out _ _ trivial (fun hHeld => ?_)
          clear hK K
          try simp only [Act.put, List.setIfInBounds_toArray, List.set_cons_zero, List.set_cons_succ]
          have hz8 : z < 8 := by omega
          have HR4 := Lib.hid hr
          have HK4 := Lib.hid (HK3.out.trans hk (by simp))
          have HA := Lib.hid (HA.out.kept hk (by simp; exact hAR))
          have HL := Lib.hid (HL.out.kept hk (by simp; exact hLR))
          clear hr hk hz
          obtain ⟨z, rfl⟩ := Int.eq_ofNat_of_zero_le hz0
          have hz8' : z < 8 := by omega
          refine wpAnyH_take (i := 3) (v := ?_) (opAt_lst3 rfl) (by kernel_rfl) (by kernel_rfl) (by kernel_rfl) (fun _ _ _ h => h) (Or.inl ⟨by rfl, ?_⟩) (by assumption) ?_
          rotate_left
          · intro w9 hSw
            (try dsimp only at hSw)
            go_simp
            try with_reducible rfl
          try simp only [Act.put, List.setIfInBounds_toArray, List.set_cons_zero, List.set_cons_succ]
          refine wpAnyH_ready (rs := [4, 6]) (by kernel_rfl) (by simp) ?_
          refine (AllReadyH.cons (opAt_lst3 rfl) (fun K hK => ?_) (AllReadyH.cons (opAt_lst3 rfl) (fun K hK => ?_) AllReadyH.nil))
          · obtain ⟨kx, hkx, kx0, kx4⟩ := eight_at HA.out z hz8'
            go_simp
            refine hK.out _ _ trivial (fun hHeld => ?_)
            clear hK K
            try simp only [Act.put, List.setIfInBounds_toArray, List.set_cons_zero, List.set_cons_succ]
            clear hkx
            refine wpAnyH_ready (rs := [6]) (by kernel_rfl) (by simp) ?_
            refine (AllReadyH.cons (opAt_lst3 rfl) (fun K hK => ?_) AllReadyH.nil)
            · go_simp
              go_at_call 62
              refine (pick_any B R (P + 1) (by omega) 60 (by omega) _ HR4.out).mono ?_
              rintro e W5 ⟨y, rfl, hy0, hy, hr, hk⟩
              refine hK.out _ _ trivial (fun hHeld => ?_)
              clear hK K
              try simp only [Act.put, List.setIfInBounds_toArray, List.set_cons_zero, List.set_cons_succ]
              have hy8 : y < 60 := by omega
              have HR5 := Lib.hid hr
              have HK5 := Lib.hid (HK4.out.trans hk (by simp))
              have HA := Lib.hid (HA.out.kept hk (by simp; exact hAR))
              have HL := Lib.hid (HL.out.kept hk (by simp; exact hLR))
              clear hr hk hy
              obtain ⟨d0, d1⟩ := tdiv_small hy0 (show y ≤ 100 by omega) (d := 59) (by omega)
              refine wpAnyH_take (i := 7) (v := ?_) (opAt_lst3 rfl) (by kernel_rfl) (by kernel_rfl) (by kernel_rfl) (fun _ _ _ h => h) (Or.inl ⟨by rfl, ?_⟩) (by assumption) ?_
              rotate_left
              · intro w9 hSw
                (try dsimp only at hSw)
                go_simp
                try with_reducible rfl
              try simp only [Act.put, List.setIfInBounds_toArray, List.set_cons_zero, List.set_cons_succ]
              refine wpAnyH_take (i := 8) (v := ?_) (opAt_lst3 rfl) (by kernel_rfl) (by kernel_rfl) (by kernel_rfl) (fun _ _ _ h => h) (Or.inl ⟨by rfl, ?_⟩) (by assumption) ?_
              rotate_left
              · intro w9 hSw
                (try dsimp only at hSw)
                go_simp
                try with_reducible rfl
              try simp only [Act.put, List.setIfInBounds_toArray, List.set_cons_zero, List.set_cons_succ]
              refine wpAnyH_take (i := 9) (v := ?_) (opAt_lst3 rfl) (by kernel_rfl) (by kernel_rfl) (by kernel_rfl) (fun _ _ _ h => h) (Or.inl ⟨by rfl, ?_⟩) (by assumption) ?_
              rotate_left
              · intro w9 hSw
                (try dsimp only at hSw)
                go_simp
                try with_reducible rfl
              try simp only [Act.put, List.setIfInBounds_toArray, List.set_cons_zero, List.set_cons_succ]
              refine wpAnyH_take (i := 10) (v := ?_) (opAt_lst3 rfl) (by kernel_rfl) (by kernel_rfl) (by kernel_rfl) (fun _ _ _ h => h) (Or.inl ⟨by rfl, ?_⟩) (by assumption) ?_
              rotate_left
              · intro w9 hSw
                (try dsimp only at hSw)
                go_simp
                try with_reducible rfl
              try simp only [Act.put, List.setIfInBounds_toArray, List.set_cons_zero, List.set_cons_succ]
              refine wpAnyH_ready (rs := [12]) (by kernel_rfl) (by simp) ?_
              refine AllReadyH.cons (opAt_lst3 rfl) (fun K hK => ?_) AllReadyH.nil
              obtain ⟨l0, l1, l2⟩ := HL.out.three
              have f0 := HL.out.frozen 0
              have f1 := HL.out.frozen 1
              have f2 := HL.out.frozen 2
              have hll := HL.out.lt
              go_simp
              refine hK.out _ _ trivial (fun hHeld => ?_)
              clear hK K
              try simp only [Act.put, List.setIfInBounds_toArray, List.set_cons_zero, List.set_cons_succ]
              refine wpAnyH_done (by kernel_rfl) ?_ _
              go_wp2_with fail
              go_meet
              exact ⟨gL, _, rfl, HL.out.set3 _ _ _, hLR, hLW, HR5.out.kept (Kept.rows3 _ gL _ _ _) (by simp; omega), HK5.out.trans (Kept.rows3 _ gL _ _ _) (fun q hq => .inr (by simp at hq; omega))⟩
          · go_simp
            go_at_call 62
            refine (pick_any B R (P + 1) (by omega) 60 (by omega) _ HR4.out).mono ?_
            rintro e W5 ⟨y, rfl, hy0, hy, hr, hk⟩
            refine hK.out _ _ trivial (fun hHeld => ?_)
            clear hK K
            try simp only [Act.put, List.setIfInBounds_toArray, List.set_cons_zero, List.set_cons_succ]
            have hy8 : y < 60 := by omega
            have HR5 := Lib.hid hr
            have HK5 := Lib.hid (HK4.out.trans hk (by simp))
            have HA := Lib.hid (HA.out.kept hk (by simp; exact hAR))
            have HL := Lib.hid (HL.out.kept hk (by simp; exact hLR))
            clear hr hk hy
            obtain ⟨d0, d1⟩ := tdiv_small hy0 (show y ≤ 100 by omega) (d := 59) (by omega)
            refine wpAnyH_take (i := 7) (v := ?_) (opAt_lst3 rfl) (by kernel_rfl) (by kernel_rfl) (by kernel_rfl) (fun _ _ _ h => h) (Or.inl ⟨by rfl, ?_⟩) (by assumption) ?_
            rotate_left
            · intro w9 hSw
              (try dsimp only at hSw)
              go_simp
              try with_reducible rfl
            try simp only [Act.put, List.setIfInBounds_toArray, List.set_cons_zero, List.set_cons_succ]
            refine wpAnyH_take (i := 8) (v := ?_) (opAt_lst3 rfl) (by kernel_rfl) (by kernel_rfl) (by kernel_rfl) (fun _ _ _ h => h) (Or.inl ⟨by rfl, ?_⟩) (by assumption) ?_
            rotate_left
            · intro w9 hSw
              (try dsimp only at hSw)
              go_simp
              try with_reducible rfl
            try simp only [Act.put, List.setIfInBounds_toArray, List.set_cons_zero, List.set_cons_succ]
            refine wpAnyH_ready (rs := [4]) (by kernel_rfl) (by simp) ?_
            refine (AllReadyH.cons (opAt_lst3 rfl) (fun K hK => ?_) AllReadyH.nil)
            · obtain ⟨kx, hkx, kx0, kx4⟩ := eight_at HA.out z hz8'
              go_simp
              refine hK.out _ _ trivial (fun hHeld => ?_)
              clear hK K
              try simp only [Act.put, List.setIfInBounds_toArray, List.set_cons_zero, List.set_cons_succ]
              clear hkx
              refine wpAnyH_take (i := 9) (v := ?_) (opAt_lst3 rfl) (by kernel_rfl) (by kernel_rfl) (by kernel_rfl) (fun _ _ _ h => h) (Or.inl ⟨by rfl, ?_⟩) (by assumption) ?_
              rotate_left
              · intro w9 hSw
                (try dsimp only at hSw)
                go_simp
                try with_reducible rfl
              try simp only [Act.put, List.setIfInBounds_toArray, List.set_cons_zero, List.set_cons_succ]
              refine wpAnyH_take (i := 10) (v := ?_) (opAt_lst3 rfl) (by kernel_rfl) (by kernel_rfl) (by kernel_rfl) (fun _ _ _ h => h) (Or.inl ⟨by rfl, ?_⟩) (by assumption) ?_
              rotate_left
              · intro w9 hSw
                (try dsimp only at hSw)
                go_simp
                try with_reducible rfl
              try simp only [Act.put, List.setIfInBounds_toArray, List.set_cons_zero, List.set_cons_succ]
              refine wpAnyH_ready (rs := [12]) (by kernel_rfl) (by simp) ?_
              refine AllReadyH.cons (opAt_lst3 rfl) (fun K hK => ?_) AllReadyH.nil
              obtain ⟨l0, l1, l2⟩ := HL.out.three
              have f0 := HL.out.frozen 0
              have f1 := HL.out.frozen 1
              have f2 := HL.out.frozen 2
              have hll := HL.out.lt
              go_simp
              refine hK.out _ _ trivial (fun hHeld => ?_)
              clear hK K
              try simp only [Act.put, List.setIfInBounds_toArray, List.set_cons_zero, List.set_cons_succ]
              refine wpAnyH_done (by kernel_rfl) ?_ _
              go_wp2_with fail
              go_meet
              exact ⟨gL, _, rfl, HL.out.set3 _ _ _, hLR, hLW, HR5.out.kept (Kept.rows3 _ gL _ _ _) (by simp; omega), HK5.out.trans (Kept.rows3 _ gL _ _ _) (fun q hq => .inr (by simp at hq; omega))⟩
      · go_simp
        go_at_call 62
        refine (pick_any B R P (by omega) 8 (by omega) _ HR2.out).mono ?_
        rintro e W3 ⟨z, rfl, hz0, hz, hr, hk⟩
        refine hK.out _ _ trivial (fun hHeld => ?_)
        clear hK K
        try simp only [Act.put, List.setIfInBounds_toArray, List.set_cons_zero, List.set_cons_succ]
        have hz8 : z < 8 := by omega
        have HR3 := Lib.hid hr
        have HK3 := Lib.hid (HK2.out.trans hk (by simp))
        have HL := Lib.hid (HL.out.kept hk (by simp; exact hLR))
        clear hr hk hz
        obtain ⟨z, rfl⟩ := Int.eq_ofNat_of_zero_le hz0
        have hz8' : z < 8 := by omega
        refine wpAnyH_ready (rs := [0, 6]) (by kernel_rfl) (by simp) ?_
        refine (AllReadyH.cons (opAt_lst3 rfl) (fun K hK => ?_) (AllReadyH.cons (opAt_lst3 rfl) (fun K hK => ?_) AllReadyH.nil))
        · go_simp
          have hka : Kept [] W3 (W3.alloc (.cells #[.int .i64 0, .int .i64 0, .int .i64 1, .int .i64 1, .int .i64 2, .int .i64 2, .int .i64 3, .int .i64 4] 3)) := (Kept.refl _ _).alloc _
          have HA := Lib.hid (Bk.new W3 3 #[.int .i64 0, .int .i64 0, .int .i64 1, .int .i64 1, .int .i64 2, .int .i64 2, .int .i64 3, .int .i64 4])
          refine hK.out _ _ trivial (fun hHeld => ?_)
          clear hK K
          try simp only [Act.put, List.setIfInBounds_toArray, List.set_cons_zero, List.set_cons_succ]
          obtain ⟨gA, hgA⟩ : ∃ g, g = W3.heap.size := ⟨_, rfl⟩
          have hAR : gA ≠ R := by have := HR3.out.lt; omega
          have HR4 := Lib.hid (HR3.out.kept hka (by simp))
          have HK4 := Lib.hid (HK3.out.trans hka (by simp))
          have HL := Lib.hid (HL.out.stay hka)
          generalize W3.alloc (.cells #[.int .i64 0, .int .i64 0, .int .i64 1, .int .i64 1, .int .i64 2, .int .i64 2, .int .i64 3, .int .i64 4] 3) = W4 at *
          rw [← hgA] at HA ⊢
          clear hgA hka
          refine wpAnyH_take (i := 3) (v := ?_) (opAt_lst3 rfl) (by kernel_rfl) (by kernel_rfl) (by kernel_rfl) (fun _ _ _ h => h) (Or.inl ⟨by rfl, ?_⟩) (by assumption) ?_
          rotate_left
          · intro w9 hSw
            (try dsimp only at hSw)
            go_simp
            try with_reducible rfl
          try simp only [Act.put, List.setIfInBounds_toArray, List.set_cons_zero, List.set_cons_succ]
          refine wpAnyH_ready (rs := [4, 6]) (by kernel_rfl) (by simp) ?_
          refine (AllReadyH.cons (opAt_lst3 rfl) (fun K hK => ?_) (AllReadyH.cons (opAt_lst3 rfl) (fun K hK => ?_) AllReadyH.nil))
          · obtain ⟨kx, hkx, kx0, kx4⟩ := eight_at HA.out z hz8'
            go_simp
            refine hK.out _ _ trivial (fun hHeld => ?_)
            clear hK K
            try simp only [Act.put, List.setIfInBounds_toArray, List.set_cons_zero, List.set_cons_succ]
            clear hkx
            refine wpAnyH_ready (rs := [6]) (by kernel_rfl) (by simp) ?_
            refine (AllReadyH.cons (opAt_lst3 rfl) (fun K hK => ?_) AllReadyH.nil)
            · go_simp
              go_at_call 62
              refine (pick_any B R (P + 1) (by omega) 60 (by omega) _ HR4.out).mono ?_
              rintro e W5 ⟨y, rfl, hy0, hy, hr, hk⟩
              refine hK.out _ _ trivial (fun hHeld => ?_)
              clear hK K
              try simp only [Act.put, List.setIfInBounds_toArray, List.set_cons_zero, List.set_cons_succ]
              have hy8 : y < 60 := by omega
              have HR5 := Lib.hid hr
              have HK5 := Lib.hid (HK4.out.trans hk (by simp))
              have HA := Lib.hid (HA.out.kept hk (by simp; exact hAR))
              have HL := Lib.hid (HL.out.kept hk (by simp; exact hLR))
              clear hr hk hy
              obtain ⟨d0, d1⟩ := tdiv_small hy0 (show y ≤ 100 by omega) (d := 59) (by omega)
              refine wpAnyH_take (i := 7) (v := ?_) (opAt_lst3 rfl) (by kernel_rfl) (by kernel_rfl) (by kernel_rfl) (fun _ _ _ h => h) (Or.inl ⟨by rfl, ?_⟩) (by assumption) ?_
              rotate_left
              · intro w9 hSw
                (try dsimp only at hSw)
                go_simp
                try with_reducible rfl
              try simp only [Act.put, List.setIfInBounds_toArray, List.set_cons_zero, List.set_cons_succ]
              refine wpAnyH_take (i := 8) (v := ?_) (opAt_lst3 rfl) (by kernel_rfl) (by kernel_rfl) (by kernel_rfl) (fun _ _ _ h => h) (Or.inl ⟨by rfl, ?_⟩) (by assumption) ?_
              rotate_left
              · intro w9 hSw
                (try dsimp only at hSw)
                go_simp
                try with_reducible rfl
              try simp only [Act.put, List.setIfInBounds_toArray, List.set_cons_zero, List.set_cons_succ]
              refine wpAnyH_take (i := 9) (v := ?_) (opAt_lst3 rfl) (by kernel_rfl) (by kernel_rfl) (by kernel_rfl) (fun _ _ _ h => h) (Or.inl ⟨by rfl, ?_⟩) (by assumption) ?_
              rotate_left
              · intro w9 hSw
                (try dsimp only at hSw)
                go_simp
                try with_reducible rfl
              try simp only [Act.put, List.setIfInBounds_toArray, List.set_cons_zero, List.set_cons_succ]
              refine wpAnyH_take (i := 10) (v := ?_) (opAt_lst3 rfl) (by kernel_rfl) (by kernel_rfl) (by kernel_rfl) (fun _ _ _ h => h) (Or.inl ⟨by rfl, ?_⟩) (by assumption) ?_
              rotate_left
              · intro w9 hSw
                (try dsimp only at hSw)
                go_simp
                try with_reducible rfl
              try simp only [Act.put, List.setIfInBounds_toArray, List.set_cons_zero, List.set_cons_succ]
              refine wpAnyH_ready (rs := [12]) (by kernel_rfl) (by simp) ?_
              refine AllReadyH.cons (opAt_lst3 rfl) (fun K hK => ?_) AllReadyH.nil
              obtain ⟨l0, l1, l2⟩ := HL.out.three
              have f0 := HL.out.frozen 0
              have f1 := HL.out.frozen 1
              have f2 := HL.out.frozen 2
              have hll := HL.out.lt
              go_simp
              refine hK.out _ _ trivial (fun hHeld => ?_)
              clear hK K
              try simp only [Act.put, List.setIfInBounds_toArray, List.set_cons_zero, List.set_cons_succ]
              refine wpAnyH_done (by kernel_rfl) ?_ _
              go_wp2_with fail
              go_meet
              exact ⟨gL, _, rfl, HL.out.set3 _ _ _, hLR, hLW, HR5.out.kept (Kept.rows3 _ gL _ _ _) (by simp; omega), HK5.out.trans (Kept.rows3 _ gL _ _ _) (fun q hq => .inr (by simp at hq; omega))⟩
          · go_simp
            go_at_call 62
            refine (pick_any B R (P + 1) (by omega) 60 (by omega) _ HR4.out).mono ?_
            rintro e W5 ⟨y, rfl, hy0, hy, hr, hk⟩
            refine hK.out _ _ trivial (fun hHeld => ?_)
            clear hK K
            try simp only [Act.put, List.setIfInBounds_toArray, List.set_cons_zero, List.set_cons_succ]
            have hy8 : y < 60 := by omega
            have HR5 := Lib.hid hr
            have HK5 := Lib.hid (HK4.out.trans hk (by simp))
            have HA := Lib.hid (HA.out.kept hk (by simp; exact hAR))
            have HL := Lib.hid (HL.out.kept hk (by simp; exact hLR))
            clear hr hk hy
            obtain ⟨d0, d1⟩ := tdiv_small hy0 (show y ≤ 100 by omega) (d := 59) (by omega)
            refine wpAnyH_take (i := 7) (v := ?_) (opAt_lst3 rfl) (by kernel_rfl) (by kernel_rfl) (by kernel_rfl) (fun _ _ _ h => h) (Or.inl ⟨by rfl, ?_⟩) (by assumption) ?_
            rotate_left
            · intro w9 hSw
              (try dsimp only at hSw)
              go_simp
              try with_reducible rfl
            try simp only [Act.put, List.setIfInBounds_toArray, List.set_cons_zero, List.set_cons_succ]
            refine wpAnyH_take (i := 8) (v := ?_) (opAt_lst3 rfl) (by kernel_rfl) (by kernel_rfl) (by kernel_rfl) (fun _ _ _ h => h) (Or.inl ⟨by rfl, ?_⟩) (by assumption) ?_
            rotate_left
            · intro w9 hSw
              (try dsimp only at hSw)
              go_simp
              try with_reducible rfl
            try simp only [Act.put, List.setIfInBounds_toArray, List.set_cons_zero, List.set_cons_succ]
            refine wpAnyH_ready (rs := [4]) (by kernel_rfl) (by simp) ?_
            refine (AllReadyH.cons (opAt_lst3 rfl) (fun K hK => ?_) AllReadyH.nil)
            · obtain ⟨kx, hkx, kx0, kx4⟩ := eight_at HA.out z hz8'
              go_simp
              refine hK.out _ _ trivial (fun hHeld => ?_)
              clear hK K
              try simp only [Act.put, List.setIfInBounds_toArray, List.set_cons_zero, List.set_cons_succ]
              clear hkx
              refine wpAnyH_take (i := 9) (v := ?_) (opAt_lst3 rfl) (by kernel_rfl) (by kernel_rfl) (by kernel_rfl) (fun _ _ _ h => h) (Or.inl ⟨by rfl, ?_⟩) (by assumption) ?_
              rotate_left
              · intro w9 hSw
                (try dsimp only at hSw)
                go_simp
                try with_reducible rfl
              try simp only [Act.put, List.setIfInBounds_toArray, List.set_cons_zero, List.set_cons_succ]
              refine wpAnyH_take (i := 10) (v := ?_) (opAt_lst3 rfl) (by kernel_rfl) (by kernel_rfl) (by kernel_rfl) (fun _ _ _ h => h) (Or.inl ⟨by rfl, ?_⟩) (by assumption) ?_
              rotate_left
              · intro w9 hSw
                (try dsimp only at hSw)
                go_simp
                try with_reducible rfl
              try simp only [Act.put, List.setIfInBounds_toArray, List.set_cons_zero, List.set_cons_succ]
              refine wpAnyH_ready (rs := [12]) (by kernel_rfl) (by simp) ?_
              refine AllReadyH.cons (opAt_lst3 rfl) (fun K hK => ?_) AllReadyH.nil
              obtain ⟨l0, l1, l2⟩ := HL.out.three
              have f0 := HL.out.frozen 0
              have f1 := HL.out.frozen 1
              have f2 := HL.out.frozen 2
              have hll := HL.out.lt
              go_simp
              refine hK.out _ _ trivial (fun hHeld => ?_)
              clear hK K
              try simp only [Act.put, List.setIfInBounds_toArray, List.set_cons_zero, List.set_cons_succ]
              refine wpAnyH_done (by kernel_rfl) ?_ _
              go_wp2_with fail
              go_meet
              exact ⟨gL, _, rfl, HL.out.set3 _ _ _, hLR, hLW, HR5.out.kept (Kept.rows3 _ gL _ _ _) (by simp; omega), HK5.out.trans (Kept.rows3 _ gL _ _ _) (fun q hq => .inr (by simp at hq; omega))⟩
        · go_simp
          go_at_call 62
          refine (pick_any B R (P + 1) (by omega) 60 (by omega) _ HR3.out).mono ?_
          rintro e W4 ⟨y, rfl, hy0, hy, hr, hk⟩
          refine hK.out _ _ trivial (fun hHeld => ?_)
          clear hK K
          try simp only [Act.put, List.setIfInBounds_toArray, List.set_cons_zero, List.set_cons_succ]
          have hy8 : y < 60 := by omega
          have HR4 := Lib.hid hr
          have HK4 := Lib.hid (HK3.out.trans hk (by simp))
          have HL := Lib.hid (HL.out.kept hk (by simp; exact hLR))
          clear hr hk hy
          obtain ⟨d0, d1⟩ := tdiv_small hy0 (show y ≤ 100 by omega) (d := 59) (by omega)
          refine wpAnyH_take (i := 7) (v := ?_) (opAt_lst3 rfl) (by kernel_rfl) (by kernel_rfl) (by kernel_rfl) (fun _ _ _ h => h) (Or.inl ⟨by rfl, ?_⟩) (by assumption) ?_
          rotate_left
          · intro w9 hSw
            (try dsimp only at hSw)
            go_simp
            try with_reducible rfl
          try simp only [Act.put, List.setIfInBounds_toArray, List.set_cons_zero, List.set_cons_succ]
          refine wpAnyH_take (i := 8) (v := ?_) (opAt_lst3 rfl) (by kernel_rfl) (by kernel_rfl) (by kernel_rfl) (fun _ _ _ h => h) (Or.inl ⟨by rfl, ?_⟩) (by assumption) ?_
          rotate_left
          · intro w9 hSw
            (try dsimp only at hSw)
            go_simp
            try with_reducible rfl
          try simp only [Act.put, List.setIfInBounds_toArray, List.set_cons_zero, List.set_cons_succ]
          refine wpAnyH_ready (rs := [0]) (by kernel_rfl) (by simp) ?_
          refine (AllReadyH.cons (opAt_lst3 rfl) (fun K hK => ?_) AllReadyH.nil)
          · go_simp
            have hka : Kept [] W4 (W4.alloc (.cells #[.int .i64 0, .int .i64 0, .int .i64 1, .int .i64 1, .int .i64 2, .int .i64 2, .int .i64 3, .int .i64 4] 3)) := (Kept.refl _ _).alloc _
            have HA := Lib.hid (Bk.new W4 3 #[.int .i64 0, .int .i64 0, .int .i64 1, .int .i64 1, .int .i64 2, .int .i64 2, .int .i64 3, .int .i64 4])
            refine hK.out _ _ trivial (fun hHeld => ?_)
            clear hK K
            try simp only [Act.put, List.setIfInBounds_toArray, List.set_cons_zero, List.set_cons_succ]
            obtain ⟨gA, hgA⟩ : ∃ g, g = W4.heap.size := ⟨_, rfl⟩
            have hAR : gA ≠ R := by have := HR4.out.lt; omega
            have HR5 := Lib.hid (HR4.out.kept hka (by simp))
            have HK5 := Lib.hid (HK4.out.trans hka (by simp))
            have HL := Lib.hid (HL.out.stay hka)
            generalize W4.alloc (.cells #[.int .i64 0, .int .i64 0, .int .i64 1, .int .i64 1, .int .i64 2, .int .i64 2, .int .i64 3, .int .i64 4] 3) = W5 at *
            rw [← hgA] at HA ⊢
            clear hgA hka
            refine wpAnyH_take (i := 3) (v := ?_) (opAt_lst3 rfl) (by kernel_rfl) (by kernel_rfl) (by kernel_rfl) (fun _ _ _ h => h) (Or.inl ⟨by rfl, ?_⟩) (by assumption) ?_
            rotate_left
            · intro w9 hSw
              (try dsimp only at hSw)
              go_simp
              try with_reducible rfl
            try simp only [Act.put, List.setIfInBounds_toArray, List.set_cons_zero, List.set_cons_succ]
            refine wpAnyH_ready (rs := [4]) (by kernel_rfl) (by simp) ?_
            refine (AllReadyH.cons (opAt_lst3 rfl) (fun K hK => ?_) AllReadyH.nil)
            · obtain ⟨kx, hkx, kx0, kx4⟩ := eight_at HA.out z hz8'
              go_simp
              refine hK.out _ _ trivial (fun hHeld => ?_)
              clear hK K
              try simp only [Act.put, List.setIfInBounds_toArray, List.set_cons_zero, List.set_cons_succ]
              clear hkx
              refine wpAnyH_take (i := 9) (v := ?_) (opAt_lst3 rfl) (by kernel_rfl) (by kernel_rfl) (by kernel_rfl) (fun _ _ _ h => h) (Or.inl ⟨by rfl, ?_⟩) (by assumption) ?_
              rotate_left
              · intro w9 hSw
                (try dsimp only at hSw)
                go_simp
                try with_reducible rfl
              try simp only [Act.put, List.setIfInBounds_toArray, List.set_cons_zero, List.set_cons_succ]
              refine wpAnyH_take (i := 10) (v := ?_) (opAt_lst3 rfl) (by kernel_rfl) (by kernel_rfl) (by kernel_rfl) (fun _ _ _ h => h) (Or.inl ⟨by rfl, ?_⟩) (by assumption) ?_
              rotate_left
              · intro w9 hSw
                (try dsimp only at hSw)
                go_simp
                try with_reducible rfl
              try simp only [Act.put, List.setIfInBounds_toArray, List.set_cons_zero, List.set_cons_succ]
              refine wpAnyH_ready (rs := [12]) (by kernel_rfl) (by simp) ?_
              refine AllReadyH.cons (opAt_lst3 rfl) (fun K hK => ?_) AllReadyH.nil
              obtain ⟨l0, l1, l2⟩ := HL.out.three
              have f0 := HL.out.frozen 0
              have f1 := HL.out.frozen 1
              have f2 := HL.out.frozen 2
              have hll := HL.out.lt
              go_simp
              refine hK.out _ _ trivial (fun hHeld => ?_)
              clear hK K
              try simp only [Act.put, List.setIfInBounds_toArray, List.set_cons_zero, List.set_cons_succ]
              refine wpAnyH_done (by kernel_rfl) ?_ _
              go_wp2_with fail
              go_meet
              exact ⟨gL, _, rfl, HL.out.set3 _ _ _, hLR, hLW, HR5.out.kept (Kept.rows3 _ gL _ _ _) (by simp; omega), HK5.out.trans (Kept.rows3 _ gL _ _ _) (fun q hq => .inr (by simp at hq; omega))⟩
  case rest =>
    obtain ⟨gL, k, rfl, hL, hLR, hLW, hr, hk⟩ := hcut
    have hdW : w.heap.size + 1 < W0.heap.size := HD.out.lt
    have HL1 := Lib.hid hL
    have HR1 := Lib.hid hr
    have HB1 := Lib.hid (HB.out.kept hk (by simp; omega))
    have HD1 := Lib.hid (HD.out.kept hk (by simp; omega))
    have HK1 := Lib.hid (HK.out.trans hk (by simp))
    skip
    clear hL hr hk HR HB HD HK
    obtain ⟨l0, l1, l2⟩ := HL1.out.three
    have f0 := HL1.out.frozen 0
    have f1 := HL1.out.frozen 1
    have f2 := HL1.out.frozen 2
    have hll := HL1.out.lt
    obtain ⟨r0, r1, r2⟩ := HB1.out.three
    obtain ⟨s0, s1, s2⟩ := HD1.out.three
    have g0 := HD1.out.frozen 0
    have g1 := HD1.out.frozen 1
    have g2 := HD1.out.frozen 2
    have hdl := HD1.out.lt
    rcases (show n = 0 ∨ n = 1 ∨ 2 ≤ n by omega) with rfl | rfl | hn2
    all_goals
      by_cases hk0 : k = 0
      · subst hk0
        go_wp2_with fail
        refine (pick_any B R _ (by omega) _ (by omega) _ HR1.out).mono ?_
        rintro e x2 ⟨a, rfl, ha0, ha, hr, hk⟩
        have HR2 := Lib.hid hr
        have HL2 := Lib.hid (HL1.out.kept hk (by simp; exact hLR))
        have HB2 := Lib.hid (HB1.out.kept hk (by simp; omega))
        have HD2 := Lib.hid (HD1.out.kept hk (by simp; omega))
        have HK2 := Lib.hid (HK1.out.trans hk (by simp))
        clear hr hk
        clear l0 l1 l2 f0 f1 f2 hll r0 r1 r2 s0 s1 s2 g0 g1 g2 hdl
        obtain ⟨l0, l1, l2⟩ := HL2.out.three
        have f0 := HL2.out.frozen 0
        have f1 := HL2.out.frozen 1
        have f2 := HL2.out.frozen 2
        have hll := HL2.out.lt
        obtain ⟨r0, r1, r2⟩ := HB2.out.three
        obtain ⟨s0, s1, s2⟩ := HD2.out.three
        have g0 := HD2.out.frozen 0
        have g1 := HD2.out.frozen 1
        have g2 := HD2.out.frozen 2
        have hdl := HD2.out.lt
        have hkT : Kept [gL] x2 (x2.setCell ⟨gL, 1, none⟩ (.int .i64 a)) := (Kept.refl _ _).setCell (.inl (by simp)) _
        have HL3 : Hid (Bk (x2.setCell ⟨gL, 1, none⟩ (.int .i64 a)) gL 36 #[.int .i64 (0), .int .i64 (a), .int .i64 (0)]) := Lib.hid (HL2.out.set 1 _)
        have HR3 := Lib.hid (HR2.out.kept hkT (by simp; omega))
        have HB3 := Lib.hid (HB2.out.kept hkT (by simp; omega))
        have HD3 := Lib.hid (HD2.out.kept hkT (by simp; omega))
        have HK3 := Lib.hid (HK2.out.trans hkT (fun q hq => .inr (by simp at hq; omega)))
        clear hkT
        go_wp2_with fail
        generalize (x2.setCell ⟨gL, 1, none⟩ (.int .i64 a)) = x3 at *
        clear l0 l1 l2 f0 f1 f2 hll r0 r1 r2 s0 s1 s2 g0 g1 g2 hdl
        obtain ⟨l0, l1, l2⟩ := HL3.out.three
        have f0 := HL3.out.frozen 0
        have f1 := HL3.out.frozen 1
        have f2 := HL3.out.frozen 2
        have hll := HL3.out.lt
        obtain ⟨r0, r1, r2⟩ := HB3.out.three
        obtain ⟨s0, s1, s2⟩ := HD3.out.three
        have g0 := HD3.out.frozen 0
        have g1 := HD3.out.frozen 1
        have g2 := HD3.out.frozen 2
        have hdl := HD3.out.lt
        refine (pick_any B R _ (by omega) _ (by omega) _ HR3.out).mono ?_
        rintro e x4 ⟨b, rfl, hb0, hb, hr, hk⟩
        have HR4 := Lib.hid hr
        have HL4 := Lib.hid (HL3.out.kept hk (by simp; exact hLR))
        have HB4 := Lib.hid (HB3.out.kept hk (by simp; omega))
        have HD4 := Lib.hid (HD3.out.kept hk (by simp; omega))
        have HK4 := Lib.hid (HK3.out.trans hk (by simp))
        clear hr hk
        clear l0 l1 l2 f0 f1 f2 hll r0 r1 r2 s0 s1 s2 g0 g1 g2 hdl
        obtain ⟨l0, l1, l2⟩ := HL4.out.three
        have f0 := HL4.out.frozen 0
        have f1 := HL4.out.frozen 1
        have f2 := HL4.out.frozen 2
        have hll := HL4.out.lt
        obtain ⟨r0, r1, r2⟩ := HB4.out.three
        obtain ⟨s0, s1, s2⟩ := HD4.out.three
        have g0 := HD4.out.frozen 0
        have g1 := HD4.out.frozen 1
        have g2 := HD4.out.frozen 2
        have hdl := HD4.out.lt
        have hkT : Kept [gL] x4 (x4.setCell ⟨gL, 2, none⟩ (.int .i64 b)) := (Kept.refl _ _).setCell (.inl (by simp)) _
        have HL5 : Hid (Bk (x4.setCell ⟨gL, 2, none⟩ (.int .i64 b)) gL 36 #[.int .i64 (0), .int .i64 (a), .int .i64 (b)]) := Lib.hid (HL4.out.set 2 _)
        have HR5 := Lib.hid (HR4.out.kept hkT (by simp; omega))
        have HB5 := Lib.hid (HB4.out.kept hkT (by simp; omega))
        have HD5 := Lib.hid (HD4.out.kept hkT (by simp; omega))
        have HK5 := Lib.hid (HK4.out.trans hkT (fun q hq => .inr (by simp at hq; omega)))
        clear hkT
        go_wp2_with fail
        generalize (x4.setCell ⟨gL, 2, none⟩ (.int .i64 b)) = x5 at *
        clear l0 l1 l2 f0 f1 f2 hll r0 r1 r2 s0 s1 s2 g0 g1 g2 hdl
        obtain ⟨l0, l1, l2⟩ := HL5.out.three
        have f0 := HL5.out.frozen 0
        have f1 := HL5.out.frozen 1
        have f2 := HL5.out.frozen 2
        have hll := HL5.out.lt
        obtain ⟨r0, r1, r2⟩ := HB5.out.three
        obtain ⟨s0, s1, s2⟩ := HD5.out.three
        have g0 := HD5.out.frozen 0
        have g1 := HD5.out.frozen 1
        have g2 := HD5.out.frozen 2
        have hdl := HD5.out.lt
        refine (odd_any B R _ (by omega) 40 (by omega) (by omega) _ HR5.out).mono ?_
        rintro e x6 ⟨o, rfl, hr, hk⟩
        have HR6 := Lib.hid hr
        have HL6 := Lib.hid (HL5.out.kept hk (by simp; exact hLR))
        have HB6 := Lib.hid (HB5.out.kept hk (by simp; omega))
        have HD6 := Lib.hid (HD5.out.kept hk (by simp; omega))
        have HK6 := Lib.hid (HK5.out.trans hk (by simp))
        clear hr hk
        clear l0 l1 l2 f0 f1 f2 hll r0 r1 r2 s0 s1 s2 g0 g1 g2 hdl
        obtain ⟨l0, l1, l2⟩ := HL6.out.three
        have f0 := HL6.out.frozen 0
        have f1 := HL6.out.frozen 1
        have f2 := HL6.out.frozen 2
        have hll := HL6.out.lt
        obtain ⟨r0, r1, r2⟩ := HB6.out.three
        obtain ⟨s0, s1, s2⟩ := HD6.out.three
        have g0 := HD6.out.frozen 0
        have g1 := HD6.out.frozen 1
        have g2 := HD6.out.frozen 2
        have hdl := HD6.out.lt
        cases o
        · go_wp2
          (try simp only [Exit.inBlock, Exit.then])
          refine bodyPost_ret (results_cell_row rfl _ _ (w.heap.size + 1) 36 #[.int .i64 (0), .int .i64 (a), .int .i64 (b)] (0, 0) _ rfl (HD6.out.set3 _ _ _) Tryd.underlying36 rfl (by kernel_rfl)) rfl ?_
          exact ⟨_, _, _, rfl, (HR6.out.kept (Kept.rows3 _ (w.heap.size + 1) _ _ _) (by simp; omega)).mono (by omega), HK6.out.trans (Kept.rows3 _ (w.heap.size + 1) _ _ _) (fun q hq => .inr (by simp at hq; omega))⟩
        · go_wp2_with fail
          refine (pick_any B R _ (by omega) 2 (by omega) _ HR6.out).mono ?_
          rintro e x7 ⟨z, rfl, hz0, hz, hr, hk⟩
          have HR7 := Lib.hid hr
          have HL7 := Lib.hid (HL6.out.kept hk (by simp; exact hLR))
          have HB7 := Lib.hid (HB6.out.kept hk (by simp; omega))
          have HD7 := Lib.hid (HD6.out.kept hk (by simp; omega))
          have HK7 := Lib.hid (HK6.out.trans hk (by simp))
          clear hr hk
          clear l0 l1 l2 f0 f1 f2 hll r0 r1 r2 s0 s1 s2 g0 g1 g2 hdl
          obtain ⟨l0, l1, l2⟩ := HL7.out.three
          have f0 := HL7.out.frozen 0
          have f1 := HL7.out.frozen 1
          have f2 := HL7.out.frozen 2
          have hll := HL7.out.lt
          obtain ⟨r0, r1, r2⟩ := HB7.out.three
          obtain ⟨s0, s1, s2⟩ := HD7.out.three
          have g0 := HD7.out.frozen 0
          have g1 := HD7.out.frozen 1
          have g2 := HD7.out.frozen 2
          have hdl := HD7.out.lt
          rcases (show z = 0 ∨ z = 1 by omega) with rfl | rfl
          · go_wp2_with fail
            have hka : Kept [R] x7 (x7.alloc (.cells #[.int .i64 (-1), .int .i64 100] 3)) := (Kept.refl _ _).alloc _
            refine (pick_any B R _ (by omega) 2 (by omega) _ (HR7.out.kept ((Kept.refl [] x7).alloc (.cells #[.int .i64 (-1), .int .i64 100] 3)) (by simp))).mono ?_
            rintro e x8 ⟨q, rfl, hq0, hq, hr, hk'⟩
            have hl2 : Bk x8 x7.heap.size 3 #[.int .i64 (-1), .int .i64 100] := (Bk.new x7 3 _).kept hk' (by simp; have := HR7.out.lt; omega)
            have m0 := hl2.cell 0 rfl
            have m1 := hl2.cell 1 rfl
            have hml := hl2.lt
            have hk := hka.trans hk' (by simp)
            have HR8 := Lib.hid hr
            have HL8 := Lib.hid (HL7.out.kept hk (by simp; exact hLR))
            have HB8 := Lib.hid (HB7.out.kept hk (by simp; omega))
            have HD8 := Lib.hid (HD7.out.kept hk (by simp; omega))
            have HK8 := Lib.hid (HK7.out.trans hk (by simp))
            clear hr hk
            clear l0 l1 l2 f0 f1 f2 hll r0 r1 r2 s0 s1 s2 g0 g1 g2 hdl
            obtain ⟨l0, l1, l2⟩ := HL8.out.three
            have f0 := HL8.out.frozen 0
            have f1 := HL8.out.frozen 1
            have f2 := HL8.out.frozen 2
            have hll := HL8.out.lt
            obtain ⟨r0, r1, r2⟩ := HB8.out.three
            obtain ⟨s0, s1, s2⟩ := HD8.out.three
            have g0 := HD8.out.frozen 0
            have g1 := HD8.out.frozen 1
            have g2 := HD8.out.frozen 2
            have hdl := HD8.out.lt
            clear hl2 hka hk'
            rcases (show q = 0 ∨ q = 1 by omega) with rfl | rfl
            · have hkT : Kept [gL] x8 (x8.setCell ⟨gL, 1, none⟩ (.int .i64 (-1))) := (Kept.refl _ _).setCell (.inl (by simp)) _
              have HL9 : Hid (Bk (x8.setCell ⟨gL, 1, none⟩ (.int .i64 (-1))) gL 36 #[.int .i64 (0), .int .i64 (-1), .int .i64 (b)]) := Lib.hid (HL8.out.set 1 _)
              have HR9 := Lib.hid (HR8.out.kept hkT (by simp; omega))
              have HB9 := Lib.hid (HB8.out.kept hkT (by simp; omega))
              have HD9 := Lib.hid (HD8.out.kept hkT (by simp; omega))
              have HK9 := Lib.hid (HK8.out.trans hkT (fun q hq => .inr (by simp at hq; omega)))
              clear hkT
              go_wp2
              try generalize (x8.setCell ⟨gL, 1, none⟩ (.int .i64 (-1))) = x9 at *
              (try simp only [Exit.inBlock, Exit.then])
              refine bodyPost_ret (results_cell_row rfl _ _ (w.heap.size + 1) 36 #[.int .i64 (0), .int .i64 (-1), .int .i64 (b)] (0, 0) _ rfl (HD9.out.set3 _ _ _) Tryd.underlying36 rfl (by kernel_rfl)) rfl ?_
              exact ⟨_, _, _, rfl, (HR9.out.kept (Kept.rows3 _ (w.heap.size + 1) _ _ _) (by simp; omega)).mono (by omega), HK9.out.trans (Kept.rows3 _ (w.heap.size + 1) _ _ _) (fun q hq => .inr (by simp at hq; omega))⟩
            · have hkT : Kept [gL] x8 (x8.setCell ⟨gL, 1, none⟩ (.int .i64 (100))) := (Kept.refl _ _).setCell (.inl (by simp)) _
              have HL9 : Hid (Bk (x8.setCell ⟨gL, 1, none⟩ (.int .i64 (100))) gL 36 #[.int .i64 (0), .int .i64 (100), .int .i64 (b)]) := Lib.hid (HL8.out.set 1 _)
              have HR9 := Lib.hid (HR8.out.kept hkT (by simp; omega))
              have HB9 := Lib.hid (HB8.out.kept hkT (by simp; omega))
              have HD9 := Lib.hid (HD8.out.kept hkT (by simp; omega))
              have HK9 := Lib.hid (HK8.out.trans hkT (fun q hq => .inr (by simp at hq; omega)))
              clear hkT
              go_wp2
              try generalize (x8.setCell ⟨gL, 1, none⟩ (.int .i64 (100))) = x9 at *
              (try simp only [Exit.inBlock, Exit.then])
              refine bodyPost_ret (results_cell_row rfl _ _ (w.heap.size + 1) 36 #[.int .i64 (0), .int .i64 (100), .int .i64 (b)] (0, 0) _ rfl (HD9.out.set3 _ _ _) Tryd.underlying36 rfl (by kernel_rfl)) rfl ?_
              exact ⟨_, _, _, rfl, (HR9.out.kept (Kept.rows3 _ (w.heap.size + 1) _ _ _) (by simp; omega)).mono (by omega), HK9.out.trans (Kept.rows3 _ (w.heap.size + 1) _ _ _) (fun q hq => .inr (by simp at hq; omega))⟩
          · have hkT : Kept [gL] x7 (x7.setCell ⟨gL, 2, none⟩ (.int .i64 (99))) := (Kept.refl _ _).setCell (.inl (by simp)) _
            have HL8 : Hid (Bk (x7.setCell ⟨gL, 2, none⟩ (.int .i64 (99))) gL 36 #[.int .i64 (0), .int .i64 (a), .int .i64 (99)]) := Lib.hid (HL7.out.set 2 _)
            have HR8 := Lib.hid (HR7.out.kept hkT (by simp; omega))
            have HB8 := Lib.hid (HB7.out.kept hkT (by simp; omega))
            have HD8 := Lib.hid (HD7.out.kept hkT (by simp; omega))
            have HK8 := Lib.hid (HK7.out.trans hkT (fun q hq => .inr (by simp at hq; omega)))
            clear hkT
            go_wp2
            try generalize (x7.setCell ⟨gL, 2, none⟩ (.int .i64 (99))) = x8 at *
            (try simp only [Exit.inBlock, Exit.then])
            refine bodyPost_ret (results_cell_row rfl _ _ (w.heap.size + 1) 36 #[.int .i64 (0), .int .i64 (a), .int .i64 (99)] (0, 0) _ rfl (HD8.out.set3 _ _ _) Tryd.underlying36 rfl (by kernel_rfl)) rfl ?_
            exact ⟨_, _, _, rfl, (HR8.out.kept (Kept.rows3 _ (w.heap.size + 1) _ _ _) (by simp; omega)).mono (by omega), HK8.out.trans (Kept.rows3 _ (w.heap.size + 1) _ _ _) (fun q hq => .inr (by simp at hq; omega))⟩
      by_cases hk1 : k = 1
      · subst hk1
        go_wp2_with fail
        refine (pick_any B R _ (by omega) _ (by omega) _ HR1.out).mono ?_
        rintro e x2 ⟨a, rfl, ha0, ha, hr, hk⟩
        have HR2 := Lib.hid hr
        have HL2 := Lib.hid (HL1.out.kept hk (by simp; exact hLR))
        have HB2 := Lib.hid (HB1.out.kept hk (by simp; omega))
        have HD2 := Lib.hid (HD1.out.kept hk (by simp; omega))
        have HK2 := Lib.hid (HK1.out.trans hk (by simp))
        clear hr hk
        clear l0 l1 l2 f0 f1 f2 hll r0 r1 r2 s0 s1 s2 g0 g1 g2 hdl
        obtain ⟨l0, l1, l2⟩ := HL2.out.three
        have f0 := HL2.out.frozen 0
        have f1 := HL2.out.frozen 1
        have f2 := HL2.out.frozen 2
        have hll := HL2.out.lt
        obtain ⟨r0, r1, r2⟩ := HB2.out.three
        obtain ⟨s0, s1, s2⟩ := HD2.out.three
        have g0 := HD2.out.frozen 0
        have g1 := HD2.out.frozen 1
        have g2 := HD2.out.frozen 2
        have hdl := HD2.out.lt
        have hkT : Kept [gL] x2 (x2.setCell ⟨gL, 1, none⟩ (.int .i64 a)) := (Kept.refl _ _).setCell (.inl (by simp)) _
        have HL3 : Hid (Bk (x2.setCell ⟨gL, 1, none⟩ (.int .i64 a)) gL 36 #[.int .i64 (1), .int .i64 (a), .int .i64 (0)]) := Lib.hid (HL2.out.set 1 _)
        have HR3 := Lib.hid (HR2.out.kept hkT (by simp; omega))
        have HB3 := Lib.hid (HB2.out.kept hkT (by simp; omega))
        have HD3 := Lib.hid (HD2.out.kept hkT (by simp; omega))
        have HK3 := Lib.hid (HK2.out.trans hkT (fun q hq => .inr (by simp at hq; omega)))
        clear hkT
        go_wp2_with fail
        generalize (x2.setCell ⟨gL, 1, none⟩ (.int .i64 a)) = x3 at *
        clear l0 l1 l2 f0 f1 f2 hll r0 r1 r2 s0 s1 s2 g0 g1 g2 hdl
        obtain ⟨l0, l1, l2⟩ := HL3.out.three
        have f0 := HL3.out.frozen 0
        have f1 := HL3.out.frozen 1
        have f2 := HL3.out.frozen 2
        have hll := HL3.out.lt
        obtain ⟨r0, r1, r2⟩ := HB3.out.three
        obtain ⟨s0, s1, s2⟩ := HD3.out.three
        have g0 := HD3.out.frozen 0
        have g1 := HD3.out.frozen 1
        have g2 := HD3.out.frozen 2
        have hdl := HD3.out.lt
        refine (odd_any B R _ (by omega) 40 (by omega) (by omega) _ HR3.out).mono ?_
        rintro e x4 ⟨o, rfl, hr, hk⟩
        have HR4 := Lib.hid hr
        have HL4 := Lib.hid (HL3.out.kept hk (by simp; exact hLR))
        have HB4 := Lib.hid (HB3.out.kept hk (by simp; omega))
        have HD4 := Lib.hid (HD3.out.kept hk (by simp; omega))
        have HK4 := Lib.hid (HK3.out.trans hk (by simp))
        clear hr hk
        clear l0 l1 l2 f0 f1 f2 hll r0 r1 r2 s0 s1 s2 g0 g1 g2 hdl
        obtain ⟨l0, l1, l2⟩ := HL4.out.three
        have f0 := HL4.out.frozen 0
        have f1 := HL4.out.frozen 1
        have f2 := HL4.out.frozen 2
        have hll := HL4.out.lt
        obtain ⟨r0, r1, r2⟩ := HB4.out.three
        obtain ⟨s0, s1, s2⟩ := HD4.out.three
        have g0 := HD4.out.frozen 0
        have g1 := HD4.out.frozen 1
        have g2 := HD4.out.frozen 2
        have hdl := HD4.out.lt
        cases o
        · go_wp2
          (try simp only [Exit.inBlock, Exit.then])
          refine bodyPost_ret (results_cell_row rfl _ _ (w.heap.size + 1) 36 #[.int .i64 (1), .int .i64 (a), .int .i64 (0)] (0, 0) _ rfl (HD4.out.set3 _ _ _) Tryd.underlying36 rfl (by kernel_rfl)) rfl ?_
          exact ⟨_, _, _, rfl, (HR4.out.kept (Kept.rows3 _ (w.heap.size + 1) _ _ _) (by simp; omega)).mono (by omega), HK4.out.trans (Kept.rows3 _ (w.heap.size + 1) _ _ _) (fun q hq => .inr (by simp at hq; omega))⟩
        · go_wp2_with fail
          refine (pick_any B R _ (by omega) 2 (by omega) _ HR4.out).mono ?_
          rintro e x5 ⟨z, rfl, hz0, hz, hr, hk⟩
          have HR5 := Lib.hid hr
          have HL5 := Lib.hid (HL4.out.kept hk (by simp; exact hLR))
          have HB5 := Lib.hid (HB4.out.kept hk (by simp; omega))
          have HD5 := Lib.hid (HD4.out.kept hk (by simp; omega))
          have HK5 := Lib.hid (HK4.out.trans hk (by simp))
          clear hr hk
          clear l0 l1 l2 f0 f1 f2 hll r0 r1 r2 s0 s1 s2 g0 g1 g2 hdl
          obtain ⟨l0, l1, l2⟩ := HL5.out.three
          have f0 := HL5.out.frozen 0
          have f1 := HL5.out.frozen 1
          have f2 := HL5.out.frozen 2
          have hll := HL5.out.lt
          obtain ⟨r0, r1, r2⟩ := HB5.out.three
          obtain ⟨s0, s1, s2⟩ := HD5.out.three
          have g0 := HD5.out.frozen 0
          have g1 := HD5.out.frozen 1
          have g2 := HD5.out.frozen 2
          have hdl := HD5.out.lt
          rcases (show z = 0 ∨ z = 1 by omega) with rfl | rfl
          · go_wp2_with fail
            have hka : Kept [R] x5 (x5.alloc (.cells #[.int .i64 (-1), .int .i64 100] 3)) := (Kept.refl _ _).alloc _
            refine (pick_any B R _ (by omega) 2 (by omega) _ (HR5.out.kept ((Kept.refl [] x5).alloc (.cells #[.int .i64 (-1), .int .i64 100] 3)) (by simp))).mono ?_
            rintro e x6 ⟨q, rfl, hq0, hq, hr, hk'⟩
            have hl2 : Bk x6 x5.heap.size 3 #[.int .i64 (-1), .int .i64 100] := (Bk.new x5 3 _).kept hk' (by simp; have := HR5.out.lt; omega)
            have m0 := hl2.cell 0 rfl
            have m1 := hl2.cell 1 rfl
            have hml := hl2.lt
            have hk := hka.trans hk' (by simp)
            have HR6 := Lib.hid hr
            have HL6 := Lib.hid (HL5.out.kept hk (by simp; exact hLR))
            have HB6 := Lib.hid (HB5.out.kept hk (by simp; omega))
            have HD6 := Lib.hid (HD5.out.kept hk (by simp; omega))
            have HK6 := Lib.hid (HK5.out.trans hk (by simp))
            clear hr hk
            clear l0 l1 l2 f0 f1 f2 hll r0 r1 r2 s0 s1 s2 g0 g1 g2 hdl
            obtain ⟨l0, l1, l2⟩ := HL6.out.three
            have f0 := HL6.out.frozen 0
            have f1 := HL6.out.frozen 1
            have f2 := HL6.out.frozen 2
            have hll := HL6.out.lt
            obtain ⟨r0, r1, r2⟩ := HB6.out.three
            obtain ⟨s0, s1, s2⟩ := HD6.out.three
            have g0 := HD6.out.frozen 0
            have g1 := HD6.out.frozen 1
            have g2 := HD6.out.frozen 2
            have hdl := HD6.out.lt
            clear hl2 hka hk'
            rcases (show q = 0 ∨ q = 1 by omega) with rfl | rfl
            · have hkT : Kept [gL] x6 (x6.setCell ⟨gL, 1, none⟩ (.int .i64 (-1))) := (Kept.refl _ _).setCell (.inl (by simp)) _
              have HL7 : Hid (Bk (x6.setCell ⟨gL, 1, none⟩ (.int .i64 (-1))) gL 36 #[.int .i64 (1), .int .i64 (-1), .int .i64 (0)]) := Lib.hid (HL6.out.set 1 _)
              have HR7 := Lib.hid (HR6.out.kept hkT (by simp; omega))
              have HB7 := Lib.hid (HB6.out.kept hkT (by simp; omega))
              have HD7 := Lib.hid (HD6.out.kept hkT (by simp; omega))
              have HK7 := Lib.hid (HK6.out.trans hkT (fun q hq => .inr (by simp at hq; omega)))
              clear hkT
              go_wp2
              try generalize (x6.setCell ⟨gL, 1, none⟩ (.int .i64 (-1))) = x7 at *
              (try simp only [Exit.inBlock, Exit.then])
              refine bodyPost_ret (results_cell_row rfl _ _ (w.heap.size + 1) 36 #[.int .i64 (1), .int .i64 (-1), .int .i64 (0)] (0, 0) _ rfl (HD7.out.set3 _ _ _) Tryd.underlying36 rfl (by kernel_rfl)) rfl ?_
              exact ⟨_, _, _, rfl, (HR7.out.kept (Kept.rows3 _ (w.heap.size + 1) _ _ _) (by simp; omega)).mono (by omega), HK7.out.trans (Kept.rows3 _ (w.heap.size + 1) _ _ _) (fun q hq => .inr (by simp at hq; omega))⟩
            · have hkT : Kept [gL] x6 (x6.setCell ⟨gL, 1, none⟩ (.int .i64 (100))) := (Kept.refl _ _).setCell (.inl (by simp)) _
              have HL7 : Hid (Bk (x6.setCell ⟨gL, 1, none⟩ (.int .i64 (100))) gL 36 #[.int .i64 (1), .int .i64 (100), .int .i64 (0)]) := Lib.hid (HL6.out.set 1 _)
              have HR7 := Lib.hid (HR6.out.kept hkT (by simp; omega))
              have HB7 := Lib.hid (HB6.out.kept hkT (by simp; omega))
              have HD7 := Lib.hid (HD6.out.kept hkT (by simp; omega))
              have HK7 := Lib.hid (HK6.out.trans hkT (fun q hq => .inr (by simp at hq; omega)))
              clear hkT
              go_wp2
              try generalize (x6.setCell ⟨gL, 1, none⟩ (.int .i64 (100))) = x7 at *
              (try simp only [Exit.inBlock, Exit.then])
              refine bodyPost_ret (results_cell_row rfl _ _ (w.heap.size + 1) 36 #[.int .i64 (1), .int .i64 (100), .int .i64 (0)] (0, 0) _ rfl (HD7.out.set3 _ _ _) Tryd.underlying36 rfl (by kernel_rfl)) rfl ?_
              exact ⟨_, _, _, rfl, (HR7.out.kept (Kept.rows3 _ (w.heap.size + 1) _ _ _) (by simp; omega)).mono (by omega), HK7.out.trans (Kept.rows3 _ (w.heap.size + 1) _ _ _) (fun q hq => .inr (by simp at hq; omega))⟩
          · have hkT : Kept [gL] x5 (x5.setCell ⟨gL, 2, none⟩ (.int .i64 (99))) := (Kept.refl _ _).setCell (.inl (by simp)) _
            have HL6 : Hid (Bk (x5.setCell ⟨gL, 2, none⟩ (.int .i64 (99))) gL 36 #[.int .i64 (1), .int .i64 (a), .int .i64 (99)]) := Lib.hid (HL5.out.set 2 _)
            have HR6 := Lib.hid (HR5.out.kept hkT (by simp; omega))
            have HB6 := Lib.hid (HB5.out.kept hkT (by simp; omega))
            have HD6 := Lib.hid (HD5.out.kept hkT (by simp; omega))
            have HK6 := Lib.hid (HK5.out.trans hkT (fun q hq => .inr (by simp at hq; omega)))
            clear hkT
            go_wp2
            try generalize (x5.setCell ⟨gL, 2, none⟩ (.int .i64 (99))) = x6 at *
            (try simp only [Exit.inBlock, Exit.then])
            refine bodyPost_ret (results_cell_row rfl _ _ (w.heap.size + 1) 36 #[.int .i64 (1), .int .i64 (a), .int .i64 (99)] (0, 0) _ rfl (HD6.out.set3 _ _ _) Tryd.underlying36 rfl (by kernel_rfl)) rfl ?_
            exact ⟨_, _, _, rfl, (HR6.out.kept (Kept.rows3 _ (w.heap.size + 1) _ _ _) (by simp; omega)).mono (by omega), HK6.out.trans (Kept.rows3 _ (w.heap.size + 1) _ _ _) (fun q hq => .inr (by simp at hq; omega))⟩
      by_cases hk3 : k = 3
      · subst hk3
        go_wp2_with fail
        refine (pick_any B R _ (by omega) 3 (by omega) _ HR1.out).mono ?_
        rintro e x2 ⟨a, rfl, ha0, ha, hr, hk⟩
        have HR2 := Lib.hid hr
        have HL2 := Lib.hid (HL1.out.kept hk (by simp; exact hLR))
        have HB2 := Lib.hid (HB1.out.kept hk (by simp; omega))
        have HD2 := Lib.hid (HD1.out.kept hk (by simp; omega))
        have HK2 := Lib.hid (HK1.out.trans hk (by simp))
        clear hr hk
        clear l0 l1 l2 f0 f1 f2 hll r0 r1 r2 s0 s1 s2 g0 g1 g2 hdl
        obtain ⟨l0, l1, l2⟩ := HL2.out.three
        have f0 := HL2.out.frozen 0
        have f1 := HL2.out.frozen 1
        have f2 := HL2.out.frozen 2
        have hll := HL2.out.lt
        obtain ⟨r0, r1, r2⟩ := HB2.out.three
        obtain ⟨s0, s1, s2⟩ := HD2.out.three
        have g0 := HD2.out.frozen 0
        have g1 := HD2.out.frozen 1
        have g2 := HD2.out.frozen 2
        have hdl := HD2.out.lt
        have ha3 : a < 3 := by omega
        have hkT : Kept [gL] x2 (x2.setCell ⟨gL, 1, none⟩ (.int .i64 (3 + a))) := (Kept.refl _ _).setCell (.inl (by simp)) _
        have HL3 : Hid (Bk (x2.setCell ⟨gL, 1, none⟩ (.int .i64 (3 + a))) gL 36 #[.int .i64 (3), .int .i64 (3 + a), .int .i64 (0)]) := Lib.hid (HL2.out.set 1 _)
        have HR3 := Lib.hid (HR2.out.kept hkT (by simp; omega))
        have HB3 := Lib.hid (HB2.out.kept hkT (by simp; omega))
        have HD3 := Lib.hid (HD2.out.kept hkT (by simp; omega))
        have HK3 := Lib.hid (HK2.out.trans hkT (fun q hq => .inr (by simp at hq; omega)))
        clear hkT
        go_wp2_with fail
        generalize (x2.setCell ⟨gL, 1, none⟩ (.int .i64 (3 + a))) = x3 at *
        clear l0 l1 l2 f0 f1 f2 hll r0 r1 r2 s0 s1 s2 g0 g1 g2 hdl
        obtain ⟨l0, l1, l2⟩ := HL3.out.three
        have f0 := HL3.out.frozen 0
        have f1 := HL3.out.frozen 1
        have f2 := HL3.out.frozen 2
        have hll := HL3.out.lt
        obtain ⟨r0, r1, r2⟩ := HB3.out.three
        obtain ⟨s0, s1, s2⟩ := HD3.out.three
        have g0 := HD3.out.frozen 0
        have g1 := HD3.out.frozen 1
        have g2 := HD3.out.frozen 2
        have hdl := HD3.out.lt
        refine (odd_any B R _ (by omega) 40 (by omega) (by omega) _ HR3.out).mono ?_
        rintro e x4 ⟨o, rfl, hr, hk⟩
        have HR4 := Lib.hid hr
        have HL4 := Lib.hid (HL3.out.kept hk (by simp; exact hLR))
        have HB4 := Lib.hid (HB3.out.kept hk (by simp; omega))
        have HD4 := Lib.hid (HD3.out.kept hk (by simp; omega))
        have HK4 := Lib.hid (HK3.out.trans hk (by simp))
        clear hr hk
        clear l0 l1 l2 f0 f1 f2 hll r0 r1 r2 s0 s1 s2 g0 g1 g2 hdl
        obtain ⟨l0, l1, l2⟩ := HL4.out.three
        have f0 := HL4.out.frozen 0
        have f1 := HL4.out.frozen 1
        have f2 := HL4.out.frozen 2
        have hll := HL4.out.lt
        obtain ⟨r0, r1, r2⟩ := HB4.out.three
        obtain ⟨s0, s1, s2⟩ := HD4.out.three
        have g0 := HD4.out.frozen 0
        have g1 := HD4.out.frozen 1
        have g2 := HD4.out.frozen 2
        have hdl := HD4.out.lt
        cases o
        · go_wp2
          (try simp only [Exit.inBlock, Exit.then])
          refine bodyPost_ret (results_cell_row rfl _ _ (w.heap.size + 1) 36 #[.int .i64 (3), .int .i64 (3 + a), .int .i64 (0)] (0, 0) _ rfl (HD4.out.set3 _ _ _) Tryd.underlying36 rfl (by kernel_rfl)) rfl ?_
          exact ⟨_, _, _, rfl, (HR4.out.kept (Kept.rows3 _ (w.heap.size + 1) _ _ _) (by simp; omega)).mono (by omega), HK4.out.trans (Kept.rows3 _ (w.heap.size + 1) _ _ _) (fun q hq => .inr (by simp at hq; omega))⟩
        · go_wp2_with fail
          refine (pick_any B R _ (by omega) 2 (by omega) _ HR4.out).mono ?_
          rintro e x5 ⟨z, rfl, hz0, hz, hr, hk⟩
          have HR5 := Lib.hid hr
          have HL5 := Lib.hid (HL4.out.kept hk (by simp; exact hLR))
          have HB5 := Lib.hid (HB4.out.kept hk (by simp; omega))
          have HD5 := Lib.hid (HD4.out.kept hk (by simp; omega))
          have HK5 := Lib.hid (HK4.out.trans hk (by simp))
          clear hr hk
          clear l0 l1 l2 f0 f1 f2 hll r0 r1 r2 s0 s1 s2 g0 g1 g2 hdl
          obtain ⟨l0, l1, l2⟩ := HL5.out.three
          have f0 := HL5.out.frozen 0
          have f1 := HL5.out.frozen 1
          have f2 := HL5.out.frozen 2
          have hll := HL5.out.lt
          obtain ⟨r0, r1, r2⟩ := HB5.out.three
          obtain ⟨s0, s1, s2⟩ := HD5.out.three
          have g0 := HD5.out.frozen 0
          have g1 := HD5.out.frozen 1
          have g2 := HD5.out.frozen 2
          have hdl := HD5.out.lt
          rcases (show z = 0 ∨ z = 1 by omega) with rfl | rfl
          · go_wp2_with fail
            have hka : Kept [R] x5 (x5.alloc (.cells #[.int .i64 (-1), .int .i64 100] 3)) := (Kept.refl _ _).alloc _
            refine (pick_any B R _ (by omega) 2 (by omega) _ (HR5.out.kept ((Kept.refl [] x5).alloc (.cells #[.int .i64 (-1), .int .i64 100] 3)) (by simp))).mono ?_
            rintro e x6 ⟨q, rfl, hq0, hq, hr, hk'⟩
            have hl2 : Bk x6 x5.heap.size 3 #[.int .i64 (-1), .int .i64 100] := (Bk.new x5 3 _).kept hk' (by simp; have := HR5.out.lt; omega)
            have m0 := hl2.cell 0 rfl
            have m1 := hl2.cell 1 rfl
            have hml := hl2.lt
            have hk := hka.trans hk' (by simp)
            have HR6 := Lib.hid hr
            have HL6 := Lib.hid (HL5.out.kept hk (by simp; exact hLR))
            have HB6 := Lib.hid (HB5.out.kept hk (by simp; omega))
            have HD6 := Lib.hid (HD5.out.kept hk (by simp; omega))
            have HK6 := Lib.hid (HK5.out.trans hk (by simp))
            clear hr hk
            clear l0 l1 l2 f0 f1 f2 hll r0 r1 r2 s0 s1 s2 g0 g1 g2 hdl
            obtain ⟨l0, l1, l2⟩ := HL6.out.three
            have f0 := HL6.out.frozen 0
            have f1 := HL6.out.frozen 1
            have f2 := HL6.out.frozen 2
            have hll := HL6.out.lt
            obtain ⟨r0, r1, r2⟩ := HB6.out.three
            obtain ⟨s0, s1, s2⟩ := HD6.out.three
            have g0 := HD6.out.frozen 0
            have g1 := HD6.out.frozen 1
            have g2 := HD6.out.frozen 2
            have hdl := HD6.out.lt
            clear hl2 hka hk'
            rcases (show q = 0 ∨ q = 1 by omega) with rfl | rfl
            · have hkT : Kept [gL] x6 (x6.setCell ⟨gL, 1, none⟩ (.int .i64 (-1))) := (Kept.refl _ _).setCell (.inl (by simp)) _
              have HL7 : Hid (Bk (x6.setCell ⟨gL, 1, none⟩ (.int .i64 (-1))) gL 36 #[.int .i64 (3), .int .i64 (-1), .int .i64 (0)]) := Lib.hid (HL6.out.set 1 _)
              have HR7 := Lib.hid (HR6.out.kept hkT (by simp; omega))
              have HB7 := Lib.hid (HB6.out.kept hkT (by simp; omega))
              have HD7 := Lib.hid (HD6.out.kept hkT (by simp; omega))
              have HK7 := Lib.hid (HK6.out.trans hkT (fun q hq => .inr (by simp at hq; omega)))
              clear hkT
              go_wp2
              try generalize (x6.setCell ⟨gL, 1, none⟩ (.int .i64 (-1))) = x7 at *
              (try simp only [Exit.inBlock, Exit.then])
              refine bodyPost_ret (results_cell_row rfl _ _ (w.heap.size + 1) 36 #[.int .i64 (3), .int .i64 (-1), .int .i64 (0)] (0, 0) _ rfl (HD7.out.set3 _ _ _) Tryd.underlying36 rfl (by kernel_rfl)) rfl ?_
              exact ⟨_, _, _, rfl, (HR7.out.kept (Kept.rows3 _ (w.heap.size + 1) _ _ _) (by simp; omega)).mono (by omega), HK7.out.trans (Kept.rows3 _ (w.heap.size + 1) _ _ _) (fun q hq => .inr (by simp at hq; omega))⟩
            · have hkT : Kept [gL] x6 (x6.setCell ⟨gL, 1, none⟩ (.int .i64 (100))) := (Kept.refl _ _).setCell (.inl (by simp)) _
              have HL7 : Hid (Bk (x6.setCell ⟨gL, 1, none⟩ (.int .i64 (100))) gL 36 #[.int .i64 (3), .int .i64 (100), .int .i64 (0)]) := Lib.hid (HL6.out.set 1 _)
              have HR7 := Lib.hid (HR6.out.kept hkT (by simp; omega))
              have HB7 := Lib.hid (HB6.out.kept hkT (by simp; omega))
              have HD7 := Lib.hid (HD6.out.kept hkT (by simp; omega))
              have HK7 := Lib.hid (HK6.out.trans hkT (fun q hq => .inr (by simp at hq; omega)))
              clear hkT
              go_wp2
              try generalize (x6.setCell ⟨gL, 1, none⟩ (.int .i64 (100))) = x7 at *
              (try simp only [Exit.inBlock, Exit.then])
              refine bodyPost_ret (results_cell_row rfl _ _ (w.heap.size + 1) 36 #[.int .i64 (3), .int .i64 (100), .int .i64 (0)] (0, 0) _ rfl (HD7.out.set3 _ _ _) Tryd.underlying36 rfl (by kernel_rfl)) rfl ?_
              exact ⟨_, _, _, rfl, (HR7.out.kept (Kept.rows3 _ (w.heap.size + 1) _ _ _) (by simp; omega)).mono (by omega), HK7.out.trans (Kept.rows3 _ (w.heap.size + 1) _ _ _) (fun q hq => .inr (by simp at hq; omega))⟩
          · have hkT : Kept [gL] x5 (x5.setCell ⟨gL, 2, none⟩ (.int .i64 (99))) := (Kept.refl _ _).setCell (.inl (by simp)) _
            have HL6 : Hid (Bk (x5.setCell ⟨gL, 2, none⟩ (.int .i64 (99))) gL 36 #[.int .i64 (3), .int .i64 (3 + a), .int .i64 (99)]) := Lib.hid (HL5.out.set 2 _)
            have HR6 := Lib.hid (HR5.out.kept hkT (by simp; omega))
            have HB6 := Lib.hid (HB5.out.kept hkT (by simp; omega))
            have HD6 := Lib.hid (HD5.out.kept hkT (by simp; omega))
            have HK6 := Lib.hid (HK5.out.trans hkT (fun q hq => .inr (by simp at hq; omega)))
            clear hkT
            go_wp2
            try generalize (x5.setCell ⟨gL, 2, none⟩ (.int .i64 (99))) = x6 at *
            (try simp only [Exit.inBlock, Exit.then])
            refine bodyPost_ret (results_cell_row rfl _ _ (w.heap.size + 1) 36 #[.int .i64 (3), .int .i64 (3 + a), .int .i64 (99)] (0, 0) _ rfl (HD6.out.set3 _ _ _) Tryd.underlying36 rfl (by kernel_rfl)) rfl ?_
            exact ⟨_, _, _, rfl, (HR6.out.kept (Kept.rows3 _ (w.heap.size + 1) _ _ _) (by simp; omega)).mono (by omega), HK6.out.trans (Kept.rows3 _ (w.heap.size + 1) _ _ _) (fun q hq => .inr (by simp at hq; omega))⟩
      have e0 : (k == 0) = false := by simpa using hk0
      have e1 : (k == 1) = false := by simpa using hk1
      have e3 : (k == 3) = false := by simpa using hk3
      clear hk0 hk1 hk3
      go_wp2_with fail
      refine (odd_any B R _ (by omega) 40 (by omega) (by omega) _ HR1.out).mono ?_
      rintro e x2 ⟨o, rfl, hr, hk⟩
      have HR2 := Lib.hid hr
      have HL2 := Lib.hid (HL1.out.kept hk (by simp; exact hLR))
      have HB2 := Lib.hid (HB1.out.kept hk (by simp; omega))
      have HD2 := Lib.hid (HD1.out.kept hk (by simp; omega))
      have HK2 := Lib.hid (HK1.out.trans hk (by simp))
      clear hr hk
      clear l0 l1 l2 f0 f1 f2 hll r0 r1 r2 s0 s1 s2 g0 g1 g2 hdl
      obtain ⟨l0, l1, l2⟩ := HL2.out.three
      have f0 := HL2.out.frozen 0
      have f1 := HL2.out.frozen 1
      have f2 := HL2.out.frozen 2
      have hll := HL2.out.lt
      obtain ⟨r0, r1, r2⟩ := HB2.out.three
      obtain ⟨s0, s1, s2⟩ := HD2.out.three
      have g0 := HD2.out.frozen 0
      have g1 := HD2.out.frozen 1
      have g2 := HD2.out.frozen 2
      have hdl := HD2.out.lt
      cases o
      · go_wp2
        (try simp only [Exit.inBlock, Exit.then])
        refine bodyPost_ret (results_cell_row rfl _ _ (w.heap.size + 1) 36 #[.int .i64 (k), .int .i64 (0), .int .i64 (0)] (0, 0) _ rfl (HD2.out.set3 _ _ _) Tryd.underlying36 rfl (by kernel_rfl)) rfl ?_
        exact ⟨_, _, _, rfl, (HR2.out.kept (Kept.rows3 _ (w.heap.size + 1) _ _ _) (by simp; omega)).mono (by omega), HK2.out.trans (Kept.rows3 _ (w.heap.size + 1) _ _ _) (fun q hq => .inr (by simp at hq; omega))⟩
      · go_wp2_with fail
        refine (pick_any B R _ (by omega) 2 (by omega) _ HR2.out).mono ?_
        rintro e x3 ⟨z, rfl, hz0, hz, hr, hk⟩
        have HR3 := Lib.hid hr
        have HL3 := Lib.hid (HL2.out.kept hk (by simp; exact hLR))
        have HB3 := Lib.hid (HB2.out.kept hk (by simp; omega))
        have HD3 := Lib.hid (HD2.out.kept hk (by simp; omega))
        have HK3 := Lib.hid (HK2.out.trans hk (by simp))
        clear hr hk
        clear l0 l1 l2 f0 f1 f2 hll r0 r1 r2 s0 s1 s2 g0 g1 g2 hdl
        obtain ⟨l0, l1, l2⟩ := HL3.out.three
        have f0 := HL3.out.frozen 0
        have f1 := HL3.out.frozen 1
        have f2 := HL3.out.frozen 2
        have hll := HL3.out.lt
        obtain ⟨r0, r1, r2⟩ := HB3.out.three
        obtain ⟨s0, s1, s2⟩ := HD3.out.three
        have g0 := HD3.out.frozen 0
        have g1 := HD3.out.frozen 1
        have g2 := HD3.out.frozen 2
        have hdl := HD3.out.lt
        rcases (show z = 0 ∨ z = 1 by omega) with rfl | rfl
        · go_wp2_with fail
          have hka : Kept [R] x3 (x3.alloc (.cells #[.int .i64 (-1), .int .i64 100] 3)) := (Kept.refl _ _).alloc _
          refine (pick_any B R _ (by omega) 2 (by omega) _ (HR3.out.kept ((Kept.refl [] x3).alloc (.cells #[.int .i64 (-1), .int .i64 100] 3)) (by simp))).mono ?_
          rintro e x4 ⟨q, rfl, hq0, hq, hr, hk'⟩
          have hl2 : Bk x4 x3.heap.size 3 #[.int .i64 (-1), .int .i64 100] := (Bk.new x3 3 _).kept hk' (by simp; have := HR3.out.lt; omega)
          have m0 := hl2.cell 0 rfl
          have m1 := hl2.cell 1 rfl
          have hml := hl2.lt
          have hk := hka.trans hk' (by simp)
          have HR4 := Lib.hid hr
          have HL4 := Lib.hid (HL3.out.kept hk (by simp; exact hLR))
          have HB4 := Lib.hid (HB3.out.kept hk (by simp; omega))
          have HD4 := Lib.hid (HD3.out.kept hk (by simp; omega))
          have HK4 := Lib.hid (HK3.out.trans hk (by simp))
          clear hr hk
          clear l0 l1 l2 f0 f1 f2 hll r0 r1 r2 s0 s1 s2 g0 g1 g2 hdl
          obtain ⟨l0, l1, l2⟩ := HL4.out.three
          have f0 := HL4.out.frozen 0
          have f1 := HL4.out.frozen 1
          have f2 := HL4.out.frozen 2
          have hll := HL4.out.lt
          obtain ⟨r0, r1, r2⟩ := HB4.out.three
          obtain ⟨s0, s1, s2⟩ := HD4.out.three
          have g0 := HD4.out.frozen 0
          have g1 := HD4.out.frozen 1
          have g2 := HD4.out.frozen 2
          have hdl := HD4.out.lt
          clear hl2 hka hk'
          rcases (show q = 0 ∨ q = 1 by omega) with rfl | rfl
          · have hkT : Kept [gL] x4 (x4.setCell ⟨gL, 1, none⟩ (.int .i64 (-1))) := (Kept.refl _ _).setCell (.inl (by simp)) _
            have HL5 : Hid (Bk (x4.setCell ⟨gL, 1, none⟩ (.int .i64 (-1))) gL 36 #[.int .i64 (k), .int .i64 (-1), .int .i64 (0)]) := Lib.hid (HL4.out.set 1 _)
            have HR5 := Lib.hid (HR4.out.kept hkT (by simp; omega))
            have HB5 := Lib.hid (HB4.out.kept hkT (by simp; omega))
            have HD5 := Lib.hid (HD4.out.kept hkT (by simp; omega))
            have HK5 := Lib.hid (HK4.out.trans hkT (fun q hq => .inr (by simp at hq; omega)))
            clear hkT
            go_wp2
            try generalize (x4.setCell ⟨gL, 1, none⟩ (.int .i64 (-1))) = x5 at *
            (try simp only [Exit.inBlock, Exit.then])
            refine bodyPost_ret (results_cell_row rfl _ _ (w.heap.size + 1) 36 #[.int .i64 (k), .int .i64 (-1), .int .i64 (0)] (0, 0) _ rfl (HD5.out.set3 _ _ _) Tryd.underlying36 rfl (by kernel_rfl)) rfl ?_
            exact ⟨_, _, _, rfl, (HR5.out.kept (Kept.rows3 _ (w.heap.size + 1) _ _ _) (by simp; omega)).mono (by omega), HK5.out.trans (Kept.rows3 _ (w.heap.size + 1) _ _ _) (fun q hq => .inr (by simp at hq; omega))⟩
          · have hkT : Kept [gL] x4 (x4.setCell ⟨gL, 1, none⟩ (.int .i64 (100))) := (Kept.refl _ _).setCell (.inl (by simp)) _
            have HL5 : Hid (Bk (x4.setCell ⟨gL, 1, none⟩ (.int .i64 (100))) gL 36 #[.int .i64 (k), .int .i64 (100), .int .i64 (0)]) := Lib.hid (HL4.out.set 1 _)
            have HR5 := Lib.hid (HR4.out.kept hkT (by simp; omega))
            have HB5 := Lib.hid (HB4.out.kept hkT (by simp; omega))
            have HD5 := Lib.hid (HD4.out.kept hkT (by simp; omega))
            have HK5 := Lib.hid (HK4.out.trans hkT (fun q hq => .inr (by simp at hq; omega)))
            clear hkT
            go_wp2
            try generalize (x4.setCell ⟨gL, 1, none⟩ (.int .i64 (100))) = x5 at *
            (try simp only [Exit.inBlock, Exit.then])
            refine bodyPost_ret (results_cell_row rfl _ _ (w.heap.size + 1) 36 #[.int .i64 (k), .int .i64 (100), .int .i64 (0)] (0, 0) _ rfl (HD5.out.set3 _ _ _) Tryd.underlying36 rfl (by kernel_rfl)) rfl ?_
            exact ⟨_, _, _, rfl, (HR5.out.kept (Kept.rows3 _ (w.heap.size + 1) _ _ _) (by simp; omega)).mono (by omega), HK5.out.trans (Kept.rows3 _ (w.heap.size + 1) _ _ _) (fun q hq => .inr (by simp at hq; omega))⟩
        · have hkT : Kept [gL] x3 (x3.setCell ⟨gL, 2, none⟩ (.int .i64 (99))) := (Kept.refl _ _).setCell (.inl (by simp)) _
          have HL4 : Hid (Bk (x3.setCell ⟨gL, 2, none⟩ (.int .i64 (99))) gL 36 #[.int .i64 (k), .int .i64 (0), .int .i64 (99)]) := Lib.hid (HL3.out.set 2 _)
          have HR4 := Lib.hid (HR3.out.kept hkT (by simp; omega))
          have HB4 := Lib.hid (HB3.out.kept hkT (by simp; omega))
          have HD4 := Lib.hid (HD3.out.kept hkT (by simp; omega))
          have HK4 := Lib.hid (HK3.out.trans hkT (fun q hq => .inr (by simp at hq; omega)))
          clear hkT
          go_wp2
          try generalize (x3.setCell ⟨gL, 2, none⟩ (.int .i64 (99))) = x4 at *
          (try simp only [Exit.inBlock, Exit.then])
          refine bodyPost_ret (results_cell_row rfl _ _ (w.heap.size + 1) 36 #[.int .i64 (k), .int .i64 (0), .int .i64 (99)] (0, 0) _ rfl (HD4.out.set3 _ _ _) Tryd.underlying36 rfl (by kernel_rfl)) rfl ?_
          exact ⟨_, _, _, rfl, (HR4.out.kept (Kept.rows3 _ (w.heap.size + 1) _ _ _) (by simp; omega)).mono (by omega), HK4.out.trans (Kept.rows3 _ (w.heap.size + 1) _ _ _) (fun q hq => .inr (by simp at hq; omega))⟩
end Go.Proofs.YtaacehdfpoiljaaDoor
