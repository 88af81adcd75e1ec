/-
  The exact law of StoreAct, walked.
-/
import Derived.Test.YtnajdbnacdnnlaaGreatDoorQK
import Derived.Test.YtnajdbnacdnnlaaGreatDoorQJ
import Derived.OrdersHeld
import Derived.Deep.DeepCutAuto
namespace Go.Proofs.YtnajdbnacdnnlaaGreatDoor
open Go.RowKit

theorem opAt_lsa {l : List Oper} {i : Nat} {o : Oper} (h : l[i]? = some o) : l.toArray[i]? = some o := by simpa using h

set_option maxHeartbeats 2000000 in
set_option maxRecDepth 100000 in
theorem ExactStoreAct_calls (s : Nt.Si) (aw : Nt.Dd) (w : World) (x v : Value) (ha : ArgSt w x s) (hb : ArgDd w v aw) (he : ErrW w) :
    Calls Tryz.prog 8 #[x, v] w fun e w' => e = .returned (.bool true) ∧ Kept [] w w' := by
  obtain ⟨z1, z2, n, rfl, rfl, h1, h2⟩ := ha
  unfold ArgDd at hb
  subst hb
  obtain ⟨ak, aa, ab⟩ := aw
  obtain ⟨hk0, hb0, hd0⟩ := two_new w 70 71 #[.string z1, .string z2, .int .i64 n] #[.int .i64 ak, .int .i64 aa, .int .i64 ab]
  have HK0 := Lib.hid hk0
  have HB := Lib.hid hb0
  have HD := Lib.hid hd0
  have HE := Lib.hid (he.stay HK0.out)
  obtain ⟨c0, c1, c2⟩ := HB.out.three
  have HSZ := Lib.hid (And.intro h1 h2)
  clear he h1 h2 hk0 hb0 hd0
  go_enter Tryz.func8, Tryz.ntmps8
  go_wp2_with fail
  generalize ((w.alloc (.cells #[.string z1, .string z2, .int .i64 n] 70)).alloc (.cells #[.int .i64 ak, .int .i64 aa, .int .i64 ab] 71)) = W0 at *
  refine (szStore_any z1 z2 n HSZ.out.1 HSZ.out.2 _).mono ?_
  rintro e w1 ⟨r, rfl, hr, hk⟩
  have HK1 := Lib.hid (HK0.out.trans hk (by simp))
  have HB1 := Lib.hid (HB.out.stay hk)
  have HD1 := Lib.hid (HD.out.stay hk)
  have HE1 := Lib.hid (HE.out.stay hk)
  clear hk c0 c1 c2
  obtain ⟨c0, c1, c2⟩ := HB1.out.three
  by_cases hn : r < 0
  · have hd : decide (r < 0) = true := dec_of hn
    clear hn
    go_wp2
    go_ret
    exact ⟨rfl, HK1.out⟩
  have hd : decide (r < 0) = false := dec_not hn
  have HZ1 : Hid (z1.size ≤ 1100000) := Lib.hid (by have := hr.out hn; omega)
  have HZ2 : Hid (z2.size ≤ 1100000) := Lib.hid (by have := hr.out hn; omega)
  clear hn hr
  obtain ⟨Q, hQ⟩ : ∃ Q, Nt.sact (si z1 z2 n) ⟨ak, aa, ab⟩ = Q := ⟨_, rfl⟩
  have HQ := Lib.hid hQ
  obtain ⟨R, hR⟩ : ∃ R, Nt.sactB (si z1 z2 n) ⟨ak, aa, ab⟩ = R := ⟨_, rfl⟩
  have HR := Lib.hid hR
  clear hQ hR c0 c1 c2
  go_wp2_with fail
  have HSB : Hid (∀ w', Kept [] w1 w' → w'.cell? ⟨w.heap.size, 0, none⟩ = some (.string z1) ∧ w'.cell? ⟨w.heap.size, 1, none⟩ = some (.string z2) ∧ w'.cell? ⟨w.heap.size, 2, none⟩ = some (.int .i64 n) ∧ w'.cell? ⟨w.heap.size + 1, 0, none⟩ = some (.int .i64 ak) ∧ w'.cell? ⟨w.heap.size + 1, 1, none⟩ = some (.int .i64 aa) ∧ w'.cell? ⟨w.heap.size + 1, 2, none⟩ = some (.int .i64 ab)) := Lib.hid (fun w' k' => ⟨(HB1.out.stay k').three.1, (HB1.out.stay k').three.2.1, (HB1.out.stay k').three.2.2, (HD1.out.stay k').three.1, (HD1.out.stay k').three.2.1, (HD1.out.stay k').three.2.2⟩)
  have HTS : Hid (∀ W, Kept [] w1 W → Calls Tryz.prog 45 #[.agg #[.string z1, .string z2, .int .i64 n]] W fun e w' => e = .returned (.agg #[.string z1, .string z2, .int .i64 n]) ∧ Kept [] W w' ∧ Kept [] w1 w') := Lib.hid (fun W k => (toStore_any z1 z2 n W).mono (by rintro e w' ⟨rfl, hk⟩; exact ⟨rfl, hk, k.trans hk (by simp)⟩))
  have HTD : Hid (∀ W, Kept [] w1 W → Calls Tryz.prog 46 #[.agg #[.int .i64 ak, .int .i64 aa, .int .i64 ab]] W fun e w' => e = .returned (.agg #[.int .i64 ak, .int .i64 aa, .int .i64 ab]) ∧ Kept [] W w' ∧ Kept [] w1 w') := Lib.hid (fun W k => (toDeed_any ak aa ab W).mono (by rintro e w' ⟨rfl, hk⟩; exact ⟨rfl, hk, k.trans hk (by simp)⟩))
  have HAC : Hid (∀ W, Kept [] w1 W → Calls Tryz.prog 44 #[.agg #[.string z1, .string z2, .int .i64 n], .agg #[.int .i64 ak, .int .i64 aa, .int .i64 ab]] W fun e w' => ∃ (a3 b3 : ByteArray) (m3 : Int), e = .returned (.tuple #[.agg #[.string a3, .string b3, .int .i64 m3], .bool R]) ∧ Hid (SvIs (.agg #[.string a3, .string b3, .int .i64 m3]) Q) ∧ Kept [] W w' ∧ Kept [] w1 w') := Lib.hid (fun W k => (sAct_any z1 z2 n ak aa ab HZ1.out HZ2.out W).mono (by rintro e w' ⟨y, rfl, hy, hk⟩; rw [HQ.out] at hy; rw [HR.out]; obtain ⟨a3, b3, m3, rfl, h3⟩ := hy; exact ⟨a3, b3, m3, rfl, Lib.hid ⟨_, _, _, rfl, h3⟩, hk, k.trans hk (by simp)⟩))
  go_cut [6, 7] from 15 to 22 (fun u6 u7 wc => ∃ (bp : Nat) (a3 b3 : ByteArray) (m3 : Int), u6 = .pointer (some ⟨bp, 0, none⟩) ∧ u7 = .bool R ∧ Bk wc bp 73 #[.string a3, .string b3, .int .i64 m3] ∧ SvIs (.agg #[.string a3, .string b3, .int .i64 m3]) Q ∧ Kept [] w1 wc)
  case first =>
    have K1x : Hid (Kept [] w1 w1.drew) := Lib.hid ((Kept.refl [] w1).drew)
    refine wp_region_held_drew (S := (fun w' => w'.cell? ⟨w.heap.size, 0, none⟩ = some (.string z1) ∧ w'.cell? ⟨w.heap.size, 1, none⟩ = some (.string z2) ∧ w'.cell? ⟨w.heap.size, 2, none⟩ = some (.int .i64 n) ∧ w'.cell? ⟨w.heap.size + 1, 0, none⟩ = some (.int .i64 ak) ∧ w'.cell? ⟨w.heap.size + 1, 1, none⟩ = some (.int .i64 aa) ∧ w'.cell? ⟨w.heap.size + 1, 2, none⟩ = some (.int .i64 ab))) (by kernel_rfl) (HSB.out _ K1x.out) (fun hHeld => ?_)
    generalize w1.drew = X1 at *
    refine wpAnyH_take (i := 0) (v := ?_) (opAt_lsa rfl) (by kernel_rfl) (by kernel_rfl) (by kernel_rfl) (fun _ _ _ h => h) (Or.inl ⟨by rfl, ?_⟩) (by assumption) ?_
    rotate_left
    · intro w9 hSw
      (try dsimp only at hSw)
      go_simp
      try with_reducible rfl
    try simp only [Act.put, List.setIfInBounds_toArray, List.set_cons_zero, List.set_cons_succ]
    refine wpAnyH_take (i := 2) (v := ?_) (opAt_lsa rfl) (by kernel_rfl) (by kernel_rfl) (by kernel_rfl) (fun _ _ _ h => h) (Or.inl ⟨by rfl, ?_⟩) (by assumption) ?_
    rotate_left
    · intro w9 hSw
      (try dsimp only at hSw)
      go_simp
      try with_reducible rfl
    try simp only [Act.put, List.setIfInBounds_toArray, List.set_cons_zero, List.set_cons_succ]
    refine wpAnyH_ready (rs := [1, 8]) (by kernel_rfl) (by simp) ?_
    refine (AllReadyH.cons (opAt_lsa rfl) (fun K hK => ?_) (AllReadyH.cons (opAt_lsa rfl) (fun K hK => ?_) AllReadyH.nil))
    · go_simp
      go_at_call 45
      refine (HTS.out _ K1x.out).mono ?_
      rintro e X2 ⟨rfl, hk, hk0⟩
      refine hK.out _ _ (HSB.out _ hk0) (fun hHeld => ?_)
      clear hK K
      try simp only [Act.put, List.setIfInBounds_toArray, List.set_cons_zero, List.set_cons_succ]
      have K2x := Lib.hid hk0
      have HZ1 := Lib.hid (Kept.size (rows := []) hk)
      clear hk hk0
      refine wpAnyH_ready (rs := [3, 8]) (by kernel_rfl) (by simp) ?_
      refine (AllReadyH.cons (opAt_lsa rfl) (fun K hK => ?_) (AllReadyH.cons (opAt_lsa rfl) (fun K hK => ?_) AllReadyH.nil))
      · go_simp
        go_at_call 46
        refine (HTD.out _ K2x.out).mono ?_
        rintro e X3 ⟨rfl, hk, hk0⟩
        refine hK.out _ _ (HSB.out _ hk0) (fun hHeld => ?_)
        clear hK K
        try simp only [Act.put, List.setIfInBounds_toArray, List.set_cons_zero, List.set_cons_succ]
        have K3x := Lib.hid hk0
        have HZ2 := Lib.hid (Kept.size (rows := []) hk)
        clear hk hk0
        refine wpAnyH_ready (rs := [4, 8]) (by kernel_rfl) (by simp) ?_
        refine (AllReadyH.cons (opAt_lsa rfl) (fun K hK => ?_) (AllReadyH.cons (opAt_lsa rfl) (fun K hK => ?_) AllReadyH.nil))
        · go_simp
          go_at_call 44
          refine (HAC.out _ K3x.out).mono ?_
          rintro e X4 ⟨a3, b3, m3, rfl, HYV, hk, hk0⟩
          refine hK.out _ _ (HSB.out _ hk0) (fun hHeld => ?_)
          clear hK K
          try simp only [Act.put, List.setIfInBounds_toArray, List.set_cons_zero, List.set_cons_succ]
          have K4x := Lib.hid hk0
          have HZ3 := Lib.hid (Kept.size (rows := []) hk)
          clear hk hk0
          refine wpAnyH_take (i := 5) (v := ?_) (opAt_lsa rfl) (by kernel_rfl) (by kernel_rfl) (by kernel_rfl) (fun _ _ _ h => h) (Or.inl ⟨by rfl, ?_⟩) (by assumption) ?_
          rotate_left
          · intro w9 hSw
            (try dsimp only at hSw)
            go_simp
            try with_reducible rfl
          try simp only [Act.put, List.setIfInBounds_toArray, List.set_cons_zero, List.set_cons_succ]
          refine wpAnyH_take (i := 6) (v := ?_) (opAt_lsa rfl) (by kernel_rfl) (by kernel_rfl) (by kernel_rfl) (fun _ _ _ h => h) (Or.inl ⟨by rfl, ?_⟩) (by assumption) ?_
          rotate_left
          · intro w9 hSw
            (try dsimp only at hSw)
            go_simp
            try with_reducible rfl
          try simp only [Act.put, List.setIfInBounds_toArray, List.set_cons_zero, List.set_cons_succ]
          refine wpAnyH_take (i := 7) (v := ?_) (opAt_lsa rfl) (by kernel_rfl) (by kernel_rfl) (by kernel_rfl) (fun _ _ _ h => h) (Or.inl ⟨by rfl, ?_⟩) (by assumption) ?_
          rotate_left
          · intro w9 hSw
            (try dsimp only at hSw)
            go_simp
            try with_reducible rfl
          try simp only [Act.put, List.setIfInBounds_toArray, List.set_cons_zero, List.set_cons_succ]
          refine wpAnyH_ready (rs := [8]) (by kernel_rfl) (by simp) ?_
          refine (AllReadyH.cons (opAt_lsa rfl) (fun K hK => ?_) AllReadyH.nil)
          go_simp
          have hka : Kept [] X4 (X4.alloc (.cells #[.string ⟨#[]⟩, .string ⟨#[]⟩, .int .i64 0] 73)) := (Kept.refl _ _).alloc _
          have HBP := Lib.hid (Bk.new X4 73 #[.string ⟨#[]⟩, .string ⟨#[]⟩, .int .i64 0])
          refine hK.out _ _ (HSB.out _ (K4x.out.trans hka (by simp))) (fun hHeld => ?_)
          clear hK K
          try simp only [Act.put, List.setIfInBounds_toArray, List.set_cons_zero, List.set_cons_succ]
          obtain ⟨bp, hbp⟩ : ∃ g, g = X4.heap.size := ⟨_, rfl⟩
          have hZbp : w1.heap.size ≤ bp := by rw [hbp]; exact K4x.out.size
          have HZ4 : Hid (X4.heap.size + 1 ≤ (X4.alloc (.cells #[.string ⟨#[]⟩, .string ⟨#[]⟩, .int .i64 0] 73)).heap.size) := Lib.hid (by simp)
          have Hbp := Lib.hid hbp
          have K5x := Lib.hid (K4x.out.trans hka (by simp))
          generalize X4.alloc (.cells #[.string ⟨#[]⟩, .string ⟨#[]⟩, .int .i64 0] 73) = X5 at *
          rw [← hbp] at HBP ⊢
          clear hka hbp
          refine wpAnyH_ready (rs := [9]) (by kernel_rfl) (by simp) ?_
          refine (AllReadyH.cons (opAt_lsa rfl) (fun K hK => ?_) AllReadyH.nil)
          obtain ⟨l0, l1, l2⟩ := HBP.out.three
          have f0 := HBP.out.frozen 0
          have f1 := HBP.out.frozen 1
          have f2 := HBP.out.frozen 2
          have hll := HBP.out.lt
          have k3 := K5x.out.set3 hZbp (.string a3) (.string b3) (.int .i64 m3)
          go_simp
          refine hK.out _ _ (HSB.out _ k3) (fun hHeld => ?_)
          clear hK K
          try simp only [Act.put, List.setIfInBounds_toArray, List.set_cons_zero, List.set_cons_succ]
          have HBK := Lib.hid (HBP.out.set3 (.string a3) (.string b3) (.int .i64 m3))
          have K6x := Lib.hid k3
          refine wpAnyH_take (i := 10) (v := ?_) (opAt_lsa rfl) (by kernel_rfl) (by kernel_rfl) (by kernel_rfl) (fun _ _ _ h => h) (Or.inl ⟨by rfl, ?_⟩) (by assumption) ?_
          rotate_left
          · intro w9 hSw
            (try dsimp only at hSw)
            go_simp
            try with_reducible rfl
          try simp only [Act.put, List.setIfInBounds_toArray, List.set_cons_zero, List.set_cons_succ]
          refine wpAnyH_done (by kernel_rfl) ?_ _
          go_wp2_with fail
          go_meet
          exact ⟨bp, a3, b3, m3, rfl, rfl, HBK.out, HYV.out, K6x.out⟩
        · go_simp
          have hka : Kept [] X3 (X3.alloc (.cells #[.string ⟨#[]⟩, .string ⟨#[]⟩, .int .i64 0] 73)) := (Kept.refl _ _).alloc _
          have HBP := Lib.hid (Bk.new X3 73 #[.string ⟨#[]⟩, .string ⟨#[]⟩, .int .i64 0])
          refine hK.out _ _ (HSB.out _ (K3x.out.trans hka (by simp))) (fun hHeld => ?_)
          clear hK K
          try simp only [Act.put, List.setIfInBounds_toArray, List.set_cons_zero, List.set_cons_succ]
          obtain ⟨bp, hbp⟩ : ∃ g, g = X3.heap.size := ⟨_, rfl⟩
          have hZbp : w1.heap.size ≤ bp := by rw [hbp]; exact K3x.out.size
          have HZ3 : Hid (X3.heap.size + 1 ≤ (X3.alloc (.cells #[.string ⟨#[]⟩, .string ⟨#[]⟩, .int .i64 0] 73)).heap.size) := Lib.hid (by simp)
          have Hbp := Lib.hid hbp
          have K4x := Lib.hid (K3x.out.trans hka (by simp))
          generalize X3.alloc (.cells #[.string ⟨#[]⟩, .string ⟨#[]⟩, .int .i64 0] 73) = X4 at *
          rw [← hbp] at HBP ⊢
          clear hka hbp
          refine wpAnyH_ready (rs := [4]) (by kernel_rfl) (by simp) ?_
          refine (AllReadyH.cons (opAt_lsa rfl) (fun K hK => ?_) AllReadyH.nil)
          go_simp
          go_at_call 44
          refine (HAC.out _ K4x.out).mono ?_
          rintro e X5 ⟨a3, b3, m3, rfl, HYV, hk, hk0⟩
          refine hK.out _ _ (HSB.out _ hk0) (fun hHeld => ?_)
          clear hK K
          try simp only [Act.put, List.setIfInBounds_toArray, List.set_cons_zero, List.set_cons_succ]
          have K5x := Lib.hid hk0
          have HZ4 := Lib.hid (Kept.size (rows := []) hk)
          have HBP := Lib.hid (HBP.out.stay hk)
          clear hk hk0
          refine wpAnyH_take (i := 5) (v := ?_) (opAt_lsa rfl) (by kernel_rfl) (by kernel_rfl) (by kernel_rfl) (fun _ _ _ h => h) (Or.inl ⟨by rfl, ?_⟩) (by assumption) ?_
          rotate_left
          · intro w9 hSw
            (try dsimp only at hSw)
            go_simp
            try with_reducible rfl
          try simp only [Act.put, List.setIfInBounds_toArray, List.set_cons_zero, List.set_cons_succ]
          refine wpAnyH_take (i := 6) (v := ?_) (opAt_lsa rfl) (by kernel_rfl) (by kernel_rfl) (by kernel_rfl) (fun _ _ _ h => h) (Or.inl ⟨by rfl, ?_⟩) (by assumption) ?_
          rotate_left
          · intro w9 hSw
            (try dsimp only at hSw)
            go_simp
            try with_reducible rfl
          try simp only [Act.put, List.setIfInBounds_toArray, List.set_cons_zero, List.set_cons_succ]
          refine wpAnyH_take (i := 7) (v := ?_) (opAt_lsa rfl) (by kernel_rfl) (by kernel_rfl) (by kernel_rfl) (fun _ _ _ h => h) (Or.inl ⟨by rfl, ?_⟩) (by assumption) ?_
          rotate_left
          · intro w9 hSw
            (try dsimp only at hSw)
            go_simp
            try with_reducible rfl
          try simp only [Act.put, List.setIfInBounds_toArray, List.set_cons_zero, List.set_cons_succ]
          refine wpAnyH_ready (rs := [9]) (by kernel_rfl) (by simp) ?_
          refine (AllReadyH.cons (opAt_lsa rfl) (fun K hK => ?_) AllReadyH.nil)
          obtain ⟨l0, l1, l2⟩ := HBP.out.three
          have f0 := HBP.out.frozen 0
          have f1 := HBP.out.frozen 1
          have f2 := HBP.out.frozen 2
          have hll := HBP.out.lt
          have k3 := K5x.out.set3 hZbp (.string a3) (.string b3) (.int .i64 m3)
          go_simp
          refine hK.out _ _ (HSB.out _ k3) (fun hHeld => ?_)
          clear hK K
          try simp only [Act.put, List.setIfInBounds_toArray, List.set_cons_zero, List.set_cons_succ]
          have HBK := Lib.hid (HBP.out.set3 (.string a3) (.string b3) (.int .i64 m3))
          have K6x := Lib.hid k3
          refine wpAnyH_take (i := 10) (v := ?_) (opAt_lsa rfl) (by kernel_rfl) (by kernel_rfl) (by kernel_rfl) (fun _ _ _ h => h) (Or.inl ⟨by rfl, ?_⟩) (by assumption) ?_
          rotate_left
          · intro w9 hSw
            (try dsimp only at hSw)
            go_simp
            try with_reducible rfl
          try simp only [Act.put, List.setIfInBounds_toArray, List.set_cons_zero, List.set_cons_succ]
          refine wpAnyH_done (by kernel_rfl) ?_ _
          go_wp2_with fail
          go_meet
          exact ⟨bp, a3, b3, m3, rfl, rfl, HBK.out, HYV.out, K6x.out⟩
      · go_simp
        have hka : Kept [] X2 (X2.alloc (.cells #[.string ⟨#[]⟩, .string ⟨#[]⟩, .int .i64 0] 73)) := (Kept.refl _ _).alloc _
        have HBP := Lib.hid (Bk.new X2 73 #[.string ⟨#[]⟩, .string ⟨#[]⟩, .int .i64 0])
        refine hK.out _ _ (HSB.out _ (K2x.out.trans hka (by simp))) (fun hHeld => ?_)
        clear hK K
        try simp only [Act.put, List.setIfInBounds_toArray, List.set_cons_zero, List.set_cons_succ]
        obtain ⟨bp, hbp⟩ : ∃ g, g = X2.heap.size := ⟨_, rfl⟩
        have hZbp : w1.heap.size ≤ bp := by rw [hbp]; exact K2x.out.size
        have HZ2 : Hid (X2.heap.size + 1 ≤ (X2.alloc (.cells #[.string ⟨#[]⟩, .string ⟨#[]⟩, .int .i64 0] 73)).heap.size) := Lib.hid (by simp)
        have Hbp := Lib.hid hbp
        have K3x := Lib.hid (K2x.out.trans hka (by simp))
        generalize X2.alloc (.cells #[.string ⟨#[]⟩, .string ⟨#[]⟩, .int .i64 0] 73) = X3 at *
        rw [← hbp] at HBP ⊢
        clear hka hbp
        refine wpAnyH_ready (rs := [3]) (by kernel_rfl) (by simp) ?_
        refine (AllReadyH.cons (opAt_lsa rfl) (fun K hK => ?_) AllReadyH.nil)
        go_simp
        go_at_call 46
        refine (HTD.out _ K3x.out).mono ?_
        rintro e X4 ⟨rfl, hk, hk0⟩
        refine hK.out _ _ (HSB.out _ hk0) (fun hHeld => ?_)
        clear hK K
        try simp only [Act.put, List.setIfInBounds_toArray, List.set_cons_zero, List.set_cons_succ]
        have K4x := Lib.hid hk0
        have HZ3 := Lib.hid (Kept.size (rows := []) hk)
        have HBP := Lib.hid (HBP.out.stay hk)
        clear hk hk0
        refine wpAnyH_ready (rs := [4]) (by kernel_rfl) (by simp) ?_
        refine (AllReadyH.cons (opAt_lsa rfl) (fun K hK => ?_) AllReadyH.nil)
        go_simp
        go_at_call 44
        refine (HAC.out _ K4x.out).mono ?_
        rintro e X5 ⟨a3, b3, m3, rfl, HYV, hk, hk0⟩
        refine hK.out _ _ (HSB.out _ hk0) (fun hHeld => ?_)
        clear hK K
        try simp only [Act.put, List.setIfInBounds_toArray, List.set_cons_zero, List.set_cons_succ]
        have K5x := Lib.hid hk0
        have HZ4 := Lib.hid (Kept.size (rows := []) hk)
        have HBP := Lib.hid (HBP.out.stay hk)
        clear hk hk0
        refine wpAnyH_take (i := 5) (v := ?_) (opAt_lsa rfl) (by kernel_rfl) (by kernel_rfl) (by kernel_rfl) (fun _ _ _ h => h) (Or.inl ⟨by rfl, ?_⟩) (by assumption) ?_
        rotate_left
        · intro w9 hSw
          (try dsimp only at hSw)
          go_simp
          try with_reducible rfl
        try simp only [Act.put, List.setIfInBounds_toArray, List.set_cons_zero, List.set_cons_succ]
        refine wpAnyH_take (i := 6) (v := ?_) (opAt_lsa rfl) (by kernel_rfl) (by kernel_rfl) (by kernel_rfl) (fun _ _ _ h => h) (Or.inl ⟨by rfl, ?_⟩) (by assumption) ?_
        rotate_left
        · intro w9 hSw
          (try dsimp only at hSw)
          go_simp
          try with_reducible rfl
        try simp only [Act.put, List.setIfInBounds_toArray, List.set_cons_zero, List.set_cons_succ]
        refine wpAnyH_take (i := 7) (v := ?_) (opAt_lsa rfl) (by kernel_rfl) (by kernel_rfl) (by kernel_rfl) (fun _ _ _ h => h) (Or.inl ⟨by rfl, ?_⟩) (by assumption) ?_
        rotate_left
        · intro w9 hSw
          (try dsimp only at hSw)
          go_simp
          try with_reducible rfl
        try simp only [Act.put, List.setIfInBounds_toArray, List.set_cons_zero, List.set_cons_succ]
        refine wpAnyH_ready (rs := [9]) (by kernel_rfl) (by simp) ?_
        refine (AllReadyH.cons (opAt_lsa rfl) (fun K hK => ?_) AllReadyH.nil)
        obtain ⟨l0, l1, l2⟩ := HBP.out.three
        have f0 := HBP.out.frozen 0
        have f1 := HBP.out.frozen 1
        have f2 := HBP.out.frozen 2
        have hll := HBP.out.lt
        have k3 := K5x.out.set3 hZbp (.string a3) (.string b3) (.int .i64 m3)
        go_simp
        refine hK.out _ _ (HSB.out _ k3) (fun hHeld => ?_)
        clear hK K
        try simp only [Act.put, List.setIfInBounds_toArray, List.set_cons_zero, List.set_cons_succ]
        have HBK := Lib.hid (HBP.out.set3 (.string a3) (.string b3) (.int .i64 m3))
        have K6x := Lib.hid k3
        refine wpAnyH_take (i := 10) (v := ?_) (opAt_lsa rfl) (by kernel_rfl) (by kernel_rfl) (by kernel_rfl) (fun _ _ _ h => h) (Or.inl ⟨by rfl, ?_⟩) (by assumption) ?_
        rotate_left
        · intro w9 hSw
          (try dsimp only at hSw)
          go_simp
          try with_reducible rfl
        try simp only [Act.put, List.setIfInBounds_toArray, List.set_cons_zero, List.set_cons_succ]
        refine wpAnyH_done (by kernel_rfl) ?_ _
        go_wp2_with fail
        go_meet
        exact ⟨bp, a3, b3, m3, rfl, rfl, HBK.out, HYV.out, K6x.out⟩
    · go_simp
      have hka : Kept [] X1 (X1.alloc (.cells #[.string ⟨#[]⟩, .string ⟨#[]⟩, .int .i64 0] 73)) := (Kept.refl _ _).alloc _
      have HBP := Lib.hid (Bk.new X1 73 #[.string ⟨#[]⟩, .string ⟨#[]⟩, .int .i64 0])
      refine hK.out _ _ (HSB.out _ (K1x.out.trans hka (by simp))) (fun hHeld => ?_)
      clear hK K
      try simp only [Act.put, List.setIfInBounds_toArray, List.set_cons_zero, List.set_cons_succ]
      obtain ⟨bp, hbp⟩ : ∃ g, g = X1.heap.size := ⟨_, rfl⟩
      have hZbp : w1.heap.size ≤ bp := by rw [hbp]; exact K1x.out.size
      have HZ1 : Hid (X1.heap.size + 1 ≤ (X1.alloc (.cells #[.string ⟨#[]⟩, .string ⟨#[]⟩, .int .i64 0] 73)).heap.size) := Lib.hid (by simp)
      have Hbp := Lib.hid hbp
      have K2x := Lib.hid (K1x.out.trans hka (by simp))
      generalize X1.alloc (.cells #[.string ⟨#[]⟩, .string ⟨#[]⟩, .int .i64 0] 73) = X2 at *
      rw [← hbp] at HBP ⊢
      clear hka hbp
      refine wpAnyH_ready (rs := [1]) (by kernel_rfl) (by simp) ?_
      refine (AllReadyH.cons (opAt_lsa rfl) (fun K hK => ?_) AllReadyH.nil)
      go_simp
      go_at_call 45
      refine (HTS.out _ K2x.out).mono ?_
      rintro e X3 ⟨rfl, hk, hk0⟩
      refine hK.out _ _ (HSB.out _ hk0) (fun hHeld => ?_)
      clear hK K
      try simp only [Act.put, List.setIfInBounds_toArray, List.set_cons_zero, List.set_cons_succ]
      have K3x := Lib.hid hk0
      have HZ2 := Lib.hid (Kept.size (rows := []) hk)
      have HBP := Lib.hid (HBP.out.stay hk)
      clear hk hk0
      refine wpAnyH_ready (rs := [3]) (by kernel_rfl) (by simp) ?_
      refine (AllReadyH.cons (opAt_lsa rfl) (fun K hK => ?_) AllReadyH.nil)
      go_simp
      go_at_call 46
      refine (HTD.out _ K3x.out).mono ?_
      rintro e X4 ⟨rfl, hk, hk0⟩
      refine hK.out _ _ (HSB.out _ hk0) (fun hHeld => ?_)
      clear hK K
      try simp only [Act.put, List.setIfInBounds_toArray, List.set_cons_zero, List.set_cons_succ]
      have K4x := Lib.hid hk0
      have HZ3 := Lib.hid (Kept.size (rows := []) hk)
      have HBP := Lib.hid (HBP.out.stay hk)
      clear hk hk0
      refine wpAnyH_ready (rs := [4]) (by kernel_rfl) (by simp) ?_
      refine (AllReadyH.cons (opAt_lsa rfl) (fun K hK => ?_) AllReadyH.nil)
      go_simp
      go_at_call 44
      refine (HAC.out _ K4x.out).mono ?_
      rintro e X5 ⟨a3, b3, m3, rfl, HYV, hk, hk0⟩
      refine hK.out _ _ (HSB.out _ hk0) (fun hHeld => ?_)
      clear hK K
      try simp only [Act.put, List.setIfInBounds_toArray, List.set_cons_zero, List.set_cons_succ]
      have K5x := Lib.hid hk0
      have HZ4 := Lib.hid (Kept.size (rows := []) hk)
      have HBP := Lib.hid (HBP.out.stay hk)
      clear hk hk0
      refine wpAnyH_take (i := 5) (v := ?_) (opAt_lsa rfl) (by kernel_rfl) (by kernel_rfl) (by kernel_rfl) (fun _ _ _ h => h) (Or.inl ⟨by rfl, ?_⟩) (by assumption) ?_
      rotate_left
      · intro w9 hSw
        (try dsimp only at hSw)
        go_simp
        try with_reducible rfl
      try simp only [Act.put, List.setIfInBounds_toArray, List.set_cons_zero, List.set_cons_succ]
      refine wpAnyH_take (i := 6) (v := ?_) (opAt_lsa rfl) (by kernel_rfl) (by kernel_rfl) (by kernel_rfl) (fun _ _ _ h => h) (Or.inl ⟨by rfl, ?_⟩) (by assumption) ?_
      rotate_left
      · intro w9 hSw
        (try dsimp only at hSw)
        go_simp
        try with_reducible rfl
      try simp only [Act.put, List.setIfInBounds_toArray, List.set_cons_zero, List.set_cons_succ]
      refine wpAnyH_take (i := 7) (v := ?_) (opAt_lsa rfl) (by kernel_rfl) (by kernel_rfl) (by kernel_rfl) (fun _ _ _ h => h) (Or.inl ⟨by rfl, ?_⟩) (by assumption) ?_
      rotate_left
      · intro w9 hSw
        (try dsimp only at hSw)
        go_simp
        try with_reducible rfl
      try simp only [Act.put, List.setIfInBounds_toArray, List.set_cons_zero, List.set_cons_succ]
      refine wpAnyH_ready (rs := [9]) (by kernel_rfl) (by simp) ?_
      refine (AllReadyH.cons (opAt_lsa rfl) (fun K hK => ?_) AllReadyH.nil)
      obtain ⟨l0, l1, l2⟩ := HBP.out.three
      have f0 := HBP.out.frozen 0
      have f1 := HBP.out.frozen 1
      have f2 := HBP.out.frozen 2
      have hll := HBP.out.lt
      have k3 := K5x.out.set3 hZbp (.string a3) (.string b3) (.int .i64 m3)
      go_simp
      refine hK.out _ _ (HSB.out _ k3) (fun hHeld => ?_)
      clear hK K
      try simp only [Act.put, List.setIfInBounds_toArray, List.set_cons_zero, List.set_cons_succ]
      have HBK := Lib.hid (HBP.out.set3 (.string a3) (.string b3) (.int .i64 m3))
      have K6x := Lib.hid k3
      refine wpAnyH_take (i := 10) (v := ?_) (opAt_lsa rfl) (by kernel_rfl) (by kernel_rfl) (by kernel_rfl) (fun _ _ _ h => h) (Or.inl ⟨by rfl, ?_⟩) (by assumption) ?_
      rotate_left
      · intro w9 hSw
        (try dsimp only at hSw)
        go_simp
        try with_reducible rfl
      try simp only [Act.put, List.setIfInBounds_toArray, List.set_cons_zero, List.set_cons_succ]
      refine wpAnyH_done (by kernel_rfl) ?_ _
      go_wp2_with fail
      go_meet
      exact ⟨bp, a3, b3, m3, rfl, rfl, HBK.out, HYV.out, K6x.out⟩
  case rest =>
    obtain ⟨bp, a3, b3, m3, rfl, rfl, hbp, hy, hk⟩ := hcut
    have HY := Lib.hid hy
    have HA2 := Lib.hid hbp
    have HK2 := Lib.hid (HK1.out.trans hk (by simp))
    have HB2 := Lib.hid (HB1.out.stay hk)
    have HD2 := Lib.hid (HD1.out.stay hk)
    have HE2 := Lib.hid (HE1.out.stay hk)
    clear hbp hy hk HSB HTS HTD HAC HK1 HB1 HD1 HE1
    generalize wc = w2 at *
    go_wp2_with fail
    have HSB : Hid (∀ w', Kept [] w2 w' → w'.cell? ⟨w.heap.size, 0, none⟩ = some (.string z1) ∧ w'.cell? ⟨w.heap.size, 1, none⟩ = some (.string z2) ∧ w'.cell? ⟨w.heap.size, 2, none⟩ = some (.int .i64 n) ∧ w'.cell? ⟨w.heap.size + 1, 0, none⟩ = some (.int .i64 ak) ∧ w'.cell? ⟨w.heap.size + 1, 1, none⟩ = some (.int .i64 aa) ∧ w'.cell? ⟨w.heap.size + 1, 2, none⟩ = some (.int .i64 ab)) := Lib.hid (fun w' k' => ⟨(HB2.out.stay k').three.1, (HB2.out.stay k').three.2.1, (HB2.out.stay k').three.2.2, (HD2.out.stay k').three.1, (HD2.out.stay k').three.2.1, (HD2.out.stay k').three.2.2⟩)
    have HTS : Hid (∀ W, Kept [] w2 W → Calls Tryz.prog 45 #[.agg #[.string z1, .string z2, .int .i64 n]] W fun e w' => e = .returned (.agg #[.string z1, .string z2, .int .i64 n]) ∧ Kept [] W w' ∧ Kept [] w2 w') := Lib.hid (fun W k => (toStore_any z1 z2 n W).mono (by rintro e w' ⟨rfl, hk⟩; exact ⟨rfl, hk, k.trans hk (by simp)⟩))
    have HTD : Hid (∀ W, Kept [] w2 W → Calls Tryz.prog 46 #[.agg #[.int .i64 ak, .int .i64 aa, .int .i64 ab]] W fun e w' => e = .returned (.agg #[.int .i64 ak, .int .i64 aa, .int .i64 ab]) ∧ Kept [] W w' ∧ Kept [] w2 w') := Lib.hid (fun W k => (toDeed_any ak aa ab W).mono (by rintro e w' ⟨rfl, hk⟩; exact ⟨rfl, hk, k.trans hk (by simp)⟩))
    have HAC : Hid (∀ W, Kept [] w2 W → Calls Tryz.prog 47 #[.agg #[.string z1, .string z2, .int .i64 n], .agg #[.int .i64 ak, .int .i64 aa, .int .i64 ab]] W fun e w' => ∃ (a3 b3 : ByteArray) (m3 : Int), e = .returned (.tuple #[.agg #[.string a3, .string b3, .int .i64 m3], .bool R]) ∧ Hid (SvIs (.agg #[.string a3, .string b3, .int .i64 m3]) Q) ∧ Kept [] W w' ∧ Kept [] w2 w') := Lib.hid (fun W k => (iAct_any z1 z2 n ak aa ab HZ1.out HZ2.out W (HE2.out.stay k)).mono (by rintro e w' ⟨y, rfl, hy, hk⟩; rw [HQ.out] at hy; rw [HR.out]; obtain ⟨a3, b3, m3, rfl, h3⟩ := hy; exact ⟨a3, b3, m3, rfl, Lib.hid ⟨_, _, _, rfl, h3⟩, hk, k.trans hk (by simp)⟩))
    go_cut [8, 9] from 23 to 30 (fun u8 u9 wc => ∃ (bp : Nat) (a3 b3 : ByteArray) (m3 : Int), u8 = .pointer (some ⟨bp, 0, none⟩) ∧ u9 = .bool R ∧ Bk wc bp 73 #[.string a3, .string b3, .int .i64 m3] ∧ SvIs (.agg #[.string a3, .string b3, .int .i64 m3]) Q ∧ Kept [] w2 wc)
    case first =>
      have K1x : Hid (Kept [] w2 w2.drew) := Lib.hid ((Kept.refl [] w2).drew)
      refine wp_region_held_drew (S := (fun w' => w'.cell? ⟨w.heap.size, 0, none⟩ = some (.string z1) ∧ w'.cell? ⟨w.heap.size, 1, none⟩ = some (.string z2) ∧ w'.cell? ⟨w.heap.size, 2, none⟩ = some (.int .i64 n) ∧ w'.cell? ⟨w.heap.size + 1, 0, none⟩ = some (.int .i64 ak) ∧ w'.cell? ⟨w.heap.size + 1, 1, none⟩ = some (.int .i64 aa) ∧ w'.cell? ⟨w.heap.size + 1, 2, none⟩ = some (.int .i64 ab))) (by kernel_rfl) (HSB.out _ K1x.out) (fun hHeld => ?_)
      generalize w2.drew = X1 at *
      refine wpAnyH_take (i := 0) (v := ?_) (opAt_lsa rfl) (by kernel_rfl) (by kernel_rfl) (by kernel_rfl) (fun _ _ _ h => h) (Or.inl ⟨by rfl, ?_⟩) (by assumption) ?_
      rotate_left
      · intro w9 hSw
        (try dsimp only at hSw)
        go_simp
        try with_reducible rfl
      try simp only [Act.put, List.setIfInBounds_toArray, List.set_cons_zero, List.set_cons_succ]
      refine wpAnyH_take (i := 2) (v := ?_) (opAt_lsa rfl) (by kernel_rfl) (by kernel_rfl) (by kernel_rfl) (fun _ _ _ h => h) (Or.inl ⟨by rfl, ?_⟩) (by assumption) ?_
      rotate_left
      · intro w9 hSw
        (try dsimp only at hSw)
        go_simp
        try with_reducible rfl
      try simp only [Act.put, List.setIfInBounds_toArray, List.set_cons_zero, List.set_cons_succ]
      refine wpAnyH_ready (rs := [1, 8]) (by kernel_rfl) (by simp) ?_
      refine (AllReadyH.cons (opAt_lsa rfl) (fun K hK => ?_) (AllReadyH.cons (opAt_lsa rfl) (fun K hK => ?_) AllReadyH.nil))
      · go_simp
        go_at_call 45
        refine (HTS.out _ K1x.out).mono ?_
        rintro e X2 ⟨rfl, hk, hk0⟩
        refine hK.out _ _ (HSB.out _ hk0) (fun hHeld => ?_)
        clear hK K
        try simp only [Act.put, List.setIfInBounds_toArray, List.set_cons_zero, List.set_cons_succ]
        have K2x := Lib.hid hk0
        have HZ1 := Lib.hid (Kept.size (rows := []) hk)
        clear hk hk0
        refine wpAnyH_ready (rs := [3, 8]) (by kernel_rfl) (by simp) ?_
        refine (AllReadyH.cons (opAt_lsa rfl) (fun K hK => ?_) (AllReadyH.cons (opAt_lsa rfl) (fun K hK => ?_) AllReadyH.nil))
        · go_simp
          go_at_call 46
          refine (HTD.out _ K2x.out).mono ?_
          rintro e X3 ⟨rfl, hk, hk0⟩
          refine hK.out _ _ (HSB.out _ hk0) (fun hHeld => ?_)
          clear hK K
          try simp only [Act.put, List.setIfInBounds_toArray, List.set_cons_zero, List.set_cons_succ]
          have K3x := Lib.hid hk0
          have HZ2 := Lib.hid (Kept.size (rows := []) hk)
          clear hk hk0
          refine wpAnyH_ready (rs := [4, 8]) (by kernel_rfl) (by simp) ?_
          refine (AllReadyH.cons (opAt_lsa rfl) (fun K hK => ?_) (AllReadyH.cons (opAt_lsa rfl) (fun K hK => ?_) AllReadyH.nil))
          · go_simp
            go_at_call 47
            refine (HAC.out _ K3x.out).mono ?_
            rintro e X4 ⟨a3, b3, m3, rfl, HYV, hk, hk0⟩
            refine hK.out _ _ (HSB.out _ hk0) (fun hHeld => ?_)
            clear hK K
            try simp only [Act.put, List.setIfInBounds_toArray, List.set_cons_zero, List.set_cons_succ]
            have K4x := Lib.hid hk0
            have HZ3 := Lib.hid (Kept.size (rows := []) hk)
            clear hk hk0
            refine wpAnyH_take (i := 5) (v := ?_) (opAt_lsa rfl) (by kernel_rfl) (by kernel_rfl) (by kernel_rfl) (fun _ _ _ h => h) (Or.inl ⟨by rfl, ?_⟩) (by assumption) ?_
            rotate_left
            · intro w9 hSw
              (try dsimp only at hSw)
              go_simp
              try with_reducible rfl
            try simp only [Act.put, List.setIfInBounds_toArray, List.set_cons_zero, List.set_cons_succ]
            refine wpAnyH_take (i := 6) (v := ?_) (opAt_lsa rfl) (by kernel_rfl) (by kernel_rfl) (by kernel_rfl) (fun _ _ _ h => h) (Or.inl ⟨by rfl, ?_⟩) (by assumption) ?_
            rotate_left
            · intro w9 hSw
              (try dsimp only at hSw)
              go_simp
              try with_reducible rfl
            try simp only [Act.put, List.setIfInBounds_toArray, List.set_cons_zero, List.set_cons_succ]
            refine wpAnyH_take (i := 7) (v := ?_) (opAt_lsa rfl) (by kernel_rfl) (by kernel_rfl) (by kernel_rfl) (fun _ _ _ h => h) (Or.inl ⟨by rfl, ?_⟩) (by assumption) ?_
            rotate_left
            · intro w9 hSw
              (try dsimp only at hSw)
              go_simp
              try with_reducible rfl
            try simp only [Act.put, List.setIfInBounds_toArray, List.set_cons_zero, List.set_cons_succ]
            refine wpAnyH_ready (rs := [8]) (by kernel_rfl) (by simp) ?_
            refine (AllReadyH.cons (opAt_lsa rfl) (fun K hK => ?_) AllReadyH.nil)
            go_simp
            have hka : Kept [] X4 (X4.alloc (.cells #[.string ⟨#[]⟩, .string ⟨#[]⟩, .int .i64 0] 73)) := (Kept.refl _ _).alloc _
            have HBP := Lib.hid (Bk.new X4 73 #[.string ⟨#[]⟩, .string ⟨#[]⟩, .int .i64 0])
            refine hK.out _ _ (HSB.out _ (K4x.out.trans hka (by simp))) (fun hHeld => ?_)
            clear hK K
            try simp only [Act.put, List.setIfInBounds_toArray, List.set_cons_zero, List.set_cons_succ]
            obtain ⟨bp, hbp⟩ : ∃ g, g = X4.heap.size := ⟨_, rfl⟩
            have hZbp : w2.heap.size ≤ bp := by rw [hbp]; exact K4x.out.size
            have HZ4 : Hid (X4.heap.size + 1 ≤ (X4.alloc (.cells #[.string ⟨#[]⟩, .string ⟨#[]⟩, .int .i64 0] 73)).heap.size) := Lib.hid (by simp)
            have Hbp := Lib.hid hbp
            have K5x := Lib.hid (K4x.out.trans hka (by simp))
            generalize X4.alloc (.cells #[.string ⟨#[]⟩, .string ⟨#[]⟩, .int .i64 0] 73) = X5 at *
            rw [← hbp] at HBP ⊢
            clear hka hbp
            refine wpAnyH_ready (rs := [9]) (by kernel_rfl) (by simp) ?_
            refine (AllReadyH.cons (opAt_lsa rfl) (fun K hK => ?_) AllReadyH.nil)
            obtain ⟨l0, l1, l2⟩ := HBP.out.three
            have f0 := HBP.out.frozen 0
            have f1 := HBP.out.frozen 1
            have f2 := HBP.out.frozen 2
            have hll := HBP.out.lt
            have k3 := K5x.out.set3 hZbp (.string a3) (.string b3) (.int .i64 m3)
            go_simp
            refine hK.out _ _ (HSB.out _ k3) (fun hHeld => ?_)
            clear hK K
            try simp only [Act.put, List.setIfInBounds_toArray, List.set_cons_zero, List.set_cons_succ]
            have HBK := Lib.hid (HBP.out.set3 (.string a3) (.string b3) (.int .i64 m3))
            have K6x := Lib.hid k3
            refine wpAnyH_take (i := 10) (v := ?_) (opAt_lsa rfl) (by kernel_rfl) (by kernel_rfl) (by kernel_rfl) (fun _ _ _ h => h) (Or.inl ⟨by rfl, ?_⟩) (by assumption) ?_
            rotate_left
            · intro w9 hSw
              (try dsimp only at hSw)
              go_simp
              try with_reducible rfl
            try simp only [Act.put, List.setIfInBounds_toArray, List.set_cons_zero, List.set_cons_succ]
            refine wpAnyH_done (by kernel_rfl) ?_ _
            go_wp2_with fail
            go_meet
            exact ⟨bp, a3, b3, m3, rfl, rfl, HBK.out, HYV.out, K6x.out⟩
          · go_simp
            have hka : Kept [] X3 (X3.alloc (.cells #[.string ⟨#[]⟩, .string ⟨#[]⟩, .int .i64 0] 73)) := (Kept.refl _ _).alloc _
            have HBP := Lib.hid (Bk.new X3 73 #[.string ⟨#[]⟩, .string ⟨#[]⟩, .int .i64 0])
            refine hK.out _ _ (HSB.out _ (K3x.out.trans hka (by simp))) (fun hHeld => ?_)
            clear hK K
            try simp only [Act.put, List.setIfInBounds_toArray, List.set_cons_zero, List.set_cons_succ]
            obtain ⟨bp, hbp⟩ : ∃ g, g = X3.heap.size := ⟨_, rfl⟩
            have hZbp : w2.heap.size ≤ bp := by rw [hbp]; exact K3x.out.size
            have HZ3 : Hid (X3.heap.size + 1 ≤ (X3.alloc (.cells #[.string ⟨#[]⟩, .string ⟨#[]⟩, .int .i64 0] 73)).heap.size) := Lib.hid (by simp)
            have Hbp := Lib.hid hbp
            have K4x := Lib.hid (K3x.out.trans hka (by simp))
            generalize X3.alloc (.cells #[.string ⟨#[]⟩, .string ⟨#[]⟩, .int .i64 0] 73) = X4 at *
            rw [← hbp] at HBP ⊢
            clear hka hbp
            refine wpAnyH_ready (rs := [4]) (by kernel_rfl) (by simp) ?_
            refine (AllReadyH.cons (opAt_lsa rfl) (fun K hK => ?_) AllReadyH.nil)
            go_simp
            go_at_call 47
            refine (HAC.out _ K4x.out).mono ?_
            rintro e X5 ⟨a3, b3, m3, rfl, HYV, hk, hk0⟩
            refine hK.out _ _ (HSB.out _ hk0) (fun hHeld => ?_)
            clear hK K
            try simp only [Act.put, List.setIfInBounds_toArray, List.set_cons_zero, List.set_cons_succ]
            have K5x := Lib.hid hk0
            have HZ4 := Lib.hid (Kept.size (rows := []) hk)
            have HBP := Lib.hid (HBP.out.stay hk)
            clear hk hk0
            refine wpAnyH_take (i := 5) (v := ?_) (opAt_lsa rfl) (by kernel_rfl) (by kernel_rfl) (by kernel_rfl) (fun _ _ _ h => h) (Or.inl ⟨by rfl, ?_⟩) (by assumption) ?_
            rotate_left
            · intro w9 hSw
              (try dsimp only at hSw)
              go_simp
              try with_reducible rfl
            try simp only [Act.put, List.setIfInBounds_toArray, List.set_cons_zero, List.set_cons_succ]
            refine wpAnyH_take (i := 6) (v := ?_) (opAt_lsa rfl) (by kernel_rfl) (by kernel_rfl) (by kernel_rfl) (fun _ _ _ h => h) (Or.inl ⟨by rfl, ?_⟩) (by assumption) ?_
            rotate_left
            · intro w9 hSw
              (try dsimp only at hSw)
              go_simp
              try with_reducible rfl
            try simp only [Act.put, List.setIfInBounds_toArray, List.set_cons_zero, List.set_cons_succ]
            refine wpAnyH_take (i := 7) (v := ?_) (opAt_lsa rfl) (by kernel_rfl) (by kernel_rfl) (by kernel_rfl) (fun _ _ _ h => h) (Or.inl ⟨by rfl, ?_⟩) (by assumption) ?_
            rotate_left
            · intro w9 hSw
              (try dsimp only at hSw)
              go_simp
              try with_reducible rfl
            try simp only [Act.put, List.setIfInBounds_toArray, List.set_cons_zero, List.set_cons_succ]
            refine wpAnyH_ready (rs := [9]) (by kernel_rfl) (by simp) ?_
            refine (AllReadyH.cons (opAt_lsa rfl) (fun K hK => ?_) AllReadyH.nil)
            obtain ⟨l0, l1, l2⟩ := HBP.out.three
            have f0 := HBP.out.frozen 0
            have f1 := HBP.out.frozen 1
            have f2 := HBP.out.frozen 2
            have hll := HBP.out.lt
            have k3 := K5x.out.set3 hZbp (.string a3) (.string b3) (.int .i64 m3)
            go_simp
            refine hK.out _ _ (HSB.out _ k3) (fun hHeld => ?_)
            clear hK K
            try simp only [Act.put, List.setIfInBounds_toArray, List.set_cons_zero, List.set_cons_succ]
            have HBK := Lib.hid (HBP.out.set3 (.string a3) (.string b3) (.int .i64 m3))
            have K6x := Lib.hid k3
            refine wpAnyH_take (i := 10) (v := ?_) (opAt_lsa rfl) (by kernel_rfl) (by kernel_rfl) (by kernel_rfl) (fun _ _ _ h => h) (Or.inl ⟨by rfl, ?_⟩) (by assumption) ?_
            rotate_left
            · intro w9 hSw
              (try dsimp only at hSw)
              go_simp
              try with_reducible rfl
            try simp only [Act.put, List.setIfInBounds_toArray, List.set_cons_zero, List.set_cons_succ]
            refine wpAnyH_done (by kernel_rfl) ?_ _
            go_wp2_with fail
            go_meet
            exact ⟨bp, a3, b3, m3, rfl, rfl, HBK.out, HYV.out, K6x.out⟩
        · go_simp
          have hka : Kept [] X2 (X2.alloc (.cells #[.string ⟨#[]⟩, .string ⟨#[]⟩, .int .i64 0] 73)) := (Kept.refl _ _).alloc _
          have HBP := Lib.hid (Bk.new X2 73 #[.string ⟨#[]⟩, .string ⟨#[]⟩, .int .i64 0])
          refine hK.out _ _ (HSB.out _ (K2x.out.trans hka (by simp))) (fun hHeld => ?_)
          clear hK K
          try simp only [Act.put, List.setIfInBounds_toArray, List.set_cons_zero, List.set_cons_succ]
          obtain ⟨bp, hbp⟩ : ∃ g, g = X2.heap.size := ⟨_, rfl⟩
          have hZbp : w2.heap.size ≤ bp := by rw [hbp]; exact K2x.out.size
          have HZ2 : Hid (X2.heap.size + 1 ≤ (X2.alloc (.cells #[.string ⟨#[]⟩, .string ⟨#[]⟩, .int .i64 0] 73)).heap.size) := Lib.hid (by simp)
          have Hbp := Lib.hid hbp
          have K3x := Lib.hid (K2x.out.trans hka (by simp))
          generalize X2.alloc (.cells #[.string ⟨#[]⟩, .string ⟨#[]⟩, .int .i64 0] 73) = X3 at *
          rw [← hbp] at HBP ⊢
          clear hka hbp
          refine wpAnyH_ready (rs := [3]) (by kernel_rfl) (by simp) ?_
          refine (AllReadyH.cons (opAt_lsa rfl) (fun K hK => ?_) AllReadyH.nil)
          go_simp
          go_at_call 46
          refine (HTD.out _ K3x.out).mono ?_
          rintro e X4 ⟨rfl, hk, hk0⟩
          refine hK.out _ _ (HSB.out _ hk0) (fun hHeld => ?_)
          clear hK K
          try simp only [Act.put, List.setIfInBounds_toArray, List.set_cons_zero, List.set_cons_succ]
          have K4x := Lib.hid hk0
          have HZ3 := Lib.hid (Kept.size (rows := []) hk)
          have HBP := Lib.hid (HBP.out.stay hk)
          clear hk hk0
          refine wpAnyH_ready (rs := [4]) (by kernel_rfl) (by simp) ?_
          refine (AllReadyH.cons (opAt_lsa rfl) (fun K hK => ?_) AllReadyH.nil)
          go_simp
          go_at_call 47
          refine (HAC.out _ K4x.out).mono ?_
          rintro e X5 ⟨a3, b3, m3, rfl, HYV, hk, hk0⟩
          refine hK.out _ _ (HSB.out _ hk0) (fun hHeld => ?_)
          clear hK K
          try simp only [Act.put, List.setIfInBounds_toArray, List.set_cons_zero, List.set_cons_succ]
          have K5x := Lib.hid hk0
          have HZ4 := Lib.hid (Kept.size (rows := []) hk)
          have HBP := Lib.hid (HBP.out.stay hk)
          clear hk hk0
          refine wpAnyH_take (i := 5) (v := ?_) (opAt_lsa rfl) (by kernel_rfl) (by kernel_rfl) (by kernel_rfl) (fun _ _ _ h => h) (Or.inl ⟨by rfl, ?_⟩) (by assumption) ?_
          rotate_left
          · intro w9 hSw
            (try dsimp only at hSw)
            go_simp
            try with_reducible rfl
          try simp only [Act.put, List.setIfInBounds_toArray, List.set_cons_zero, List.set_cons_succ]
          refine wpAnyH_take (i := 6) (v := ?_) (opAt_lsa rfl) (by kernel_rfl) (by kernel_rfl) (by kernel_rfl) (fun _ _ _ h => h) (Or.inl ⟨by rfl, ?_⟩) (by assumption) ?_
          rotate_left
          · intro w9 hSw
            (try dsimp only at hSw)
            go_simp
            try with_reducible rfl
          try simp only [Act.put, List.setIfInBounds_toArray, List.set_cons_zero, List.set_cons_succ]
          refine wpAnyH_take (i := 7) (v := ?_) (opAt_lsa rfl) (by kernel_rfl) (by kernel_rfl) (by kernel_rfl) (fun _ _ _ h => h) (Or.inl ⟨by rfl, ?_⟩) (by assumption) ?_
          rotate_left
          · intro w9 hSw
            (try dsimp only at hSw)
            go_simp
            try with_reducible rfl
          try simp only [Act.put, List.setIfInBounds_toArray, List.set_cons_zero, List.set_cons_succ]
          refine wpAnyH_ready (rs := [9]) (by kernel_rfl) (by simp) ?_
          refine (AllReadyH.cons (opAt_lsa rfl) (fun K hK => ?_) AllReadyH.nil)
          obtain ⟨l0, l1, l2⟩ := HBP.out.three
          have f0 := HBP.out.frozen 0
          have f1 := HBP.out.frozen 1
          have f2 := HBP.out.frozen 2
          have hll := HBP.out.lt
          have k3 := K5x.out.set3 hZbp (.string a3) (.string b3) (.int .i64 m3)
          go_simp
          refine hK.out _ _ (HSB.out _ k3) (fun hHeld => ?_)
          clear hK K
          try simp only [Act.put, List.setIfInBounds_toArray, List.set_cons_zero, List.set_cons_succ]
          have HBK := Lib.hid (HBP.out.set3 (.string a3) (.string b3) (.int .i64 m3))
          have K6x := Lib.hid k3
          refine wpAnyH_take (i := 10) (v := ?_) (opAt_lsa rfl) (by kernel_rfl) (by kernel_rfl) (by kernel_rfl) (fun _ _ _ h => h) (Or.inl ⟨by rfl, ?_⟩) (by assumption) ?_
          rotate_left
          · intro w9 hSw
            (try dsimp only at hSw)
            go_simp
            try with_reducible rfl
          try simp only [Act.put, List.setIfInBounds_toArray, List.set_cons_zero, List.set_cons_succ]
          refine wpAnyH_done (by kernel_rfl) ?_ _
          go_wp2_with fail
          go_meet
          exact ⟨bp, a3, b3, m3, rfl, rfl, HBK.out, HYV.out, K6x.out⟩
      · go_simp
        have hka : Kept [] X1 (X1.alloc (.cells #[.string ⟨#[]⟩, .string ⟨#[]⟩, .int .i64 0] 73)) := (Kept.refl _ _).alloc _
        have HBP := Lib.hid (Bk.new X1 73 #[.string ⟨#[]⟩, .string ⟨#[]⟩, .int .i64 0])
        refine hK.out _ _ (HSB.out _ (K1x.out.trans hka (by simp))) (fun hHeld => ?_)
        clear hK K
        try simp only [Act.put, List.setIfInBounds_toArray, List.set_cons_zero, List.set_cons_succ]
        obtain ⟨bp, hbp⟩ : ∃ g, g = X1.heap.size := ⟨_, rfl⟩
        have hZbp : w2.heap.size ≤ bp := by rw [hbp]; exact K1x.out.size
        have HZ1 : Hid (X1.heap.size + 1 ≤ (X1.alloc (.cells #[.string ⟨#[]⟩, .string ⟨#[]⟩, .int .i64 0] 73)).heap.size) := Lib.hid (by simp)
        have Hbp := Lib.hid hbp
        have K2x := Lib.hid (K1x.out.trans hka (by simp))
        generalize X1.alloc (.cells #[.string ⟨#[]⟩, .string ⟨#[]⟩, .int .i64 0] 73) = X2 at *
        rw [← hbp] at HBP ⊢
        clear hka hbp
        refine wpAnyH_ready (rs := [1]) (by kernel_rfl) (by simp) ?_
        refine (AllReadyH.cons (opAt_lsa rfl) (fun K hK => ?_) AllReadyH.nil)
        go_simp
        go_at_call 45
        refine (HTS.out _ K2x.out).mono ?_
        rintro e X3 ⟨rfl, hk, hk0⟩
        refine hK.out _ _ (HSB.out _ hk0) (fun hHeld => ?_)
        clear hK K
        try simp only [Act.put, List.setIfInBounds_toArray, List.set_cons_zero, List.set_cons_succ]
        have K3x := Lib.hid hk0
        have HZ2 := Lib.hid (Kept.size (rows := []) hk)
        have HBP := Lib.hid (HBP.out.stay hk)
        clear hk hk0
        refine wpAnyH_ready (rs := [3]) (by kernel_rfl) (by simp) ?_
        refine (AllReadyH.cons (opAt_lsa rfl) (fun K hK => ?_) AllReadyH.nil)
        go_simp
        go_at_call 46
        refine (HTD.out _ K3x.out).mono ?_
        rintro e X4 ⟨rfl, hk, hk0⟩
        refine hK.out _ _ (HSB.out _ hk0) (fun hHeld => ?_)
        clear hK K
        try simp only [Act.put, List.setIfInBounds_toArray, List.set_cons_zero, List.set_cons_succ]
        have K4x := Lib.hid hk0
        have HZ3 := Lib.hid (Kept.size (rows := []) hk)
        have HBP := Lib.hid (HBP.out.stay hk)
        clear hk hk0
        refine wpAnyH_ready (rs := [4]) (by kernel_rfl) (by simp) ?_
        refine (AllReadyH.cons (opAt_lsa rfl) (fun K hK => ?_) AllReadyH.nil)
        go_simp
        go_at_call 47
        refine (HAC.out _ K4x.out).mono ?_
        rintro e X5 ⟨a3, b3, m3, rfl, HYV, hk, hk0⟩
        refine hK.out _ _ (HSB.out _ hk0) (fun hHeld => ?_)
        clear hK K
        try simp only [Act.put, List.setIfInBounds_toArray, List.set_cons_zero, List.set_cons_succ]
        have K5x := Lib.hid hk0
        have HZ4 := Lib.hid (Kept.size (rows := []) hk)
        have HBP := Lib.hid (HBP.out.stay hk)
        clear hk hk0
        refine wpAnyH_take (i := 5) (v := ?_) (opAt_lsa rfl) (by kernel_rfl) (by kernel_rfl) (by kernel_rfl) (fun _ _ _ h => h) (Or.inl ⟨by rfl, ?_⟩) (by assumption) ?_
        rotate_left
        · intro w9 hSw
          (try dsimp only at hSw)
          go_simp
          try with_reducible rfl
        try simp only [Act.put, List.setIfInBounds_toArray, List.set_cons_zero, List.set_cons_succ]
        refine wpAnyH_take (i := 6) (v := ?_) (opAt_lsa rfl) (by kernel_rfl) (by kernel_rfl) (by kernel_rfl) (fun _ _ _ h => h) (Or.inl ⟨by rfl, ?_⟩) (by assumption) ?_
        rotate_left
        · intro w9 hSw
          (try dsimp only at hSw)
          go_simp
          try with_reducible rfl
        try simp only [Act.put, List.setIfInBounds_toArray, List.set_cons_zero, List.set_cons_succ]
        refine wpAnyH_take (i := 7) (v := ?_) (opAt_lsa rfl) (by kernel_rfl) (by kernel_rfl) (by kernel_rfl) (fun _ _ _ h => h) (Or.inl ⟨by rfl, ?_⟩) (by assumption) ?_
        rotate_left
        · intro w9 hSw
          (try dsimp only at hSw)
          go_simp
          try with_reducible rfl
        try simp only [Act.put, List.setIfInBounds_toArray, List.set_cons_zero, List.set_cons_succ]
        refine wpAnyH_ready (rs := [9]) (by kernel_rfl) (by simp) ?_
        refine (AllReadyH.cons (opAt_lsa rfl) (fun K hK => ?_) AllReadyH.nil)
        obtain ⟨l0, l1, l2⟩ := HBP.out.three
        have f0 := HBP.out.frozen 0
        have f1 := HBP.out.frozen 1
        have f2 := HBP.out.frozen 2
        have hll := HBP.out.lt
        have k3 := K5x.out.set3 hZbp (.string a3) (.string b3) (.int .i64 m3)
        go_simp
        refine hK.out _ _ (HSB.out _ k3) (fun hHeld => ?_)
        clear hK K
        try simp only [Act.put, List.setIfInBounds_toArray, List.set_cons_zero, List.set_cons_succ]
        have HBK := Lib.hid (HBP.out.set3 (.string a3) (.string b3) (.int .i64 m3))
        have K6x := Lib.hid k3
        refine wpAnyH_take (i := 10) (v := ?_) (opAt_lsa rfl) (by kernel_rfl) (by kernel_rfl) (by kernel_rfl) (fun _ _ _ h => h) (Or.inl ⟨by rfl, ?_⟩) (by assumption) ?_
        rotate_left
        · intro w9 hSw
          (try dsimp only at hSw)
          go_simp
          try with_reducible rfl
        try simp only [Act.put, List.setIfInBounds_toArray, List.set_cons_zero, List.set_cons_succ]
        refine wpAnyH_done (by kernel_rfl) ?_ _
        go_wp2_with fail
        go_meet
        exact ⟨bp, a3, b3, m3, rfl, rfl, HBK.out, HYV.out, K6x.out⟩
    case rest =>
      obtain ⟨bq, a5, b5, m5, rfl, rfl, hbq, hy2, hk⟩ := hcut
      have HY2 := Lib.hid hy2
      have HK3 := Lib.hid (HK2.out.trans hk (by simp))
      have HA3 := Lib.hid (HA2.out.stay hk)
      obtain ⟨c0, c1, c2⟩ := HA3.out.three
      obtain ⟨d0, d1, d2⟩ := hbq.three
      have hz1 := HA3.out.lt
      have hz2 := hbq.lt
      clear hy2 hk HSB HTS HTD HAC
      go_wp2_with fail
      refine (eqStore_is HY2.out HY.out _).mono ?_
      rintro e w6 ⟨rfl, hk⟩
      have HK6 := Lib.hid (HK3.out.trans hk (by simp))
      clear hk c0 c1 c2 d0 d1 d2 hbq hz1 hz2
      cases R
      all_goals
        go_wp2
        go_ret
        exact ⟨rfl, HK6.out⟩
end Go.Proofs.YtnajdbnacdnnlaaGreatDoor
