/-
  The walk of an exact law: DeskDo of the program answers as its model does.
-/
import Derived.Test.YtofgfhfdmkcmcaaE9
import Derived.Test.YtofgfhfdmkcmcaaIPB
import Derived.Test.YtofgfhfdmkcmcaaPO2
namespace Go.Proofs.Ytofgfhfdmkcmcaa
open Go.RowKit

theorem opAt_lstE {l : List Oper} {i : Nat} {o : Oper} (h : l[i]? = some o) : l.toArray[i]? = some o := by simpa using h
theorem Dm.off1 {w w' : World} {lo hi g : Nat} {y : Value} {d : Nt.Di} (h : Dm w lo hi y d) (hk : Kept [g] w w') (hg : g < lo ∨ hi ≤ g) : Dm w' lo hi y d := by
  rcases h with ⟨rfl, rfl⟩ | ⟨G, C, r, vs, h, h2, h3⟩
  · exact .inl ⟨rfl, rfl⟩
  · refine .inr ⟨G, C, r, vs, ⟨h.val, h.net.kept hk ?_, h.st.kept hk ?_, h.row.kept hk ?_, h.len, fun k hk2 => ⟨(h.past k hk2).1, (h.past k hk2).2.1.kept hk ?_, (h.past k hk2).2.2.kept hk ?_⟩, h.inc⟩, h2, h3⟩
    · intro q hq hm
      simp [Value.ownBlock] at hq hm
      have h4 := h.blk (i := 0) (by omega)
      have h5 := h3 0 (by omega)
      omega
    · intro q hq hm
      simp [Value.ownBlock] at hq hm
      have h4 := h.blk (i := 1) (by omega)
      have h5 := h3 1 (by omega)
      omega
    · intro q hq hm
      have h4 := h.row.block hq
      have h5 := h2 q hq
      simp at hm
      omega
    · intro q hq hm
      simp [Value.ownBlock] at hq hm
      have h4 := h.blk (i := 2 * k + 2) (by omega)
      have h5 := h3 (2 * k + 2) (by omega)
      omega
    · intro q hq hm
      simp [Value.ownBlock] at hq hm
      have h4 := h.blk (i := 2 * k + 3) (by omega)
      have h5 := h3 (2 * k + 3) (by omega)
      omega

set_option maxHeartbeats 8000000 in
set_option maxRecDepth 100000 in
theorem ExactDeskDo_calls (d0 : Nt.Di) (aw : Nt.Dd) (w : World) (x v : Value) (h : ArgDk w x d0) (hb : ArgDd w v aw) :
    Calls Try.prog 11 #[x, v] w fun e w' => e = .returned (.bool true) ∧ Kept [] w w' := by
  have HA := Lib.hid h
  obtain ⟨ak, aa, ab⟩ := aw
  obtain rfl := hb
  obtain ⟨a1, n1, q1, b1, m1, r1, d1, l1, s1, rfl⟩ := h.form
  clear h
  obtain ⟨d, hd⟩ : ∃ d, d = Nt.ddo d0 ⟨ak, aa, ab⟩ := ⟨_, rfl⟩
  obtain ⟨ok, hok⟩ : ∃ ok, ok = Nt.ddoB d0 ⟨ak, aa, ab⟩ := ⟨_, rfl⟩
  have HD := Lib.hid hd
  have HOK := Lib.hid hok
  have hxx : (ok != ok) = false := by cases ok <;> rfl
  clear hd hok
  have K2 := Lib.hid (Kept.refl [] w)
  obtain ⟨hka, hb0, hb1⟩ := two_new w 57 63 #[.slice a1 n1 q1, .int .i64 d0.now.c, .slice b1 m1 r1, .slice d1 l1 s1] #[.int .i64 ak, .int .i64 aa, .int .i64 ab]
  have B3 := Lib.hid (hb0)
  have B4 := Lib.hid (hb1)
  have Z5 := Lib.hid (show w.heap.size + 1 + 1 ≤ ((w.alloc (.cells #[.slice a1 n1 q1, .int .i64 d0.now.c, .slice b1 m1 r1, .slice d1 l1 s1] 57)).alloc (.cells #[.int .i64 ak, .int .i64 aa, .int .i64 ab] 63)).heap.size from by simp)
  have K6 := Lib.hid (K2.out.trans hka (by simp))
  clear K2
  have Z7 := Lib.hid (Kept.size (rows := []) hka)
  clear hka hb0 hb1
  have K9 := Lib.hid (Kept.refl [] ((w.alloc (.cells #[.slice a1 n1 q1, .int .i64 d0.now.c, .slice b1 m1 r1, .slice d1 l1 s1] 57)).alloc (.cells #[.int .i64 ak, .int .i64 aa, .int .i64 ab] 63)))
  go_enter Try.func11, Try.ntmps11
  obtain ⟨c10, c11, c12, c13⟩ := (B3.out.stay K9.out).four
  go_wp2_with fail
  generalize ((w.alloc (.cells #[.slice a1 n1 q1, .int .i64 d0.now.c, .slice b1 m1 r1, .slice d1 l1 s1] 57)).alloc (.cells #[.int .i64 ak, .int .i64 aa, .int .i64 ab] 63)) = W8 at *
  refine (szDesk_dm d0 _ _ (HA.out.stay K6.out)).mono ?_
  rintro e w1 ⟨r, rfl, hr, hk⟩
  clear c10 c11 c12 c13
  have K14 := Lib.hid (K6.out.trans hk (by simp))
  clear K6
  have K15 := Lib.hid (K9.out.trans hk (by simp))
  clear K9
  have Z16 := Lib.hid (Kept.size (rows := []) hk)
  clear hk
  by_cases hn : r < 0
  · have hd : decide (r < 0) = true := dec_of hn
    clear hn
    go_wp2
    go_ret
    exact ⟨rfl, K14.out⟩
  have hd : decide (r < 0) = false := dec_not hn
  have HLE : Hid (dkLen d0 ≤ 1048576) := Lib.hid (hr.out hn)
  clear hn hr
  go_wp2_with fail
  have HSB : Hid (∀ w', Kept [] w1 w' → w'.cell? ⟨w.heap.size, 0, none⟩ = some (.slice a1 n1 q1) ∧ w'.cell? ⟨w.heap.size, 1, none⟩ = some (.int .i64 d0.now.c) ∧ w'.cell? ⟨w.heap.size, 2, none⟩ = some (.slice b1 m1 r1) ∧ w'.cell? ⟨w.heap.size, 3, none⟩ = some (.slice d1 l1 s1) ∧ w'.cell? ⟨w.heap.size + 1, 0, none⟩ = some (.int .i64 ak) ∧ w'.cell? ⟨w.heap.size + 1, 1, none⟩ = some (.int .i64 aa) ∧ w'.cell? ⟨w.heap.size + 1, 2, none⟩ = some (.int .i64 ab)) := Lib.hid (fun w' k' => ⟨((B3.out.stay K15.out).stay k').four.1, ((B3.out.stay K15.out).stay k').four.2.1, ((B3.out.stay K15.out).stay k').four.2.2.1, ((B3.out.stay K15.out).stay k').four.2.2.2, ((B4.out.stay K15.out).stay k').three.1, ((B4.out.stay K15.out).stay k').three.2.1, ((B4.out.stay K15.out).stay k').three.2.2⟩)
  have HTD : Hid (∀ W, Kept [] w1 W → Calls Try.prog 37 #[.agg #[.slice a1 n1 q1, .int .i64 d0.now.c, .slice b1 m1 r1, .slice d1 l1 s1]] W fun e w' => ∃ y, e = .returned y ∧ Hid (De w' y d0) ∧ Kept [] W w' ∧ Kept [] w1 w') := Lib.hid (fun W k => (toDesk_dm d0 HLE.out W _ ((HA.out.stay K14.out).stay k)).mono (by rintro e w' ⟨y, rfl, hp, hk⟩; exact ⟨y, rfl, Lib.hid hp.de, hk, k.trans hk (by simp)⟩))
  have HTB : Hid (∀ W, Kept [] w1 W → Calls Try.prog 42 #[.agg #[.int .i64 ak, .int .i64 aa, .int .i64 ab]] W fun e w' => e = .returned (.agg #[.int .i64 ak, .int .i64 aa, .int .i64 ab]) ∧ Kept [] W w' ∧ Kept [] w1 w') := Lib.hid (fun W k => (toDeed_any ak aa ab W).mono (by rintro e w' ⟨rfl, hk⟩; exact ⟨rfl, hk, k.trans hk (by simp)⟩))
  have HD1 : Hid (∀ W y, Kept [] w1 W → De W y d0 → Calls Try.prog 28 #[y, .agg #[.int .i64 ak, .int .i64 aa, .int .i64 ab]] W fun e w' => ∃ (za zb z3 : Option Addr) (zn zq zm zr zl zs : Nat), e = .returned (.tuple #[.agg #[.slice za zn zq, .int .i64 d.now.c, .slice zb zm zr, .slice z3 zl zs], .bool ok]) ∧ Hid (De w' (.agg #[.slice za zn zq, .int .i64 d.now.c, .slice zb zm zr, .slice z3 zl zs]) d) ∧ Kept [] W w' ∧ Kept [] w1 w') := Lib.hid (fun W y k h => (sDeskDo_any d0 ak aa ab W _ h).mono (by rintro e w' ⟨y, rfl, hv, hk⟩; rw [← HOK.out]; rw [← HD.out] at hv; obtain ⟨za, zn, zq, zb, zm, zr, z3, zl, zs, rfl⟩ := hv.dv.form; exact ⟨za, zb, z3, zn, zq, zm, zr, zl, zs, rfl, Lib.hid hv, hk, k.trans hk (by simp)⟩))
  go_cut [6, 7] from 21 to 28 (fun u6 u7 wc => ∃ (bp : Nat) (za zb z3 : Option Addr) (zn zq zm zr zl zs : Nat), u6 = .pointer (some ⟨bp, 0, none⟩) ∧ u7 = .bool ok ∧ Bk wc bp 32 #[.slice za zn zq, .int .i64 d.now.c, .slice zb zm zr, .slice z3 zl zs] ∧ (De wc (.agg #[.slice za zn zq, .int .i64 d.now.c, .slice zb zm zr, .slice z3 zl zs]) d) ∧ w1.heap.size ≤ bp ∧ bp < wc.heap.size ∧ Kept [] w1 wc)
  case first =>
    have K1x : Hid (Kept [] w1 w1.drew) := Lib.hid ((Kept.refl [] w1).drew)
    refine wp_region_held_drew (S := (fun w' => w'.cell? ⟨w.heap.size, 0, none⟩ = some (.slice a1 n1 q1) ∧ w'.cell? ⟨w.heap.size, 1, none⟩ = some (.int .i64 d0.now.c) ∧ w'.cell? ⟨w.heap.size, 2, none⟩ = some (.slice b1 m1 r1) ∧ w'.cell? ⟨w.heap.size, 3, none⟩ = some (.slice d1 l1 s1) ∧ w'.cell? ⟨w.heap.size + 1, 0, none⟩ = some (.int .i64 ak) ∧ w'.cell? ⟨w.heap.size + 1, 1, none⟩ = some (.int .i64 aa) ∧ w'.cell? ⟨w.heap.size + 1, 2, none⟩ = some (.int .i64 ab))) (by kernel_rfl) (HSB.out _ K1x.out) (fun hHeld => ?_)
    generalize w1.drew = X1 at *
    refine wpAnyH_take (i := 0) (v := ?_) (opAt_lstE rfl) (by kernel_rfl) (by kernel_rfl) (by kernel_rfl) (fun _ _ _ h => h) (Or.inl ⟨by rfl, ?_⟩) (by assumption) ?_
    rotate_left
    · intro w9 hSw
      (try dsimp only at hSw)
      go_simp
      try with_reducible rfl
    try simp only [Act.put, List.setIfInBounds_toArray, List.set_cons_zero, List.set_cons_succ]
    refine wpAnyH_take (i := 2) (v := ?_) (opAt_lstE rfl) (by kernel_rfl) (by kernel_rfl) (by kernel_rfl) (fun _ _ _ h => h) (Or.inl ⟨by rfl, ?_⟩) (by assumption) ?_
    rotate_left
    · intro w9 hSw
      (try dsimp only at hSw)
      go_simp
      try with_reducible rfl
    try simp only [Act.put, List.setIfInBounds_toArray, List.set_cons_zero, List.set_cons_succ]
    refine wpAnyH_ready (rs := [1, 8]) (by kernel_rfl) (by simp) ?_
    refine (AllReadyH.cons (opAt_lstE rfl) (fun K hK => ?_) (AllReadyH.cons (opAt_lstE rfl) (fun K hK => ?_) AllReadyH.nil))
    · go_simp
      go_at_call 37
      refine (HTD.out _ K1x.out).mono ?_
      rintro e X2 ⟨y, rfl, HY, hk, hk0⟩
      refine hK.out _ _ (HSB.out _ hk0) (fun hHeld => ?_)
      clear hK K
      try simp only [Act.put, List.setIfInBounds_toArray, List.set_cons_zero, List.set_cons_succ]
      have K2x := Lib.hid hk0
      clear hk hk0
      refine wpAnyH_ready (rs := [3, 8]) (by kernel_rfl) (by simp) ?_
      refine (AllReadyH.cons (opAt_lstE rfl) (fun K hK => ?_) (AllReadyH.cons (opAt_lstE rfl) (fun K hK => ?_) AllReadyH.nil))
      · go_simp
        go_at_call 42
        refine (HTB.out _ K2x.out).mono ?_
        rintro e X3 ⟨rfl, hk, hk0⟩
        refine hK.out _ _ (HSB.out _ hk0) (fun hHeld => ?_)
        clear hK K
        try simp only [Act.put, List.setIfInBounds_toArray, List.set_cons_zero, List.set_cons_succ]
        have K3x := Lib.hid hk0
        have HY := Lib.hid (HY.out.stay hk)
        clear hk hk0
        refine wpAnyH_ready (rs := [4, 8]) (by kernel_rfl) (by simp) ?_
        refine (AllReadyH.cons (opAt_lstE rfl) (fun K hK => ?_) (AllReadyH.cons (opAt_lstE rfl) (fun K hK => ?_) AllReadyH.nil))
        · go_simp
          go_at_call 28
          refine (HD1.out _ _ K3x.out HY.out).mono ?_
          rintro e X4 ⟨za, zb, z3, zn, zq, zm, zr, zl, zs, rfl, HZ, hk, hk0⟩
          refine hK.out _ _ (HSB.out _ hk0) (fun hHeld => ?_)
          clear hK K
          try simp only [Act.put, List.setIfInBounds_toArray, List.set_cons_zero, List.set_cons_succ]
          have K4x := Lib.hid hk0
          have HY := Lib.hid (HY.out.stay hk)
          clear hk hk0
          refine wpAnyH_take (i := 5) (v := ?_) (opAt_lstE rfl) (by kernel_rfl) (by kernel_rfl) (by kernel_rfl) (fun _ _ _ h => h) (Or.inl ⟨by rfl, ?_⟩) (by assumption) ?_
          rotate_left
          · intro w9 hSw
            (try dsimp only at hSw)
            go_simp
            try with_reducible rfl
          try simp only [Act.put, List.setIfInBounds_toArray, List.set_cons_zero, List.set_cons_succ]
          refine wpAnyH_take (i := 6) (v := ?_) (opAt_lstE rfl) (by kernel_rfl) (by kernel_rfl) (by kernel_rfl) (fun _ _ _ h => h) (Or.inl ⟨by rfl, ?_⟩) (by assumption) ?_
          rotate_left
          · intro w9 hSw
            (try dsimp only at hSw)
            go_simp
            try with_reducible rfl
          try simp only [Act.put, List.setIfInBounds_toArray, List.set_cons_zero, List.set_cons_succ]
          refine wpAnyH_take (i := 7) (v := ?_) (opAt_lstE rfl) (by kernel_rfl) (by kernel_rfl) (by kernel_rfl) (fun _ _ _ h => h) (Or.inl ⟨by rfl, ?_⟩) (by assumption) ?_
          rotate_left
          · intro w9 hSw
            (try dsimp only at hSw)
            go_simp
            try with_reducible rfl
          try simp only [Act.put, List.setIfInBounds_toArray, List.set_cons_zero, List.set_cons_succ]
          refine wpAnyH_ready (rs := [8]) (by kernel_rfl) (by simp) ?_
          refine (AllReadyH.cons (opAt_lstE rfl) (fun K hK => ?_) AllReadyH.nil)
          go_simp
          have hka : Kept [] X4 (X4.alloc (.cells #[.slice none 0 0, .int .i64 0, .slice none 0 0, .slice none 0 0] 32)) := (Kept.refl _ _).alloc _
          have HL := Lib.hid (Bk.new X4 32 #[.slice none 0 0, .int .i64 0, .slice none 0 0, .slice none 0 0])
          refine hK.out _ _ (HSB.out _ (K4x.out.trans hka (by simp))) (fun hHeld => ?_)
          clear hK K
          try simp only [Act.put, List.setIfInBounds_toArray, List.set_cons_zero, List.set_cons_succ]
          obtain ⟨gL, hgL⟩ : ∃ g, g = X4.heap.size := ⟨_, rfl⟩
          have hLW : w1.heap.size ≤ gL := by rw [hgL]; exact K4x.out.size
          have K5x := Lib.hid (K4x.out.trans hka (by simp))
          have hHS := Kept.size (rows := []) hka
          have HZ := Lib.hid (HZ.out.stay hka)
          generalize X4.alloc (.cells #[.slice none 0 0, .int .i64 0, .slice none 0 0, .slice none 0 0] 32) = X5 at *
          rw [← hgL] at HL ⊢
          clear hgL hka
          refine wpAnyH_ready (rs := [9]) (by kernel_rfl) (by simp) ?_
          refine (AllReadyH.cons (opAt_lstE rfl) (fun K hK => ?_) AllReadyH.nil)
          obtain ⟨l0, l1, l2, l3⟩ := HL.out.four
          have f0 := HL.out.frozen 0
          have f1 := HL.out.frozen 1
          have f2 := HL.out.frozen 2
          have f3 := HL.out.frozen 3
          have hll := HL.out.lt
          go_simp
          refine hK.out _ _ (HSB.out _ (K5x.out.set4 hLW (.slice za zn zq) (.int .i64 d.now.c) (.slice zb zm zr) (.slice z3 zl zs))) (fun hHeld => ?_)
          clear hK K
          try simp only [Act.put, List.setIfInBounds_toArray, List.set_cons_zero, List.set_cons_succ]
          refine wpAnyH_take (i := 10) (v := ?_) (opAt_lstE rfl) (by kernel_rfl) (by kernel_rfl) (by kernel_rfl) (fun _ _ _ h => h) (Or.inl ⟨by rfl, ?_⟩) (by assumption) ?_
          rotate_left
          · intro w9 hSw
            (try dsimp only at hSw)
            go_simp
            try with_reducible rfl
          try simp only [Act.put, List.setIfInBounds_toArray, List.set_cons_zero, List.set_cons_succ]
          refine wpAnyH_done (by kernel_rfl) ?_ _
          go_wp2_with fail
          go_meet
          have hk4 := Kept.rows4 X5 gL (.slice za zn zq) (.int .i64 d.now.c) (.slice zb zm zr) (.slice z3 zl zs)
          exact ⟨gL, za, zb, z3, zn, zq, zm, zr, zl, zs, rfl, rfl, HL.out.set4 _ _ _ _, HZ.out.alien hk4 (Alien.one HL.out), hLW, Nat.lt_of_lt_of_le hll (Kept.size hk4), (K5x.out.set4 hLW (.slice za zn zq) (.int .i64 d.now.c) (.slice zb zm zr) (.slice z3 zl zs))⟩
        · go_simp
          have hka : Kept [] X3 (X3.alloc (.cells #[.slice none 0 0, .int .i64 0, .slice none 0 0, .slice none 0 0] 32)) := (Kept.refl _ _).alloc _
          have HL := Lib.hid (Bk.new X3 32 #[.slice none 0 0, .int .i64 0, .slice none 0 0, .slice none 0 0])
          refine hK.out _ _ (HSB.out _ (K3x.out.trans hka (by simp))) (fun hHeld => ?_)
          clear hK K
          try simp only [Act.put, List.setIfInBounds_toArray, List.set_cons_zero, List.set_cons_succ]
          obtain ⟨gL, hgL⟩ : ∃ g, g = X3.heap.size := ⟨_, rfl⟩
          have hLW : w1.heap.size ≤ gL := by rw [hgL]; exact K3x.out.size
          have K4x := Lib.hid (K3x.out.trans hka (by simp))
          have hHS := Kept.size (rows := []) hka
          have HY := Lib.hid (HY.out.stay hka)
          generalize X3.alloc (.cells #[.slice none 0 0, .int .i64 0, .slice none 0 0, .slice none 0 0] 32) = X4 at *
          rw [← hgL] at HL ⊢
          clear hgL hka
          refine wpAnyH_ready (rs := [4]) (by kernel_rfl) (by simp) ?_
          refine (AllReadyH.cons (opAt_lstE rfl) (fun K hK => ?_) AllReadyH.nil)
          go_simp
          go_at_call 28
          refine (HD1.out _ _ K4x.out HY.out).mono ?_
          rintro e X5 ⟨za, zb, z3, zn, zq, zm, zr, zl, zs, rfl, HZ, hk, hk0⟩
          refine hK.out _ _ (HSB.out _ hk0) (fun hHeld => ?_)
          clear hK K
          try simp only [Act.put, List.setIfInBounds_toArray, List.set_cons_zero, List.set_cons_succ]
          have K5x := Lib.hid hk0
          have HY := Lib.hid (HY.out.stay hk)
          have HL := Lib.hid (HL.out.stay hk)
          clear hk hk0
          refine wpAnyH_take (i := 5) (v := ?_) (opAt_lstE rfl) (by kernel_rfl) (by kernel_rfl) (by kernel_rfl) (fun _ _ _ h => h) (Or.inl ⟨by rfl, ?_⟩) (by assumption) ?_
          rotate_left
          · intro w9 hSw
            (try dsimp only at hSw)
            go_simp
            try with_reducible rfl
          try simp only [Act.put, List.setIfInBounds_toArray, List.set_cons_zero, List.set_cons_succ]
          refine wpAnyH_take (i := 6) (v := ?_) (opAt_lstE rfl) (by kernel_rfl) (by kernel_rfl) (by kernel_rfl) (fun _ _ _ h => h) (Or.inl ⟨by rfl, ?_⟩) (by assumption) ?_
          rotate_left
          · intro w9 hSw
            (try dsimp only at hSw)
            go_simp
            try with_reducible rfl
          try simp only [Act.put, List.setIfInBounds_toArray, List.set_cons_zero, List.set_cons_succ]
          refine wpAnyH_take (i := 7) (v := ?_) (opAt_lstE rfl) (by kernel_rfl) (by kernel_rfl) (by kernel_rfl) (fun _ _ _ h => h) (Or.inl ⟨by rfl, ?_⟩) (by assumption) ?_
          rotate_left
          · intro w9 hSw
            (try dsimp only at hSw)
            go_simp
            try with_reducible rfl
          try simp only [Act.put, List.setIfInBounds_toArray, List.set_cons_zero, List.set_cons_succ]
          refine wpAnyH_ready (rs := [9]) (by kernel_rfl) (by simp) ?_
          refine (AllReadyH.cons (opAt_lstE rfl) (fun K hK => ?_) AllReadyH.nil)
          obtain ⟨l0, l1, l2, l3⟩ := HL.out.four
          have f0 := HL.out.frozen 0
          have f1 := HL.out.frozen 1
          have f2 := HL.out.frozen 2
          have f3 := HL.out.frozen 3
          have hll := HL.out.lt
          go_simp
          refine hK.out _ _ (HSB.out _ (K5x.out.set4 hLW (.slice za zn zq) (.int .i64 d.now.c) (.slice zb zm zr) (.slice z3 zl zs))) (fun hHeld => ?_)
          clear hK K
          try simp only [Act.put, List.setIfInBounds_toArray, List.set_cons_zero, List.set_cons_succ]
          refine wpAnyH_take (i := 10) (v := ?_) (opAt_lstE rfl) (by kernel_rfl) (by kernel_rfl) (by kernel_rfl) (fun _ _ _ h => h) (Or.inl ⟨by rfl, ?_⟩) (by assumption) ?_
          rotate_left
          · intro w9 hSw
            (try dsimp only at hSw)
            go_simp
            try with_reducible rfl
          try simp only [Act.put, List.setIfInBounds_toArray, List.set_cons_zero, List.set_cons_succ]
          refine wpAnyH_done (by kernel_rfl) ?_ _
          go_wp2_with fail
          go_meet
          have hk4 := Kept.rows4 X5 gL (.slice za zn zq) (.int .i64 d.now.c) (.slice zb zm zr) (.slice z3 zl zs)
          exact ⟨gL, za, zb, z3, zn, zq, zm, zr, zl, zs, rfl, rfl, HL.out.set4 _ _ _ _, HZ.out.alien hk4 (Alien.one HL.out), hLW, Nat.lt_of_lt_of_le hll (Kept.size hk4), (K5x.out.set4 hLW (.slice za zn zq) (.int .i64 d.now.c) (.slice zb zm zr) (.slice z3 zl zs))⟩
      · go_simp
        have hka : Kept [] X2 (X2.alloc (.cells #[.slice none 0 0, .int .i64 0, .slice none 0 0, .slice none 0 0] 32)) := (Kept.refl _ _).alloc _
        have HL := Lib.hid (Bk.new X2 32 #[.slice none 0 0, .int .i64 0, .slice none 0 0, .slice none 0 0])
        refine hK.out _ _ (HSB.out _ (K2x.out.trans hka (by simp))) (fun hHeld => ?_)
        clear hK K
        try simp only [Act.put, List.setIfInBounds_toArray, List.set_cons_zero, List.set_cons_succ]
        obtain ⟨gL, hgL⟩ : ∃ g, g = X2.heap.size := ⟨_, rfl⟩
        have hLW : w1.heap.size ≤ gL := by rw [hgL]; exact K2x.out.size
        have K3x := Lib.hid (K2x.out.trans hka (by simp))
        have hHS := Kept.size (rows := []) hka
        have HY := Lib.hid (HY.out.stay hka)
        generalize X2.alloc (.cells #[.slice none 0 0, .int .i64 0, .slice none 0 0, .slice none 0 0] 32) = X3 at *
        rw [← hgL] at HL ⊢
        clear hgL hka
        refine wpAnyH_ready (rs := [3]) (by kernel_rfl) (by simp) ?_
        refine (AllReadyH.cons (opAt_lstE rfl) (fun K hK => ?_) AllReadyH.nil)
        go_simp
        go_at_call 42
        refine (HTB.out _ K3x.out).mono ?_
        rintro e X4 ⟨rfl, hk, hk0⟩
        refine hK.out _ _ (HSB.out _ hk0) (fun hHeld => ?_)
        clear hK K
        try simp only [Act.put, List.setIfInBounds_toArray, List.set_cons_zero, List.set_cons_succ]
        have K4x := Lib.hid hk0
        have HY := Lib.hid (HY.out.stay hk)
        have HL := Lib.hid (HL.out.stay hk)
        clear hk hk0
        refine wpAnyH_ready (rs := [4]) (by kernel_rfl) (by simp) ?_
        refine (AllReadyH.cons (opAt_lstE rfl) (fun K hK => ?_) AllReadyH.nil)
        go_simp
        go_at_call 28
        refine (HD1.out _ _ K4x.out HY.out).mono ?_
        rintro e X5 ⟨za, zb, z3, zn, zq, zm, zr, zl, zs, rfl, HZ, hk, hk0⟩
        refine hK.out _ _ (HSB.out _ hk0) (fun hHeld => ?_)
        clear hK K
        try simp only [Act.put, List.setIfInBounds_toArray, List.set_cons_zero, List.set_cons_succ]
        have K5x := Lib.hid hk0
        have HY := Lib.hid (HY.out.stay hk)
        have HL := Lib.hid (HL.out.stay hk)
        clear hk hk0
        refine wpAnyH_take (i := 5) (v := ?_) (opAt_lstE rfl) (by kernel_rfl) (by kernel_rfl) (by kernel_rfl) (fun _ _ _ h => h) (Or.inl ⟨by rfl, ?_⟩) (by assumption) ?_
        rotate_left
        · intro w9 hSw
          (try dsimp only at hSw)
          go_simp
          try with_reducible rfl
        try simp only [Act.put, List.setIfInBounds_toArray, List.set_cons_zero, List.set_cons_succ]
        refine wpAnyH_take (i := 6) (v := ?_) (opAt_lstE rfl) (by kernel_rfl) (by kernel_rfl) (by kernel_rfl) (fun _ _ _ h => h) (Or.inl ⟨by rfl, ?_⟩) (by assumption) ?_
        rotate_left
        · intro w9 hSw
          (try dsimp only at hSw)
          go_simp
          try with_reducible rfl
        try simp only [Act.put, List.setIfInBounds_toArray, List.set_cons_zero, List.set_cons_succ]
        refine wpAnyH_take (i := 7) (v := ?_) (opAt_lstE rfl) (by kernel_rfl) (by kernel_rfl) (by kernel_rfl) (fun _ _ _ h => h) (Or.inl ⟨by rfl, ?_⟩) (by assumption) ?_
        rotate_left
        · intro w9 hSw
          (try dsimp only at hSw)
          go_simp
          try with_reducible rfl
        try simp only [Act.put, List.setIfInBounds_toArray, List.set_cons_zero, List.set_cons_succ]
        refine wpAnyH_ready (rs := [9]) (by kernel_rfl) (by simp) ?_
        refine (AllReadyH.cons (opAt_lstE rfl) (fun K hK => ?_) AllReadyH.nil)
        obtain ⟨l0, l1, l2, l3⟩ := HL.out.four
        have f0 := HL.out.frozen 0
        have f1 := HL.out.frozen 1
        have f2 := HL.out.frozen 2
        have f3 := HL.out.frozen 3
        have hll := HL.out.lt
        go_simp
        refine hK.out _ _ (HSB.out _ (K5x.out.set4 hLW (.slice za zn zq) (.int .i64 d.now.c) (.slice zb zm zr) (.slice z3 zl zs))) (fun hHeld => ?_)
        clear hK K
        try simp only [Act.put, List.setIfInBounds_toArray, List.set_cons_zero, List.set_cons_succ]
        refine wpAnyH_take (i := 10) (v := ?_) (opAt_lstE rfl) (by kernel_rfl) (by kernel_rfl) (by kernel_rfl) (fun _ _ _ h => h) (Or.inl ⟨by rfl, ?_⟩) (by assumption) ?_
        rotate_left
        · intro w9 hSw
          (try dsimp only at hSw)
          go_simp
          try with_reducible rfl
        try simp only [Act.put, List.setIfInBounds_toArray, List.set_cons_zero, List.set_cons_succ]
        refine wpAnyH_done (by kernel_rfl) ?_ _
        go_wp2_with fail
        go_meet
        have hk4 := Kept.rows4 X5 gL (.slice za zn zq) (.int .i64 d.now.c) (.slice zb zm zr) (.slice z3 zl zs)
        exact ⟨gL, za, zb, z3, zn, zq, zm, zr, zl, zs, rfl, rfl, HL.out.set4 _ _ _ _, HZ.out.alien hk4 (Alien.one HL.out), hLW, Nat.lt_of_lt_of_le hll (Kept.size hk4), (K5x.out.set4 hLW (.slice za zn zq) (.int .i64 d.now.c) (.slice zb zm zr) (.slice z3 zl zs))⟩
    · go_simp
      have hka : Kept [] X1 (X1.alloc (.cells #[.slice none 0 0, .int .i64 0, .slice none 0 0, .slice none 0 0] 32)) := (Kept.refl _ _).alloc _
      have HL := Lib.hid (Bk.new X1 32 #[.slice none 0 0, .int .i64 0, .slice none 0 0, .slice none 0 0])
      refine hK.out _ _ (HSB.out _ (K1x.out.trans hka (by simp))) (fun hHeld => ?_)
      clear hK K
      try simp only [Act.put, List.setIfInBounds_toArray, List.set_cons_zero, List.set_cons_succ]
      obtain ⟨gL, hgL⟩ : ∃ g, g = X1.heap.size := ⟨_, rfl⟩
      have hLW : w1.heap.size ≤ gL := by rw [hgL]; exact K1x.out.size
      have K2x := Lib.hid (K1x.out.trans hka (by simp))
      have hHS := Kept.size (rows := []) hka
      generalize X1.alloc (.cells #[.slice none 0 0, .int .i64 0, .slice none 0 0, .slice none 0 0] 32) = X2 at *
      rw [← hgL] at HL ⊢
      clear hgL hka
      refine wpAnyH_ready (rs := [1]) (by kernel_rfl) (by simp) ?_
      refine (AllReadyH.cons (opAt_lstE rfl) (fun K hK => ?_) AllReadyH.nil)
      go_simp
      go_at_call 37
      refine (HTD.out _ K2x.out).mono ?_
      rintro e X3 ⟨y, rfl, HY, hk, hk0⟩
      refine hK.out _ _ (HSB.out _ hk0) (fun hHeld => ?_)
      clear hK K
      try simp only [Act.put, List.setIfInBounds_toArray, List.set_cons_zero, List.set_cons_succ]
      have K3x := Lib.hid hk0
      have HL := Lib.hid (HL.out.stay hk)
      clear hk hk0
      refine wpAnyH_ready (rs := [3]) (by kernel_rfl) (by simp) ?_
      refine (AllReadyH.cons (opAt_lstE rfl) (fun K hK => ?_) AllReadyH.nil)
      go_simp
      go_at_call 42
      refine (HTB.out _ K3x.out).mono ?_
      rintro e X4 ⟨rfl, hk, hk0⟩
      refine hK.out _ _ (HSB.out _ hk0) (fun hHeld => ?_)
      clear hK K
      try simp only [Act.put, List.setIfInBounds_toArray, List.set_cons_zero, List.set_cons_succ]
      have K4x := Lib.hid hk0
      have HY := Lib.hid (HY.out.stay hk)
      have HL := Lib.hid (HL.out.stay hk)
      clear hk hk0
      refine wpAnyH_ready (rs := [4]) (by kernel_rfl) (by simp) ?_
      refine (AllReadyH.cons (opAt_lstE rfl) (fun K hK => ?_) AllReadyH.nil)
      go_simp
      go_at_call 28
      refine (HD1.out _ _ K4x.out HY.out).mono ?_
      rintro e X5 ⟨za, zb, z3, zn, zq, zm, zr, zl, zs, rfl, HZ, hk, hk0⟩
      refine hK.out _ _ (HSB.out _ hk0) (fun hHeld => ?_)
      clear hK K
      try simp only [Act.put, List.setIfInBounds_toArray, List.set_cons_zero, List.set_cons_succ]
      have K5x := Lib.hid hk0
      have HY := Lib.hid (HY.out.stay hk)
      have HL := Lib.hid (HL.out.stay hk)
      clear hk hk0
      refine wpAnyH_take (i := 5) (v := ?_) (opAt_lstE rfl) (by kernel_rfl) (by kernel_rfl) (by kernel_rfl) (fun _ _ _ h => h) (Or.inl ⟨by rfl, ?_⟩) (by assumption) ?_
      rotate_left
      · intro w9 hSw
        (try dsimp only at hSw)
        go_simp
        try with_reducible rfl
      try simp only [Act.put, List.setIfInBounds_toArray, List.set_cons_zero, List.set_cons_succ]
      refine wpAnyH_take (i := 6) (v := ?_) (opAt_lstE rfl) (by kernel_rfl) (by kernel_rfl) (by kernel_rfl) (fun _ _ _ h => h) (Or.inl ⟨by rfl, ?_⟩) (by assumption) ?_
      rotate_left
      · intro w9 hSw
        (try dsimp only at hSw)
        go_simp
        try with_reducible rfl
      try simp only [Act.put, List.setIfInBounds_toArray, List.set_cons_zero, List.set_cons_succ]
      refine wpAnyH_take (i := 7) (v := ?_) (opAt_lstE rfl) (by kernel_rfl) (by kernel_rfl) (by kernel_rfl) (fun _ _ _ h => h) (Or.inl ⟨by rfl, ?_⟩) (by assumption) ?_
      rotate_left
      · intro w9 hSw
        (try dsimp only at hSw)
        go_simp
        try with_reducible rfl
      try simp only [Act.put, List.setIfInBounds_toArray, List.set_cons_zero, List.set_cons_succ]
      refine wpAnyH_ready (rs := [9]) (by kernel_rfl) (by simp) ?_
      refine (AllReadyH.cons (opAt_lstE rfl) (fun K hK => ?_) AllReadyH.nil)
      obtain ⟨l0, l1, l2, l3⟩ := HL.out.four
      have f0 := HL.out.frozen 0
      have f1 := HL.out.frozen 1
      have f2 := HL.out.frozen 2
      have f3 := HL.out.frozen 3
      have hll := HL.out.lt
      go_simp
      refine hK.out _ _ (HSB.out _ (K5x.out.set4 hLW (.slice za zn zq) (.int .i64 d.now.c) (.slice zb zm zr) (.slice z3 zl zs))) (fun hHeld => ?_)
      clear hK K
      try simp only [Act.put, List.setIfInBounds_toArray, List.set_cons_zero, List.set_cons_succ]
      refine wpAnyH_take (i := 10) (v := ?_) (opAt_lstE rfl) (by kernel_rfl) (by kernel_rfl) (by kernel_rfl) (fun _ _ _ h => h) (Or.inl ⟨by rfl, ?_⟩) (by assumption) ?_
      rotate_left
      · intro w9 hSw
        (try dsimp only at hSw)
        go_simp
        try with_reducible rfl
      try simp only [Act.put, List.setIfInBounds_toArray, List.set_cons_zero, List.set_cons_succ]
      refine wpAnyH_done (by kernel_rfl) ?_ _
      go_wp2_with fail
      go_meet
      have hk4 := Kept.rows4 X5 gL (.slice za zn zq) (.int .i64 d.now.c) (.slice zb zm zr) (.slice z3 zl zs)
      exact ⟨gL, za, zb, z3, zn, zq, zm, zr, zl, zs, rfl, rfl, HL.out.set4 _ _ _ _, HZ.out.alien hk4 (Alien.one HL.out), hLW, Nat.lt_of_lt_of_le hll (Kept.size hk4), (K5x.out.set4 hLW (.slice za zn zq) (.int .i64 d.now.c) (.slice zb zm zr) (.slice z3 zl zs))⟩
  case rest =>
    obtain ⟨bp18, za18, zb18, z318, zn18, zq18, zm18, zr18, zl18, zs18, rfl, rfl, hbk, hde, hb1, hb2, hk⟩ := hcut
    clear HSB HTB HD1 HTD
    have V19 := Lib.hid (hde)
    have B20 := Lib.hid (hbk)
    clear hde hbk
    have Z21 := Lib.hid (And.intro hb1 hb2)
    clear hb1 hb2
    generalize wc = wc17 at *
    have K22 := Lib.hid (K14.out.trans hk (by simp))
    clear K14
    have K23 := Lib.hid (K15.out.trans hk (by simp))
    clear K15
    have Z24 := Lib.hid (Kept.size (rows := []) hk)
    clear hk
    have K25 := Lib.hid (Kept.refl [] wc17)
    obtain ⟨c26, c27, c28, c29⟩ := (B3.out.stay K23.out).four
    go_wp2_with fail
    refine (toDesk_dm d0 HLE.out _ _ (HA.out.stay K22.out)).mono ?_
    rintro e w2 ⟨y30, rfl, hp, hk⟩
    clear c26 c27 c28 c29
    have P31 := Lib.hid (hp)
    have K32 := Lib.hid (K22.out.trans hk (by simp))
    clear K22
    have K33 := Lib.hid (K23.out.trans hk (by simp))
    clear K23
    have K34 := Lib.hid (K25.out.trans hk (by simp))
    clear K25
    have Z35 := Lib.hid (Kept.size (rows := []) hk)
    clear hk hp
    have K36 := Lib.hid (Kept.refl [] w2)
    obtain ⟨a37, n37, q37, b37, m37, r37, d37, l37, s37, rfl⟩ := P31.out.dv.form
    have hka : Kept [] w2 (w2.alloc (.cells #[.slice a37 n37 q37, .int .i64 d0.now.c, .slice b37 m37 r37, .slice d37 l37 s37] 32)) := (Kept.refl _ _).alloc _
    have B38 := Lib.hid (Bk.new w2 32 #[.slice a37 n37 q37, .int .i64 d0.now.c, .slice b37 m37 r37, .slice d37 l37 s37])
    have Z39 := Lib.hid (show w2.heap.size + 1 ≤ (w2.alloc (.cells #[.slice a37 n37 q37, .int .i64 d0.now.c, .slice b37 m37 r37, .slice d37 l37 s37] 32)).heap.size from by simp)
    have K40 := Lib.hid (K32.out.trans hka (by simp))
    clear K32
    have K41 := Lib.hid (K33.out.trans hka (by simp))
    clear K33
    have K42 := Lib.hid (K34.out.trans hka (by simp))
    clear K34
    have K43 := Lib.hid (K36.out.trans hka (by simp))
    clear K36
    have Z44 := Lib.hid (Kept.size (rows := []) hka)
    clear hka
    have K46 := Lib.hid (Kept.refl [] (w2.alloc (.cells #[.slice a37 n37 q37, .int .i64 d0.now.c, .slice b37 m37 r37, .slice d37 l37 s37] 32)))
    go_wp2_with fail
    generalize (w2.alloc (.cells #[.slice a37 n37 q37, .int .i64 d0.now.c, .slice b37 m37 r37, .slice d37 l37 s37] 32)) = W45 at *
    have HSB : Hid (∀ w', Kept [] W45 w' → w'.cell? ⟨w2.heap.size, 0, none⟩ = some (.slice a37 n37 q37) ∧ w'.cell? ⟨w2.heap.size, 1, none⟩ = some (.int .i64 d0.now.c) ∧ w'.cell? ⟨w2.heap.size, 2, none⟩ = some (.slice b37 m37 r37) ∧ w'.cell? ⟨w2.heap.size, 3, none⟩ = some (.slice d37 l37 s37) ∧ w'.cell? ⟨w.heap.size + 1, 0, none⟩ = some (.int .i64 ak) ∧ w'.cell? ⟨w.heap.size + 1, 1, none⟩ = some (.int .i64 aa) ∧ w'.cell? ⟨w.heap.size + 1, 2, none⟩ = some (.int .i64 ab)) := Lib.hid (fun w' k' => ⟨((B38.out.stay K46.out).stay k').four.1, ((B38.out.stay K46.out).stay k').four.2.1, ((B38.out.stay K46.out).stay k').four.2.2.1, ((B38.out.stay K46.out).stay k').four.2.2.2, ((B4.out.stay K41.out).stay k').three.1, ((B4.out.stay K41.out).stay k').three.2.1, ((B4.out.stay K41.out).stay k').three.2.2⟩)
    have HTB : Hid (∀ W, Kept [] W45 W → Calls Try.prog 42 #[.agg #[.int .i64 ak, .int .i64 aa, .int .i64 ab]] W fun e w' => e = .returned (.agg #[.int .i64 ak, .int .i64 aa, .int .i64 ab]) ∧ Kept [] W w' ∧ Kept [] W45 w') := Lib.hid (fun W k => (toDeed_any ak aa ab W).mono (by rintro e w' ⟨rfl, hk⟩; exact ⟨rfl, hk, k.trans hk (by simp)⟩))
    have HD1 : Hid (∀ W, Kept [] W45 W → Calls Try.prog 27 #[.agg #[.slice a37 n37 q37, .int .i64 d0.now.c, .slice b37 m37 r37, .slice d37 l37 s37], .agg #[.int .i64 ak, .int .i64 aa, .int .i64 ab]] W fun e w' => ∃ (za zb z3 : Option Addr) (zn zq zm zr zl zs : Nat), e = .returned (.tuple #[.agg #[.slice za zn zq, .int .i64 d.now.c, .slice zb zm zr, .slice z3 zl zs], .bool ok]) ∧ Hid (Dm w' W.heap.size w'.heap.size (.agg #[.slice za zn zq, .int .i64 d.now.c, .slice zb zm zr, .slice z3 zl zs]) d ∧ dkLen d ≤ 3000) ∧ Kept [] W w' ∧ Kept [] W45 w') := Lib.hid (fun W k => (iDeskDo_any d0 ak aa ab W _ ((P31.out.stay K43.out).stay k).de).mono (by rintro e w' ⟨y, rfl, hv, hk⟩; rw [← HOK.out]; rw [← HD.out] at hv; obtain ⟨za, zn, zq, zb, zm, zr, z3, zl, zs, rfl⟩ := hv.dv.form; exact ⟨za, zb, z3, zn, zq, zm, zr, zl, zs, rfl, Lib.hid ⟨hv.dm.1, hv.dm.2⟩, hk, k.trans hk (by simp)⟩))
    go_cut [9, 10] from 31 to 37 (fun u9 u10 wc => ∃ (bp : Nat) (za zb z3 : Option Addr) (zn zq zm zr zl zs : Nat), u9 = .pointer (some ⟨bp, 0, none⟩) ∧ u10 = .bool ok ∧ Bk wc bp 32 #[.slice za zn zq, .int .i64 d.now.c, .slice zb zm zr, .slice z3 zl zs] ∧ (∃ lo hi, Dm wc lo hi (.agg #[.slice za zn zq, .int .i64 d.now.c, .slice zb zm zr, .slice z3 zl zs]) d ∧ dkLen d ≤ 3000 ∧ W45.heap.size ≤ lo ∧ hi ≤ wc.heap.size ∧ (bp < lo ∨ hi ≤ bp)) ∧ W45.heap.size ≤ bp ∧ bp < wc.heap.size ∧ Kept [] W45 wc)
    case first =>
      have K1x : Hid (Kept [] W45 W45.drew) := Lib.hid ((Kept.refl [] W45).drew)
      refine wp_region_held_drew (S := (fun w' => w'.cell? ⟨w2.heap.size, 0, none⟩ = some (.slice a37 n37 q37) ∧ w'.cell? ⟨w2.heap.size, 1, none⟩ = some (.int .i64 d0.now.c) ∧ w'.cell? ⟨w2.heap.size, 2, none⟩ = some (.slice b37 m37 r37) ∧ w'.cell? ⟨w2.heap.size, 3, none⟩ = some (.slice d37 l37 s37) ∧ w'.cell? ⟨w.heap.size + 1, 0, none⟩ = some (.int .i64 ak) ∧ w'.cell? ⟨w.heap.size + 1, 1, none⟩ = some (.int .i64 aa) ∧ w'.cell? ⟨w.heap.size + 1, 2, none⟩ = some (.int .i64 ab))) (by kernel_rfl) (HSB.out _ K1x.out) (fun hHeld => ?_)
      generalize W45.drew = X1 at *
      refine wpAnyH_take (i := 0) (v := ?_) (opAt_lstE rfl) (by kernel_rfl) (by kernel_rfl) (by kernel_rfl) (fun _ _ _ h => h) (Or.inl ⟨by rfl, ?_⟩) (by assumption) ?_
      rotate_left
      · intro w9 hSw
        (try dsimp only at hSw)
        go_simp
        try with_reducible rfl
      try simp only [Act.put, List.setIfInBounds_toArray, List.set_cons_zero, List.set_cons_succ]
      refine wpAnyH_take (i := 1) (v := ?_) (opAt_lstE rfl) (by kernel_rfl) (by kernel_rfl) (by kernel_rfl) (fun _ _ _ h => h) (Or.inl ⟨by rfl, ?_⟩) (by assumption) ?_
      rotate_left
      · intro w9 hSw
        (try dsimp only at hSw)
        go_simp
        try with_reducible rfl
      try simp only [Act.put, List.setIfInBounds_toArray, List.set_cons_zero, List.set_cons_succ]
      refine wpAnyH_ready (rs := [2, 7]) (by kernel_rfl) (by simp) ?_
      refine (AllReadyH.cons (opAt_lstE rfl) (fun K hK => ?_) (AllReadyH.cons (opAt_lstE rfl) (fun K hK => ?_) AllReadyH.nil))
      · go_simp
        go_at_call 42
        refine (HTB.out _ K1x.out).mono ?_
        rintro e X2 ⟨rfl, hk, hk0⟩
        refine hK.out _ _ (HSB.out _ hk0) (fun hHeld => ?_)
        clear hK K
        try simp only [Act.put, List.setIfInBounds_toArray, List.set_cons_zero, List.set_cons_succ]
        have K2x := Lib.hid hk0
        clear hk hk0
        refine wpAnyH_ready (rs := [3, 7]) (by kernel_rfl) (by simp) ?_
        refine (AllReadyH.cons (opAt_lstE rfl) (fun K hK => ?_) (AllReadyH.cons (opAt_lstE rfl) (fun K hK => ?_) AllReadyH.nil))
        · go_simp
          go_at_call 27
          refine (HD1.out _ K2x.out).mono ?_
          rintro e X3 ⟨za, zb, z3, zn, zq, zm, zr, zl, zs, rfl, HZ, hk, hk0⟩
          obtain ⟨loC, hlo⟩ : ∃ g, g = X2.heap.size := ⟨_, rfl⟩
          obtain ⟨hiC, hhi⟩ : ∃ g, g = X3.heap.size := ⟨_, rfl⟩
          rw [← hlo, ← hhi] at HZ
          have hLO : W45.heap.size ≤ loC := by rw [hlo]; exact K2x.out.size
          have hHI : hiC ≤ X3.heap.size := by omega
          refine hK.out _ _ (HSB.out _ hk0) (fun hHeld => ?_)
          clear hK K
          try simp only [Act.put, List.setIfInBounds_toArray, List.set_cons_zero, List.set_cons_succ]
          have K3x := Lib.hid hk0
          clear hk hk0
          refine wpAnyH_take (i := 4) (v := ?_) (opAt_lstE rfl) (by kernel_rfl) (by kernel_rfl) (by kernel_rfl) (fun _ _ _ h => h) (Or.inl ⟨by rfl, ?_⟩) (by assumption) ?_
          rotate_left
          · intro w9 hSw
            (try dsimp only at hSw)
            go_simp
            try with_reducible rfl
          try simp only [Act.put, List.setIfInBounds_toArray, List.set_cons_zero, List.set_cons_succ]
          refine wpAnyH_take (i := 5) (v := ?_) (opAt_lstE rfl) (by kernel_rfl) (by kernel_rfl) (by kernel_rfl) (fun _ _ _ h => h) (Or.inl ⟨by rfl, ?_⟩) (by assumption) ?_
          rotate_left
          · intro w9 hSw
            (try dsimp only at hSw)
            go_simp
            try with_reducible rfl
          try simp only [Act.put, List.setIfInBounds_toArray, List.set_cons_zero, List.set_cons_succ]
          refine wpAnyH_take (i := 6) (v := ?_) (opAt_lstE rfl) (by kernel_rfl) (by kernel_rfl) (by kernel_rfl) (fun _ _ _ h => h) (Or.inl ⟨by rfl, ?_⟩) (by assumption) ?_
          rotate_left
          · intro w9 hSw
            (try dsimp only at hSw)
            go_simp
            try with_reducible rfl
          try simp only [Act.put, List.setIfInBounds_toArray, List.set_cons_zero, List.set_cons_succ]
          refine wpAnyH_ready (rs := [7]) (by kernel_rfl) (by simp) ?_
          refine (AllReadyH.cons (opAt_lstE rfl) (fun K hK => ?_) AllReadyH.nil)
          go_simp
          have hka : Kept [] X3 (X3.alloc (.cells #[.slice none 0 0, .int .i64 0, .slice none 0 0, .slice none 0 0] 32)) := (Kept.refl _ _).alloc _
          have HL := Lib.hid (Bk.new X3 32 #[.slice none 0 0, .int .i64 0, .slice none 0 0, .slice none 0 0])
          refine hK.out _ _ (HSB.out _ (K3x.out.trans hka (by simp))) (fun hHeld => ?_)
          clear hK K
          try simp only [Act.put, List.setIfInBounds_toArray, List.set_cons_zero, List.set_cons_succ]
          obtain ⟨gL, hgL⟩ : ∃ g, g = X3.heap.size := ⟨_, rfl⟩
          have hLW : W45.heap.size ≤ gL := by rw [hgL]; exact K3x.out.size
          have hor : gL < loC ∨ hiC ≤ gL := .inr (by have := hHI; omega)
          have K4x := Lib.hid (K3x.out.trans hka (by simp))
          have hHS := Kept.size (rows := []) hka
          have HZ := Lib.hid (And.intro (HZ.out.1.stay hka) HZ.out.2)
          generalize X3.alloc (.cells #[.slice none 0 0, .int .i64 0, .slice none 0 0, .slice none 0 0] 32) = X4 at *
          rw [← hgL] at HL ⊢
          clear hgL hka
          refine wpAnyH_ready (rs := [8]) (by kernel_rfl) (by simp) ?_
          refine (AllReadyH.cons (opAt_lstE rfl) (fun K hK => ?_) AllReadyH.nil)
          obtain ⟨l0, l1, l2, l3⟩ := HL.out.four
          have f0 := HL.out.frozen 0
          have f1 := HL.out.frozen 1
          have f2 := HL.out.frozen 2
          have f3 := HL.out.frozen 3
          have hll := HL.out.lt
          go_simp
          refine hK.out _ _ (HSB.out _ (K4x.out.set4 hLW (.slice za zn zq) (.int .i64 d.now.c) (.slice zb zm zr) (.slice z3 zl zs))) (fun hHeld => ?_)
          clear hK K
          try simp only [Act.put, List.setIfInBounds_toArray, List.set_cons_zero, List.set_cons_succ]
          refine wpAnyH_take (i := 9) (v := ?_) (opAt_lstE rfl) (by kernel_rfl) (by kernel_rfl) (by kernel_rfl) (fun _ _ _ h => h) (Or.inl ⟨by rfl, ?_⟩) (by assumption) ?_
          rotate_left
          · intro w9 hSw
            (try dsimp only at hSw)
            go_simp
            try with_reducible rfl
          try simp only [Act.put, List.setIfInBounds_toArray, List.set_cons_zero, List.set_cons_succ]
          refine wpAnyH_done (by kernel_rfl) ?_ _
          go_wp2_with fail
          go_meet
          have hk4 := Kept.rows4 X4 gL (.slice za zn zq) (.int .i64 d.now.c) (.slice zb zm zr) (.slice z3 zl zs)
          have hdm := HZ.out.1.off1 hk4 hor
          have hHI0 : hiC ≤ X4.heap.size := by first | exact hHI | (have := HL.out.lt; omega) | exact Nat.le_trans hHI hHS
          exact ⟨gL, za, zb, z3, zn, zq, zm, zr, zl, zs, rfl, rfl, HL.out.set4 _ _ _ _, ⟨loC, hiC, hdm, HZ.out.2, hLO, Nat.le_trans hHI0 (Kept.size hk4), hor⟩, hLW, Nat.lt_of_lt_of_le hll (Kept.size hk4), (K4x.out.set4 hLW (.slice za zn zq) (.int .i64 d.now.c) (.slice zb zm zr) (.slice z3 zl zs))⟩
        · go_simp
          have hka : Kept [] X2 (X2.alloc (.cells #[.slice none 0 0, .int .i64 0, .slice none 0 0, .slice none 0 0] 32)) := (Kept.refl _ _).alloc _
          have HL := Lib.hid (Bk.new X2 32 #[.slice none 0 0, .int .i64 0, .slice none 0 0, .slice none 0 0])
          refine hK.out _ _ (HSB.out _ (K2x.out.trans hka (by simp))) (fun hHeld => ?_)
          clear hK K
          try simp only [Act.put, List.setIfInBounds_toArray, List.set_cons_zero, List.set_cons_succ]
          obtain ⟨gL, hgL⟩ : ∃ g, g = X2.heap.size := ⟨_, rfl⟩
          have hLW : W45.heap.size ≤ gL := by rw [hgL]; exact K2x.out.size
          have K3x := Lib.hid (K2x.out.trans hka (by simp))
          have hHS := Kept.size (rows := []) hka
          generalize X2.alloc (.cells #[.slice none 0 0, .int .i64 0, .slice none 0 0, .slice none 0 0] 32) = X3 at *
          rw [← hgL] at HL ⊢
          clear hgL hka
          refine wpAnyH_ready (rs := [3]) (by kernel_rfl) (by simp) ?_
          refine (AllReadyH.cons (opAt_lstE rfl) (fun K hK => ?_) AllReadyH.nil)
          go_simp
          go_at_call 27
          refine (HD1.out _ K3x.out).mono ?_
          rintro e X4 ⟨za, zb, z3, zn, zq, zm, zr, zl, zs, rfl, HZ, hk, hk0⟩
          obtain ⟨loC, hlo⟩ : ∃ g, g = X3.heap.size := ⟨_, rfl⟩
          obtain ⟨hiC, hhi⟩ : ∃ g, g = X4.heap.size := ⟨_, rfl⟩
          rw [← hlo, ← hhi] at HZ
          have hLO : W45.heap.size ≤ loC := by rw [hlo]; exact K3x.out.size
          have hHI : hiC ≤ X4.heap.size := by omega
          have hor : gL < loC ∨ hiC ≤ gL := .inl (by have := HL.out.lt; omega)
          refine hK.out _ _ (HSB.out _ hk0) (fun hHeld => ?_)
          clear hK K
          try simp only [Act.put, List.setIfInBounds_toArray, List.set_cons_zero, List.set_cons_succ]
          have K4x := Lib.hid hk0
          have HL := Lib.hid (HL.out.stay hk)
          clear hk hk0
          refine wpAnyH_take (i := 4) (v := ?_) (opAt_lstE rfl) (by kernel_rfl) (by kernel_rfl) (by kernel_rfl) (fun _ _ _ h => h) (Or.inl ⟨by rfl, ?_⟩) (by assumption) ?_
          rotate_left
          · intro w9 hSw
            (try dsimp only at hSw)
            go_simp
            try with_reducible rfl
          try simp only [Act.put, List.setIfInBounds_toArray, List.set_cons_zero, List.set_cons_succ]
          refine wpAnyH_take (i := 5) (v := ?_) (opAt_lstE rfl) (by kernel_rfl) (by kernel_rfl) (by kernel_rfl) (fun _ _ _ h => h) (Or.inl ⟨by rfl, ?_⟩) (by assumption) ?_
          rotate_left
          · intro w9 hSw
            (try dsimp only at hSw)
            go_simp
            try with_reducible rfl
          try simp only [Act.put, List.setIfInBounds_toArray, List.set_cons_zero, List.set_cons_succ]
          refine wpAnyH_take (i := 6) (v := ?_) (opAt_lstE rfl) (by kernel_rfl) (by kernel_rfl) (by kernel_rfl) (fun _ _ _ h => h) (Or.inl ⟨by rfl, ?_⟩) (by assumption) ?_
          rotate_left
          · intro w9 hSw
            (try dsimp only at hSw)
            go_simp
            try with_reducible rfl
          try simp only [Act.put, List.setIfInBounds_toArray, List.set_cons_zero, List.set_cons_succ]
          refine wpAnyH_ready (rs := [8]) (by kernel_rfl) (by simp) ?_
          refine (AllReadyH.cons (opAt_lstE rfl) (fun K hK => ?_) AllReadyH.nil)
          obtain ⟨l0, l1, l2, l3⟩ := HL.out.four
          have f0 := HL.out.frozen 0
          have f1 := HL.out.frozen 1
          have f2 := HL.out.frozen 2
          have f3 := HL.out.frozen 3
          have hll := HL.out.lt
          go_simp
          refine hK.out _ _ (HSB.out _ (K4x.out.set4 hLW (.slice za zn zq) (.int .i64 d.now.c) (.slice zb zm zr) (.slice z3 zl zs))) (fun hHeld => ?_)
          clear hK K
          try simp only [Act.put, List.setIfInBounds_toArray, List.set_cons_zero, List.set_cons_succ]
          refine wpAnyH_take (i := 9) (v := ?_) (opAt_lstE rfl) (by kernel_rfl) (by kernel_rfl) (by kernel_rfl) (fun _ _ _ h => h) (Or.inl ⟨by rfl, ?_⟩) (by assumption) ?_
          rotate_left
          · intro w9 hSw
            (try dsimp only at hSw)
            go_simp
            try with_reducible rfl
          try simp only [Act.put, List.setIfInBounds_toArray, List.set_cons_zero, List.set_cons_succ]
          refine wpAnyH_done (by kernel_rfl) ?_ _
          go_wp2_with fail
          go_meet
          have hk4 := Kept.rows4 X4 gL (.slice za zn zq) (.int .i64 d.now.c) (.slice zb zm zr) (.slice z3 zl zs)
          have hdm := HZ.out.1.off1 hk4 hor
          have hHI0 : hiC ≤ X4.heap.size := by first | exact hHI | (have := HL.out.lt; omega) | exact Nat.le_trans hHI hHS
          exact ⟨gL, za, zb, z3, zn, zq, zm, zr, zl, zs, rfl, rfl, HL.out.set4 _ _ _ _, ⟨loC, hiC, hdm, HZ.out.2, hLO, Nat.le_trans hHI0 (Kept.size hk4), hor⟩, hLW, Nat.lt_of_lt_of_le hll (Kept.size hk4), (K4x.out.set4 hLW (.slice za zn zq) (.int .i64 d.now.c) (.slice zb zm zr) (.slice z3 zl zs))⟩
      · go_simp
        have hka : Kept [] X1 (X1.alloc (.cells #[.slice none 0 0, .int .i64 0, .slice none 0 0, .slice none 0 0] 32)) := (Kept.refl _ _).alloc _
        have HL := Lib.hid (Bk.new X1 32 #[.slice none 0 0, .int .i64 0, .slice none 0 0, .slice none 0 0])
        refine hK.out _ _ (HSB.out _ (K1x.out.trans hka (by simp))) (fun hHeld => ?_)
        clear hK K
        try simp only [Act.put, List.setIfInBounds_toArray, List.set_cons_zero, List.set_cons_succ]
        obtain ⟨gL, hgL⟩ : ∃ g, g = X1.heap.size := ⟨_, rfl⟩
        have hLW : W45.heap.size ≤ gL := by rw [hgL]; exact K1x.out.size
        have K2x := Lib.hid (K1x.out.trans hka (by simp))
        have hHS := Kept.size (rows := []) hka
        generalize X1.alloc (.cells #[.slice none 0 0, .int .i64 0, .slice none 0 0, .slice none 0 0] 32) = X2 at *
        rw [← hgL] at HL ⊢
        clear hgL hka
        refine wpAnyH_ready (rs := [2]) (by kernel_rfl) (by simp) ?_
        refine (AllReadyH.cons (opAt_lstE rfl) (fun K hK => ?_) AllReadyH.nil)
        go_simp
        go_at_call 42
        refine (HTB.out _ K2x.out).mono ?_
        rintro e X3 ⟨rfl, hk, hk0⟩
        refine hK.out _ _ (HSB.out _ hk0) (fun hHeld => ?_)
        clear hK K
        try simp only [Act.put, List.setIfInBounds_toArray, List.set_cons_zero, List.set_cons_succ]
        have K3x := Lib.hid hk0
        have HL := Lib.hid (HL.out.stay hk)
        clear hk hk0
        refine wpAnyH_ready (rs := [3]) (by kernel_rfl) (by simp) ?_
        refine (AllReadyH.cons (opAt_lstE rfl) (fun K hK => ?_) AllReadyH.nil)
        go_simp
        go_at_call 27
        refine (HD1.out _ K3x.out).mono ?_
        rintro e X4 ⟨za, zb, z3, zn, zq, zm, zr, zl, zs, rfl, HZ, hk, hk0⟩
        obtain ⟨loC, hlo⟩ : ∃ g, g = X3.heap.size := ⟨_, rfl⟩
        obtain ⟨hiC, hhi⟩ : ∃ g, g = X4.heap.size := ⟨_, rfl⟩
        rw [← hlo, ← hhi] at HZ
        have hLO : W45.heap.size ≤ loC := by rw [hlo]; exact K3x.out.size
        have hHI : hiC ≤ X4.heap.size := by omega
        have hor : gL < loC ∨ hiC ≤ gL := .inl (by have := HL.out.lt; omega)
        refine hK.out _ _ (HSB.out _ hk0) (fun hHeld => ?_)
        clear hK K
        try simp only [Act.put, List.setIfInBounds_toArray, List.set_cons_zero, List.set_cons_succ]
        have K4x := Lib.hid hk0
        have HL := Lib.hid (HL.out.stay hk)
        clear hk hk0
        refine wpAnyH_take (i := 4) (v := ?_) (opAt_lstE rfl) (by kernel_rfl) (by kernel_rfl) (by kernel_rfl) (fun _ _ _ h => h) (Or.inl ⟨by rfl, ?_⟩) (by assumption) ?_
        rotate_left
        · intro w9 hSw
          (try dsimp only at hSw)
          go_simp
          try with_reducible rfl
        try simp only [Act.put, List.setIfInBounds_toArray, List.set_cons_zero, List.set_cons_succ]
        refine wpAnyH_take (i := 5) (v := ?_) (opAt_lstE rfl) (by kernel_rfl) (by kernel_rfl) (by kernel_rfl) (fun _ _ _ h => h) (Or.inl ⟨by rfl, ?_⟩) (by assumption) ?_
        rotate_left
        · intro w9 hSw
          (try dsimp only at hSw)
          go_simp
          try with_reducible rfl
        try simp only [Act.put, List.setIfInBounds_toArray, List.set_cons_zero, List.set_cons_succ]
        refine wpAnyH_take (i := 6) (v := ?_) (opAt_lstE rfl) (by kernel_rfl) (by kernel_rfl) (by kernel_rfl) (fun _ _ _ h => h) (Or.inl ⟨by rfl, ?_⟩) (by assumption) ?_
        rotate_left
        · intro w9 hSw
          (try dsimp only at hSw)
          go_simp
          try with_reducible rfl
        try simp only [Act.put, List.setIfInBounds_toArray, List.set_cons_zero, List.set_cons_succ]
        refine wpAnyH_ready (rs := [8]) (by kernel_rfl) (by simp) ?_
        refine (AllReadyH.cons (opAt_lstE rfl) (fun K hK => ?_) AllReadyH.nil)
        obtain ⟨l0, l1, l2, l3⟩ := HL.out.four
        have f0 := HL.out.frozen 0
        have f1 := HL.out.frozen 1
        have f2 := HL.out.frozen 2
        have f3 := HL.out.frozen 3
        have hll := HL.out.lt
        go_simp
        refine hK.out _ _ (HSB.out _ (K4x.out.set4 hLW (.slice za zn zq) (.int .i64 d.now.c) (.slice zb zm zr) (.slice z3 zl zs))) (fun hHeld => ?_)
        clear hK K
        try simp only [Act.put, List.setIfInBounds_toArray, List.set_cons_zero, List.set_cons_succ]
        refine wpAnyH_take (i := 9) (v := ?_) (opAt_lstE rfl) (by kernel_rfl) (by kernel_rfl) (by kernel_rfl) (fun _ _ _ h => h) (Or.inl ⟨by rfl, ?_⟩) (by assumption) ?_
        rotate_left
        · intro w9 hSw
          (try dsimp only at hSw)
          go_simp
          try with_reducible rfl
        try simp only [Act.put, List.setIfInBounds_toArray, List.set_cons_zero, List.set_cons_succ]
        refine wpAnyH_done (by kernel_rfl) ?_ _
        go_wp2_with fail
        go_meet
        have hk4 := Kept.rows4 X4 gL (.slice za zn zq) (.int .i64 d.now.c) (.slice zb zm zr) (.slice z3 zl zs)
        have hdm := HZ.out.1.off1 hk4 hor
        have hHI0 : hiC ≤ X4.heap.size := by first | exact hHI | (have := HL.out.lt; omega) | exact Nat.le_trans hHI hHS
        exact ⟨gL, za, zb, z3, zn, zq, zm, zr, zl, zs, rfl, rfl, HL.out.set4 _ _ _ _, ⟨loC, hiC, hdm, HZ.out.2, hLO, Nat.le_trans hHI0 (Kept.size hk4), hor⟩, hLW, Nat.lt_of_lt_of_le hll (Kept.size hk4), (K4x.out.set4 hLW (.slice za zn zq) (.int .i64 d.now.c) (.slice zb zm zr) (.slice z3 zl zs))⟩
    case rest =>
      obtain ⟨bp48, za48, zb48, z348, zn48, zq48, zm48, zr48, zl48, zs48, rfl, rfl, hbk, hde, hb1, hb2, hk⟩ := hcut
      clear HSB HTB HD1
      obtain ⟨lo48, hi48, hdm, hlg, hlo, hhi, hor⟩ := hde
      have HLG := Lib.hid hlg
      have V49 := Lib.hid (hdm)
      have B50 := Lib.hid (hbk)
      have Z51 := Lib.hid (And.intro hlo hhi)
      have Z52 := Lib.hid (hor)
      clear hdm hbk hlo hhi hor hlg
      have Z53 := Lib.hid (And.intro hb1 hb2)
      clear hb1 hb2
      generalize wc = wc47 at *
      have K54 := Lib.hid (K40.out.trans hk (by simp))
      clear K40
      have K55 := Lib.hid (K41.out.trans hk (by simp))
      clear K41
      have K56 := Lib.hid (K42.out.trans hk (by simp))
      clear K42
      have K57 := Lib.hid (K43.out.trans hk (by simp))
      clear K43
      have K58 := Lib.hid (K46.out.trans hk (by simp))
      clear K46
      have Z59 := Lib.hid (Kept.size (rows := []) hk)
      clear hk
      have K60 := Lib.hid (Kept.refl [] wc47)
      obtain ⟨c61, c62, c63, c64⟩ := (B50.out.stay K60.out).four
      obtain ⟨c65, c66, c67, c68⟩ := (B20.out.stay K56.out).four
      go_wp2_with fail
      refine (eqDesk_dv d _ _ _ ⟨_, (V49.out.stay K60.out).dv⟩ ⟨_, (V19.out.stay K56.out).dv⟩).mono ?_
      rintro e w3 ⟨rfl, hk⟩
      clear c61 c62 c63 c64 c65 c66 c67 c68
      have K69 := Lib.hid (K54.out.trans hk (by simp))
      clear K54
      have K70 := Lib.hid (K55.out.trans hk (by simp))
      clear K55
      have K71 := Lib.hid (K56.out.trans hk (by simp))
      clear K56
      have K72 := Lib.hid (K57.out.trans hk (by simp))
      clear K57
      have K73 := Lib.hid (K58.out.trans hk (by simp))
      clear K58
      have K74 := Lib.hid (K60.out.trans hk (by simp))
      clear K60
      have Z75 := Lib.hid (Kept.size (rows := []) hk)
      clear hk
      go_wp2_with fail
      have S76 : Hid (∀ w', Kept [] w3 w' → w'.cell? ⟨w2.heap.size, 0, none⟩ = some (.slice a37 n37 q37) ∧ w'.cell? ⟨w2.heap.size, 1, none⟩ = some (.int .i64 d0.now.c) ∧ w'.cell? ⟨w2.heap.size, 2, none⟩ = some (.slice b37 m37 r37) ∧ w'.cell? ⟨w2.heap.size, 3, none⟩ = some (.slice d37 l37 s37) ∧ w'.cell? ⟨w.heap.size, 0, none⟩ = some (.slice a1 n1 q1) ∧ w'.cell? ⟨w.heap.size, 1, none⟩ = some (.int .i64 d0.now.c) ∧ w'.cell? ⟨w.heap.size, 2, none⟩ = some (.slice b1 m1 r1) ∧ w'.cell? ⟨w.heap.size, 3, none⟩ = some (.slice d1 l1 s1)) := Lib.hid (fun w' k' => ⟨((B38.out.stay K73.out).stay k').four.1, ((B38.out.stay K73.out).stay k').four.2.1, ((B38.out.stay K73.out).stay k').four.2.2.1, ((B38.out.stay K73.out).stay k').four.2.2.2, ((B3.out.stay K70.out).stay k').four.1, ((B3.out.stay K70.out).stay k').four.2.1, ((B3.out.stay K70.out).stay k').four.2.2.1, ((B3.out.stay K70.out).stay k').four.2.2.2⟩)
      have T77 : Hid (∀ W, Kept [] w3 W → Calls Try.prog 37 #[.agg #[.slice a1 n1 q1, .int .i64 d0.now.c, .slice b1 m1 r1, .slice d1 l1 s1]] W fun e w' => ∃ y, e = .returned y ∧ Hid (∃ b, Dv w' b y d0) ∧ Kept [] w3 w') := Lib.hid (fun W k => (toDesk_dm d0 HLE.out W _ ((HA.out.stay K69.out).stay k)).mono (by rintro e w' ⟨y, rfl, hp, hk⟩; exact ⟨y, rfl, Lib.hid ⟨_, hp.dv⟩, k.trans hk (by simp)⟩))
      have E78 : Hid (∀ W y, Kept [] w3 W → (∃ b, Dv W b y d0) → Calls Try.prog 38 #[.agg #[.slice a37 n37 q37, .int .i64 d0.now.c, .slice b37 m37 r37, .slice d37 l37 s37], y] W fun e w' => e = .returned (.bool true) ∧ Kept [] w3 w') := Lib.hid (fun W y k h => (eqDesk_dv d0 W _ y ⟨_, ((P31.out.stay K72.out).stay k).dv⟩ h).mono (by rintro e w' ⟨rfl, hk⟩; exact ⟨rfl, k.trans hk (by simp)⟩))
      go_region_held3 (fun w' => w'.cell? ⟨w2.heap.size, 0, none⟩ = some (.slice a37 n37 q37) ∧ w'.cell? ⟨w2.heap.size, 1, none⟩ = some (.int .i64 d0.now.c) ∧ w'.cell? ⟨w2.heap.size, 2, none⟩ = some (.slice b37 m37 r37) ∧ w'.cell? ⟨w2.heap.size, 3, none⟩ = some (.slice d37 l37 s37) ∧ w'.cell? ⟨w.heap.size, 0, none⟩ = some (.slice a1 n1 q1) ∧ w'.cell? ⟨w.heap.size, 1, none⟩ = some (.int .i64 d0.now.c) ∧ w'.cell? ⟨w.heap.size, 2, none⟩ = some (.slice b1 m1 r1) ∧ w'.cell? ⟨w.heap.size, 3, none⟩ = some (.slice d1 l1 s1))
        ((refine S76.out _ ?_; repeat (first | exact Kept.refl _ _ | assumption | apply Kept.alloc | apply Kept.drew)))
        (first
        | (go_simp; go_at_call 37; refine (T77.out _ (by repeat (first | exact Kept.refl _ _ | assumption | apply Kept.alloc | apply Kept.drew))).mono ?_; rintro e wa79 ⟨ya80, rfl, HY81, ka82⟩)
        | (refine (T77.out _ (by repeat (first | exact Kept.refl _ _ | assumption | apply Kept.alloc | apply Kept.drew))).mono ?_; rintro e wa79 ⟨ya80, rfl, HY81, ka82⟩)
        | (go_simp; go_at_call 38; refine (E78.out _ _ (by repeat (first | exact Kept.refl _ _ | assumption | apply Kept.alloc | apply Kept.drew)) (by obtain ⟨bb, hb⟩ := HY81.out; exact ⟨bb, hb.stay (by repeat (first | exact Kept.refl _ _ | apply Kept.alloc | apply Kept.drew))⟩)).mono ?_; rintro e wb83 ⟨rfl, kb84⟩)
        | (refine (E78.out _ _ (by repeat (first | exact Kept.refl _ _ | assumption | apply Kept.alloc | apply Kept.drew)) (by obtain ⟨bb, hb⟩ := HY81.out; exact ⟨bb, hb.stay (by repeat (first | exact Kept.refl _ _ | apply Kept.alloc | apply Kept.drew))⟩)).mono ?_; rintro e wb83 ⟨rfl, kb84⟩))
      clear S76 T77 E78 HY81 ka82
      have K85 := Lib.hid (K69.out.trans kb84 (by simp))
      clear K69
      have K86 := Lib.hid (K70.out.trans kb84 (by simp))
      clear K70
      have K87 := Lib.hid (K71.out.trans kb84 (by simp))
      clear K71
      have K88 := Lib.hid (K72.out.trans kb84 (by simp))
      clear K72
      have K89 := Lib.hid (K73.out.trans kb84 (by simp))
      clear K73
      have K90 := Lib.hid (K74.out.trans kb84 (by simp))
      clear K74
      have Z91 := Lib.hid (Kept.size (rows := []) kb84)
      clear kb84
      obtain ⟨c92, c93, c94, c95⟩ := (B38.out.stay K89.out).four
      go_wp2_with fail
      refine (markDesk_any (1) (by omega) d0 (by have := HLE.out; omega) _ _ _ _ (P31.out.stay K88.out)).mono ?_
      rintro e w4 ⟨rfl, hp, hk⟩
      clear c92 c93 c94 c95
      have M96 := Lib.hid (hp)
      have Q97 := Lib.hid (hk)
      clear hp hk
      clear M96
      have F98 := Lib.hid ((V49.out.stay K90.out).kin Q97.out (by have := Z7.out; have := Z5.out; have := Z16.out; have := Z21.out; have := Z24.out; have := Z35.out; have := Z44.out; have := Z39.out; have := Z51.out; have := Z52.out; have := Z53.out; have := Z59.out; have := Z75.out; have := Z91.out; omega))
      have F99 := Lib.hid ((B50.out.stay K90.out).kin Q97.out (by have := Z7.out; have := Z5.out; have := Z16.out; have := Z21.out; have := Z24.out; have := Z35.out; have := Z44.out; have := Z39.out; have := Z51.out; have := Z52.out; have := Z53.out; have := Z59.out; have := Z75.out; have := Z91.out; omega))
      have K100 := Lib.hid (K85.out.kin Q97.out (by have := Z7.out; have := Z5.out; have := Z16.out; have := Z21.out; have := Z24.out; have := Z35.out; have := Z44.out; have := Z39.out; have := Z51.out; have := Z52.out; have := Z53.out; have := Z59.out; have := Z75.out; have := Z91.out; omega))
      clear K85
      have K101 := Lib.hid (K86.out.kin Q97.out (by have := Z7.out; have := Z5.out; have := Z16.out; have := Z21.out; have := Z24.out; have := Z35.out; have := Z44.out; have := Z39.out; have := Z51.out; have := Z52.out; have := Z53.out; have := Z59.out; have := Z75.out; have := Z91.out; omega))
      clear K86
      have K102 := Lib.hid (K87.out.kin Q97.out (by have := Z7.out; have := Z5.out; have := Z16.out; have := Z21.out; have := Z24.out; have := Z35.out; have := Z44.out; have := Z39.out; have := Z51.out; have := Z52.out; have := Z53.out; have := Z59.out; have := Z75.out; have := Z91.out; omega))
      clear K87
      have Z103 := Lib.hid (Kin.size Q97.out)
      have K104 := Lib.hid (Kept.refl [] w4)
      have hk0 : decide ((1 : Int) + (dkLen d0 : Nat) < 0) = false := dec_not (by omega)
      obtain ⟨c105, c106, c107, c108⟩ := (F99.out.stay K104.out).four
      obtain ⟨c109, c110, c111, c112⟩ := (B20.out.stay K102.out).four
      go_wp2_with fail
      refine (eqDesk_dv d _ _ _ ⟨_, (F98.out.stay K104.out).dv⟩ ⟨_, (V19.out.stay K102.out).dv⟩).mono ?_
      rintro e w5 ⟨rfl, hk⟩
      clear c105 c106 c107 c108 c109 c110 c111 c112
      have K113 := Lib.hid (K100.out.trans hk (by simp))
      clear K100
      have K114 := Lib.hid (K101.out.trans hk (by simp))
      clear K101
      have K115 := Lib.hid (K102.out.trans hk (by simp))
      clear K102
      have K116 := Lib.hid (K104.out.trans hk (by simp))
      clear K104
      have Z117 := Lib.hid (Kept.size (rows := []) hk)
      clear hk
      obtain ⟨c118, c119, c120, c121⟩ := (F99.out.stay K116.out).four
      go_wp2_with fail
      refine (markDesk_any (1) (by omega) d (by have := HLG.out; omega) _ _ _ _ (F98.out.stay K116.out)).mono ?_
      rintro e w6 ⟨rfl, hp, hk⟩
      clear c118 c119 c120 c121
      have M122 := Lib.hid (hp)
      have Q123 := Lib.hid (hk)
      clear hp hk
      have F124 := Lib.hid ((F99.out.stay K116.out).kin Q123.out (by have := Z7.out; have := Z5.out; have := Z16.out; have := Z21.out; have := Z24.out; have := Z35.out; have := Z44.out; have := Z39.out; have := Z51.out; have := Z52.out; have := Z53.out; have := Z59.out; have := Z75.out; have := Z91.out; have := Z103.out; have := Z117.out; omega))
      have K125 := Lib.hid (K113.out.kin Q123.out (by have := Z7.out; have := Z5.out; have := Z16.out; have := Z21.out; have := Z24.out; have := Z35.out; have := Z44.out; have := Z39.out; have := Z51.out; have := Z52.out; have := Z53.out; have := Z59.out; have := Z75.out; have := Z91.out; have := Z103.out; have := Z117.out; omega))
      clear K113
      have K126 := Lib.hid (K114.out.kin Q123.out (by have := Z7.out; have := Z5.out; have := Z16.out; have := Z21.out; have := Z24.out; have := Z35.out; have := Z44.out; have := Z39.out; have := Z51.out; have := Z52.out; have := Z53.out; have := Z59.out; have := Z75.out; have := Z91.out; have := Z103.out; have := Z117.out; omega))
      clear K114
      have K127 := Lib.hid (K115.out.kin Q123.out (by have := Z7.out; have := Z5.out; have := Z16.out; have := Z21.out; have := Z24.out; have := Z35.out; have := Z44.out; have := Z39.out; have := Z51.out; have := Z52.out; have := Z53.out; have := Z59.out; have := Z75.out; have := Z91.out; have := Z103.out; have := Z117.out; omega))
      clear K115
      have Z128 := Lib.hid (Kin.size Q123.out)
      have K129 := Lib.hid (Kept.refl [] w6)
      have hm0 : decide ((1 : Int) + (dkLen d : Nat) < 0) = false := dec_not (by omega)
      have hmm : ((1 : Int) + (dkLen d : Nat) != (1 : Int) + (dkLen d : Nat)) = false := by simp
      obtain ⟨c130, c131, c132, c133⟩ := (F124.out.stay K129.out).four
      go_wp2_with fail
      refine (heldDesk_any 1 (by omega) d (by have := HLG.out; omega) _ _ _ _ (M122.out.stay K129.out)).mono ?_
      rintro e w7 ⟨rfl, hk⟩
      clear c130 c131 c132 c133
      have K134 := Lib.hid (K125.out.trans hk (by simp))
      clear K125
      have K135 := Lib.hid (K126.out.trans hk (by simp))
      clear K126
      have K136 := Lib.hid (K127.out.trans hk (by simp))
      clear K127
      have K137 := Lib.hid (K129.out.trans hk (by simp))
      clear K129
      have Z138 := Lib.hid (Kept.size (rows := []) hk)
      clear hk
      go_wp2_with fail
      have HSB : Hid (∀ w', Kept [] w7 w' → w'.cell? ⟨w.heap.size, 0, none⟩ = some (.slice a1 n1 q1) ∧ w'.cell? ⟨w.heap.size, 1, none⟩ = some (.int .i64 d0.now.c) ∧ w'.cell? ⟨w.heap.size, 2, none⟩ = some (.slice b1 m1 r1) ∧ w'.cell? ⟨w.heap.size, 3, none⟩ = some (.slice d1 l1 s1) ∧ w'.cell? ⟨w.heap.size + 1, 0, none⟩ = some (.int .i64 ak) ∧ w'.cell? ⟨w.heap.size + 1, 1, none⟩ = some (.int .i64 aa) ∧ w'.cell? ⟨w.heap.size + 1, 2, none⟩ = some (.int .i64 ab)) := Lib.hid (fun w' k' => ⟨((B3.out.stay K135.out).stay k').four.1, ((B3.out.stay K135.out).stay k').four.2.1, ((B3.out.stay K135.out).stay k').four.2.2.1, ((B3.out.stay K135.out).stay k').four.2.2.2, ((B4.out.stay K135.out).stay k').three.1, ((B4.out.stay K135.out).stay k').three.2.1, ((B4.out.stay K135.out).stay k').three.2.2⟩)
      have HTD : Hid (∀ W, Kept [] w7 W → Calls Try.prog 37 #[.agg #[.slice a1 n1 q1, .int .i64 d0.now.c, .slice b1 m1 r1, .slice d1 l1 s1]] W fun e w' => ∃ y, e = .returned y ∧ Hid (De w' y d0) ∧ Kept [] W w' ∧ Kept [] w7 w') := Lib.hid (fun W k => (toDesk_dm d0 HLE.out W _ ((HA.out.stay K134.out).stay k)).mono (by rintro e w' ⟨y, rfl, hp, hk⟩; exact ⟨y, rfl, Lib.hid hp.de, hk, k.trans hk (by simp)⟩))
      have HTB : Hid (∀ W, Kept [] w7 W → Calls Try.prog 42 #[.agg #[.int .i64 ak, .int .i64 aa, .int .i64 ab]] W fun e w' => e = .returned (.agg #[.int .i64 ak, .int .i64 aa, .int .i64 ab]) ∧ Kept [] W w' ∧ Kept [] w7 w') := Lib.hid (fun W k => (toDeed_any ak aa ab W).mono (by rintro e w' ⟨rfl, hk⟩; exact ⟨rfl, hk, k.trans hk (by simp)⟩))
      have HD1 : Hid (∀ W y, Kept [] w7 W → De W y d0 → Calls Try.prog 27 #[y, .agg #[.int .i64 ak, .int .i64 aa, .int .i64 ab]] W fun e w' => ∃ (za zb z3 : Option Addr) (zn zq zm zr zl zs : Nat), e = .returned (.tuple #[.agg #[.slice za zn zq, .int .i64 d.now.c, .slice zb zm zr, .slice z3 zl zs], .bool ok]) ∧ Hid (De w' (.agg #[.slice za zn zq, .int .i64 d.now.c, .slice zb zm zr, .slice z3 zl zs]) d) ∧ Kept [] W w' ∧ Kept [] w7 w') := Lib.hid (fun W y k h => (iDeskDo_any d0 ak aa ab W _ h).mono (by rintro e w' ⟨y, rfl, hv, hk⟩; rw [← HOK.out]; rw [← HD.out] at hv; obtain ⟨za, zn, zq, zb, zm, zr, z3, zl, zs, rfl⟩ := hv.dv.form; exact ⟨za, zb, z3, zn, zq, zm, zr, zl, zs, rfl, Lib.hid hv.dm.1.de, hk, k.trans hk (by simp)⟩))
      go_cut [14, 15] from 79 to 86 (fun u14 u15 wc => ∃ (bp : Nat) (za zb z3 : Option Addr) (zn zq zm zr zl zs : Nat), u14 = .pointer (some ⟨bp, 0, none⟩) ∧ u15 = .bool ok ∧ Bk wc bp 32 #[.slice za zn zq, .int .i64 d.now.c, .slice zb zm zr, .slice z3 zl zs] ∧ (De wc (.agg #[.slice za zn zq, .int .i64 d.now.c, .slice zb zm zr, .slice z3 zl zs]) d) ∧ w7.heap.size ≤ bp ∧ bp < wc.heap.size ∧ Kept [] w7 wc)
      case first =>
        have K1x : Hid (Kept [] w7 w7.drew) := Lib.hid ((Kept.refl [] w7).drew)
        refine wp_region_held_drew (S := (fun w' => w'.cell? ⟨w.heap.size, 0, none⟩ = some (.slice a1 n1 q1) ∧ w'.cell? ⟨w.heap.size, 1, none⟩ = some (.int .i64 d0.now.c) ∧ w'.cell? ⟨w.heap.size, 2, none⟩ = some (.slice b1 m1 r1) ∧ w'.cell? ⟨w.heap.size, 3, none⟩ = some (.slice d1 l1 s1) ∧ w'.cell? ⟨w.heap.size + 1, 0, none⟩ = some (.int .i64 ak) ∧ w'.cell? ⟨w.heap.size + 1, 1, none⟩ = some (.int .i64 aa) ∧ w'.cell? ⟨w.heap.size + 1, 2, none⟩ = some (.int .i64 ab))) (by kernel_rfl) (HSB.out _ K1x.out) (fun hHeld => ?_)
        generalize w7.drew = X1 at *
        refine wpAnyH_take (i := 0) (v := ?_) (opAt_lstE rfl) (by kernel_rfl) (by kernel_rfl) (by kernel_rfl) (fun _ _ _ h => h) (Or.inl ⟨by rfl, ?_⟩) (by assumption) ?_
        rotate_left
        · intro w9 hSw
          (try dsimp only at hSw)
          go_simp
          try with_reducible rfl
        try simp only [Act.put, List.setIfInBounds_toArray, List.set_cons_zero, List.set_cons_succ]
        refine wpAnyH_take (i := 2) (v := ?_) (opAt_lstE rfl) (by kernel_rfl) (by kernel_rfl) (by kernel_rfl) (fun _ _ _ h => h) (Or.inl ⟨by rfl, ?_⟩) (by assumption) ?_
        rotate_left
        · intro w9 hSw
          (try dsimp only at hSw)
          go_simp
          try with_reducible rfl
        try simp only [Act.put, List.setIfInBounds_toArray, List.set_cons_zero, List.set_cons_succ]
        refine wpAnyH_ready (rs := [1, 8]) (by kernel_rfl) (by simp) ?_
        refine (AllReadyH.cons (opAt_lstE rfl) (fun K hK => ?_) (AllReadyH.cons (opAt_lstE rfl) (fun K hK => ?_) AllReadyH.nil))
        · go_simp
          go_at_call 37
          refine (HTD.out _ K1x.out).mono ?_
          rintro e X2 ⟨y, rfl, HY, hk, hk0⟩
          refine hK.out _ _ (HSB.out _ hk0) (fun hHeld => ?_)
          clear hK K
          try simp only [Act.put, List.setIfInBounds_toArray, List.set_cons_zero, List.set_cons_succ]
          have K2x := Lib.hid hk0
          clear hk hk0
          refine wpAnyH_ready (rs := [3, 8]) (by kernel_rfl) (by simp) ?_
          refine (AllReadyH.cons (opAt_lstE rfl) (fun K hK => ?_) (AllReadyH.cons (opAt_lstE rfl) (fun K hK => ?_) AllReadyH.nil))
          · go_simp
            go_at_call 42
            refine (HTB.out _ K2x.out).mono ?_
            rintro e X3 ⟨rfl, hk, hk0⟩
            refine hK.out _ _ (HSB.out _ hk0) (fun hHeld => ?_)
            clear hK K
            try simp only [Act.put, List.setIfInBounds_toArray, List.set_cons_zero, List.set_cons_succ]
            have K3x := Lib.hid hk0
            have HY := Lib.hid (HY.out.stay hk)
            clear hk hk0
            refine wpAnyH_ready (rs := [4, 8]) (by kernel_rfl) (by simp) ?_
            refine (AllReadyH.cons (opAt_lstE rfl) (fun K hK => ?_) (AllReadyH.cons (opAt_lstE rfl) (fun K hK => ?_) AllReadyH.nil))
            · go_simp
              go_at_call 27
              refine (HD1.out _ _ K3x.out HY.out).mono ?_
              rintro e X4 ⟨za, zb, z3, zn, zq, zm, zr, zl, zs, rfl, HZ, hk, hk0⟩
              refine hK.out _ _ (HSB.out _ hk0) (fun hHeld => ?_)
              clear hK K
              try simp only [Act.put, List.setIfInBounds_toArray, List.set_cons_zero, List.set_cons_succ]
              have K4x := Lib.hid hk0
              have HY := Lib.hid (HY.out.stay hk)
              clear hk hk0
              refine wpAnyH_take (i := 5) (v := ?_) (opAt_lstE rfl) (by kernel_rfl) (by kernel_rfl) (by kernel_rfl) (fun _ _ _ h => h) (Or.inl ⟨by rfl, ?_⟩) (by assumption) ?_
              rotate_left
              · intro w9 hSw
                (try dsimp only at hSw)
                go_simp
                try with_reducible rfl
              try simp only [Act.put, List.setIfInBounds_toArray, List.set_cons_zero, List.set_cons_succ]
              refine wpAnyH_take (i := 6) (v := ?_) (opAt_lstE rfl) (by kernel_rfl) (by kernel_rfl) (by kernel_rfl) (fun _ _ _ h => h) (Or.inl ⟨by rfl, ?_⟩) (by assumption) ?_
              rotate_left
              · intro w9 hSw
                (try dsimp only at hSw)
                go_simp
                try with_reducible rfl
              try simp only [Act.put, List.setIfInBounds_toArray, List.set_cons_zero, List.set_cons_succ]
              refine wpAnyH_take (i := 7) (v := ?_) (opAt_lstE rfl) (by kernel_rfl) (by kernel_rfl) (by kernel_rfl) (fun _ _ _ h => h) (Or.inl ⟨by rfl, ?_⟩) (by assumption) ?_
              rotate_left
              · intro w9 hSw
                (try dsimp only at hSw)
                go_simp
                try with_reducible rfl
              try simp only [Act.put, List.setIfInBounds_toArray, List.set_cons_zero, List.set_cons_succ]
              refine wpAnyH_ready (rs := [8]) (by kernel_rfl) (by simp) ?_
              refine (AllReadyH.cons (opAt_lstE rfl) (fun K hK => ?_) AllReadyH.nil)
              go_simp
              have hka : Kept [] X4 (X4.alloc (.cells #[.slice none 0 0, .int .i64 0, .slice none 0 0, .slice none 0 0] 32)) := (Kept.refl _ _).alloc _
              have HL := Lib.hid (Bk.new X4 32 #[.slice none 0 0, .int .i64 0, .slice none 0 0, .slice none 0 0])
              refine hK.out _ _ (HSB.out _ (K4x.out.trans hka (by simp))) (fun hHeld => ?_)
              clear hK K
              try simp only [Act.put, List.setIfInBounds_toArray, List.set_cons_zero, List.set_cons_succ]
              obtain ⟨gL, hgL⟩ : ∃ g, g = X4.heap.size := ⟨_, rfl⟩
              have hLW : w7.heap.size ≤ gL := by rw [hgL]; exact K4x.out.size
              have K5x := Lib.hid (K4x.out.trans hka (by simp))
              have hHS := Kept.size (rows := []) hka
              have HZ := Lib.hid (HZ.out.stay hka)
              generalize X4.alloc (.cells #[.slice none 0 0, .int .i64 0, .slice none 0 0, .slice none 0 0] 32) = X5 at *
              rw [← hgL] at HL ⊢
              clear hgL hka
              refine wpAnyH_ready (rs := [9]) (by kernel_rfl) (by simp) ?_
              refine (AllReadyH.cons (opAt_lstE rfl) (fun K hK => ?_) AllReadyH.nil)
              obtain ⟨l0, l1, l2, l3⟩ := HL.out.four
              have f0 := HL.out.frozen 0
              have f1 := HL.out.frozen 1
              have f2 := HL.out.frozen 2
              have f3 := HL.out.frozen 3
              have hll := HL.out.lt
              go_simp
              refine hK.out _ _ (HSB.out _ (K5x.out.set4 hLW (.slice za zn zq) (.int .i64 d.now.c) (.slice zb zm zr) (.slice z3 zl zs))) (fun hHeld => ?_)
              clear hK K
              try simp only [Act.put, List.setIfInBounds_toArray, List.set_cons_zero, List.set_cons_succ]
              refine wpAnyH_take (i := 10) (v := ?_) (opAt_lstE rfl) (by kernel_rfl) (by kernel_rfl) (by kernel_rfl) (fun _ _ _ h => h) (Or.inl ⟨by rfl, ?_⟩) (by assumption) ?_
              rotate_left
              · intro w9 hSw
                (try dsimp only at hSw)
                go_simp
                try with_reducible rfl
              try simp only [Act.put, List.setIfInBounds_toArray, List.set_cons_zero, List.set_cons_succ]
              refine wpAnyH_done (by kernel_rfl) ?_ _
              go_wp2_with fail
              go_meet
              have hk4 := Kept.rows4 X5 gL (.slice za zn zq) (.int .i64 d.now.c) (.slice zb zm zr) (.slice z3 zl zs)
              exact ⟨gL, za, zb, z3, zn, zq, zm, zr, zl, zs, rfl, rfl, HL.out.set4 _ _ _ _, HZ.out.alien hk4 (Alien.one HL.out), hLW, Nat.lt_of_lt_of_le hll (Kept.size hk4), (K5x.out.set4 hLW (.slice za zn zq) (.int .i64 d.now.c) (.slice zb zm zr) (.slice z3 zl zs))⟩
            · go_simp
              have hka : Kept [] X3 (X3.alloc (.cells #[.slice none 0 0, .int .i64 0, .slice none 0 0, .slice none 0 0] 32)) := (Kept.refl _ _).alloc _
              have HL := Lib.hid (Bk.new X3 32 #[.slice none 0 0, .int .i64 0, .slice none 0 0, .slice none 0 0])
              refine hK.out _ _ (HSB.out _ (K3x.out.trans hka (by simp))) (fun hHeld => ?_)
              clear hK K
              try simp only [Act.put, List.setIfInBounds_toArray, List.set_cons_zero, List.set_cons_succ]
              obtain ⟨gL, hgL⟩ : ∃ g, g = X3.heap.size := ⟨_, rfl⟩
              have hLW : w7.heap.size ≤ gL := by rw [hgL]; exact K3x.out.size
              have K4x := Lib.hid (K3x.out.trans hka (by simp))
              have hHS := Kept.size (rows := []) hka
              have HY := Lib.hid (HY.out.stay hka)
              generalize X3.alloc (.cells #[.slice none 0 0, .int .i64 0, .slice none 0 0, .slice none 0 0] 32) = X4 at *
              rw [← hgL] at HL ⊢
              clear hgL hka
              refine wpAnyH_ready (rs := [4]) (by kernel_rfl) (by simp) ?_
              refine (AllReadyH.cons (opAt_lstE rfl) (fun K hK => ?_) AllReadyH.nil)
              go_simp
              go_at_call 27
              refine (HD1.out _ _ K4x.out HY.out).mono ?_
              rintro e X5 ⟨za, zb, z3, zn, zq, zm, zr, zl, zs, rfl, HZ, hk, hk0⟩
              refine hK.out _ _ (HSB.out _ hk0) (fun hHeld => ?_)
              clear hK K
              try simp only [Act.put, List.setIfInBounds_toArray, List.set_cons_zero, List.set_cons_succ]
              have K5x := Lib.hid hk0
              have HY := Lib.hid (HY.out.stay hk)
              have HL := Lib.hid (HL.out.stay hk)
              clear hk hk0
              refine wpAnyH_take (i := 5) (v := ?_) (opAt_lstE rfl) (by kernel_rfl) (by kernel_rfl) (by kernel_rfl) (fun _ _ _ h => h) (Or.inl ⟨by rfl, ?_⟩) (by assumption) ?_
              rotate_left
              · intro w9 hSw
                (try dsimp only at hSw)
                go_simp
                try with_reducible rfl
              try simp only [Act.put, List.setIfInBounds_toArray, List.set_cons_zero, List.set_cons_succ]
              refine wpAnyH_take (i := 6) (v := ?_) (opAt_lstE rfl) (by kernel_rfl) (by kernel_rfl) (by kernel_rfl) (fun _ _ _ h => h) (Or.inl ⟨by rfl, ?_⟩) (by assumption) ?_
              rotate_left
              · intro w9 hSw
                (try dsimp only at hSw)
                go_simp
                try with_reducible rfl
              try simp only [Act.put, List.setIfInBounds_toArray, List.set_cons_zero, List.set_cons_succ]
              refine wpAnyH_take (i := 7) (v := ?_) (opAt_lstE rfl) (by kernel_rfl) (by kernel_rfl) (by kernel_rfl) (fun _ _ _ h => h) (Or.inl ⟨by rfl, ?_⟩) (by assumption) ?_
              rotate_left
              · intro w9 hSw
                (try dsimp only at hSw)
                go_simp
                try with_reducible rfl
              try simp only [Act.put, List.setIfInBounds_toArray, List.set_cons_zero, List.set_cons_succ]
              refine wpAnyH_ready (rs := [9]) (by kernel_rfl) (by simp) ?_
              refine (AllReadyH.cons (opAt_lstE rfl) (fun K hK => ?_) AllReadyH.nil)
              obtain ⟨l0, l1, l2, l3⟩ := HL.out.four
              have f0 := HL.out.frozen 0
              have f1 := HL.out.frozen 1
              have f2 := HL.out.frozen 2
              have f3 := HL.out.frozen 3
              have hll := HL.out.lt
              go_simp
              refine hK.out _ _ (HSB.out _ (K5x.out.set4 hLW (.slice za zn zq) (.int .i64 d.now.c) (.slice zb zm zr) (.slice z3 zl zs))) (fun hHeld => ?_)
              clear hK K
              try simp only [Act.put, List.setIfInBounds_toArray, List.set_cons_zero, List.set_cons_succ]
              refine wpAnyH_take (i := 10) (v := ?_) (opAt_lstE rfl) (by kernel_rfl) (by kernel_rfl) (by kernel_rfl) (fun _ _ _ h => h) (Or.inl ⟨by rfl, ?_⟩) (by assumption) ?_
              rotate_left
              · intro w9 hSw
                (try dsimp only at hSw)
                go_simp
                try with_reducible rfl
              try simp only [Act.put, List.setIfInBounds_toArray, List.set_cons_zero, List.set_cons_succ]
              refine wpAnyH_done (by kernel_rfl) ?_ _
              go_wp2_with fail
              go_meet
              have hk4 := Kept.rows4 X5 gL (.slice za zn zq) (.int .i64 d.now.c) (.slice zb zm zr) (.slice z3 zl zs)
              exact ⟨gL, za, zb, z3, zn, zq, zm, zr, zl, zs, rfl, rfl, HL.out.set4 _ _ _ _, HZ.out.alien hk4 (Alien.one HL.out), hLW, Nat.lt_of_lt_of_le hll (Kept.size hk4), (K5x.out.set4 hLW (.slice za zn zq) (.int .i64 d.now.c) (.slice zb zm zr) (.slice z3 zl zs))⟩
          · go_simp
            have hka : Kept [] X2 (X2.alloc (.cells #[.slice none 0 0, .int .i64 0, .slice none 0 0, .slice none 0 0] 32)) := (Kept.refl _ _).alloc _
            have HL := Lib.hid (Bk.new X2 32 #[.slice none 0 0, .int .i64 0, .slice none 0 0, .slice none 0 0])
            refine hK.out _ _ (HSB.out _ (K2x.out.trans hka (by simp))) (fun hHeld => ?_)
            clear hK K
            try simp only [Act.put, List.setIfInBounds_toArray, List.set_cons_zero, List.set_cons_succ]
            obtain ⟨gL, hgL⟩ : ∃ g, g = X2.heap.size := ⟨_, rfl⟩
            have hLW : w7.heap.size ≤ gL := by rw [hgL]; exact K2x.out.size
            have K3x := Lib.hid (K2x.out.trans hka (by simp))
            have hHS := Kept.size (rows := []) hka
            have HY := Lib.hid (HY.out.stay hka)
            generalize X2.alloc (.cells #[.slice none 0 0, .int .i64 0, .slice none 0 0, .slice none 0 0] 32) = X3 at *
            rw [← hgL] at HL ⊢
            clear hgL hka
            refine wpAnyH_ready (rs := [3]) (by kernel_rfl) (by simp) ?_
            refine (AllReadyH.cons (opAt_lstE rfl) (fun K hK => ?_) AllReadyH.nil)
            go_simp
            go_at_call 42
            refine (HTB.out _ K3x.out).mono ?_
            rintro e X4 ⟨rfl, hk, hk0⟩
            refine hK.out _ _ (HSB.out _ hk0) (fun hHeld => ?_)
            clear hK K
            try simp only [Act.put, List.setIfInBounds_toArray, List.set_cons_zero, List.set_cons_succ]
            have K4x := Lib.hid hk0
            have HY := Lib.hid (HY.out.stay hk)
            have HL := Lib.hid (HL.out.stay hk)
            clear hk hk0
            refine wpAnyH_ready (rs := [4]) (by kernel_rfl) (by simp) ?_
            refine (AllReadyH.cons (opAt_lstE rfl) (fun K hK => ?_) AllReadyH.nil)
            go_simp
            go_at_call 27
            refine (HD1.out _ _ K4x.out HY.out).mono ?_
            rintro e X5 ⟨za, zb, z3, zn, zq, zm, zr, zl, zs, rfl, HZ, hk, hk0⟩
            refine hK.out _ _ (HSB.out _ hk0) (fun hHeld => ?_)
            clear hK K
            try simp only [Act.put, List.setIfInBounds_toArray, List.set_cons_zero, List.set_cons_succ]
            have K5x := Lib.hid hk0
            have HY := Lib.hid (HY.out.stay hk)
            have HL := Lib.hid (HL.out.stay hk)
            clear hk hk0
            refine wpAnyH_take (i := 5) (v := ?_) (opAt_lstE rfl) (by kernel_rfl) (by kernel_rfl) (by kernel_rfl) (fun _ _ _ h => h) (Or.inl ⟨by rfl, ?_⟩) (by assumption) ?_
            rotate_left
            · intro w9 hSw
              (try dsimp only at hSw)
              go_simp
              try with_reducible rfl
            try simp only [Act.put, List.setIfInBounds_toArray, List.set_cons_zero, List.set_cons_succ]
            refine wpAnyH_take (i := 6) (v := ?_) (opAt_lstE rfl) (by kernel_rfl) (by kernel_rfl) (by kernel_rfl) (fun _ _ _ h => h) (Or.inl ⟨by rfl, ?_⟩) (by assumption) ?_
            rotate_left
            · intro w9 hSw
              (try dsimp only at hSw)
              go_simp
              try with_reducible rfl
            try simp only [Act.put, List.setIfInBounds_toArray, List.set_cons_zero, List.set_cons_succ]
            refine wpAnyH_take (i := 7) (v := ?_) (opAt_lstE rfl) (by kernel_rfl) (by kernel_rfl) (by kernel_rfl) (fun _ _ _ h => h) (Or.inl ⟨by rfl, ?_⟩) (by assumption) ?_
            rotate_left
            · intro w9 hSw
              (try dsimp only at hSw)
              go_simp
              try with_reducible rfl
            try simp only [Act.put, List.setIfInBounds_toArray, List.set_cons_zero, List.set_cons_succ]
            refine wpAnyH_ready (rs := [9]) (by kernel_rfl) (by simp) ?_
            refine (AllReadyH.cons (opAt_lstE rfl) (fun K hK => ?_) AllReadyH.nil)
            obtain ⟨l0, l1, l2, l3⟩ := HL.out.four
            have f0 := HL.out.frozen 0
            have f1 := HL.out.frozen 1
            have f2 := HL.out.frozen 2
            have f3 := HL.out.frozen 3
            have hll := HL.out.lt
            go_simp
            refine hK.out _ _ (HSB.out _ (K5x.out.set4 hLW (.slice za zn zq) (.int .i64 d.now.c) (.slice zb zm zr) (.slice z3 zl zs))) (fun hHeld => ?_)
            clear hK K
            try simp only [Act.put, List.setIfInBounds_toArray, List.set_cons_zero, List.set_cons_succ]
            refine wpAnyH_take (i := 10) (v := ?_) (opAt_lstE rfl) (by kernel_rfl) (by kernel_rfl) (by kernel_rfl) (fun _ _ _ h => h) (Or.inl ⟨by rfl, ?_⟩) (by assumption) ?_
            rotate_left
            · intro w9 hSw
              (try dsimp only at hSw)
              go_simp
              try with_reducible rfl
            try simp only [Act.put, List.setIfInBounds_toArray, List.set_cons_zero, List.set_cons_succ]
            refine wpAnyH_done (by kernel_rfl) ?_ _
            go_wp2_with fail
            go_meet
            have hk4 := Kept.rows4 X5 gL (.slice za zn zq) (.int .i64 d.now.c) (.slice zb zm zr) (.slice z3 zl zs)
            exact ⟨gL, za, zb, z3, zn, zq, zm, zr, zl, zs, rfl, rfl, HL.out.set4 _ _ _ _, HZ.out.alien hk4 (Alien.one HL.out), hLW, Nat.lt_of_lt_of_le hll (Kept.size hk4), (K5x.out.set4 hLW (.slice za zn zq) (.int .i64 d.now.c) (.slice zb zm zr) (.slice z3 zl zs))⟩
        · go_simp
          have hka : Kept [] X1 (X1.alloc (.cells #[.slice none 0 0, .int .i64 0, .slice none 0 0, .slice none 0 0] 32)) := (Kept.refl _ _).alloc _
          have HL := Lib.hid (Bk.new X1 32 #[.slice none 0 0, .int .i64 0, .slice none 0 0, .slice none 0 0])
          refine hK.out _ _ (HSB.out _ (K1x.out.trans hka (by simp))) (fun hHeld => ?_)
          clear hK K
          try simp only [Act.put, List.setIfInBounds_toArray, List.set_cons_zero, List.set_cons_succ]
          obtain ⟨gL, hgL⟩ : ∃ g, g = X1.heap.size := ⟨_, rfl⟩
          have hLW : w7.heap.size ≤ gL := by rw [hgL]; exact K1x.out.size
          have K2x := Lib.hid (K1x.out.trans hka (by simp))
          have hHS := Kept.size (rows := []) hka
          generalize X1.alloc (.cells #[.slice none 0 0, .int .i64 0, .slice none 0 0, .slice none 0 0] 32) = X2 at *
          rw [← hgL] at HL ⊢
          clear hgL hka
          refine wpAnyH_ready (rs := [1]) (by kernel_rfl) (by simp) ?_
          refine (AllReadyH.cons (opAt_lstE rfl) (fun K hK => ?_) AllReadyH.nil)
          go_simp
          go_at_call 37
          refine (HTD.out _ K2x.out).mono ?_
          rintro e X3 ⟨y, rfl, HY, hk, hk0⟩
          refine hK.out _ _ (HSB.out _ hk0) (fun hHeld => ?_)
          clear hK K
          try simp only [Act.put, List.setIfInBounds_toArray, List.set_cons_zero, List.set_cons_succ]
          have K3x := Lib.hid hk0
          have HL := Lib.hid (HL.out.stay hk)
          clear hk hk0
          refine wpAnyH_ready (rs := [3]) (by kernel_rfl) (by simp) ?_
          refine (AllReadyH.cons (opAt_lstE rfl) (fun K hK => ?_) AllReadyH.nil)
          go_simp
          go_at_call 42
          refine (HTB.out _ K3x.out).mono ?_
          rintro e X4 ⟨rfl, hk, hk0⟩
          refine hK.out _ _ (HSB.out _ hk0) (fun hHeld => ?_)
          clear hK K
          try simp only [Act.put, List.setIfInBounds_toArray, List.set_cons_zero, List.set_cons_succ]
          have K4x := Lib.hid hk0
          have HY := Lib.hid (HY.out.stay hk)
          have HL := Lib.hid (HL.out.stay hk)
          clear hk hk0
          refine wpAnyH_ready (rs := [4]) (by kernel_rfl) (by simp) ?_
          refine (AllReadyH.cons (opAt_lstE rfl) (fun K hK => ?_) AllReadyH.nil)
          go_simp
          go_at_call 27
          refine (HD1.out _ _ K4x.out HY.out).mono ?_
          rintro e X5 ⟨za, zb, z3, zn, zq, zm, zr, zl, zs, rfl, HZ, hk, hk0⟩
          refine hK.out _ _ (HSB.out _ hk0) (fun hHeld => ?_)
          clear hK K
          try simp only [Act.put, List.setIfInBounds_toArray, List.set_cons_zero, List.set_cons_succ]
          have K5x := Lib.hid hk0
          have HY := Lib.hid (HY.out.stay hk)
          have HL := Lib.hid (HL.out.stay hk)
          clear hk hk0
          refine wpAnyH_take (i := 5) (v := ?_) (opAt_lstE rfl) (by kernel_rfl) (by kernel_rfl) (by kernel_rfl) (fun _ _ _ h => h) (Or.inl ⟨by rfl, ?_⟩) (by assumption) ?_
          rotate_left
          · intro w9 hSw
            (try dsimp only at hSw)
            go_simp
            try with_reducible rfl
          try simp only [Act.put, List.setIfInBounds_toArray, List.set_cons_zero, List.set_cons_succ]
          refine wpAnyH_take (i := 6) (v := ?_) (opAt_lstE rfl) (by kernel_rfl) (by kernel_rfl) (by kernel_rfl) (fun _ _ _ h => h) (Or.inl ⟨by rfl, ?_⟩) (by assumption) ?_
          rotate_left
          · intro w9 hSw
            (try dsimp only at hSw)
            go_simp
            try with_reducible rfl
          try simp only [Act.put, List.setIfInBounds_toArray, List.set_cons_zero, List.set_cons_succ]
          refine wpAnyH_take (i := 7) (v := ?_) (opAt_lstE rfl) (by kernel_rfl) (by kernel_rfl) (by kernel_rfl) (fun _ _ _ h => h) (Or.inl ⟨by rfl, ?_⟩) (by assumption) ?_
          rotate_left
          · intro w9 hSw
            (try dsimp only at hSw)
            go_simp
            try with_reducible rfl
          try simp only [Act.put, List.setIfInBounds_toArray, List.set_cons_zero, List.set_cons_succ]
          refine wpAnyH_ready (rs := [9]) (by kernel_rfl) (by simp) ?_
          refine (AllReadyH.cons (opAt_lstE rfl) (fun K hK => ?_) AllReadyH.nil)
          obtain ⟨l0, l1, l2, l3⟩ := HL.out.four
          have f0 := HL.out.frozen 0
          have f1 := HL.out.frozen 1
          have f2 := HL.out.frozen 2
          have f3 := HL.out.frozen 3
          have hll := HL.out.lt
          go_simp
          refine hK.out _ _ (HSB.out _ (K5x.out.set4 hLW (.slice za zn zq) (.int .i64 d.now.c) (.slice zb zm zr) (.slice z3 zl zs))) (fun hHeld => ?_)
          clear hK K
          try simp only [Act.put, List.setIfInBounds_toArray, List.set_cons_zero, List.set_cons_succ]
          refine wpAnyH_take (i := 10) (v := ?_) (opAt_lstE rfl) (by kernel_rfl) (by kernel_rfl) (by kernel_rfl) (fun _ _ _ h => h) (Or.inl ⟨by rfl, ?_⟩) (by assumption) ?_
          rotate_left
          · intro w9 hSw
            (try dsimp only at hSw)
            go_simp
            try with_reducible rfl
          try simp only [Act.put, List.setIfInBounds_toArray, List.set_cons_zero, List.set_cons_succ]
          refine wpAnyH_done (by kernel_rfl) ?_ _
          go_wp2_with fail
          go_meet
          have hk4 := Kept.rows4 X5 gL (.slice za zn zq) (.int .i64 d.now.c) (.slice zb zm zr) (.slice z3 zl zs)
          exact ⟨gL, za, zb, z3, zn, zq, zm, zr, zl, zs, rfl, rfl, HL.out.set4 _ _ _ _, HZ.out.alien hk4 (Alien.one HL.out), hLW, Nat.lt_of_lt_of_le hll (Kept.size hk4), (K5x.out.set4 hLW (.slice za zn zq) (.int .i64 d.now.c) (.slice zb zm zr) (.slice z3 zl zs))⟩
      case rest =>
        obtain ⟨bp140, za140, zb140, z3140, zn140, zq140, zm140, zr140, zl140, zs140, rfl, rfl, hbk, hde, hb1, hb2, hk⟩ := hcut
        clear HSB HTB HD1 HTD
        have V141 := Lib.hid (hde)
        have B142 := Lib.hid (hbk)
        clear hde hbk
        have Z143 := Lib.hid (And.intro hb1 hb2)
        clear hb1 hb2
        generalize wc = wc139 at *
        have K144 := Lib.hid (K134.out.trans hk (by simp))
        clear K134
        have K145 := Lib.hid (K135.out.trans hk (by simp))
        clear K135
        have K146 := Lib.hid (K136.out.trans hk (by simp))
        clear K136
        have K147 := Lib.hid (K137.out.trans hk (by simp))
        clear K137
        have Z148 := Lib.hid (Kept.size (rows := []) hk)
        clear hk
        have K149 := Lib.hid (Kept.refl [] wc139)
        obtain ⟨c150, c151, c152, c153⟩ := (B142.out.stay K149.out).four
        obtain ⟨c154, c155, c156, c157⟩ := (B20.out.stay K146.out).four
        go_wp2_with fail
        refine (eqDesk_dv d _ _ _ ⟨_, (V141.out.stay K149.out).dv⟩ ⟨_, (V19.out.stay K146.out).dv⟩).mono ?_
        rintro e w8 ⟨rfl, hk⟩
        clear c150 c151 c152 c153 c154 c155 c156 c157
        have K158 := Lib.hid (K144.out.trans hk (by simp))
        clear K144
        have K159 := Lib.hid (K145.out.trans hk (by simp))
        clear K145
        have K160 := Lib.hid (K146.out.trans hk (by simp))
        clear K146
        have K161 := Lib.hid (K147.out.trans hk (by simp))
        clear K147
        have K162 := Lib.hid (K149.out.trans hk (by simp))
        clear K149
        have Z163 := Lib.hid (Kept.size (rows := []) hk)
        clear hk
        obtain ⟨c164, c165, c166, c167⟩ := (F124.out.stay K161.out).four
        go_wp2_with fail
        refine (heldDesk_any 1 (by omega) d (by have := HLG.out; omega) _ _ _ _ (M122.out.stay K161.out)).mono ?_
        rintro e w9 ⟨rfl, hk⟩
        clear c164 c165 c166 c167
        have K168 := Lib.hid (K158.out.trans hk (by simp))
        clear K158
        have K169 := Lib.hid (K159.out.trans hk (by simp))
        clear K159
        have K170 := Lib.hid (K160.out.trans hk (by simp))
        clear K160
        have K171 := Lib.hid (K161.out.trans hk (by simp))
        clear K161
        have K172 := Lib.hid (K162.out.trans hk (by simp))
        clear K162
        have Z173 := Lib.hid (Kept.size (rows := []) hk)
        clear hk
        go_wp2
        go_ret
        exact ⟨rfl, K168.out⟩
end Go.Proofs.Ytofgfhfdmkcmcaa
