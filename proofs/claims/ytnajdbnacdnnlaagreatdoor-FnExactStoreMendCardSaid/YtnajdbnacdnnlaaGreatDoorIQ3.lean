/-
  Texts of places, and places read of texts, by the program.
-/
import Derived.Test.YtnajdbnacdnnlaaGreatDoorIQ2
import Derived.Test.YtnajdbnacdnnlaaGreatDoorIP1
import Derived.Test.YtnajdbnacdnnlaaGreatDoorPV3
import Derived.Test.YtnajdbnacdnnlaaGreatDoorPD1
namespace Go.Proofs.YtnajdbnacdnnlaaGreatDoor
open Go.RowKit

theorem opAt_lq {l : List Oper} {i : Nat} {o : Oper} (h : l[i]? = some o) : l.toArray[i]? = some o := by simpa using h
theorem Ts.lit (w : World) (xs : List ByteArray) (hl : xs.length ≤ 1000) : Ts (w.alloc (.cells (tcells xs).toArray 9)) w.heap.size (.slice (some ⟨w.heap.size, 0, none⟩) xs.length xs.length) xs := by
  have := World.ownsRow_lit (base := w.heap.size) (e := 9) (size := 1) w (tcells xs).toArray xs.length (Nat.le_refl _) (by simp only [maxLen]; omega) (by simp [tcells])
  unfold Ts
  exact this

theorem wireT_small {ns : List Nat} (h1 : 1 ≤ ns.length) (h6 : ns.length ≤ 6) : (Nt.wireT ns).length ≤ 300 := by
  have h := Nt.wjoin_small ns h6 (k := ns.length - 1) (j := ns.length) (by omega) (by omega)
  have e := Nt.wsTo_end ns (ns.length - 1)
  rw [show ns.length - 1 + 1 = ns.length by omega] at e
  rw [e] at h
  rw [Nt.wireT_of]
  split
  · simp
  · omega
theorem placeT_small {q : Nt.Pl} (hq : Nt.POk q) : q.t.length ≤ 500 := by
  have h1 := wireT_small hq.ok.some hq.ok.few
  have h2 := digs99 (n := q.ns.length) (by have := hq.ok.few; omega)
  have h3 := digs99 (n := q.c) (by have := hq.st.c5; omega)
  have h4 : (Nt.kindT q.ks).length ≤ 6 := by unfold Nt.kindT; rw [List.length_map]; exact hq.st.few
  unfold Nt.Pl.t
  rw [Nt.placeT_is]
  simp only [List.length_append, List.length_cons, List.length_nil]
  omega
theorem ptxt_small (p : Nt.Pi) : (Nt.ptxt p).length ≤ 500 := by
  cases h : Nt.plB p
  · rw [Nt.ptxt_no h]; simp
  · obtain ⟨q, rfl, hq⟩ := Nt.plB_ok h
    rw [Nt.ptxt_ok hq]; exact placeT_small hq

set_option maxHeartbeats 4000000 in
set_option maxRecDepth 100000 in
theorem iPlaceText_any (p : Nt.Pi) (w : World) (x : Value) (base : Nat) (h : Pv w base x p) :
    Calls Tryz.prog 85 #[x] w fun e w' => ∃ z, e = .returned (.string z) ∧ tx z = Nt.ptxt p ∧ Kept [] w w' := by
  have HPV := Lib.hid h
  obtain ⟨v, u, rfl, h1, h2⟩ := h
  have hk0 : Kept [] w (w.alloc (.cells #[v, .int .i64 p.c, u] 30)) := (Kept.refl [] w).alloc _
  have hb0 := Bk.new w 30 #[v, .int .i64 p.c, u]
  have H1 := Lib.hid (h1.stay hk0)
  have H2 := Lib.hid (h2.stay hk0)
  have HPW := Lib.hid (HPV.out.stay hk0)
  obtain ⟨a, cap, rfl, _, _, _⟩ := h1.any
  obtain ⟨b, cap2, rfl, _, _, _⟩ := h2.any
  have HB := Lib.hid hb0
  have HK0 := Lib.hid hk0
  obtain ⟨c0, c1, c2⟩ := hb0.three
  clear h1 h2 hb0 hk0 HPV
  go_enter Tryz.func85, Tryz.ntmps85
  go_wp2_with fail
  generalize (w.alloc (.cells #[.slice a p.ns.length cap, .int .i64 p.c, .slice b p.ks.length cap2] 30)) = W0 at *
  refine (iPlaceOk_any p _ _ _ HPW.out).mono ?_
  rintro e w1 ⟨rfl, hk1⟩
  have HB1 := Lib.hid (HB.out.stay hk1)
  have HK1 := Lib.hid (HK0.out.trans hk1 (by simp))
  have H11 := Lib.hid (H1.out.stay hk1)
  have H12 := Lib.hid (H2.out.stay hk1)
  clear hk1 c0 c1 c2 HB HK0 H1 H2 HPW
  cases ho : Nt.plB p
  · have HF := Lib.hid (Nt.ptxt_no ho)
    go_wp2
    go_ret
    exact ⟨_, rfl, by rw [HF.out]; rfl, HK1.out⟩
  · obtain ⟨q, rfl, hq⟩ := Nt.plB_ok ho
    have HF := Lib.hid (Nt.ptxt_ok hq)
    obtain ⟨ns, c, ks⟩ := q
    have hnn : (Nt.Pl.i ⟨ns, c, ks⟩).ns = Nt.nats ns := rfl
    have hkk : (Nt.Pl.i ⟨ns, c, ks⟩).ks = Nt.nats ks := rfl
    have hcc : (Nt.Pl.i ⟨ns, c, ks⟩).c = (c : Int) := rfl
    rw [hnn] at H11
    rw [hkk] at H12
    rw [hnn, hkk, hcc] at HB1
    obtain ⟨n, hn⟩ : ∃ n, n = ns.length := ⟨_, rfl⟩
    have hkl : ks.length = n := by rw [hn]; exact hq.len
    have h6 : n ≤ 6 := by rw [hn]; exact hq.ok.few
    have h5 : c ≤ 5 := hq.st.c5
    have hst : Nt.St c ks := hq.st
    have hn1 : 1 ≤ ns.length := hq.ok.some
    rw [Nt.nats_length, ← hn] at H11 HB1
    rw [Nt.nats_length, hkl] at H12 HB1
    have HIN : Hid (∀ W, Kept [] w1 W → Calls Tryz.prog 70 #[.int .i64 (n : Int)] W fun e w' => e = .returned (.string (itoaZ n)) ∧ Kept [] W w' ∧ Kept [] w1 w') := Lib.hid (fun W k => (itoaZ_any n (by omega) W).mono (by rintro e w' ⟨rfl, rfl⟩; exact ⟨rfl, Kept.refl _ _, k⟩))
    have HIC : Hid (∀ W, Kept [] w1 W → Calls Tryz.prog 70 #[.int .i64 (c : Int)] W fun e w' => e = .returned (.string (itoaZ c)) ∧ Kept [] W w' ∧ Kept [] w1 w') := Lib.hid (fun W k => (itoaZ_any c (by omega) W).mono (by rintro e w' ⟨rfl, rfl⟩; exact ⟨rfl, Kept.refl _ _, k⟩))
    have HPT : Hid (∀ W, Kept [] w1 W → Calls Tryz.prog 143 #[.slice a n cap] W fun e w' => ∃ z, e = .returned (.string z) ∧ Hid (tx z = Nt.wireT ns) ∧ Kept [] W w' ∧ Kept [] w1 w') := Lib.hid (fun W k => (pairsText_any ns hq.ok W _ _ (H11.out.stay k)).mono (by rintro e w' ⟨z, rfl, hz, hk⟩; exact ⟨z, rfl, Lib.hid hz, hk, k.trans hk (by simp)⟩))
    have HJN : Hid (∀ W, Kept [] w1 W → Calls Tryz.prog 144 #[.slice b n cap2, .string ⟨#[]⟩] W fun e w' => ∃ z, e = .returned (.string z) ∧ Hid (tx z = Nt.kindT ks) ∧ Kept [] W w' ∧ Kept [] w1 w') := Lib.hid (fun W k => (kinds_any ks (by omega) (fun j hj => by have := hst.lt j hj; omega) W _ _ (H12.out.stay k)).mono (by rintro e w' ⟨z, rfl, hz, hk⟩; exact ⟨z, rfl, Lib.hid hz, hk, k.trans hk (by simp)⟩))
    have HSB : Hid (∀ w', Kept [] w1 w' → w'.cell? ⟨w.heap.size, 0, none⟩ = some (.slice a n cap) ∧ w'.cell? ⟨w.heap.size, 1, none⟩ = some (.int .i64 (c : Int)) ∧ w'.cell? ⟨w.heap.size, 2, none⟩ = some (.slice b n cap2)) := Lib.hid (fun w' k => (HB1.out.stay k).three)
    have HDN := Lib.hid (tx_itoaZ (show n < 100 by omega))
    have HDC := Lib.hid (tx_itoaZ (show c < 100 by omega))
    have HW200 : Hid ((Nt.wireT ns).length ≤ 300) := Lib.hid (wireT_small hn1 (by omega))
    have HPL : Hid (Nt.Pl.t ⟨ns, c, ks⟩ = Nt.join 32 [Nt.digs n, Nt.wireT ns, Nt.digs c, Nt.kindT ks]) := Lib.hid (by rw [hn]; rfl)
    have HPS : Hid ((Nt.Pl.t ⟨ns, c, ks⟩).length ≤ 1000) := Lib.hid (Nat.le_trans (placeT_small hq) (by omega))
    clear hst hn1 hq ho hnn hkk hcc hkl h6 h5 hn H11 H12
    generalize itoaZ n = zn at *
    generalize itoaZ c = zc at *
    go_wp2_with fail
    have K1x : Hid (Kept [] w1 w1.drew) := Lib.hid ((Kept.refl [] w1).drew)
    refine wp_region_held_drew (S := (fun w' => w'.cell? ⟨w.heap.size, 0, none⟩ = some (.slice a n cap) ∧ w'.cell? ⟨w.heap.size, 1, none⟩ = some (.int .i64 (c : Int)) ∧ w'.cell? ⟨w.heap.size, 2, none⟩ = some (.slice b n cap2))) (by kernel_rfl) (HSB.out _ K1x.out) (fun hHeld => ?_)
    generalize w1.drew = X1 at *
    refine wpAnyH_take (i := 0) (v := ?_) (opAt_lq rfl) (by kernel_rfl) (by kernel_rfl) (by kernel_rfl) (fun _ _ _ h => h) (Or.inl ⟨by rfl, ?_⟩) (by assumption) ?_
    rotate_left
    · intro w9 hSw
      (try dsimp only at hSw)
      go_simp
      try with_reducible rfl
    try simp only [Act.put, List.setIfInBounds_toArray, List.set_cons_zero, List.set_cons_succ]
    refine wpAnyH_take (i := 1) (v := ?_) (opAt_lq rfl) (by kernel_rfl) (by kernel_rfl) (by kernel_rfl) (fun _ _ _ h => h) (Or.inl ⟨by rfl, ?_⟩) (by assumption) ?_
    rotate_left
    · intro w9 hSw
      (try dsimp only at hSw)
      go_simp
      try with_reducible rfl
    try simp only [Act.put, List.setIfInBounds_toArray, List.set_cons_zero, List.set_cons_succ]
    refine wpAnyH_take (i := 2) (v := ?_) (opAt_lq rfl) (by kernel_rfl) (by kernel_rfl) (by kernel_rfl) (fun _ _ _ h => h) (Or.inl ⟨by rfl, ?_⟩) (by assumption) ?_
    rotate_left
    · intro w9 hSw
      (try dsimp only at hSw)
      go_simp
      try with_reducible rfl
    try simp only [Act.put, List.setIfInBounds_toArray, List.set_cons_zero, List.set_cons_succ]
    refine wpAnyH_take (i := 4) (v := ?_) (opAt_lq rfl) (by kernel_rfl) (by kernel_rfl) (by kernel_rfl) (fun _ _ _ h => h) (Or.inl ⟨by rfl, ?_⟩) (by assumption) ?_
    rotate_left
    · intro w9 hSw
      (try dsimp only at hSw)
      go_simp
      try with_reducible rfl
    try simp only [Act.put, List.setIfInBounds_toArray, List.set_cons_zero, List.set_cons_succ]
    refine wpAnyH_take (i := 5) (v := ?_) (opAt_lq rfl) (by kernel_rfl) (by kernel_rfl) (by kernel_rfl) (fun _ _ _ h => h) (Or.inl ⟨by rfl, ?_⟩) (by assumption) ?_
    rotate_left
    · intro w9 hSw
      (try dsimp only at hSw)
      go_simp
      try with_reducible rfl
    try simp only [Act.put, List.setIfInBounds_toArray, List.set_cons_zero, List.set_cons_succ]
    refine wpAnyH_take (i := 7) (v := ?_) (opAt_lq rfl) (by kernel_rfl) (by kernel_rfl) (by kernel_rfl) (fun _ _ _ h => h) (Or.inl ⟨by rfl, ?_⟩) (by assumption) ?_
    rotate_left
    · intro w9 hSw
      (try dsimp only at hSw)
      go_simp
      try with_reducible rfl
    try simp only [Act.put, List.setIfInBounds_toArray, List.set_cons_zero, List.set_cons_succ]
    refine wpAnyH_take (i := 8) (v := ?_) (opAt_lq rfl) (by kernel_rfl) (by kernel_rfl) (by kernel_rfl) (fun _ _ _ h => h) (Or.inl ⟨by rfl, ?_⟩) (by assumption) ?_
    rotate_left
    · intro w9 hSw
      (try dsimp only at hSw)
      go_simp
      try with_reducible rfl
    try simp only [Act.put, List.setIfInBounds_toArray, List.set_cons_zero, List.set_cons_succ]
    refine wpAnyH_take (i := 10) (v := ?_) (opAt_lq rfl) (by kernel_rfl) (by kernel_rfl) (by kernel_rfl) (fun _ _ _ h => h) (Or.inl ⟨by rfl, ?_⟩) (by assumption) ?_
    rotate_left
    · intro w9 hSw
      (try dsimp only at hSw)
      go_simp
      try with_reducible rfl
    try simp only [Act.put, List.setIfInBounds_toArray, List.set_cons_zero, List.set_cons_succ]
    refine wpAnyH_take (i := 11) (v := ?_) (opAt_lq rfl) (by kernel_rfl) (by kernel_rfl) (by kernel_rfl) (fun _ _ _ h => h) (Or.inl ⟨by rfl, ?_⟩) (by assumption) ?_
    rotate_left
    · intro w9 hSw
      (try dsimp only at hSw)
      go_simp
      try with_reducible rfl
    try simp only [Act.put, List.setIfInBounds_toArray, List.set_cons_zero, List.set_cons_succ]
    refine wpAnyH_ready (rs := [3]) (by kernel_rfl) (by simp) ?_
    refine (AllReadyH.cons (opAt_lq rfl) (fun K hK => ?_) AllReadyH.nil)
    go_simp
    go_at_call 70
    refine (HIN.out _ K1x.out).mono ?_
    rintro e X2 ⟨rfl, hk, hk0⟩
    refine hK.out _ _ (HSB.out _ hk0) (fun hHeld => ?_)
    clear hK K
    try simp only [Act.put, List.setIfInBounds_toArray, List.set_cons_zero, List.set_cons_succ]
    have K2x := Lib.hid hk0
    have HZ1 := Lib.hid (Kept.size (rows := []) hk)
    clear hk hk0
    refine wpAnyH_ready (rs := [6]) (by kernel_rfl) (by simp) ?_
    refine (AllReadyH.cons (opAt_lq rfl) (fun K hK => ?_) AllReadyH.nil)
    go_simp
    go_at_call 143
    refine (HPT.out _ K2x.out).mono ?_
    rintro e X3 ⟨zp, rfl, HZP, hk, hk0⟩
    refine hK.out _ _ (HSB.out _ hk0) (fun hHeld => ?_)
    clear hK K
    try simp only [Act.put, List.setIfInBounds_toArray, List.set_cons_zero, List.set_cons_succ]
    have K3x := Lib.hid hk0
    have HZ2 := Lib.hid (Kept.size (rows := []) hk)
    clear hk hk0
    refine wpAnyH_ready (rs := [9]) (by kernel_rfl) (by simp) ?_
    refine (AllReadyH.cons (opAt_lq rfl) (fun K hK => ?_) AllReadyH.nil)
    go_simp
    go_at_call 70
    refine (HIC.out _ K3x.out).mono ?_
    rintro e X4 ⟨rfl, hk, hk0⟩
    refine hK.out _ _ (HSB.out _ hk0) (fun hHeld => ?_)
    clear hK K
    try simp only [Act.put, List.setIfInBounds_toArray, List.set_cons_zero, List.set_cons_succ]
    have K4x := Lib.hid hk0
    have HZ3 := Lib.hid (Kept.size (rows := []) hk)
    clear hk hk0
    refine wpAnyH_ready (rs := [12]) (by kernel_rfl) (by simp) ?_
    refine (AllReadyH.cons (opAt_lq rfl) (fun K hK => ?_) AllReadyH.nil)
    go_simp
    go_at_call 144
    refine (HJN.out _ K4x.out).mono ?_
    rintro e X5 ⟨zk, rfl, HZK, hk, hk0⟩
    refine hK.out _ _ (HSB.out _ hk0) (fun hHeld => ?_)
    clear hK K
    try simp only [Act.put, List.setIfInBounds_toArray, List.set_cons_zero, List.set_cons_succ]
    have K5x := Lib.hid hk0
    have HZ4 := Lib.hid (Kept.size (rows := []) hk)
    clear hk hk0
    refine wpAnyH_ready (rs := [13]) (by kernel_rfl) (by simp) ?_
    refine (AllReadyH.cons (opAt_lq rfl) (fun K hK => ?_) AllReadyH.nil)
    go_simp
    have hka : Kept [] X5 (X5.alloc (.cells #[.string zn, .string zp, .string zc, .string zk] 9)) := (Kept.refl _ _).alloc _
    have HTS : Hid (Ts (X5.alloc (.cells #[.string zn, .string zp, .string zc, .string zk] 9)) X5.heap.size (.slice (some ⟨X5.heap.size, 0, none⟩) 4 4) [zn, zp, zc, zk]) := Lib.hid (Ts.lit X5 [zn, zp, zc, zk] (by simp))
    refine hK.out _ _ (HSB.out _ (K5x.out.trans hka (by simp))) (fun hHeld => ?_)
    clear hK K
    try simp only [Act.put, List.setIfInBounds_toArray, List.set_cons_zero, List.set_cons_succ]
    have K6x := Lib.hid (K5x.out.trans hka (by simp))
    generalize X5.alloc (.cells #[.string zn, .string zp, .string zc, .string zk] 9) = X6 at *
    generalize X5.heap.size = gl at *
    clear hka
    refine wpAnyH_take (i := 14) (v := ?_) (opAt_lq rfl) (by kernel_rfl) (by kernel_rfl) (by kernel_rfl) (fun _ _ _ h => h) (Or.inl ⟨by rfl, ?_⟩) (by assumption) ?_
    rotate_left
    · intro w9 hSw
      (try dsimp only at hSw)
      go_simp
      try with_reducible rfl
    try simp only [Act.put, List.setIfInBounds_toArray, List.set_cons_zero, List.set_cons_succ]
    refine wpAnyH_done (by kernel_rfl) ?_ _
    go_wp2_with fail
    have HM : Hid ([zn, zp, zc, zk].map tx = [Nt.digs n, Nt.wireT ns, Nt.digs c, Nt.kindT ks]) := Lib.hid (by simp [HDN.out, HDC.out, HZP.out, HZK.out])
    refine (joinG_any joinAs32 [zn, zp, zc, zk] 4 rfl (by omega) (by rw [HM.out, ← HPL.out]; exact Nat.le_trans HPS.out (by omega)) _ _ _ _ HTS.out).mono ?_
    rintro e w7 ⟨z, rfl, hz, hk7⟩
    have HZ := Lib.hid hz
    have HK7 := Lib.hid ((HK1.out.trans K6x.out (by simp)).trans hk7 (by simp))
    clear hz hk7
    go_wp2
    go_ret
    exact ⟨_, rfl, by rw [HZ.out, HM.out, HF.out, HPL.out], HK7.out⟩

/-- A place that is read: it lies in two blocks, one behind the other; or there is none. -/
def RdPl (w : World) (base : Nat) (y : Value) (t : List Nat) : Prop :=
  (Nt.readPB t = false ∧ y = .agg #[.slice none 0 0, .int .i64 0, .slice none 0 0] ∧ Nt.readPI t = Nt.Pi.zero) ∨
    (Nt.readPB t = true ∧ ∃ g1 q1 g2 q2, y = .agg #[.slice (some ⟨g1, 0, none⟩) (Nt.readPI t).ns.length q1, .int .i64 (Nt.readPI t).c, .slice (some ⟨g2, 0, none⟩) (Nt.readPI t).ks.length q2] ∧
      Sl w base (.slice (some ⟨g1, 0, none⟩) (Nt.readPI t).ns.length q1) (Nt.readPI t).ns ∧ Sl w base (.slice (some ⟨g2, 0, none⟩) (Nt.readPI t).ks.length q2) (Nt.readPI t).ks ∧ g1 < g2)
theorem RdPl.pv {w : World} {base : Nat} {y : Value} {t : List Nat} (h : RdPl w base y t) : Pv w base y (Nt.readPI t) := by
  rcases h with ⟨_, rfl, h2⟩ | ⟨_, g1, q1, g2, q2, rfl, h1, h2, _⟩
  · rw [h2]; exact Pv.zero w base
  · exact ⟨_, _, rfl, h1, h2⟩
theorem readP_four {t : List Nat} (h : ¬ (Nt.cut 32 t).length = 4) : Nt.readPB t = false ∧ Nt.readPI t = Nt.Pi.zero := by
  cases e : Nt.readP t with
  | none => exact ⟨(Nt.readPI_none e).2, (Nt.readPI_none e).1⟩
  | some q => have := (Nt.readP_words e).2; rw [this] at h; exact absurd rfl h
theorem readP_miss {t : List Nat} (h : Nt.readPB t = false) : Nt.readPI t = Nt.Pi.zero := by
  cases e : Nt.readP t with
  | none => exact (Nt.readPI_none e).1
  | some q => rw [(Nt.readPI_some e).2] at h; cases h
theorem readP_ne {t : List Nat} (h : Nt.readPB t = true) : 0 < (Nt.readPI t).ns.length ∧ 0 < (Nt.readPI t).ks.length := by
  cases e : Nt.readP t with
  | none => rw [(Nt.readPI_none e).2] at h; cases h
  | some q =>
    rw [(Nt.readPI_some e).1]
    have hq := (Nt.readP_some.1 e).1
    show 0 < (Nt.nats q.ns).length ∧ 0 < (Nt.nats q.ks).length
    rw [Nt.nats_length, Nt.nats_length]
    exact ⟨hq.ok.some, by rw [hq.len]; exact hq.ok.some⟩
/-- A place's block, laid by the program in some order among the calls. -/
def Laid (wc w1 : World) (t : List Nat) (u5 : Value) : Prop := ∃ (bp : Nat) (a1 a2 : Option Addr) (n1 c1 n2 c2 : Nat) (P : Nt.Pi), u5 = .pointer (some ⟨bp, 0, none⟩) ∧ Bk wc bp 30 #[.slice a1 n1 c1, .int .i64 P.c, .slice a2 n2 c2] ∧
  Sl wc w1.heap.size (.slice a1 n1 c1) P.ns ∧ Sl wc w1.heap.size (.slice a2 n2 c2) P.ks ∧ (∀ g1, (Value.slice a1 n1 c1).ownBlock = some g1 → ∀ g2, (Value.slice a2 n2 c2).ownBlock = some g2 → g1 < g2) ∧ (∀ q, Nt.readP t = some q → P = q.i) ∧ Kept [] w1 wc

set_option maxHeartbeats 8000000 in
set_option maxRecDepth 100000 in
theorem iReadPlaceA_any (s : ByteArray) (hs : s.size ≤ 1100000) (w : World) (he : ErrW w) :
    Calls Tryz.prog 31 #[.string s] w fun e w' => ∃ y, e = .returned (.tuple #[y, .bool (Nt.readPB (tx s))]) ∧ RdPl w' w.heap.size y (tx s) ∧ Kept [] w w' := by
  have HR0 := Lib.hid (Bk.new w 30 #[.slice none 0 0, .int .i64 0, .slice none 0 0])
  have HK0 : Hid (Kept [] w (w.alloc (.cells #[.slice none 0 0, .int .i64 0, .slice none 0 0] 30))) := Lib.hid ((Kept.refl [] w).alloc _)
  have HE := Lib.hid (he.stay HK0.out)
  have HS := Lib.hid hs
  have hs2 : s.size ≤ 2000000 := by omega
  clear hs he
  go_enter Tryz.func31, Tryz.ntmps31
  go_wp2_with fail
  generalize w.alloc (.cells #[.slice none 0 0, .int .i64 0, .slice none 0 0] 30) = W0 at *
  refine (split32_any s hs2 _ HE.out).mono ?_
  rintro e w1 ⟨gw, L, ps, rfl, hps, hpl, hpm, hk1⟩
  obtain ⟨hcl, hcp⟩ := cut_at hpm
  rw [hpl] at hcl hcp
  have HCL := Lib.hid hcl
  have HCP := Lib.hid hcp
  have HG := Lib.hid (hps.block (g := gw) rfl).2
  have HC : Hid (∀ k, k < L → w1.cell? ⟨gw, k, none⟩ = some (.string (atT ps k))) := Lib.hid (fun k hk => (hps.at k (by rw [hpl]; exact hk)).1)
  have HR1 := Lib.hid (HR0.out.stay hk1)
  have HK1 := Lib.hid (HK0.out.trans hk1 (by simp))
  have HE1 := Lib.hid (HE.out.stay hk1)
  clear hps hpm hk1 hcl hcp hpl HR0 HK0 HE hs2
  by_cases h4 : L = 4
  · subst h4
    obtain ⟨e0, z0⟩ := HCP.out 0 (by omega)
    obtain ⟨e1, z1⟩ := HCP.out 1 (by omega)
    obtain ⟨e2, z2⟩ := HCP.out 2 (by omega)
    obtain ⟨e3, z3⟩ := HCP.out 3 (by omega)
    have HSB : Hid (∀ w', Kept [] w1 w' → w'.cell? ⟨gw, 0, none⟩ = some (.string (atT ps 0)) ∧ w'.cell? ⟨gw, 1, none⟩ = some (.string (atT ps 1)) ∧ w'.cell? ⟨gw, 2, none⟩ = some (.string (atT ps 2)) ∧ w'.cell? ⟨gw, 3, none⟩ = some (.string (atT ps 3))) := Lib.hid (fun w' k => ⟨(k.cell (p := ⟨gw, 0, none⟩) HG.out (by simp)).trans (HC.out 0 (by omega)), (k.cell (p := ⟨gw, 1, none⟩) HG.out (by simp)).trans (HC.out 1 (by omega)), (k.cell (p := ⟨gw, 2, none⟩) HG.out (by simp)).trans (HC.out 2 (by omega)), (k.cell (p := ⟨gw, 3, none⟩) HG.out (by simp)).trans (HC.out 3 (by omega))⟩)
    have HNET : Hid (∀ W, Kept [] w1 W → Calls Tryz.prog 82 #[.string (atT ps 0), .string (atT ps 1)] W fun e w' => ∃ (a1 : Option Addr) (n1 c1 : Nat) (many : Int), e = .returned (.slice a1 n1 c1) ∧ Hid (Nt.NumOf ((Nt.cut 32 (tx s)).getD 0 []) many) ∧ Hid (Sl w' W.heap.size (.slice a1 n1 c1) (Nt.candP many 0 (Nt.cut 32 (tx s))).ns) ∧ Kept [] W w' ∧ Kept [] w1 w') := Lib.hid (fun W k => (readNet_any _ _ (by have := HS.out; omega) (by have := HS.out; omega) W (HE1.out.stay k)).mono (by
      rintro e w' ⟨v, many, rfl, hn, hsl, hk⟩
      rw [e0] at hn
      rw [e1] at hsl
      obtain ⟨a1, c1, rfl, _, _, _⟩ := hsl.any
      exact ⟨a1, _, c1, many, rfl, Lib.hid hn, Lib.hid hsl, hk, k.trans hk (by simp)⟩))
    have HNUM : Hid (∀ W, Kept [] w1 W → Calls Tryz.prog 83 #[.string (atT ps 2)] W fun e w' => ∃ (c : Int), e = .returned (.int .i64 c) ∧ Hid (Nt.NumOf ((Nt.cut 32 (tx s)).getD 2 []) c) ∧ Kept [] W w' ∧ Kept [] w1 w') := Lib.hid (fun W k => (numberIn_any _ (by have := HS.out; omega) W (HE1.out.stay k)).mono (by
      rintro e w' ⟨c, rfl, hn, hk⟩
      rw [e2] at hn
      exact ⟨c, rfl, Lib.hid hn, hk, k.trans hk (by simp)⟩))
    have HDIG : Hid (∀ W, Kept [] w1 W → Calls Tryz.prog 84 #[.string (atT ps 3)] W fun e w' => ∃ (a2 : Option Addr) (n2 c2 : Nat), e = .returned (.slice a2 n2 c2) ∧ Hid (Sl w' W.heap.size (.slice a2 n2 c2) (Nt.candP 0 0 (Nt.cut 32 (tx s))).ks) ∧ Kept [] W w' ∧ Kept [] w1 w') := Lib.hid (fun W k => (readDigits_any _ (by have := HS.out; omega) W).mono (by
      rintro e w' ⟨u, rfl, hsl, hk⟩
      rw [e3] at hsl
      obtain ⟨a2, c2, rfl, _, _, _⟩ := hsl.any
      exact ⟨a2, _, c2, rfl, Lib.hid hsl, hk, k.trans hk (by simp)⟩))
    have HCAND : Hid (∀ many c : Int, Nt.NumOf ((Nt.cut 32 (tx s)).getD 0 []) many → Nt.NumOf ((Nt.cut 32 (tx s)).getD 2 []) c → ∀ q, Nt.readP (tx s) = some q → Nt.candP many c (Nt.cut 32 (tx s)) = q.i) := Lib.hid (fun many c h1 h2 q h => Nt.readP_cand2 h1 h2 h)
    obtain ⟨x0, x1, x2, x3⟩ := HSB.out w1 (Kept.refl _ _)
    clear e0 e1 e2 e3 z0 z1 z2 z3 HC
    generalize atT ps 0 = A0 at *
    generalize atT ps 1 = A1 at *
    generalize atT ps 2 = A2 at *
    generalize atT ps 3 = A3 at *
    go_wp2_with fail
    go_cut [5] from 12 to 27 (fun u5 wc => Laid wc w1 (tx s) u5)
    case first =>
      clear x0 x1 x2 x3
      have K1x : Hid (Kept [] w1 w1.drew) := Lib.hid ((Kept.refl [] w1).drew)
      refine wp_region_held_drew (S := (fun w' => w'.cell? ⟨gw, 0, none⟩ = some (.string A0) ∧ w'.cell? ⟨gw, 1, none⟩ = some (.string A1) ∧ w'.cell? ⟨gw, 2, none⟩ = some (.string A2) ∧ w'.cell? ⟨gw, 3, none⟩ = some (.string A3))) (by kernel_rfl) (HSB.out _ K1x.out) (fun hHeld => ?_)
      generalize w1.drew = X1 at *
      refine wpAnyH_take (i := 0) (v := ?_) (opAt_lq rfl) (by kernel_rfl) (by kernel_rfl) (by kernel_rfl) (fun _ _ _ h => h) (Or.inl ⟨by rfl, ?_⟩) (by assumption) ?_
      rotate_left
      · intro w9 hSw
        (try dsimp only at hSw)
        go_simp
        try with_reducible rfl
      try simp only [Act.put, List.setIfInBounds_toArray, List.set_cons_zero, List.set_cons_succ]
      refine wpAnyH_take (i := 1) (v := ?_) (opAt_lq rfl) (by kernel_rfl) (by kernel_rfl) (by kernel_rfl) (fun _ _ _ h => h) (Or.inl ⟨by rfl, ?_⟩) (by assumption) ?_
      rotate_left
      · intro w9 hSw
        (try dsimp only at hSw)
        go_simp
        try with_reducible rfl
      try simp only [Act.put, List.setIfInBounds_toArray, List.set_cons_zero, List.set_cons_succ]
      refine wpAnyH_take (i := 2) (v := ?_) (opAt_lq rfl) (by kernel_rfl) (by kernel_rfl) (by kernel_rfl) (fun _ _ _ h => h) (Or.inl ⟨by rfl, ?_⟩) (by assumption) ?_
      rotate_left
      · intro w9 hSw
        (try dsimp only at hSw)
        go_simp
        try with_reducible rfl
      try simp only [Act.put, List.setIfInBounds_toArray, List.set_cons_zero, List.set_cons_succ]
      refine wpAnyH_take (i := 3) (v := ?_) (opAt_lq rfl) (by kernel_rfl) (by kernel_rfl) (by kernel_rfl) (fun _ _ _ h => h) (Or.inl ⟨by rfl, ?_⟩) (by assumption) ?_
      rotate_left
      · intro w9 hSw
        (try dsimp only at hSw)
        go_simp
        try with_reducible rfl
      try simp only [Act.put, List.setIfInBounds_toArray, List.set_cons_zero, List.set_cons_succ]
      refine wpAnyH_take (i := 4) (v := ?_) (opAt_lq rfl) (by kernel_rfl) (by kernel_rfl) (by kernel_rfl) (fun _ _ _ h => h) (Or.inl ⟨by rfl, ?_⟩) (by assumption) ?_
      rotate_left
      · intro w9 hSw
        (try dsimp only at hSw)
        go_simp
        try with_reducible rfl
      try simp only [Act.put, List.setIfInBounds_toArray, List.set_cons_zero, List.set_cons_succ]
      refine wpAnyH_take (i := 5) (v := ?_) (opAt_lq rfl) (by kernel_rfl) (by kernel_rfl) (by kernel_rfl) (fun _ _ _ h => h) (Or.inl ⟨by rfl, ?_⟩) (by assumption) ?_
      rotate_left
      · intro w9 hSw
        (try dsimp only at hSw)
        go_simp
        try with_reducible rfl
      try simp only [Act.put, List.setIfInBounds_toArray, List.set_cons_zero, List.set_cons_succ]
      refine wpAnyH_take (i := 7) (v := ?_) (opAt_lq rfl) (by kernel_rfl) (by kernel_rfl) (by kernel_rfl) (fun _ _ _ h => h) (Or.inl ⟨by rfl, ?_⟩) (by assumption) ?_
      rotate_left
      · intro w9 hSw
        (try dsimp only at hSw)
        go_simp
        try with_reducible rfl
      try simp only [Act.put, List.setIfInBounds_toArray, List.set_cons_zero, List.set_cons_succ]
      refine wpAnyH_take (i := 8) (v := ?_) (opAt_lq rfl) (by kernel_rfl) (by kernel_rfl) (by kernel_rfl) (fun _ _ _ h => h) (Or.inl ⟨by rfl, ?_⟩) (by assumption) ?_
      rotate_left
      · intro w9 hSw
        (try dsimp only at hSw)
        go_simp
        try with_reducible rfl
      try simp only [Act.put, List.setIfInBounds_toArray, List.set_cons_zero, List.set_cons_succ]
      refine wpAnyH_take (i := 9) (v := ?_) (opAt_lq rfl) (by kernel_rfl) (by kernel_rfl) (by kernel_rfl) (fun _ _ _ h => h) (Or.inl ⟨by rfl, ?_⟩) (by assumption) ?_
      rotate_left
      · intro w9 hSw
        (try dsimp only at hSw)
        go_simp
        try with_reducible rfl
      try simp only [Act.put, List.setIfInBounds_toArray, List.set_cons_zero, List.set_cons_succ]
      refine wpAnyH_take (i := 11) (v := ?_) (opAt_lq rfl) (by kernel_rfl) (by kernel_rfl) (by kernel_rfl) (fun _ _ _ h => h) (Or.inl ⟨by rfl, ?_⟩) (by assumption) ?_
      rotate_left
      · intro w9 hSw
        (try dsimp only at hSw)
        go_simp
        try with_reducible rfl
      try simp only [Act.put, List.setIfInBounds_toArray, List.set_cons_zero, List.set_cons_succ]
      refine wpAnyH_take (i := 12) (v := ?_) (opAt_lq rfl) (by kernel_rfl) (by kernel_rfl) (by kernel_rfl) (fun _ _ _ h => h) (Or.inl ⟨by rfl, ?_⟩) (by assumption) ?_
      rotate_left
      · intro w9 hSw
        (try dsimp only at hSw)
        go_simp
        try with_reducible rfl
      try simp only [Act.put, List.setIfInBounds_toArray, List.set_cons_zero, List.set_cons_succ]
      refine wpAnyH_take (i := 13) (v := ?_) (opAt_lq rfl) (by kernel_rfl) (by kernel_rfl) (by kernel_rfl) (fun _ _ _ h => h) (Or.inl ⟨by rfl, ?_⟩) (by assumption) ?_
      rotate_left
      · intro w9 hSw
        (try dsimp only at hSw)
        go_simp
        try with_reducible rfl
      try simp only [Act.put, List.setIfInBounds_toArray, List.set_cons_zero, List.set_cons_succ]
      refine wpAnyH_ready (rs := [6, 16]) (by kernel_rfl) (by simp) ?_
      refine (AllReadyH.cons (opAt_lq rfl) (fun K hK => ?_) (AllReadyH.cons (opAt_lq rfl) (fun K hK => ?_) AllReadyH.nil))
      · go_simp
        go_at_call 82
        refine (HNET.out _ K1x.out).mono ?_
        rintro e X2 ⟨a1, n1, c1, many, rfl, HMANY, HV1, hk, hk0⟩
        refine hK.out _ _ (HSB.out _ hk0) (fun hHeld => ?_)
        clear hK K
        try simp only [Act.put, List.setIfInBounds_toArray, List.set_cons_zero, List.set_cons_succ]
        have K2x := Lib.hid hk0
        have HZ1 := Lib.hid (Kept.size (rows := []) hk)
        have HB1 := Lib.hid (show ∀ g, (Value.slice a1 n1 c1).ownBlock = some g → X1.heap.size ≤ g ∧ g < X2.heap.size from fun g hg => HV1.out.block hg)
        have HLO1 := Lib.hid K1x.out.size
        clear hk hk0
        refine wpAnyH_ready (rs := [10, 16]) (by kernel_rfl) (by simp) ?_
        refine (AllReadyH.cons (opAt_lq rfl) (fun K hK => ?_) (AllReadyH.cons (opAt_lq rfl) (fun K hK => ?_) AllReadyH.nil))
        · go_simp
          go_at_call 83
          refine (HNUM.out _ K2x.out).mono ?_
          rintro e X3 ⟨c, rfl, HC2, hk, hk0⟩
          refine hK.out _ _ (HSB.out _ hk0) (fun hHeld => ?_)
          clear hK K
          try simp only [Act.put, List.setIfInBounds_toArray, List.set_cons_zero, List.set_cons_succ]
          have K3x := Lib.hid hk0
          have HZ2 := Lib.hid (Kept.size (rows := []) hk)
          have HV1 := Lib.hid (HV1.out.stay hk)
          clear hk hk0
          refine wpAnyH_ready (rs := [14, 16]) (by kernel_rfl) (by simp) ?_
          refine (AllReadyH.cons (opAt_lq rfl) (fun K hK => ?_) (AllReadyH.cons (opAt_lq rfl) (fun K hK => ?_) AllReadyH.nil))
          · go_simp
            go_at_call 84
            refine (HDIG.out _ K3x.out).mono ?_
            rintro e X4 ⟨a2, n2, c2, rfl, HV2, hk, hk0⟩
            refine hK.out _ _ (HSB.out _ hk0) (fun hHeld => ?_)
            clear hK K
            try simp only [Act.put, List.setIfInBounds_toArray, List.set_cons_zero, List.set_cons_succ]
            have K4x := Lib.hid hk0
            have HZ3 := Lib.hid (Kept.size (rows := []) hk)
            have HV1 := Lib.hid (HV1.out.stay hk)
            have HB2 := Lib.hid (show ∀ g, (Value.slice a2 n2 c2).ownBlock = some g → X3.heap.size ≤ g ∧ g < X4.heap.size from fun g hg => HV2.out.block hg)
            have HLO2 := Lib.hid K3x.out.size
            clear hk hk0
            refine wpAnyH_take (i := 15) (v := ?_) (opAt_lq rfl) (by kernel_rfl) (by kernel_rfl) (by kernel_rfl) (fun _ _ _ h => h) (Or.inl ⟨by rfl, ?_⟩) (by assumption) ?_
            rotate_left
            · intro w9 hSw
              (try dsimp only at hSw)
              go_simp
              try with_reducible rfl
            try simp only [Act.put, List.setIfInBounds_toArray, List.set_cons_zero, List.set_cons_succ]
            refine wpAnyH_ready (rs := [16]) (by kernel_rfl) (by simp) ?_
            refine (AllReadyH.cons (opAt_lq rfl) (fun K hK => ?_) AllReadyH.nil)
            go_simp
            have hka : Kept [] X4 (X4.alloc (.cells #[.slice none 0 0, .int .i64 0, .slice none 0 0] 30)) := (Kept.refl _ _).alloc _
            have HBP := Lib.hid (Bk.new X4 30 #[.slice none 0 0, .int .i64 0, .slice none 0 0])
            refine hK.out _ _ (HSB.out _ (K4x.out.trans hka (by simp))) (fun hHeld => ?_)
            clear hK K
            try simp only [Act.put, List.setIfInBounds_toArray, List.set_cons_zero, List.set_cons_succ]
            obtain ⟨bp, hbp⟩ : ∃ g, g = X4.heap.size := ⟨_, rfl⟩
            have hZbp : w1.heap.size ≤ bp := by rw [hbp]; exact K4x.out.size
            have HZ4 : Hid (X4.heap.size + 1 ≤ (X4.alloc (.cells #[.slice none 0 0, .int .i64 0, .slice none 0 0] 30)).heap.size) := Lib.hid (by simp)
            have Hbp := Lib.hid hbp
            have K5x := Lib.hid (K4x.out.trans hka (by simp))
            have HV1 := Lib.hid (HV1.out.stay hka)
            have HV2 := Lib.hid (HV2.out.stay hka)
            generalize X4.alloc (.cells #[.slice none 0 0, .int .i64 0, .slice none 0 0] 30) = X5 at *
            rw [← hbp] at HBP ⊢
            clear hka hbp
            refine wpAnyH_ready (rs := [17]) (by kernel_rfl) (by simp) ?_
            refine (AllReadyH.cons (opAt_lq rfl) (fun K hK => ?_) AllReadyH.nil)
            obtain ⟨l0, l1, l2⟩ := HBP.out.three
            have f0 := HBP.out.frozen 0
            have f1 := HBP.out.frozen 1
            have f2 := HBP.out.frozen 2
            have hll := HBP.out.lt
            have k3 := K5x.out.set3 hZbp (.slice a1 n1 c1) (.int .i64 c) (.slice a2 n2 c2)
            go_simp
            refine hK.out _ _ (HSB.out _ k3) (fun hHeld => ?_)
            clear hK K
            try simp only [Act.put, List.setIfInBounds_toArray, List.set_cons_zero, List.set_cons_succ]
            have HBK := Lib.hid (HBP.out.set3 (.slice a1 n1 c1) (.int .i64 c) (.slice a2 n2 c2))
            have HW1 := Lib.hid ((HV1.out.kept (Kept.rows3 X5 bp (.slice a1 n1 c1) (.int .i64 c) (.slice a2 n2 c2)) (fun g hg hm => by have := HB1.out g hg; have := Hbp.out; have := HZ1.out; have := HZ2.out; have := HZ3.out; have := HZ4.out; simp at hm; omega)))
            have HW2 := Lib.hid ((HV2.out.kept (Kept.rows3 X5 bp (.slice a1 n1 c1) (.int .i64 c) (.slice a2 n2 c2)) (fun g hg hm => by have := HB2.out g hg; have := Hbp.out; have := HZ1.out; have := HZ2.out; have := HZ3.out; have := HZ4.out; simp at hm; omega)))
            have HAP : Hid (∀ g1, (Value.slice a1 n1 c1).ownBlock = some g1 → ∀ g2, (Value.slice a2 n2 c2).ownBlock = some g2 → g1 < g2) := Lib.hid (fun g1 h1 g2 h2 => by have := HB1.out g1 h1; have := HB2.out g2 h2; have := HZ1.out; have := HZ2.out; have := HZ3.out; have := HZ4.out; omega)
            have K6x := Lib.hid k3
            refine wpAnyH_done (by kernel_rfl) ?_ _
            go_wp2_with fail
            go_meet
            exact ⟨bp, a1, a2, n1, c1, n2, c2, Nt.candP many c (Nt.cut 32 (tx s)), rfl, HBK.out, HW1.out.mono HLO1.out, HW2.out.mono HLO2.out, HAP.out, HCAND.out many c HMANY.out HC2.out, K6x.out⟩
          · go_simp
            have hka : Kept [] X3 (X3.alloc (.cells #[.slice none 0 0, .int .i64 0, .slice none 0 0] 30)) := (Kept.refl _ _).alloc _
            have HBP := Lib.hid (Bk.new X3 30 #[.slice none 0 0, .int .i64 0, .slice none 0 0])
            refine hK.out _ _ (HSB.out _ (K3x.out.trans hka (by simp))) (fun hHeld => ?_)
            clear hK K
            try simp only [Act.put, List.setIfInBounds_toArray, List.set_cons_zero, List.set_cons_succ]
            obtain ⟨bp, hbp⟩ : ∃ g, g = X3.heap.size := ⟨_, rfl⟩
            have hZbp : w1.heap.size ≤ bp := by rw [hbp]; exact K3x.out.size
            have HZ3 : Hid (X3.heap.size + 1 ≤ (X3.alloc (.cells #[.slice none 0 0, .int .i64 0, .slice none 0 0] 30)).heap.size) := Lib.hid (by simp)
            have Hbp := Lib.hid hbp
            have K4x := Lib.hid (K3x.out.trans hka (by simp))
            have HV1 := Lib.hid (HV1.out.stay hka)
            generalize X3.alloc (.cells #[.slice none 0 0, .int .i64 0, .slice none 0 0] 30) = X4 at *
            rw [← hbp] at HBP ⊢
            clear hka hbp
            refine wpAnyH_ready (rs := [14]) (by kernel_rfl) (by simp) ?_
            refine (AllReadyH.cons (opAt_lq rfl) (fun K hK => ?_) AllReadyH.nil)
            go_simp
            go_at_call 84
            refine (HDIG.out _ K4x.out).mono ?_
            rintro e X5 ⟨a2, n2, c2, rfl, HV2, hk, hk0⟩
            refine hK.out _ _ (HSB.out _ hk0) (fun hHeld => ?_)
            clear hK K
            try simp only [Act.put, List.setIfInBounds_toArray, List.set_cons_zero, List.set_cons_succ]
            have K5x := Lib.hid hk0
            have HZ4 := Lib.hid (Kept.size (rows := []) hk)
            have HV1 := Lib.hid (HV1.out.stay hk)
            have HBP := Lib.hid (HBP.out.stay hk)
            have HB2 := Lib.hid (show ∀ g, (Value.slice a2 n2 c2).ownBlock = some g → X4.heap.size ≤ g ∧ g < X5.heap.size from fun g hg => HV2.out.block hg)
            have HLO2 := Lib.hid K4x.out.size
            clear hk hk0
            refine wpAnyH_take (i := 15) (v := ?_) (opAt_lq rfl) (by kernel_rfl) (by kernel_rfl) (by kernel_rfl) (fun _ _ _ h => h) (Or.inl ⟨by rfl, ?_⟩) (by assumption) ?_
            rotate_left
            · intro w9 hSw
              (try dsimp only at hSw)
              go_simp
              try with_reducible rfl
            try simp only [Act.put, List.setIfInBounds_toArray, List.set_cons_zero, List.set_cons_succ]
            refine wpAnyH_ready (rs := [17]) (by kernel_rfl) (by simp) ?_
            refine (AllReadyH.cons (opAt_lq rfl) (fun K hK => ?_) AllReadyH.nil)
            obtain ⟨l0, l1, l2⟩ := HBP.out.three
            have f0 := HBP.out.frozen 0
            have f1 := HBP.out.frozen 1
            have f2 := HBP.out.frozen 2
            have hll := HBP.out.lt
            have k3 := K5x.out.set3 hZbp (.slice a1 n1 c1) (.int .i64 c) (.slice a2 n2 c2)
            go_simp
            refine hK.out _ _ (HSB.out _ k3) (fun hHeld => ?_)
            clear hK K
            try simp only [Act.put, List.setIfInBounds_toArray, List.set_cons_zero, List.set_cons_succ]
            have HBK := Lib.hid (HBP.out.set3 (.slice a1 n1 c1) (.int .i64 c) (.slice a2 n2 c2))
            have HW1 := Lib.hid ((HV1.out.kept (Kept.rows3 X5 bp (.slice a1 n1 c1) (.int .i64 c) (.slice a2 n2 c2)) (fun g hg hm => by have := HB1.out g hg; have := Hbp.out; have := HZ1.out; have := HZ2.out; have := HZ3.out; have := HZ4.out; simp at hm; omega)))
            have HW2 := Lib.hid ((HV2.out.kept (Kept.rows3 X5 bp (.slice a1 n1 c1) (.int .i64 c) (.slice a2 n2 c2)) (fun g hg hm => by have := HB2.out g hg; have := Hbp.out; have := HZ1.out; have := HZ2.out; have := HZ3.out; have := HZ4.out; simp at hm; omega)))
            have HAP : Hid (∀ g1, (Value.slice a1 n1 c1).ownBlock = some g1 → ∀ g2, (Value.slice a2 n2 c2).ownBlock = some g2 → g1 < g2) := Lib.hid (fun g1 h1 g2 h2 => by have := HB1.out g1 h1; have := HB2.out g2 h2; have := HZ1.out; have := HZ2.out; have := HZ3.out; have := HZ4.out; omega)
            have K6x := Lib.hid k3
            refine wpAnyH_done (by kernel_rfl) ?_ _
            go_wp2_with fail
            go_meet
            exact ⟨bp, a1, a2, n1, c1, n2, c2, Nt.candP many c (Nt.cut 32 (tx s)), rfl, HBK.out, HW1.out.mono HLO1.out, HW2.out.mono HLO2.out, HAP.out, HCAND.out many c HMANY.out HC2.out, K6x.out⟩
        · go_simp
          have hka : Kept [] X2 (X2.alloc (.cells #[.slice none 0 0, .int .i64 0, .slice none 0 0] 30)) := (Kept.refl _ _).alloc _
          have HBP := Lib.hid (Bk.new X2 30 #[.slice none 0 0, .int .i64 0, .slice none 0 0])
          refine hK.out _ _ (HSB.out _ (K2x.out.trans hka (by simp))) (fun hHeld => ?_)
          clear hK K
          try simp only [Act.put, List.setIfInBounds_toArray, List.set_cons_zero, List.set_cons_succ]
          obtain ⟨bp, hbp⟩ : ∃ g, g = X2.heap.size := ⟨_, rfl⟩
          have hZbp : w1.heap.size ≤ bp := by rw [hbp]; exact K2x.out.size
          have HZ2 : Hid (X2.heap.size + 1 ≤ (X2.alloc (.cells #[.slice none 0 0, .int .i64 0, .slice none 0 0] 30)).heap.size) := Lib.hid (by simp)
          have Hbp := Lib.hid hbp
          have K3x := Lib.hid (K2x.out.trans hka (by simp))
          have HV1 := Lib.hid (HV1.out.stay hka)
          generalize X2.alloc (.cells #[.slice none 0 0, .int .i64 0, .slice none 0 0] 30) = X3 at *
          rw [← hbp] at HBP ⊢
          clear hka hbp
          refine wpAnyH_ready (rs := [10]) (by kernel_rfl) (by simp) ?_
          refine (AllReadyH.cons (opAt_lq rfl) (fun K hK => ?_) AllReadyH.nil)
          go_simp
          go_at_call 83
          refine (HNUM.out _ K3x.out).mono ?_
          rintro e X4 ⟨c, rfl, HC2, hk, hk0⟩
          refine hK.out _ _ (HSB.out _ hk0) (fun hHeld => ?_)
          clear hK K
          try simp only [Act.put, List.setIfInBounds_toArray, List.set_cons_zero, List.set_cons_succ]
          have K4x := Lib.hid hk0
          have HZ3 := Lib.hid (Kept.size (rows := []) hk)
          have HV1 := Lib.hid (HV1.out.stay hk)
          have HBP := Lib.hid (HBP.out.stay hk)
          clear hk hk0
          refine wpAnyH_ready (rs := [14]) (by kernel_rfl) (by simp) ?_
          refine (AllReadyH.cons (opAt_lq rfl) (fun K hK => ?_) AllReadyH.nil)
          go_simp
          go_at_call 84
          refine (HDIG.out _ K4x.out).mono ?_
          rintro e X5 ⟨a2, n2, c2, rfl, HV2, hk, hk0⟩
          refine hK.out _ _ (HSB.out _ hk0) (fun hHeld => ?_)
          clear hK K
          try simp only [Act.put, List.setIfInBounds_toArray, List.set_cons_zero, List.set_cons_succ]
          have K5x := Lib.hid hk0
          have HZ4 := Lib.hid (Kept.size (rows := []) hk)
          have HV1 := Lib.hid (HV1.out.stay hk)
          have HBP := Lib.hid (HBP.out.stay hk)
          have HB2 := Lib.hid (show ∀ g, (Value.slice a2 n2 c2).ownBlock = some g → X4.heap.size ≤ g ∧ g < X5.heap.size from fun g hg => HV2.out.block hg)
          have HLO2 := Lib.hid K4x.out.size
          clear hk hk0
          refine wpAnyH_take (i := 15) (v := ?_) (opAt_lq rfl) (by kernel_rfl) (by kernel_rfl) (by kernel_rfl) (fun _ _ _ h => h) (Or.inl ⟨by rfl, ?_⟩) (by assumption) ?_
          rotate_left
          · intro w9 hSw
            (try dsimp only at hSw)
            go_simp
            try with_reducible rfl
          try simp only [Act.put, List.setIfInBounds_toArray, List.set_cons_zero, List.set_cons_succ]
          refine wpAnyH_ready (rs := [17]) (by kernel_rfl) (by simp) ?_
          refine (AllReadyH.cons (opAt_lq rfl) (fun K hK => ?_) AllReadyH.nil)
          obtain ⟨l0, l1, l2⟩ := HBP.out.three
          have f0 := HBP.out.frozen 0
          have f1 := HBP.out.frozen 1
          have f2 := HBP.out.frozen 2
          have hll := HBP.out.lt
          have k3 := K5x.out.set3 hZbp (.slice a1 n1 c1) (.int .i64 c) (.slice a2 n2 c2)
          go_simp
          refine hK.out _ _ (HSB.out _ k3) (fun hHeld => ?_)
          clear hK K
          try simp only [Act.put, List.setIfInBounds_toArray, List.set_cons_zero, List.set_cons_succ]
          have HBK := Lib.hid (HBP.out.set3 (.slice a1 n1 c1) (.int .i64 c) (.slice a2 n2 c2))
          have HW1 := Lib.hid ((HV1.out.kept (Kept.rows3 X5 bp (.slice a1 n1 c1) (.int .i64 c) (.slice a2 n2 c2)) (fun g hg hm => by have := HB1.out g hg; have := Hbp.out; have := HZ1.out; have := HZ2.out; have := HZ3.out; have := HZ4.out; simp at hm; omega)))
          have HW2 := Lib.hid ((HV2.out.kept (Kept.rows3 X5 bp (.slice a1 n1 c1) (.int .i64 c) (.slice a2 n2 c2)) (fun g hg hm => by have := HB2.out g hg; have := Hbp.out; have := HZ1.out; have := HZ2.out; have := HZ3.out; have := HZ4.out; simp at hm; omega)))
          have HAP : Hid (∀ g1, (Value.slice a1 n1 c1).ownBlock = some g1 → ∀ g2, (Value.slice a2 n2 c2).ownBlock = some g2 → g1 < g2) := Lib.hid (fun g1 h1 g2 h2 => by have := HB1.out g1 h1; have := HB2.out g2 h2; have := HZ1.out; have := HZ2.out; have := HZ3.out; have := HZ4.out; omega)
          have K6x := Lib.hid k3
          refine wpAnyH_done (by kernel_rfl) ?_ _
          go_wp2_with fail
          go_meet
          exact ⟨bp, a1, a2, n1, c1, n2, c2, Nt.candP many c (Nt.cut 32 (tx s)), rfl, HBK.out, HW1.out.mono HLO1.out, HW2.out.mono HLO2.out, HAP.out, HCAND.out many c HMANY.out HC2.out, K6x.out⟩
      · go_simp
        have hka : Kept [] X1 (X1.alloc (.cells #[.slice none 0 0, .int .i64 0, .slice none 0 0] 30)) := (Kept.refl _ _).alloc _
        have HBP := Lib.hid (Bk.new X1 30 #[.slice none 0 0, .int .i64 0, .slice none 0 0])
        refine hK.out _ _ (HSB.out _ (K1x.out.trans hka (by simp))) (fun hHeld => ?_)
        clear hK K
        try simp only [Act.put, List.setIfInBounds_toArray, List.set_cons_zero, List.set_cons_succ]
        obtain ⟨bp, hbp⟩ : ∃ g, g = X1.heap.size := ⟨_, rfl⟩
        have hZbp : w1.heap.size ≤ bp := by rw [hbp]; exact K1x.out.size
        have HZ1 : Hid (X1.heap.size + 1 ≤ (X1.alloc (.cells #[.slice none 0 0, .int .i64 0, .slice none 0 0] 30)).heap.size) := Lib.hid (by simp)
        have Hbp := Lib.hid hbp
        have K2x := Lib.hid (K1x.out.trans hka (by simp))
        generalize X1.alloc (.cells #[.slice none 0 0, .int .i64 0, .slice none 0 0] 30) = X2 at *
        rw [← hbp] at HBP ⊢
        clear hka hbp
        refine wpAnyH_ready (rs := [6]) (by kernel_rfl) (by simp) ?_
        refine (AllReadyH.cons (opAt_lq rfl) (fun K hK => ?_) AllReadyH.nil)
        go_simp
        go_at_call 82
        refine (HNET.out _ K2x.out).mono ?_
        rintro e X3 ⟨a1, n1, c1, many, rfl, HMANY, HV1, hk, hk0⟩
        refine hK.out _ _ (HSB.out _ hk0) (fun hHeld => ?_)
        clear hK K
        try simp only [Act.put, List.setIfInBounds_toArray, List.set_cons_zero, List.set_cons_succ]
        have K3x := Lib.hid hk0
        have HZ2 := Lib.hid (Kept.size (rows := []) hk)
        have HBP := Lib.hid (HBP.out.stay hk)
        have HB1 := Lib.hid (show ∀ g, (Value.slice a1 n1 c1).ownBlock = some g → X2.heap.size ≤ g ∧ g < X3.heap.size from fun g hg => HV1.out.block hg)
        have HLO1 := Lib.hid K2x.out.size
        clear hk hk0
        refine wpAnyH_ready (rs := [10]) (by kernel_rfl) (by simp) ?_
        refine (AllReadyH.cons (opAt_lq rfl) (fun K hK => ?_) AllReadyH.nil)
        go_simp
        go_at_call 83
        refine (HNUM.out _ K3x.out).mono ?_
        rintro e X4 ⟨c, rfl, HC2, hk, hk0⟩
        refine hK.out _ _ (HSB.out _ hk0) (fun hHeld => ?_)
        clear hK K
        try simp only [Act.put, List.setIfInBounds_toArray, List.set_cons_zero, List.set_cons_succ]
        have K4x := Lib.hid hk0
        have HZ3 := Lib.hid (Kept.size (rows := []) hk)
        have HBP := Lib.hid (HBP.out.stay hk)
        have HV1 := Lib.hid (HV1.out.stay hk)
        clear hk hk0
        refine wpAnyH_ready (rs := [14]) (by kernel_rfl) (by simp) ?_
        refine (AllReadyH.cons (opAt_lq rfl) (fun K hK => ?_) AllReadyH.nil)
        go_simp
        go_at_call 84
        refine (HDIG.out _ K4x.out).mono ?_
        rintro e X5 ⟨a2, n2, c2, rfl, HV2, hk, hk0⟩
        refine hK.out _ _ (HSB.out _ hk0) (fun hHeld => ?_)
        clear hK K
        try simp only [Act.put, List.setIfInBounds_toArray, List.set_cons_zero, List.set_cons_succ]
        have K5x := Lib.hid hk0
        have HZ4 := Lib.hid (Kept.size (rows := []) hk)
        have HBP := Lib.hid (HBP.out.stay hk)
        have HV1 := Lib.hid (HV1.out.stay hk)
        have HB2 := Lib.hid (show ∀ g, (Value.slice a2 n2 c2).ownBlock = some g → X4.heap.size ≤ g ∧ g < X5.heap.size from fun g hg => HV2.out.block hg)
        have HLO2 := Lib.hid K4x.out.size
        clear hk hk0
        refine wpAnyH_take (i := 15) (v := ?_) (opAt_lq rfl) (by kernel_rfl) (by kernel_rfl) (by kernel_rfl) (fun _ _ _ h => h) (Or.inl ⟨by rfl, ?_⟩) (by assumption) ?_
        rotate_left
        · intro w9 hSw
          (try dsimp only at hSw)
          go_simp
          try with_reducible rfl
        try simp only [Act.put, List.setIfInBounds_toArray, List.set_cons_zero, List.set_cons_succ]
        refine wpAnyH_ready (rs := [17]) (by kernel_rfl) (by simp) ?_
        refine (AllReadyH.cons (opAt_lq rfl) (fun K hK => ?_) AllReadyH.nil)
        obtain ⟨l0, l1, l2⟩ := HBP.out.three
        have f0 := HBP.out.frozen 0
        have f1 := HBP.out.frozen 1
        have f2 := HBP.out.frozen 2
        have hll := HBP.out.lt
        have k3 := K5x.out.set3 hZbp (.slice a1 n1 c1) (.int .i64 c) (.slice a2 n2 c2)
        go_simp
        refine hK.out _ _ (HSB.out _ k3) (fun hHeld => ?_)
        clear hK K
        try simp only [Act.put, List.setIfInBounds_toArray, List.set_cons_zero, List.set_cons_succ]
        have HBK := Lib.hid (HBP.out.set3 (.slice a1 n1 c1) (.int .i64 c) (.slice a2 n2 c2))
        have HW1 := Lib.hid ((HV1.out.kept (Kept.rows3 X5 bp (.slice a1 n1 c1) (.int .i64 c) (.slice a2 n2 c2)) (fun g hg hm => by have := HB1.out g hg; have := Hbp.out; have := HZ1.out; have := HZ2.out; have := HZ3.out; have := HZ4.out; simp at hm; omega)))
        have HW2 := Lib.hid ((HV2.out.kept (Kept.rows3 X5 bp (.slice a1 n1 c1) (.int .i64 c) (.slice a2 n2 c2)) (fun g hg hm => by have := HB2.out g hg; have := Hbp.out; have := HZ1.out; have := HZ2.out; have := HZ3.out; have := HZ4.out; simp at hm; omega)))
        have HAP : Hid (∀ g1, (Value.slice a1 n1 c1).ownBlock = some g1 → ∀ g2, (Value.slice a2 n2 c2).ownBlock = some g2 → g1 < g2) := Lib.hid (fun g1 h1 g2 h2 => by have := HB1.out g1 h1; have := HB2.out g2 h2; have := HZ1.out; have := HZ2.out; have := HZ3.out; have := HZ4.out; omega)
        have K6x := Lib.hid k3
        refine wpAnyH_done (by kernel_rfl) ?_ _
        go_wp2_with fail
        go_meet
        exact ⟨bp, a1, a2, n1, c1, n2, c2, Nt.candP many c (Nt.cut 32 (tx s)), rfl, HBK.out, HW1.out.mono HLO1.out, HW2.out.mono HLO2.out, HAP.out, HCAND.out many c HMANY.out HC2.out, K6x.out⟩
    case rest =>
      clear HSB HNET HNUM HDIG HCAND x0 x1 x2 x3
      obtain ⟨bp, a1, a2, n1, c1, n2, c2, P, rfl, hbk, hs1, hs2, hap, hcd, hkc⟩ := hcut
      have HS1 := Lib.hid hs1
      have HS2 := Lib.hid hs2
      have HAP := Lib.hid hap
      have HP := Lib.hid (Nt.readP_prog (x := P) (t := tx s) HCL.out hcd)
      have HRC := Lib.hid (HR1.out.stay hkc)
      have HBC := Lib.hid hbk
      have HKC := Lib.hid (HK1.out.trans hkc (by simp))
      have HW1 := Lib.hid HK1.out.size
      have HGR := Lib.hid HR1.out.lt
      obtain ⟨r0, r1, r2⟩ := hbk.three
      clear hs1 hs2 hap hcd hkc hbk HR1 HK1
      go_wp2_with fail
      refine (iPlaceText_any P _ _ _ ⟨_, _, rfl, HS1.out, HS2.out⟩).mono ?_
      rintro e w6 ⟨z, rfl, hz, hk6⟩
      have HR6 := Lib.hid (HRC.out.stay hk6)
      have HB6 := Lib.hid (HBC.out.stay hk6)
      have HK6 := Lib.hid (HKC.out.trans hk6 (by simp))
      have HS16 := Lib.hid (HS1.out.stay hk6)
      have HS26 := Lib.hid (HS2.out.stay hk6)
      clear r0 r1 r2 hk6 HRC HBC HKC
      obtain ⟨r0, r1, r2⟩ := HB6.out.three
      obtain ⟨q0, q1, q2⟩ := HR6.out.three
      have f0 := HR6.out.frozen 0
      have f1 := HR6.out.frozen 1
      have f2 := HR6.out.frozen 2
      have hrl := HR6.out.lt
      by_cases hzs : Nt.ptxt P = tx s
      · have d1 : (z.toList == s.toList) = true := str_yes (by rw [hz, hzs])
        have HRB : Hid (Nt.readPB (tx s) = true) := Lib.hid (by rw [HP.out.1, decide_eq_true hzs])
        have HRI : Hid (Nt.readPI (tx s) = P) := Lib.hid (HP.out.2 hzs)
        clear hz hzs
        go_wp2
        (try simp only [Exit.inBlock, Exit.then])
        refine bodyPost_ret (v := .tuple #[.agg #[.slice a1 n1 c1, .int .i64 P.c, .slice a2 n2 c2], .bool true]) ?_ rfl ?_
        · rw [results_cell_tmp rfl]
          simp [asAddr, ret_place (HR6.out.set3 _ _ _)]
        · rw [HRB.out]
          refine ⟨_, rfl, .inr ⟨HRB.out, ?_⟩, HK6.out.set3 (Nat.le_refl _) _ _ _⟩
          have hne := readP_ne HRB.out
          rw [HRI.out] at hne ⊢
          obtain ⟨g1, q1, e1, _, _⟩ := HS16.out.shape rfl hne.1
          obtain ⟨g2, q2, e2, _, _⟩ := HS26.out.shape rfl hne.2
          simp only [Value.slice.injEq] at e1 e2
          obtain ⟨rfl, rfl, rfl⟩ := e1
          obtain ⟨rfl, rfl, rfl⟩ := e2
          have t1 := (HS16.out.kept (Kept.rows3 w6 w.heap.size (.slice (some ⟨g1, 0, none⟩) P.ns.length c1) (.int .i64 P.c) (.slice (some ⟨g2, 0, none⟩) P.ks.length c2)) (fun g hg hm => by have := (HS16.out.block hg).1; have := HW1.out; have := HGR.out; simp at hm; omega)).mono HW1.out
          have t2 := (HS26.out.kept (Kept.rows3 w6 w.heap.size (.slice (some ⟨g1, 0, none⟩) P.ns.length c1) (.int .i64 P.c) (.slice (some ⟨g2, 0, none⟩) P.ks.length c2)) (fun g hg hm => by have := (HS26.out.block hg).1; have := HW1.out; have := HGR.out; simp at hm; omega)).mono HW1.out
          exact ⟨g1, c1, g2, c2, rfl, t1, t2, HAP.out g1 rfl g2 rfl⟩
      · have d1 : (z.toList == s.toList) = false := str_no (by rw [hz]; exact hzs)
        have HRB : Hid (Nt.readPB (tx s) = false) := Lib.hid (by rw [HP.out.1, decide_eq_false hzs])
        clear hz hzs
        go_wp2
        (try simp only [Exit.inBlock, Exit.then])
        refine bodyPost_ret (v := .tuple #[.agg #[.slice none 0 0, .int .i64 0, .slice none 0 0], .bool false]) ?_ rfl ?_
        · rw [results_cell_tmp rfl]
          simp [asAddr, ret_place (HR6.out.set3 _ _ _)]
        · rw [HRB.out]
          exact ⟨_, rfl, .inl ⟨HRB.out, rfl, readP_miss HRB.out⟩, HK6.out.set3 (Nat.le_refl _) _ _ _⟩
  · have d4 : ((L : Int) != 4) = true := by simp; omega
    have HNO := Lib.hid (readP_four (t := tx s) (by rw [HCL.out]; exact h4))
    obtain ⟨q0, q1, q2⟩ := HR1.out.three
    have f0 := HR1.out.frozen 0
    have f1 := HR1.out.frozen 1
    have f2 := HR1.out.frozen 2
    have hrl := HR1.out.lt
    clear h4
    go_wp2
    (try simp only [Exit.inBlock, Exit.then])
    refine bodyPost_ret (v := .tuple #[.agg #[.slice none 0 0, .int .i64 0, .slice none 0 0], .bool false]) ?_ rfl ?_
    · rw [results_cell_tmp rfl]
      simp [asAddr, ret_place (HR1.out.set3 _ _ _)]
    · rw [HNO.out.1]
      exact ⟨_, rfl, .inl ⟨HNO.out.1, rfl, HNO.out.2⟩, HK1.out.set3 (Nat.le_refl _) _ _ _⟩

theorem iReadPlace_any (s : ByteArray) (hs : s.size ≤ 1100000) (w : World) (he : ErrW w) :
    Calls Tryz.prog 31 #[.string s] w fun e w' => ∃ y, e = .returned (.tuple #[y, .bool (Nt.readPB (tx s))]) ∧ Pv w' w.heap.size y (Nt.readPI (tx s)) ∧ Kept [] w w' :=
  (iReadPlaceA_any s hs w he).mono (by rintro e w' ⟨y, rfl, h, hk⟩; exact ⟨y, rfl, h.pv, hk⟩)
end Go.Proofs.YtnajdbnacdnnlaaGreatDoor
