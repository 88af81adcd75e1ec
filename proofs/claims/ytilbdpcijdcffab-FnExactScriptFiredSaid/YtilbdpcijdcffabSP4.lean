/-
  Walks: runs by scripts and how often nodes fire in them, by the program.
-/
import Derived.Test.YtilbdpcijdcffabSP2
import Derived.Test.YtilbdpcijdcffabFB
namespace Go.Proofs.Ytilbdpcijdcffab
open Go.RowKit

/-- 'make([]int, n)', inside a statement whose order is open. -/
theorem step_make_int {ops : Array Oper} {o : Oper} {a : Act} {K : Act → World → Prop} {Q : Exit → Act → World → Prop} {E : Prop} {w : World} (n : Nat)
    (hgd : o.guard = none) (l c : Operand) (hop : o.op = Op.makeSlice 22 l c) (hl : a.eval l = .int .i64 n) (hc : a.eval c = .int .i64 n) (hn : n ≤ 2000000)
    (h : ∀ w', Sl w' w.heap.size (.slice (some ⟨w.heap.size, 0, none⟩) n n) (List.replicate n 0) → Kept [] w w' → w.heap.size < w'.heap.size →
      K (a.put o.dst (.slice (some ⟨w.heap.size, 0, none⟩) n n)) w') : if Region.wanted o (yielded ops a.tmps) = true then Oper.wp Try.prog o a w K Q else E := by
  have hw : Region.wanted o (yielded ops a.tmps) = true := by simp [Region.wanted, hgd]
  rw [if_pos hw]
  obtain ⟨i0, hi, hz0, hz1, hz2⟩ := info_parts info_int
  obtain ⟨w', hrun, r1, r2⟩ := run_make_full (P := Try.prog) w w.heap.size 22 3 i0 (.int .i64 0) 1 Try.underlying22 hi hz0 hz1 .i64 .i64 n (by rw [hz2]; omega) (by unfold maxLen; omega) (Nat.le_refl _)
  unfold Oper.wp
  simp [execOp, hop, hl, hc, hrun, Result.andThen]
  have hs : Sl w' w.heap.size (.slice (some ⟨w.heap.size, 0, none⟩) n n) (List.replicate n 0) := by
    unfold Sl
    have e : ints (List.replicate n 0) = (madeCells (Value.int .i64 0).cells (n * 1)).toList := by
      rw [show (Value.int IntKind.i64 0).cells = #[Value.int .i64 0] from rfl, toList_madeCells_one]
      simp [ints]
    rw [List.length_replicate, e]
    exact r1
  exact h w' hs ((Kept.refl _ _).grown r2 (by simp)) (hs.block (g := w.heap.size) rfl).2

set_option maxHeartbeats 1000000 in
set_option maxRecDepth 100000 in
theorem scriptingOk_any (xs : List Int) (kinds : Int) (ys : List Int) (ls : List (Int × Int)) (steps : Int) (w : World) (v : Value) (base : Nat) (u : Value) (base' : Nat) (r : Value) (base2 : Nat) (hs : Sl w base v xs) (ht : Sl w base' u ys) (hg : Sg w base2 r ls) :
    Calls Try.prog 27 #[v, .int .i64 kinds, u, r, .int .i64 steps] w fun e w' => e = .returned (.bool (Nt.playB xs kinds ys ls steps)) ∧ Kept [] w w' := by
  have HS := Lib.hid hs
  have HT := Lib.hid ht
  have HG := Lib.hid hg
  obtain ⟨a, cap, rfl, _, hm, _⟩ := hs.any
  obtain ⟨a', cap', rfl, _, hm', _⟩ := ht.any
  obtain ⟨a2, cap2, rfl, _, hm2, _⟩ := hg.any
  clear hs ht hg
  cases h1 : Nt.fireB xs kinds ys
  · have HF := Lib.hid (Nt.playB_no1 (steps := steps) (ls := ls) h1)
    go_enter Try.func27, Try.ntmps27
    go_wp2_with (go_at_call 33; refine (firingOk_any xs kinds ys _ _ _ _ _ HS.out HT.out).mono ?_; rintro e w' ⟨rfl, rfl⟩; rw [h1])
    go_ret
    exact ⟨by rw [HF.out]; rfl, Kept.refl _ _⟩
  · cases h2 : Nt.scB (xs.length : Int) ls
    · have HF := Lib.hid (Nt.playB_no2 (xs := xs) (kinds := kinds) (ys := ys) (steps := steps) h2)
      go_enter Try.func27, Try.ntmps27
      go_wp2_with (first | (go_at_call 33; refine (firingOk_any xs kinds ys _ _ _ _ _ HS.out HT.out).mono ?_; rintro e w' ⟨rfl, rfl⟩; rw [h1]) | (go_at_call 34; refine (iScriptOk_any (xs.length : Int) ls _ _ _ HG.out).mono ?_; rintro e w2 ⟨rfl, hk2⟩; rw [h2]; have HK2 := Lib.hid hk2; clear hk2))
      go_ret
      exact ⟨by rw [HF.out]; rfl, HK2.out⟩
    · cases h3 : Nt.stepsB steps
      all_goals
        have HF : Hid (Nt.playB xs kinds ys ls steps = Nt.stepsB steps) := Lib.hid (by unfold Nt.playB; rw [h1, h2]; rfl)
        go_enter Try.func27, Try.ntmps27
        go_wp2_with (first | (go_at_call 33; refine (firingOk_any xs kinds ys _ _ _ _ _ HS.out HT.out).mono ?_; rintro e w' ⟨rfl, rfl⟩; rw [h1]) | (go_at_call 34; refine (iScriptOk_any (xs.length : Int) ls _ _ _ HG.out).mono ?_; rintro e w2 ⟨rfl, hk2⟩; rw [h2]; have HK2 := Lib.hid hk2; clear hk2) | (go_at_call 35; refine (runOk_any steps _).mono ?_; rintro e w3 ⟨rfl, rfl⟩; rw [h3]))
        go_ret
        exact ⟨by rw [HF.out, h3]; rfl, HK2.out⟩

set_option maxHeartbeats 1000000 in
set_option maxRecDepth 100000 in
theorem lightUp_any (L F L' F' : List Nat) (n : Nat) (hL : L.length = n) (hF : F.length = n) (d : Nat) (hd : d < n) (hF1 : F.getD d 0 ≤ 1000) (h1 : (if L.getD d 0 = 0 then L.set d 1 else L) = L') (h2 : (if L.getD d 0 = 0 then F.set d (F.getD d 0 + 1) else F) = F')
    (w : World) (base : Nat) (g cap g' cap' : Nat) (hne : g ≠ g')
    (hs : Sl w base (.slice (some ⟨g, 0, none⟩) n cap) (Nt.nats L)) (ht : Sl w base (.slice (some ⟨g', 0, none⟩) n cap') (Nt.nats F)) :
    Calls Try.prog 37 #[.slice (some ⟨g, 0, none⟩) n cap, .slice (some ⟨g', 0, none⟩) n cap', .int .i64 (d : Int)] w fun e w' => e = .returned (.tuple #[]) ∧ Sl w' base (.slice (some ⟨g, 0, none⟩) n cap) (Nt.nats L') ∧
      Sl w' base (.slice (some ⟨g', 0, none⟩) n cap') (Nt.nats F') ∧ Kept [g, g'] w w' := by
  obtain ⟨c1, r1⟩ := hs.at d (by rw [Nt.nats_length]; omega)
  obtain ⟨c2, r2⟩ := ht.at d (by rw [Nt.nats_length]; omega)
  rw [Nt.nats_get] at c1 c2
  have HS := Lib.hid hs
  have HT := Lib.hid ht
  have HLL : Hid (n = (Nt.nats L).length) := Lib.hid (by rw [Nt.nats_length, hL])
  have HFL : Hid (n = (Nt.nats F).length) := Lib.hid (by rw [Nt.nats_length, hF])
  have HNE := Lib.hid hne
  clear hs ht hL hF
  generalize L.getD d 0 = x at *
  generalize F.getD d 0 = y at *
  by_cases h0 : x = 0
  · subst h0
    rw [if_pos rfl] at h1 h2
    have c2' : ∀ q, (w.setCell ⟨g, d, none⟩ q).cell? ⟨g', d, none⟩ = some (.int .i64 (y : Int)) := fun q => by
      rw [World.cell?_setCell_other w ⟨g, d, none⟩ ⟨g', d, none⟩ q (fun e => hne (by rw [Addr.mk.injEq] at e; first | exact e.1.symm | exact e.1))]; exact c2
    have HKA := Lib.hid ((((Kept.refl [g, g'] w).setCell (p := ⟨g, d, none⟩) (.inl (by simp)) (.int .i64 1)).setCell (p := ⟨g', d, none⟩) (.inl (by simp)) (.int .i64 ((y + 1 : Nat) : Int))))
    have hs1 := HS.out.set HLL.out d 1
    have HS1 : Hid (Sl _ base (.slice (some ⟨g, 0, none⟩) n cap) (Nt.nats L')) := Lib.hid (by rw [← h1, Nt.nats_set]; exact hs1.kept ((Kept.refl [g'] _).setCell (p := ⟨g', d, none⟩) (.inl (by simp)) (.int .i64 ((y + 1 : Nat) : Int))) (fun q hq => by simp [Value.ownBlock] at hq; subst hq; simpa using hne))
    have HT1 : Hid (Sl _ base (.slice (some ⟨g', 0, none⟩) n cap') (Nt.nats F')) := Lib.hid (by rw [← h2, Nt.nats_set]; exact (HT.out.kept ((Kept.refl [g] w).setCell (p := ⟨g, d, none⟩) (.inl (by simp)) (.int .i64 1)) (fun q hq => by simp [Value.ownBlock] at hq; subst hq; simpa using Ne.symm hne)).set HFL.out d ((y + 1 : Nat) : Int))
    have hy1 : ((y + 1 : Nat) : Int) = (y : Int) + 1 := by omega
    rw [hy1] at HKA HS1 HT1
    clear hs1 hne h1 h2
    go_enter Try.func37, Try.ntmps37
    go_wp2
    go_end0
    exact ⟨rfl, HS1.out, HT1.out, HKA.out⟩
  · have h0' : ((x : Int) == 0) = false := by simp; omega
    rw [if_neg h0] at h1 h2
    subst h1
    subst h2
    clear h0 hne
    go_enter Try.func37, Try.ntmps37
    go_wp2
    go_end0
    exact ⟨rfl, HS.out, HT.out, Kept.refl _ _⟩

def lenV : Value → Nat
  | .slice _ n _ => n
  | _ => 0
/-- What is left of a script. -/
def LeftIs (g m j : Nat) (v : Value) : Prop := ∃ (a : Option Addr) (cap : Nat), v = .slice a (m - j) cap ∧ m - j ≤ cap ∧ cap ≤ 9223372036854775807 ∧ (j < m → a = some ⟨g, j * 2, none⟩)

set_option linter.unusedSimpArgs false in

set_option maxHeartbeats 4000000 in
set_option maxRecDepth 100000 in
theorem scripted_any (ns : List Nat) (c : Nat) (ks : List Nat) (sc : List (Nat × Nat)) (t : Nat) (ok : Nt.Ok ns) (st : Nt.St c ks) (hl : ks.length = ns.length) (so : Nt.SOk ns.length sc) (ht60 : t ≤ 60) (w : World) (v : Value) (base : Nat) (u : Value) (base' : Nat) (r : Value) (base2 : Nat)
    (hs : Sl w base v (Nt.nats ns)) (ht : Sl w base' u (Nt.nats ks)) (hg : Sg w base2 r (Nt.prs sc)) :
    Calls Try.prog 28 #[v, .int .i64 (c : Int), u, r, .int .i64 (t : Int)] w fun e w' => ∃ z1 z2, e = .returned (.tuple #[z1, z2]) ∧ Sl w' w.heap.size z1 (Nt.nats (Nt.runS ns c ks sc t)) ∧ Sl w' w.heap.size z2 (Nt.nats (Nt.firedSL ns c ks sc t)) ∧ Kept [] w w' := by
  obtain ⟨n, hn⟩ : ∃ n, n = ns.length := ⟨_, rfl⟩
  have hp : 0 < n := by have := ok.some; omega
  have h6 : n ≤ 6 := by have := ok.few; omega
  obtain ⟨m, hm⟩ : ∃ m, m = sc.length := ⟨_, rfl⟩
  have hm8 : m ≤ 8 := by have := so.few; omega
  have HKP : Hid (0 < (Nt.nats ks).length) := Lib.hid (by rw [Nt.nats_length]; omega)
  have HKT : Hid ((Nt.nats ks).length ≤ 1000) := Lib.hid (by rw [Nt.nats_length]; omega)
  have HKL : Hid (ks.length = n) := Lib.hid (by omega)
  have HRL : Hid (∀ k, (Nt.runS ns c ks sc k).length = n) := Lib.hid (fun k => by rw [Nt.runS_length]; omega)
  have HRS : Hid (∀ k, Nt.St c (Nt.litS (Nt.runS ns c ks sc k) sc k)) := Lib.hid (fun k => Nt.litS_st (Nt.runS_st ns st sc k) sc k)
  have HLL : Hid (∀ k j, (Nt.litS (Nt.runS ns c ks sc k) (sc.take j) k).length = n) := Lib.hid (fun k j => by rw [Nt.litS_length, HRL.out])
  have HLA : Hid (∀ k, (Nt.litS (Nt.runS ns c ks sc k) sc k).length = ns.length) := Lib.hid (fun k => by rw [Nt.litS_length, HRL.out, hn])
  have HFL : Hid (∀ k j, (Nt.litF (Nt.firedSL ns c ks sc k) (Nt.runS ns c ks sc k) (sc.take j) k).length = n) := Lib.hid (fun k j => by rw [Nt.litF_length, HRL.out])
  have HF0 : Hid (∀ k, (Nt.firedSL ns c ks sc k).length = n) := Lib.hid (fun k => by rw [Nt.firedSL_length, hn])
  have HFB : Hid (∀ k j q, k ≤ 60 → q < n → (Nt.litF (Nt.firedSL ns c ks sc k) (Nt.runS ns c ks sc k) (sc.take j) k).getD q 0 ≤ 1000) := Lib.hid (fun k j q hk hq => by
    rw [Nt.litF_get _ _ _ _ (by rw [HRL.out]; exact hq)]
    have := Nt.firedS_le2 ns c ks sc k (k := q) (by omega)
    split <;> omega)
  have HFA : Hid (∀ k, (Nt.litF (Nt.firedSL ns c ks sc k) (Nt.runS ns c ks sc k) sc k).length = n) := Lib.hid (fun k => by rw [Nt.litF_length, HRL.out])
  have HFBA : Hid (∀ k, k ≤ 60 → ∀ q, q < n → (Nt.litF (Nt.firedSL ns c ks sc k) (Nt.runS ns c ks sc k) sc k).getD q 0 ≤ 1000) := Lib.hid (fun k hk q hq => by
    rw [Nt.litF_get _ _ _ _ (by rw [HRL.out]; exact hq)]
    have := Nt.firedS_le2 ns c ks sc k (k := q) (by omega)
    split <;> omega)
  have HEND : Hid (∀ k, Nt.counted (Nt.litF (Nt.firedSL ns c ks sc k) (Nt.runS ns c ks sc k) sc k) (Nt.runS ns c ks sc (k + 1)) = Nt.firedSL ns c ks sc (k + 1)) := Lib.hid (fun k => (Nt.firedSL_succ c hl sc k).symm)
  have HST0 : Hid (∀ k j, Nt.dueAt sc k j → Nt.litS (Nt.runS ns c ks sc k) (sc.take j) k = Nt.runS ns c ks sc k ∧ Nt.litF (Nt.firedSL ns c ks sc k) (Nt.runS ns c ks sc k) (sc.take j) k = Nt.firedSL ns c ks sc k) := Lib.hid (fun k j hd =>
    ⟨Nt.litS_start hd, Nt.litF_nil (by rw [HF0.out, HRL.out]) (Nt.litS_start hd)⟩)
  have HSTOP : Hid (∀ k j, Nt.dueIn sc k j → (∀ (hj : j < sc.length), (sc[j]).1 ≠ k) → Nt.dueAt sc (k + 1) j ∧ Nt.litS (Nt.runS ns c ks sc k) (sc.take j) k = Nt.litS (Nt.runS ns c ks sc k) sc k ∧ Nt.litF (Nt.firedSL ns c ks sc k) (Nt.runS ns c ks sc k) (sc.take j) k = Nt.litF (Nt.firedSL ns c ks sc k) (Nt.runS ns c ks sc k) sc k) := Lib.hid (fun k j hd hs =>
    ⟨Nt.dueIn_stop so hd hs, Nt.litS_stop so hd hs, Nt.litF_same (Nt.litS_stop so hd hs)⟩)
  have HSTEP : Hid (∀ k j, j < m → ∃ a b : Nat, Nt.at2 (Nt.prs sc) j = ((a : Int), (b : Int)) ∧ b < n ∧ (∀ (hj : j < sc.length), (sc[j]).1 = a) ∧
      (a = k → Nt.dueIn sc k j → Nt.dueIn sc k (j + 1) ∧ (if (Nt.litS (Nt.runS ns c ks sc k) (sc.take j) k).getD b 0 = 0 then (Nt.litS (Nt.runS ns c ks sc k) (sc.take j) k).set b 1 else Nt.litS (Nt.runS ns c ks sc k) (sc.take j) k) = Nt.litS (Nt.runS ns c ks sc k) (sc.take (j + 1)) k ∧
        (if (Nt.litS (Nt.runS ns c ks sc k) (sc.take j) k).getD b 0 = 0 then (Nt.litF (Nt.firedSL ns c ks sc k) (Nt.runS ns c ks sc k) (sc.take j) k).set b ((Nt.litF (Nt.firedSL ns c ks sc k) (Nt.runS ns c ks sc k) (sc.take j) k).getD b 0 + 1) else Nt.litF (Nt.firedSL ns c ks sc k) (Nt.runS ns c ks sc k) (sc.take j) k) = Nt.litF (Nt.firedSL ns c ks sc k) (Nt.runS ns c ks sc k) (sc.take (j + 1)) k)) := Lib.hid (fun k j hj => by
    have hj' : j < sc.length := by omega
    have hb : (sc[j]).2 < n := by rw [hn]; exact so.node _ (List.getElem_mem hj')
    refine ⟨(sc[j]).1, (sc[j]).2, Nt.at2_prs sc hj', hb, fun _ => rfl, fun ha hd => ⟨Nt.dueIn_succ hd hj' ha, ?_, ?_⟩⟩
    · by_cases h0 : (Nt.litS (Nt.runS ns c ks sc k) (sc.take j) k).getD (sc[j]).2 0 = 0
      · rw [if_pos h0]; exact Nt.litS_hit hj' ha h0
      · rw [if_neg h0]
        exact Nt.litS_miss hj' (fun q _ e => by rw [e] at h0; exact h0)
    · by_cases h0 : (Nt.litS (Nt.runS ns c ks sc k) (sc.take j) k).getD (sc[j]).2 0 = 0
      · rw [if_pos h0]; exact (Nt.litF_hit hj' ha (by rw [HRL.out]; exact hb) h0).symm
      · rw [if_neg h0]
        exact Nt.litF_same (Nt.litS_miss hj' (fun q _ e => by rw [e] at h0; exact h0)))
  have HFZ : Hid (Nt.nats (Nt.firedSL ns c ks sc 0) = List.replicate n 0) := Lib.hid (by rw [Nt.firedSL_zero, hn]; unfold Nt.nats; rw [List.map_replicate]; rfl)
  have HD0 := Lib.hid (Nt.dueAt_zero sc)
  have HMS := Lib.hid hm
  have HS := Lib.hid hs
  have HOK := Lib.hid ok
  have HTD : Hid (Sl w.drew base' u (Nt.nats ks)) := Lib.hid ht
  have HPL : (Nt.prs sc).length = m := by rw [Nt.prs_length, hm]
  obtain ⟨aS, capS, rfl, hcapS, hcm, hcS⟩ := hg.any
  rw [HPL] at hcapS hcm hcS ⊢
  have hgS : ∃ gS, LeftIs gS m 0 (.slice aS m capS) ∧ (∀ j, j < m → gS < w.heap.size ∧ w.cell? ⟨gS, j * 2, none⟩ = some (.int .i64 (Nt.at2 (Nt.prs sc) j).1) ∧ w.cell? ⟨gS, j * 2 + 1, none⟩ = some (.int .i64 (Nt.at2 (Nt.prs sc) j).2)) := by
    have hcap9 : capS ≤ 9223372036854775807 := by
      rcases hg.form with ⟨h, _⟩ | ⟨g, cap, h, _, _, _, h9, _⟩
      · simp at h; omega
      · simp at h; omega
    by_cases h0 : 0 < m
    · obtain ⟨gS, rfl, _⟩ := hcS 0 h0
      refine ⟨gS, ⟨_, _, rfl, hcapS, hcap9, fun _ => by simp⟩, fun j hj => ?_⟩
      obtain ⟨g2, e, _, h1, h2, h3⟩ := hcS j hj
      simp at e
      subst e
      exact ⟨h1, h2, h3⟩
    · exact ⟨0, ⟨_, _, rfl, hcapS, hcap9, fun h => absurd h h0⟩, fun j hj => absurd hj (by omega)⟩
  obtain ⟨gS, hleft, hcells⟩ := hgS
  have HLEFT := Lib.hid hleft
  have HCELLS := Lib.hid hcells
  obtain ⟨g0, cap0, rfl, _, _⟩ := hs.row hn.symm hp
  obtain ⟨g1, cap1, rfl, _, _⟩ := ht.row HKL.out hp
  clear hs ht hg hcS hleft hcells hcapS hcm ok st hl so hn hm HPL
  go_enter Try.func28, Try.ntmps28
  go_wp2_with fail
  refine wp_region_held_drew (S := fun _ => True) (by kernel_rfl) trivial (fun hHeld => ?_)
  refine wpAnyH_take (i := 0) (v := ?_) (opAt_list rfl) (by kernel_rfl) (by kernel_rfl) (by kernel_rfl) (fun _ _ _ h => h) (Or.inl ⟨by rfl, ?_⟩) (by assumption) ?_
  rotate_left
  · intro w9 hSw
    (try dsimp only at hSw)
    go_simp
    try with_reducible rfl
  try simp only [Act.put, List.setIfInBounds_toArray, List.set_cons_zero, List.set_cons_succ]
  refine wpAnyH_take (i := 2) (v := ?_) (opAt_list rfl) (by kernel_rfl) (by kernel_rfl) (by kernel_rfl) (fun _ _ _ h => h) (Or.inl ⟨by rfl, ?_⟩) (by assumption) ?_
  rotate_left
  · intro w9 hSw
    (try dsimp only at hSw)
    go_simp
    try with_reducible rfl
  try simp only [Act.put, List.setIfInBounds_toArray, List.set_cons_zero, List.set_cons_succ]
  refine wpAnyH_take (i := 3) (v := ?_) (opAt_list rfl) (by kernel_rfl) (by kernel_rfl) (by kernel_rfl) (fun _ _ _ h => h) (Or.inl ⟨by rfl, ?_⟩) (by assumption) ?_
  rotate_left
  · intro w9 hSw
    (try dsimp only at hSw)
    go_simp
    try with_reducible rfl
  try simp only [Act.put, List.setIfInBounds_toArray, List.set_cons_zero, List.set_cons_succ]
  refine wpAnyH_ready (rs := [1, 4]) (by kernel_rfl) (by simp) ?_
  refine AllReadyH.cons (opAt_list rfl) (fun K hK => ?_) (AllReadyH.cons (opAt_list rfl) (fun K hK => ?_) AllReadyH.nil)
  · go_simp
    go_at_call 36
    refine (cloneInts_any _ HKP.out HKT.out _ _ _ HTD.out).mono ?_
    rintro e w5 ⟨zv, rfl, hz, hkz⟩
    refine hK.out _ _ trivial (fun hHeld => ?_)
    clear hK K
    try simp only [Act.put, List.setIfInBounds_toArray, List.set_cons_zero, List.set_cons_succ]
    refine wpAnyH_take (i := 5) (v := ?_) (opAt_list rfl) (by kernel_rfl) (by kernel_rfl) (by kernel_rfl) (fun _ _ _ h => h) (Or.inl ⟨by rfl, ?_⟩) (by assumption) ?_
    rotate_left
    · intro w9 hSw
      (try dsimp only at hSw)
      go_simp
      try with_reducible rfl
    try simp only [Act.put, List.setIfInBounds_toArray, List.set_cons_zero, List.set_cons_succ]
    refine wpAnyH_ready (rs := [4]) (by kernel_rfl) (by simp) ?_
    refine AllReadyH.cons (opAt_list rfl) (fun K hK => ?_) AllReadyH.nil
    refine step_make_int n rfl _ _ rfl rfl rfl (by omega) ?_
    intro w6 hs6 hk6 hlt6
    refine hK.out _ _ trivial (fun hHeld => ?_)
    clear hK K
    try simp only [Act.put, List.setIfInBounds_toArray, List.set_cons_zero, List.set_cons_succ]
    refine wpAnyH_take (i := 6) (v := ?_) (opAt_list rfl) (by kernel_rfl) (by kernel_rfl) (by kernel_rfl) (fun _ _ _ h => h) (Or.inl ⟨by rfl, ?_⟩) (by assumption) ?_
    rotate_left
    · intro w9 hSw
      (try dsimp only at hSw)
      go_simp
      try with_reducible rfl
    try simp only [Act.put, List.setIfInBounds_toArray, List.set_cons_zero, List.set_cons_succ]
    refine wpAnyH_done (by kernel_rfl) ?_ _
    have hkz' := Kept.undrew hkz
    obtain ⟨gN, capN, rfl, hgn, -⟩ := hz.row HKL.out hp
    have HGN : Hid (w.heap.size ≤ gN) := Lib.hid (hz.block (g := gN) rfl).1
    have HGF : Hid (w.heap.size ≤ w5.heap.size) := Lib.hid hkz'.size
    have HNE : Hid (gN ≠ w5.heap.size) := Lib.hid (fun e => by omega)
    have HZ := Lib.hid ((hz.mono (show w.heap.size ≤ w.drew.heap.size from Nat.le_refl _)).stay hk6)
    have HC := Lib.hid (hs6.mono (show w.heap.size ≤ w5.heap.size from hkz'.size))
    have HK6 := Lib.hid (hkz'.trans hk6 (by simp))
    clear hz hkz hkz' hs6 hk6 hgn hlt6 hHeld HTD
    generalize w5.heap.size = gf at *
    clear w5
    have HZ0 : Hid (Sl w6 w.heap.size (.slice (some ⟨gN, 0, none⟩) n capN) (Nt.nats (Nt.runS ns c ks sc 0))) := HZ
    have HC0 : Hid (Sl w6 w.heap.size (.slice (some ⟨gf, 0, none⟩) n n) (Nt.nats (Nt.firedSL ns c ks sc 0))) := Lib.hid (by rw [HFZ.out]; exact HC.out)
    clear HZ HC HFZ
    go_wp2
    go_loopw [12, 14, 23] (fun now left i wr => ∃ (k j gW capW : Nat), k ≤ t ∧ i = .int .i64 k ∧ now = .slice (some ⟨gW, 0, none⟩) n capW ∧ w.heap.size ≤ gW ∧ gW ≠ gf ∧ Nt.dueAt sc k j ∧ LeftIs gS m j left ∧
        Sl wr w.heap.size (.slice (some ⟨gW, 0, none⟩) n capW) (Nt.nats (Nt.runS ns c ks sc k)) ∧ Sl wr w.heap.size (.slice (some ⟨gf, 0, none⟩) n n) (Nt.nats (Nt.firedSL ns c ks sc k)) ∧ Kept [] w wr) (fun _ _ i _ => t - (intOf i).toNat)
    case atStart => exact ⟨0, 0, gN, capN, Nat.zero_le _, rfl, rfl, HGN.out, HNE.out, HD0.out, HLEFT.out, HZ0.out, HC0.out, HK6.out⟩
    case round =>
      clear HZ0 HC0 HK6 HLEFT HD0 HNE HGN
      obtain ⟨k, j0, gW, capW, hk, rfl, rfl, hgw, hgne, hdue, hleft, hsl, hfl, hkept⟩ := hrel
      have HGW := Lib.hid hgw
      have HGNE := Lib.hid hgne
      by_cases hlt : k < t
      · have hst := HST0.out k j0 hdue
        have HL0 := Lib.hid hleft
        have HD1 := Lib.hid (Nt.dueIn_of hdue)
        have HA0 : Hid (Sl wr w.heap.size (.slice (some ⟨gW, 0, none⟩) n capW) (Nt.nats (Nt.litS (Nt.runS ns c ks sc k) (sc.take j0) k))) := Lib.hid (by rw [hst.1]; exact hsl)
        have HB0 : Hid (Sl wr w.heap.size (.slice (some ⟨gf, 0, none⟩) n n) (Nt.nats (Nt.litF (Nt.firedSL ns c ks sc k) (Nt.runS ns c ks sc k) (sc.take j0) k))) := Lib.hid (by rw [hst.2]; exact hfl)
        have HK := Lib.hid hkept
        have hk60 : k ≤ 60 := by omega
        obtain ⟨aL, capL, rfl, _, _, _⟩ := hleft
        clear hdue hsl hfl hkept hst hgw hgne
        go_wp2
        go_loopw [14] (fun left wx => ∃ j : Nat, Nt.dueIn sc k j ∧ LeftIs gS m j left ∧ Sl wx w.heap.size (.slice (some ⟨gW, 0, none⟩) n capW) (Nt.nats (Nt.litS (Nt.runS ns c ks sc k) (sc.take j) k)) ∧
            Sl wx w.heap.size (.slice (some ⟨gf, 0, none⟩) n n) (Nt.nats (Nt.litF (Nt.firedSL ns c ks sc k) (Nt.runS ns c ks sc k) (sc.take j) k)) ∧ Kept [] w wx) (fun left _ => lenV left)
        case atStart => exact ⟨j0, HD1.out, HL0.out, HA0.out, HB0.out, HK.out⟩
        case round =>
          clear HD1 HL0 HA0 HB0 HK
          obtain ⟨j, hdue, hleft, hsl, hfl, hkept⟩ := hrel
          obtain ⟨aL, capL, rfl, hcl, hcm, hal⟩ := hleft
          have HSL := Lib.hid hsl
          have HFLX := Lib.hid hfl
          have HKX := Lib.hid hkept
          by_cases hj : j < m
          · obtain rfl := hal hj
            obtain ⟨x, b, hx, hb, hxe, hstep⟩ := HSTEP.out k j hj
            obtain ⟨hgl, c1, c2⟩ := HCELLS.out j hj
            rw [hx] at c1 c2
            have k1 := (hkept.cell (p := ⟨gS, j * 2, none⟩) hgl (by simp)).trans c1
            have k2 := (hkept.cell (p := ⟨gS, j * 2 + 1, none⟩) hgl (by simp)).trans c2
            have d0 : decide (0 < m - j) = true := dec_of (by omega)
            have d0' : decide ((0 : Int) < ((m - j : Nat) : Int)) = true := dec_of (by omega)
            obtain ⟨q, hq⟩ : ∃ q, m - j = q + 1 := ⟨m - j - 1, by omega⟩
            by_cases hxk : x = k
            · have d1 : ((x : Int) == (k : Int)) = true := by simp [hxk]
              obtain ⟨hd2, he1, he2⟩ := hstep hxk hdue
              have HD2 := Lib.hid hd2
              have HLU := Lib.hid (lightUp_any _ _ _ _ n (HLL.out k j) (HFL.out k j) b hb (HFB.out k j b hk60 hb) he1 he2 wr w.heap.size gW capW gf n HGNE.out HSL.out HFLX.out)
              have HQ : Hid (m - (j + 1) = q) := Lib.hid (by omega)
              have hcl2 : q + 1 ≤ capL := by omega
              have hqm : q + 1 ≤ 8 := by omega
              have HJ := Lib.hid hj
              clear hstep hxe hx c1 c2 hsl hfl hkept hdue hd2 he1 he2 hgl hxk hal hcl
              rw [hq] at d0 d0' ⊢
              clear hq
              go_wp2_with (go_at_call 37; refine HLU.out.mono ?_; rintro e wy ⟨rfl, hsy, hfy, hky⟩; have HSY := Lib.hid hsy; have HFY := Lib.hid hfy; have HKY := Lib.hid (HKX.out.trans hky (fun x hx => by simp at hx; rcases hx with rfl | rfl; exact .inr HGW.out; exact .inr HGF.out)); clear hsy hfy hky)
              all_goals
                go_roundw
                case rel => exact ⟨j + 1, HD2.out, ⟨_, _, by rw [HQ.out], by rw [HQ.out]; omega, by omega, fun h => by rw [if_neg (by have := HQ.out; omega), show (j + 1) * 2 = j * 2 + 2 by omega]⟩, HSY.out, HFY.out, HKY.out⟩
                case measure => simp [lenV]
            · have d1 : ((x : Int) == (k : Int)) = false := by simp; omega
              have hst := HSTOP.out k j hdue (fun hj' => by rw [hxe hj']; exact hxk)
              clear hstep hxe hx c1 c2 hgl hxk hq
              obtain ⟨hd2, he1, he2⟩ := hst
              rw [he1] at hsl
              rw [he2] at hfl
              have HS9 := Lib.hid hsl
              have HF9 := Lib.hid hfl
              have HD9 := Lib.hid hd2
              have HL9 : Hid (LeftIs gS m j (.slice (some ⟨gS, j * 2, none⟩) (m - j) capL)) := Lib.hid ⟨_, _, rfl, hcl, hcm, hal⟩
              clear hsl hfl hkept hdue hd2 he1 he2 hal hcl hcm HSL HFLX
              go_wp2_with fail
              refine (firedState_any ns c _ HOK.out (HRS.out k) (HLA.out k) _ _ _ _ _ (HS.out.stay HKX.out) HS9.out).mono ?_
              rintro e w7 ⟨z7, rfl, hz7, hk7⟩
              rw [show Nt.step ns c (Nt.litS (Nt.runS ns c ks sc k) sc k) = Nt.runS ns c ks sc (k + 1) from rfl] at hz7
              obtain ⟨g7, cap7, rfl, hg7, -⟩ := hz7.row (HRL.out (k + 1)) hp
              have hb7 := (hz7.block (g := g7) rfl).1
              have hf7 := (HF9.out.block (g := gf) rfl).2
              have HNE7 : Hid (g7 ≠ gf) := Lib.hid (fun e => by rw [e] at hb7; omega)
              have HG7 : Hid (w.heap.size ≤ g7) := Lib.hid (Nat.le_trans HKX.out.size hb7)
              have HZ7 := Lib.hid (hz7.mono HKX.out.size)
              have HF7 := Lib.hid (HF9.out.stay hk7)
              have HK7 := Lib.hid (HKX.out.trans hk7 (by simp))
              clear hz7 hk7 hg7 hb7 hf7 HS9 HF9 HKX
              go_wp2_with fail
              refine (countFiring_any _ _ n (HFA.out k) (HRL.out (k + 1)) hp h6 (HFBA.out k hk60) _ _ _ _ _ HF7.out HZ7.out (fun g9 h9 => by simp [Value.ownBlock] at h9; subst h9; simpa [Value.ownBlock] using HNE7.out)).mono ?_
              rintro e w8 ⟨rfl, hs8, hk8⟩
              rw [HEND.out k] at hs8
              have HS8 := Lib.hid hs8
              have HZ8 := Lib.hid (HZ7.out.kept hk8 (fun g9 h9 => by simp [Value.ownBlock] at h9; subst h9; simpa [Value.ownBlock] using HNE7.out))
              have HK8 := Lib.hid (HK7.out.trans hk8 (fun x hx => by simp [Value.ownBlock] at hx; rw [hx]; exact .inr HGF.out))
              clear hs8 hk8 HZ7 HF7 HK7
              go_wp2
              go_roundw
              case rel => exact ⟨k + 1, j, g7, cap7, by omega, by go_num, rfl, HG7.out, HNE7.out, HD9.out, HL9.out, HZ8.out, HS8.out, HK8.out⟩
              case measure => simp [intOf]; omega
          · have hmj : m - j = 0 := by omega
            have d0 : decide (0 < m - j) = false := dec_not (by omega)
            have d0' : decide ((0 : Int) < ((m - j : Nat) : Int)) = false := dec_not (by omega)
            have hst := HSTOP.out k j hdue (fun hj' => absurd hj' (by have := HMS.out; omega))
            clear hmj
            obtain ⟨hd2, he1, he2⟩ := hst
            rw [he1] at hsl
            rw [he2] at hfl
            have HS9 := Lib.hid hsl
            have HF9 := Lib.hid hfl
            have HD9 := Lib.hid hd2
            have HL9 : Hid (LeftIs gS m j (.slice aL (m - j) capL)) := Lib.hid ⟨_, _, rfl, hcl, hcm, hal⟩
            clear hsl hfl hkept hdue hd2 he1 he2 hal hcl hcm HSL HFLX
            go_wp2_with fail
            refine (firedState_any ns c _ HOK.out (HRS.out k) (HLA.out k) _ _ _ _ _ (HS.out.stay HKX.out) HS9.out).mono ?_
            rintro e w7 ⟨z7, rfl, hz7, hk7⟩
            rw [show Nt.step ns c (Nt.litS (Nt.runS ns c ks sc k) sc k) = Nt.runS ns c ks sc (k + 1) from rfl] at hz7
            obtain ⟨g7, cap7, rfl, hg7, -⟩ := hz7.row (HRL.out (k + 1)) hp
            have hb7 := (hz7.block (g := g7) rfl).1
            have hf7 := (HF9.out.block (g := gf) rfl).2
            have HNE7 : Hid (g7 ≠ gf) := Lib.hid (fun e => by rw [e] at hb7; omega)
            have HG7 : Hid (w.heap.size ≤ g7) := Lib.hid (Nat.le_trans HKX.out.size hb7)
            have HZ7 := Lib.hid (hz7.mono HKX.out.size)
            have HF7 := Lib.hid (HF9.out.stay hk7)
            have HK7 := Lib.hid (HKX.out.trans hk7 (by simp))
            clear hz7 hk7 hg7 hb7 hf7 HS9 HF9 HKX
            go_wp2_with fail
            refine (countFiring_any _ _ n (HFA.out k) (HRL.out (k + 1)) hp h6 (HFBA.out k hk60) _ _ _ _ _ HF7.out HZ7.out (fun g9 h9 => by simp [Value.ownBlock] at h9; subst h9; simpa [Value.ownBlock] using HNE7.out)).mono ?_
            rintro e w8 ⟨rfl, hs8, hk8⟩
            rw [HEND.out k] at hs8
            have HS8 := Lib.hid hs8
            have HZ8 := Lib.hid (HZ7.out.kept hk8 (fun g9 h9 => by simp [Value.ownBlock] at h9; subst h9; simpa [Value.ownBlock] using HNE7.out))
            have HK8 := Lib.hid (HK7.out.trans hk8 (fun x hx => by simp [Value.ownBlock] at hx; rw [hx]; exact .inr HGF.out))
            clear hs8 hk8 HZ7 HF7 HK7
            go_wp2
            go_roundw
            case rel => exact ⟨k + 1, j, g7, cap7, by omega, by go_num, rfl, HG7.out, HNE7.out, HD9.out, HL9.out, HZ8.out, HS8.out, HK8.out⟩
            case measure => simp [intOf]; omega
      · have hk' : t = k := by omega
        subst hk'
        have HS9 := Lib.hid hsl
        have HF9 := Lib.hid hfl
        have HK9 := Lib.hid hkept
        obtain ⟨aL, capL, rfl, -, -, -⟩ := hleft
        clear hsl hfl hkept hdue
        go_wp2
        go_ret2
        exact ⟨_, _, rfl, HS9.out, HF9.out, HK9.out⟩
  · refine step_make_int n rfl _ _ rfl rfl rfl (by omega) ?_
    intro w5 hs5 hk5 hlt5
    refine hK.out _ _ trivial (fun hHeld => ?_)
    clear hK K
    try simp only [Act.put, List.setIfInBounds_toArray, List.set_cons_zero, List.set_cons_succ]
    refine wpAnyH_ready (rs := [1]) (by kernel_rfl) (by simp) ?_
    refine AllReadyH.cons (opAt_list rfl) (fun K hK => ?_) AllReadyH.nil
    go_simp
    go_at_call 36
    refine (cloneInts_any _ HKP.out HKT.out _ _ _ (HTD.out.stay hk5)).mono ?_
    rintro e w6 ⟨zv, rfl, hz, hkz⟩
    refine hK.out _ _ trivial (fun hHeld => ?_)
    clear hK K
    try simp only [Act.put, List.setIfInBounds_toArray, List.set_cons_zero, List.set_cons_succ]
    refine wpAnyH_take (i := 5) (v := ?_) (opAt_list rfl) (by kernel_rfl) (by kernel_rfl) (by kernel_rfl) (fun _ _ _ h => h) (Or.inl ⟨by rfl, ?_⟩) (by assumption) ?_
    rotate_left
    · intro w9 hSw
      (try dsimp only at hSw)
      go_simp
      try with_reducible rfl
    try simp only [Act.put, List.setIfInBounds_toArray, List.set_cons_zero, List.set_cons_succ]
    refine wpAnyH_take (i := 6) (v := ?_) (opAt_list rfl) (by kernel_rfl) (by kernel_rfl) (by kernel_rfl) (fun _ _ _ h => h) (Or.inl ⟨by rfl, ?_⟩) (by assumption) ?_
    rotate_left
    · intro w9 hSw
      (try dsimp only at hSw)
      go_simp
      try with_reducible rfl
    try simp only [Act.put, List.setIfInBounds_toArray, List.set_cons_zero, List.set_cons_succ]
    refine wpAnyH_done (by kernel_rfl) ?_ _
    have hk5' := Kept.undrew hk5
    obtain ⟨gN, capN, rfl, hgn, -⟩ := hz.row HKL.out hp
    have hgb := (hz.block (g := gN) rfl).1
    have HGN : Hid (w.heap.size ≤ gN) := Lib.hid (Nat.le_trans hk5'.size hgb)
    have HGF : Hid (w.heap.size ≤ w.heap.size) := Lib.hid (Nat.le_refl _)
    have HNE : Hid (gN ≠ w.heap.size) := Lib.hid (fun e => by have h5 : w.heap.size < w5.heap.size := hlt5; omega)
    have HZ := Lib.hid (hz.mono hk5'.size)
    have HC : Hid (Sl w6 w.heap.size (.slice (some ⟨w.heap.size, 0, none⟩) n n) (List.replicate n 0)) := Lib.hid ((hs5.mono (show w.heap.size ≤ w.drew.heap.size from Nat.le_refl _)).stay hkz)
    have HK6 := Lib.hid (hk5'.trans hkz (by simp))
    clear hz hkz hk5' hs5 hk5 hgn hlt5 hHeld HTD hgb
    clear w5
    have HZ0 : Hid (Sl w6 w.heap.size (.slice (some ⟨gN, 0, none⟩) n capN) (Nt.nats (Nt.runS ns c ks sc 0))) := HZ
    have HC0 : Hid (Sl w6 w.heap.size (.slice (some ⟨w.heap.size, 0, none⟩) n n) (Nt.nats (Nt.firedSL ns c ks sc 0))) := Lib.hid (by rw [HFZ.out]; exact HC.out)
    clear HZ HC HFZ
    go_wp2
    go_loopw [12, 14, 23] (fun now left i wr => ∃ (k j gW capW : Nat), k ≤ t ∧ i = .int .i64 k ∧ now = .slice (some ⟨gW, 0, none⟩) n capW ∧ w.heap.size ≤ gW ∧ gW ≠ w.heap.size ∧ Nt.dueAt sc k j ∧ LeftIs gS m j left ∧
        Sl wr w.heap.size (.slice (some ⟨gW, 0, none⟩) n capW) (Nt.nats (Nt.runS ns c ks sc k)) ∧ Sl wr w.heap.size (.slice (some ⟨w.heap.size, 0, none⟩) n n) (Nt.nats (Nt.firedSL ns c ks sc k)) ∧ Kept [] w wr) (fun _ _ i _ => t - (intOf i).toNat)
    case atStart => exact ⟨0, 0, gN, capN, Nat.zero_le _, rfl, rfl, HGN.out, HNE.out, HD0.out, HLEFT.out, HZ0.out, HC0.out, HK6.out⟩
    case round =>
      clear HZ0 HC0 HK6 HLEFT HD0 HNE HGN
      obtain ⟨k, j0, gW, capW, hk, rfl, rfl, hgw, hgne, hdue, hleft, hsl, hfl, hkept⟩ := hrel
      have HGW := Lib.hid hgw
      have HGNE := Lib.hid hgne
      by_cases hlt : k < t
      · have hst := HST0.out k j0 hdue
        have HL0 := Lib.hid hleft
        have HD1 := Lib.hid (Nt.dueIn_of hdue)
        have HA0 : Hid (Sl wr w.heap.size (.slice (some ⟨gW, 0, none⟩) n capW) (Nt.nats (Nt.litS (Nt.runS ns c ks sc k) (sc.take j0) k))) := Lib.hid (by rw [hst.1]; exact hsl)
        have HB0 : Hid (Sl wr w.heap.size (.slice (some ⟨w.heap.size, 0, none⟩) n n) (Nt.nats (Nt.litF (Nt.firedSL ns c ks sc k) (Nt.runS ns c ks sc k) (sc.take j0) k))) := Lib.hid (by rw [hst.2]; exact hfl)
        have HK := Lib.hid hkept
        have hk60 : k ≤ 60 := by omega
        obtain ⟨aL, capL, rfl, _, _, _⟩ := hleft
        clear hdue hsl hfl hkept hst hgw hgne
        go_wp2
        go_loopw [14] (fun left wx => ∃ j : Nat, Nt.dueIn sc k j ∧ LeftIs gS m j left ∧ Sl wx w.heap.size (.slice (some ⟨gW, 0, none⟩) n capW) (Nt.nats (Nt.litS (Nt.runS ns c ks sc k) (sc.take j) k)) ∧
            Sl wx w.heap.size (.slice (some ⟨w.heap.size, 0, none⟩) n n) (Nt.nats (Nt.litF (Nt.firedSL ns c ks sc k) (Nt.runS ns c ks sc k) (sc.take j) k)) ∧ Kept [] w wx) (fun left _ => lenV left)
        case atStart => exact ⟨j0, HD1.out, HL0.out, HA0.out, HB0.out, HK.out⟩
        case round =>
          clear HD1 HL0 HA0 HB0 HK
          obtain ⟨j, hdue, hleft, hsl, hfl, hkept⟩ := hrel
          obtain ⟨aL, capL, rfl, hcl, hcm, hal⟩ := hleft
          have HSL := Lib.hid hsl
          have HFLX := Lib.hid hfl
          have HKX := Lib.hid hkept
          by_cases hj : j < m
          · obtain rfl := hal hj
            obtain ⟨x, b, hx, hb, hxe, hstep⟩ := HSTEP.out k j hj
            obtain ⟨hgl, c1, c2⟩ := HCELLS.out j hj
            rw [hx] at c1 c2
            have k1 := (hkept.cell (p := ⟨gS, j * 2, none⟩) hgl (by simp)).trans c1
            have k2 := (hkept.cell (p := ⟨gS, j * 2 + 1, none⟩) hgl (by simp)).trans c2
            have d0 : decide (0 < m - j) = true := dec_of (by omega)
            have d0' : decide ((0 : Int) < ((m - j : Nat) : Int)) = true := dec_of (by omega)
            obtain ⟨q, hq⟩ : ∃ q, m - j = q + 1 := ⟨m - j - 1, by omega⟩
            by_cases hxk : x = k
            · have d1 : ((x : Int) == (k : Int)) = true := by simp [hxk]
              obtain ⟨hd2, he1, he2⟩ := hstep hxk hdue
              have HD2 := Lib.hid hd2
              have HLU := Lib.hid (lightUp_any _ _ _ _ n (HLL.out k j) (HFL.out k j) b hb (HFB.out k j b hk60 hb) he1 he2 wr w.heap.size gW capW w.heap.size n HGNE.out HSL.out HFLX.out)
              have HQ : Hid (m - (j + 1) = q) := Lib.hid (by omega)
              have hcl2 : q + 1 ≤ capL := by omega
              have hqm : q + 1 ≤ 8 := by omega
              have HJ := Lib.hid hj
              clear hstep hxe hx c1 c2 hsl hfl hkept hdue hd2 he1 he2 hgl hxk hal hcl
              rw [hq] at d0 d0' ⊢
              clear hq
              go_wp2_with (go_at_call 37; refine HLU.out.mono ?_; rintro e wy ⟨rfl, hsy, hfy, hky⟩; have HSY := Lib.hid hsy; have HFY := Lib.hid hfy; have HKY := Lib.hid (HKX.out.trans hky (fun x hx => by simp at hx; rcases hx with rfl | rfl; exact .inr HGW.out; exact .inr HGF.out)); clear hsy hfy hky)
              all_goals
                go_roundw
                case rel => exact ⟨j + 1, HD2.out, ⟨_, _, by rw [HQ.out], by rw [HQ.out]; omega, by omega, fun h => by rw [if_neg (by have := HQ.out; omega), show (j + 1) * 2 = j * 2 + 2 by omega]⟩, HSY.out, HFY.out, HKY.out⟩
                case measure => simp [lenV]
            · have d1 : ((x : Int) == (k : Int)) = false := by simp; omega
              have hst := HSTOP.out k j hdue (fun hj' => by rw [hxe hj']; exact hxk)
              clear hstep hxe hx c1 c2 hgl hxk hq
              obtain ⟨hd2, he1, he2⟩ := hst
              rw [he1] at hsl
              rw [he2] at hfl
              have HS9 := Lib.hid hsl
              have HF9 := Lib.hid hfl
              have HD9 := Lib.hid hd2
              have HL9 : Hid (LeftIs gS m j (.slice (some ⟨gS, j * 2, none⟩) (m - j) capL)) := Lib.hid ⟨_, _, rfl, hcl, hcm, hal⟩
              clear hsl hfl hkept hdue hd2 he1 he2 hal hcl hcm HSL HFLX
              go_wp2_with fail
              refine (firedState_any ns c _ HOK.out (HRS.out k) (HLA.out k) _ _ _ _ _ (HS.out.stay HKX.out) HS9.out).mono ?_
              rintro e w7 ⟨z7, rfl, hz7, hk7⟩
              rw [show Nt.step ns c (Nt.litS (Nt.runS ns c ks sc k) sc k) = Nt.runS ns c ks sc (k + 1) from rfl] at hz7
              obtain ⟨g7, cap7, rfl, hg7, -⟩ := hz7.row (HRL.out (k + 1)) hp
              have hb7 := (hz7.block (g := g7) rfl).1
              have hf7 := (HF9.out.block (g := w.heap.size) rfl).2
              have HNE7 : Hid (g7 ≠ w.heap.size) := Lib.hid (fun e => by rw [e] at hb7; omega)
              have HG7 : Hid (w.heap.size ≤ g7) := Lib.hid (Nat.le_trans HKX.out.size hb7)
              have HZ7 := Lib.hid (hz7.mono HKX.out.size)
              have HF7 := Lib.hid (HF9.out.stay hk7)
              have HK7 := Lib.hid (HKX.out.trans hk7 (by simp))
              clear hz7 hk7 hg7 hb7 hf7 HS9 HF9 HKX
              go_wp2_with fail
              refine (countFiring_any _ _ n (HFA.out k) (HRL.out (k + 1)) hp h6 (HFBA.out k hk60) _ _ _ _ _ HF7.out HZ7.out (fun g9 h9 => by simp [Value.ownBlock] at h9; subst h9; simpa [Value.ownBlock] using HNE7.out)).mono ?_
              rintro e w8 ⟨rfl, hs8, hk8⟩
              rw [HEND.out k] at hs8
              have HS8 := Lib.hid hs8
              have HZ8 := Lib.hid (HZ7.out.kept hk8 (fun g9 h9 => by simp [Value.ownBlock] at h9; subst h9; simpa [Value.ownBlock] using HNE7.out))
              have HK8 := Lib.hid (HK7.out.trans hk8 (fun x hx => by simp [Value.ownBlock] at hx; rw [hx]; exact .inr HGF.out))
              clear hs8 hk8 HZ7 HF7 HK7
              go_wp2
              go_roundw
              case rel => exact ⟨k + 1, j, g7, cap7, by omega, by go_num, rfl, HG7.out, HNE7.out, HD9.out, HL9.out, HZ8.out, HS8.out, HK8.out⟩
              case measure => simp [intOf]; omega
          · have hmj : m - j = 0 := by omega
            have d0 : decide (0 < m - j) = false := dec_not (by omega)
            have d0' : decide ((0 : Int) < ((m - j : Nat) : Int)) = false := dec_not (by omega)
            have hst := HSTOP.out k j hdue (fun hj' => absurd hj' (by have := HMS.out; omega))
            clear hmj
            obtain ⟨hd2, he1, he2⟩ := hst
            rw [he1] at hsl
            rw [he2] at hfl
            have HS9 := Lib.hid hsl
            have HF9 := Lib.hid hfl
            have HD9 := Lib.hid hd2
            have HL9 : Hid (LeftIs gS m j (.slice aL (m - j) capL)) := Lib.hid ⟨_, _, rfl, hcl, hcm, hal⟩
            clear hsl hfl hkept hdue hd2 he1 he2 hal hcl hcm HSL HFLX
            go_wp2_with fail
            refine (firedState_any ns c _ HOK.out (HRS.out k) (HLA.out k) _ _ _ _ _ (HS.out.stay HKX.out) HS9.out).mono ?_
            rintro e w7 ⟨z7, rfl, hz7, hk7⟩
            rw [show Nt.step ns c (Nt.litS (Nt.runS ns c ks sc k) sc k) = Nt.runS ns c ks sc (k + 1) from rfl] at hz7
            obtain ⟨g7, cap7, rfl, hg7, -⟩ := hz7.row (HRL.out (k + 1)) hp
            have hb7 := (hz7.block (g := g7) rfl).1
            have hf7 := (HF9.out.block (g := w.heap.size) rfl).2
            have HNE7 : Hid (g7 ≠ w.heap.size) := Lib.hid (fun e => by rw [e] at hb7; omega)
            have HG7 : Hid (w.heap.size ≤ g7) := Lib.hid (Nat.le_trans HKX.out.size hb7)
            have HZ7 := Lib.hid (hz7.mono HKX.out.size)
            have HF7 := Lib.hid (HF9.out.stay hk7)
            have HK7 := Lib.hid (HKX.out.trans hk7 (by simp))
            clear hz7 hk7 hg7 hb7 hf7 HS9 HF9 HKX
            go_wp2_with fail
            refine (countFiring_any _ _ n (HFA.out k) (HRL.out (k + 1)) hp h6 (HFBA.out k hk60) _ _ _ _ _ HF7.out HZ7.out (fun g9 h9 => by simp [Value.ownBlock] at h9; subst h9; simpa [Value.ownBlock] using HNE7.out)).mono ?_
            rintro e w8 ⟨rfl, hs8, hk8⟩
            rw [HEND.out k] at hs8
            have HS8 := Lib.hid hs8
            have HZ8 := Lib.hid (HZ7.out.kept hk8 (fun g9 h9 => by simp [Value.ownBlock] at h9; subst h9; simpa [Value.ownBlock] using HNE7.out))
            have HK8 := Lib.hid (HK7.out.trans hk8 (fun x hx => by simp [Value.ownBlock] at hx; rw [hx]; exact .inr HGF.out))
            clear hs8 hk8 HZ7 HF7 HK7
            go_wp2
            go_roundw
            case rel => exact ⟨k + 1, j, g7, cap7, by omega, by go_num, rfl, HG7.out, HNE7.out, HD9.out, HL9.out, HZ8.out, HS8.out, HK8.out⟩
            case measure => simp [intOf]; omega
      · have hk' : t = k := by omega
        subst hk'
        have HS9 := Lib.hid hsl
        have HF9 := Lib.hid hfl
        have HK9 := Lib.hid hkept
        obtain ⟨aL, capL, rfl, -, -, -⟩ := hleft
        clear hsl hfl hkept hdue
        go_wp2
        go_ret2
        exact ⟨_, _, rfl, HS9.out, HF9.out, HK9.out⟩

set_option maxHeartbeats 1000000 in
set_option maxRecDepth 100000 in
theorem iScriptRun_any (xs : List Int) (kinds : Int) (ys : List Int) (ls : List (Int × Int)) (steps : Int) (w : World) (v : Value) (base : Nat) (u : Value) (base' : Nat) (r : Value) (base2 : Nat) (hs : Sl w base v xs) (ht : Sl w base' u ys) (hg : Sg w base2 r ls) :
    Calls Try.prog 10 #[v, .int .i64 kinds, u, r, .int .i64 steps] w fun e w' => ∃ z, e = .returned z ∧ Sl w' w.heap.size z (Nt.srunOf xs kinds ys ls steps) ∧ Kept [] w w' := by
  have HS := Lib.hid hs
  have HT := Lib.hid ht
  have HG := Lib.hid hg
  obtain ⟨a, cap, rfl, _, hm, _⟩ := hs.any
  obtain ⟨a', cap', rfl, _, hm', _⟩ := ht.any
  obtain ⟨a2, cap2, rfl, _, hm2, _⟩ := hg.any
  clear hs ht hg
  go_enter Try.func10, Try.ntmps10
  go_wp2_with fail
  refine (scriptingOk_any xs kinds ys ls steps _ _ _ _ _ _ _ HS.out HT.out HG.out).mono ?_
  rintro e w1 ⟨rfl, hk1⟩
  have HK1 := Lib.hid hk1
  have HS1 := Lib.hid (HS.out.stay hk1)
  have HT1 := Lib.hid (HT.out.stay hk1)
  have HG1 := Lib.hid (HG.out.stay hk1)
  clear hk1 HS HT HG
  cases ho : Nt.playB xs kinds ys ls steps
  · have HF := Lib.hid (Nt.srunOf_no ho)
    go_wp2_with fail
    go_ret
    exact ⟨_, rfl, by rw [HF.out]; exact Sl.nil _ _, HK1.out⟩
  · obtain ⟨ns, c, ks, sc, t, rfl, rfl, rfl, rfl, rfl, ok, st, hl, so, ht60⟩ := Nt.playB_ok ho
    have HF := Lib.hid (Nt.srunOf_ok ok st hl so ht60)
    have HP := Lib.hid (scripted_any ns c ks sc t ok st hl so ht60 w1 _ _ _ _ _ _ HS1.out HT1.out HG1.out)
    clear ok st hl so ht60
    go_wp2_with fail
    refine HP.out.mono ?_
    rintro e w2 ⟨z1, z2, rfl, h1, h2, hk2⟩
    have HZ := Lib.hid (h1.mono HK1.out.size)
    have HK2 := Lib.hid (HK1.out.trans hk2 (by simp))
    clear h1 h2 hk2
    go_wp2_with fail
    go_ret
    exact ⟨_, rfl, by rw [HF.out]; exact HZ.out, HK2.out⟩

set_option maxHeartbeats 1000000 in
set_option maxRecDepth 100000 in
theorem iScriptFired_any (xs : List Int) (kinds : Int) (ys : List Int) (ls : List (Int × Int)) (steps : Int) (w : World) (v : Value) (base : Nat) (u : Value) (base' : Nat) (r : Value) (base2 : Nat) (hs : Sl w base v xs) (ht : Sl w base' u ys) (hg : Sg w base2 r ls) :
    Calls Try.prog 17 #[v, .int .i64 kinds, u, r, .int .i64 steps] w fun e w' => ∃ z, e = .returned z ∧ Sl w' w.heap.size z (Nt.sfiredOf xs kinds ys ls steps) ∧ Kept [] w w' := by
  have HS := Lib.hid hs
  have HT := Lib.hid ht
  have HG := Lib.hid hg
  obtain ⟨a, cap, rfl, _, hm, _⟩ := hs.any
  obtain ⟨a', cap', rfl, _, hm', _⟩ := ht.any
  obtain ⟨a2, cap2, rfl, _, hm2, _⟩ := hg.any
  clear hs ht hg
  go_enter Try.func17, Try.ntmps17
  go_wp2_with fail
  refine (scriptingOk_any xs kinds ys ls steps _ _ _ _ _ _ _ HS.out HT.out HG.out).mono ?_
  rintro e w1 ⟨rfl, hk1⟩
  have HK1 := Lib.hid hk1
  have HS1 := Lib.hid (HS.out.stay hk1)
  have HT1 := Lib.hid (HT.out.stay hk1)
  have HG1 := Lib.hid (HG.out.stay hk1)
  clear hk1 HS HT HG
  cases ho : Nt.playB xs kinds ys ls steps
  · have HF := Lib.hid (Nt.sfiredOf_no ho)
    go_wp2_with fail
    go_ret
    exact ⟨_, rfl, by rw [HF.out]; exact Sl.nil _ _, HK1.out⟩
  · obtain ⟨ns, c, ks, sc, t, rfl, rfl, rfl, rfl, rfl, ok, st, hl, so, ht60⟩ := Nt.playB_ok ho
    have HF := Lib.hid (Nt.sfiredOf_ok ok st hl so ht60)
    have HP := Lib.hid (scripted_any ns c ks sc t ok st hl so ht60 w1 _ _ _ _ _ _ HS1.out HT1.out HG1.out)
    clear ok st hl so ht60
    go_wp2_with fail
    refine HP.out.mono ?_
    rintro e w2 ⟨z1, z2, rfl, h1, h2, hk2⟩
    have HZ := Lib.hid (h2.mono HK1.out.size)
    have HK2 := Lib.hid (HK1.out.trans hk2 (by simp))
    clear h1 h2 hk2
    go_wp2_with fail
    go_ret
    exact ⟨_, rfl, by rw [HF.out]; exact HZ.out, HK2.out⟩
end Go.Proofs.Ytilbdpcijdcffab
