/-
  Texts of journals, by the model; what deeds in memory are.
-/
import Derived.Test.YtnajdbnacdnnlaaGreatDoorTgB
import Derived.Test.YtnajdbnacdnnlaaGreatDoorPureAF
import Derived.Test.YtnajdbnacdnnlaaGreatDoorPureJL
import Derived.Test.YtnajdbnacdnnlaaGreatDoorTxE
import Derived.Test.YtnajdbnacdnnlaaGreatDoorPV2
namespace Go.Proofs.YtnajdbnacdnnlaaGreatDoor
open Go.RowKit

def jdAt (ds : List Nt.Dd) (k : Nat) : Nt.Dd := ds.getD k ⟨0, 0, 0⟩
theorem Dg.rows {w : World} {base : Nat} {v : Value} {ds : List Nt.Dd} (h : Dg w base v ds) : ∃ (a : Option Addr) (cap : Nat), v = .slice a ds.length cap ∧
    ∀ k, k < ds.length → ∃ g, a = some ⟨g, 0, none⟩ ∧ g < w.heap.size ∧ w.cell? ⟨g, k * 3, none⟩ = some (.int .i64 (jdAt ds k).kind) ∧ w.cell? ⟨g, k * 3 + 1, none⟩ = some (.int .i64 (jdAt ds k).a) ∧ w.cell? ⟨g, k * 3 + 2, none⟩ = some (.int .i64 (jdAt ds k).b) := by
  have hl : (ds.map d3).length = ds.length := List.length_map ..
  rcases Tg.form h with ⟨rfl, e⟩ | ⟨g, cap, rfl, hb, hg, hc, hm, hcell, hfr⟩
  · have e2 : ds = [] := by simpa using e
    subst e2
    exact ⟨none, 0, rfl, fun k hk => by simp at hk⟩
  · refine ⟨_, cap, by rw [hl], fun k hk => ⟨g, rfl, hg, ?_⟩⟩
    obtain ⟨c0, c1, c2⟩ := hcell k (by omega)
    rw [d3_at ds hk] at c0 c1 c2
    exact ⟨c0, c1, c2⟩
theorem deedT_small (d : Nt.Dd) : (Nt.deedT d).length ≤ 11 := by
  by_cases h : Nt.DOk d
  · exact Nt.readD_line (Nt.readD_text h)
  · rw [Nt.deedT_none h]; simp
theorem deedT_nil (d : Nt.Dd) : Nt.deedT d = [] ↔ ¬ Nt.DOk d := ⟨fun e h => Nt.deedT_ne h e, Nt.deedT_none⟩
theorem jrn_small (l : List Nt.Dd) : (Nt.jrnT l).length ≤ 12 * l.length := by
  induction l with
  | nil => simp [Nt.jrnT]
  | cons d l ih =>
    have h := deedT_small d
    show (Nt.deedT d ++ 10 :: Nt.jrnT l).length ≤ _
    simp; omega
theorem jrn_take {ds : List Nt.Dd} {k : Nat} (hk : k < ds.length) : Nt.jrnT (ds.take (k + 1)) = Nt.jrnT (ds.take k) ++ Nt.deedT (jdAt ds k) ++ [10] := by
  rw [List.take_succ_eq_append_getElem hk, Nt.jrnT_append]
  have e : ds[k] = jdAt ds k := by unfold jdAt; rw [List.getD_eq_getElem?_getD, List.getElem?_eq_getElem hk]; rfl
  rw [e, List.append_assoc]; rfl
theorem jtxt_no {ds : List Nt.Dd} {k : Nat} (hk : k < ds.length) (h : Nt.deedT (jdAt ds k) = []) : Nt.jtxt ds = [] := by
  unfold Nt.jtxt
  rw [if_neg]
  intro hall
  rw [List.all_eq_true] at hall
  have e : ds[k] = jdAt ds k := by unfold jdAt; rw [List.getD_eq_getElem?_getD, List.getElem?_eq_getElem hk]; rfl
  have h1 := of_decide_eq_true (hall _ (List.getElem_mem hk))
  rw [e] at h1
  exact (deedT_nil _).1 h h1
theorem jtxt_all {ds : List Nt.Dd} (h : ∀ j, j < ds.length → Nt.deedT (jdAt ds j) ≠ []) : Nt.jtxt ds = Nt.jrnT ds := by
  unfold Nt.jtxt
  rw [if_pos]
  rw [List.all_eq_true]
  intro x hx
  obtain ⟨k, hk, rfl⟩ := List.getElem_of_mem hx
  have e : ds[k] = jdAt ds k := by unfold jdAt; rw [List.getD_eq_getElem?_getD, List.getElem?_eq_getElem hk]; rfl
  have h1 := h k hk
  rw [e]
  exact decide_eq_true (Classical.byContradiction fun hn => h1 (Nt.deedT_none hn))

set_option maxHeartbeats 4000000 in
set_option maxRecDepth 100000 in
theorem sJournalText_any (ds : List Nt.Dd) (hl : ds.length ≤ 1100000) (w : World) (v : Value) (base : Nat) (h : Dg w base v ds) :
    Calls Tryz.prog 54 #[v] w fun e w' => ∃ z, e = .returned (.string z) ∧ tx z = Nt.jtxt ds ∧ Kept [] w w' := by
  obtain ⟨a, cap, rfl, hc⟩ := h.rows
  have HC := Lib.hid hc
  obtain ⟨n, hn⟩ : ∃ n, n = ds.length := ⟨_, rfl⟩
  have HNO : Hid (∀ k, k < n → Nt.deedT (jdAt ds k) = [] → Nt.jtxt ds = []) := Lib.hid (fun k hk => jtxt_no (by omega))
  have HALL : Hid ((∀ j, j < n → Nt.deedT (jdAt ds j) ≠ []) → Nt.jtxt ds = Nt.jrnT (ds.take n)) := Lib.hid (fun h => by rw [hn, List.take_length]; exact jtxt_all (by rw [← hn]; exact h))
  have HST : Hid (∀ k, k < n → Nt.jrnT (ds.take (k + 1)) = Nt.jrnT (ds.take k) ++ Nt.deedT (jdAt ds k) ++ [10]) := Lib.hid (fun k hk => jrn_take (by omega))
  have HJL : Hid (∀ k, k ≤ n → (Nt.jrnT (ds.take k)).length ≤ 13200000) := Lib.hid (fun k hk => by have h1 := jrn_small (ds.take k); rw [List.length_take] at h1; omega)
  have hn11 : n ≤ 1100000 := by omega
  rw [← hn] at HC ⊢
  clear h hc hn hl
  go_enter Tryz.func54, Tryz.ntmps54
  go_wp2_with fail
  go_loopw [3, 4] (fun u i wr => ∃ (k : Nat) (z : ByteArray), k ≤ n ∧ i = .int .i64 k ∧ u = .string z ∧ tx z = Nt.jrnT (ds.take k) ∧ (∀ j, j < k → Nt.deedT (jdAt ds j) ≠ []) ∧ Kept [] w wr) (fun _ i _ => n - (intOf i).toNat)
  case atStart => exact ⟨0, _, Nat.zero_le _, rfl, rfl, rfl, fun j hj => absurd hj (by omega), Kept.refl _ _⟩
  case round =>
    obtain ⟨k, z, hk, rfl, rfl, hz, hne, hkept⟩ := hrel
    have HZ := Lib.hid hz
    have HNE := Lib.hid hne
    have HK := Lib.hid hkept
    by_cases hlt : k < n
    · obtain ⟨g, rfl, hg, c0, c1, c2⟩ := HC.out k hlt
      have HG := Lib.hid hg
      have HC0 := Lib.hid c0
      have HC1 := Lib.hid c1
      have HC2 := Lib.hid c2
      have k0 := (hkept.cell (p := ⟨g, k * 3, none⟩) hg (by simp)).trans c0
      have k1 := (hkept.cell (p := ⟨g, k * 3 + 1, none⟩) hg (by simp)).trans c1
      have k2 := (hkept.cell (p := ⟨g, k * 3 + 2, none⟩) hg (by simp)).trans c2
      have HNO1 := Lib.hid (HNO.out k hlt)
      have HST1 := Lib.hid (HST.out k hlt)
      have HZL : Hid (z.size ≤ 13200000) := Lib.hid (by rw [← tx_length, hz]; exact HJL.out k hk)
      have HLT := Lib.hid hlt
      generalize hd : jdAt ds k = d at *
      have HD := Lib.hid hd
      obtain ⟨dk, da, db⟩ := d
      have HDS : Hid ((Nt.deedT ⟨dk, da, db⟩).length ≤ 11) := Lib.hid (deedT_small _)
      simp only at k0 k1 k2 HC0 HC1 HC2
      clear hz hne hkept hd c0 c1 c2
      go_wp2_with fail
      refine (sDeedText_any dk da db _).mono ?_
      rintro e w2 ⟨z2, rfl, hz2, hk2⟩
      have HK2 := Lib.hid (HK.out.trans hk2 (by simp))
      clear k0 k1 k2
      by_cases h0 : Nt.deedT ⟨dk, da, db⟩ = []
      · have hem := empty_yes (s := z2) (by rw [hz2, h0])
        have HF := Lib.hid (HNO1.out h0)
        clear hz2 hk2 h0
        go_wp2
        go_ret
        exact ⟨_, rfl, by rw [HF.out]; rfl, HK2.out⟩
      · have hem := empty_no (s := z2) (by rw [hz2]; exact h0)
        have k0 := (HK2.out.cell (p := ⟨g, k * 3, none⟩) HG.out (by simp)).trans HC0.out
        have k1 := (HK2.out.cell (p := ⟨g, k * 3 + 1, none⟩) HG.out (by simp)).trans HC1.out
        have k2 := (HK2.out.cell (p := ⟨g, k * 3 + 2, none⟩) HG.out (by simp)).trans HC2.out
        have HNX : Hid (∀ j, j < k + 1 → Nt.deedT (jdAt ds j) ≠ []) := Lib.hid (fun j hj => by
          by_cases e : j = k
          · subst e; rw [HD.out]; exact h0
          · exact HNE.out j (by omega))
        clear hz2 hk2 h0
        go_wp2_with fail
        refine (sDeedText_any dk da db _).mono ?_
        rintro e w3 ⟨z3, rfl, hz3, hk3⟩
        have hz3l : z3.size ≤ 11 := by rw [← tx_length, hz3]; exact HDS.out
        obtain ⟨y1, hy1, hys1, hadd1⟩ := add_tx z z3 (by have := HZL.out; omega)
        obtain ⟨y2, hy2, hys2, hadd2⟩ := add_tx y1 ⟨#[10]⟩ (by have := HZL.out; show y1.size + 1 ≤ _; omega)
        have HY : Hid (tx y2 = Nt.jrnT (ds.take (k + 1))) := Lib.hid (by rw [hy2, hy1, hz3, HZ.out, HST1.out]; rfl)
        have HK3 := Lib.hid (HK2.out.trans hk3 (by simp))
        clear hz3 hk3 hz3l hy1 hy2 hys1 hys2 k0 k1 k2
        go_wp2
        go_roundw
        case rel => exact ⟨k + 1, y2, by have := HLT.out; omega, by go_num, rfl, HY.out, HNX.out, HK3.out⟩
        case measure => have := HLT.out; simp [intOf]; omega
    · have hk' : n = k := by omega
      subst hk'
      have HF : Hid (Nt.jtxt ds = Nt.jrnT (ds.take n)) := Lib.hid (HALL.out hne)
      clear hz hne hkept
      go_wp2
      go_ret
      exact ⟨_, rfl, by rw [HF.out]; exact HZ.out, HK.out⟩
end Go.Proofs.YtnajdbnacdnnlaaGreatDoor
