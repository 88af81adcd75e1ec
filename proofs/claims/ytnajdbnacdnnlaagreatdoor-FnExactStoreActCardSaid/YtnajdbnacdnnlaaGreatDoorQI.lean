/-
  Texts of journals, by the model; what deeds in memory are.
  Texts of deeds, and deeds read of texts, by the program.
  Texts of journals, and journals read of texts, by the program.
-/
import Derived.Test.YtnajdbnacdnnlaaGreatDoorQC
import Derived.Test.YtnajdbnacdnnlaaGreatDoorPJ
import Derived.Test.YtnajdbnacdnnlaaGreatDoorQA
import Derived.Test.YtnajdbnacdnnlaaGreatDoorQH
import Derived.Test.YtnajdbnacdnnlaaGreatDoorPV3
namespace Go.Proofs.YtnajdbnacdnnlaaGreatDoor
open Go.RowKit

def jdAt (ds : List Nt.Dd) (k : Nat) : Nt.Dd := ds.getD k ⟨0, 0, 0⟩
theorem Dg.rows {w : World} {base : Nat} {v : Value} {ds : List Nt.Dd} (h : Dg w base v ds) : ∃ (a : Option Addr) (cap : Nat), v = .slice a ds.length cap ∧
    ∀ k, k < ds.length → ∃ g, a = some ⟨g, 0, none⟩ ∧ g < w.heap.size ∧ w.cell? ⟨g, k * 3, none⟩ = some (.int .i64 (jdAt ds k).kind) ∧ w.cell? ⟨g, k * 3 + 1, none⟩ = some (.int .i64 (jdAt ds k).a) ∧ w.cell? ⟨g, k * 3 + 2, none⟩ = some (.int .i64 (jdAt ds k).b) := by
  have hl : (ds.map d3).length = ds.length := List.length_map ..
  rcases Tg.form h with ⟨rfl, e⟩ | ⟨g, cap, rfl, hb, hg, hc, hm, hcell, hfr⟩
  · have e2 : ds = [] := by simpa using e
    subst e2
    exact ⟨none, 0, rfl, fun k hk => by simp at hk⟩
  · refine ⟨_, cap, by rw [hl], fun k hk => ⟨g, rfl, hg, ?_⟩⟩
    obtain ⟨c0, c1, c2⟩ := hcell k (by omega)
    rw [d3_at ds hk] at c0 c1 c2
    exact ⟨c0, c1, c2⟩
theorem deedT_small (d : Nt.Dd) : (Nt.deedT d).length ≤ 11 := by
  by_cases h : Nt.DOk d
  · exact Nt.readD_line (Nt.readD_text h)
  · rw [Nt.deedT_none h]; simp
theorem deedT_nil (d : Nt.Dd) : Nt.deedT d = [] ↔ ¬ Nt.DOk d := ⟨fun e h => Nt.deedT_ne h e, Nt.deedT_none⟩
theorem jrn_small (l : List Nt.Dd) : (Nt.jrnT l).length ≤ 12 * l.length := by
  induction l with
  | nil => simp [Nt.jrnT]
  | cons d l ih =>
    have h := deedT_small d
    show (Nt.deedT d ++ 10 :: Nt.jrnT l).length ≤ _
    simp; omega
theorem jrn_take {ds : List Nt.Dd} {k : Nat} (hk : k < ds.length) : Nt.jrnT (ds.take (k + 1)) = Nt.jrnT (ds.take k) ++ Nt.deedT (jdAt ds k) ++ [10] := by
  rw [List.take_succ_eq_append_getElem hk, Nt.jrnT_append]
  have e : ds[k] = jdAt ds k := by unfold jdAt; rw [List.getD_eq_getElem?_getD, List.getElem?_eq_getElem hk]; rfl
  rw [e, List.append_assoc]; rfl
theorem jtxt_no {ds : List Nt.Dd} {k : Nat} (hk : k < ds.length) (h : Nt.deedT (jdAt ds k) = []) : Nt.jtxt ds = [] := by
  unfold Nt.jtxt
  rw [if_neg]
  intro hall
  rw [List.all_eq_true] at hall
  have e : ds[k] = jdAt ds k := by unfold jdAt; rw [List.getD_eq_getElem?_getD, List.getElem?_eq_getElem hk]; rfl
  have h1 := of_decide_eq_true (hall _ (List.getElem_mem hk))
  rw [e] at h1
  exact (deedT_nil _).1 h h1
theorem jtxt_all {ds : List Nt.Dd} (h : ∀ j, j < ds.length → Nt.deedT (jdAt ds j) ≠ []) : Nt.jtxt ds = Nt.jrnT ds := by
  unfold Nt.jtxt
  rw [if_pos]
  rw [List.all_eq_true]
  intro x hx
  obtain ⟨k, hk, rfl⟩ := List.getElem_of_mem hx
  have e : ds[k] = jdAt ds k := by unfold jdAt; rw [List.getD_eq_getElem?_getD, List.getElem?_eq_getElem hk]; rfl
  have h1 := h k hk
  rw [e]
  exact decide_eq_true (Classical.byContradiction fun hn => h1 (Nt.deedT_none hn))

set_option maxHeartbeats 4000000 in
set_option maxRecDepth 100000 in
theorem sJournalText_any (ds : List Nt.Dd) (hl : ds.length ≤ 1100000) (w : World) (v : Value) (base : Nat) (h : Dg w base v ds) :
    Calls Tryz.prog 54 #[v] w fun e w' => ∃ z, e = .returned (.string z) ∧ tx z = Nt.jtxt ds ∧ Kept [] w w' := by
  obtain ⟨a, cap, rfl, hc⟩ := h.rows
  have HC := Lib.hid hc
  obtain ⟨n, hn⟩ : ∃ n, n = ds.length := ⟨_, rfl⟩
  have HNO : Hid (∀ k, k < n → Nt.deedT (jdAt ds k) = [] → Nt.jtxt ds = []) := Lib.hid (fun k hk => jtxt_no (by omega))
  have HALL : Hid ((∀ j, j < n → Nt.deedT (jdAt ds j) ≠ []) → Nt.jtxt ds = Nt.jrnT (ds.take n)) := Lib.hid (fun h => by rw [hn, List.take_length]; exact jtxt_all (by rw [← hn]; exact h))
  have HST : Hid (∀ k, k < n → Nt.jrnT (ds.take (k + 1)) = Nt.jrnT (ds.take k) ++ Nt.deedT (jdAt ds k) ++ [10]) := Lib.hid (fun k hk => jrn_take (by omega))
  have HJL : Hid (∀ k, k ≤ n → (Nt.jrnT (ds.take k)).length ≤ 13200000) := Lib.hid (fun k hk => by have h1 := jrn_small (ds.take k); rw [List.length_take] at h1; omega)
  have hn11 : n ≤ 1100000 := by omega
  rw [← hn] at HC ⊢
  clear h hc hn hl
  go_enter Tryz.func54, Tryz.ntmps54
  go_wp2_with fail
  go_loopw [3, 4] (fun u i wr => ∃ (k : Nat) (z : ByteArray), k ≤ n ∧ i = .int .i64 k ∧ u = .string z ∧ tx z = Nt.jrnT (ds.take k) ∧ (∀ j, j < k → Nt.deedT (jdAt ds j) ≠ []) ∧ Kept [] w wr) (fun _ i _ => n - (intOf i).toNat)
  case atStart => exact ⟨0, _, Nat.zero_le _, rfl, rfl, rfl, fun j hj => absurd hj (by omega), Kept.refl _ _⟩
  case round =>
    obtain ⟨k, z, hk, rfl, rfl, hz, hne, hkept⟩ := hrel
    have HZ := Lib.hid hz
    have HNE := Lib.hid hne
    have HK := Lib.hid hkept
    by_cases hlt : k < n
    · obtain ⟨g, rfl, hg, c0, c1, c2⟩ := HC.out k hlt
      have HG := Lib.hid hg
      have HC0 := Lib.hid c0
      have HC1 := Lib.hid c1
      have HC2 := Lib.hid c2
      have k0 := (hkept.cell (p := ⟨g, k * 3, none⟩) hg (by simp)).trans c0
      have k1 := (hkept.cell (p := ⟨g, k * 3 + 1, none⟩) hg (by simp)).trans c1
      have k2 := (hkept.cell (p := ⟨g, k * 3 + 2, none⟩) hg (by simp)).trans c2
      have HNO1 := Lib.hid (HNO.out k hlt)
      have HST1 := Lib.hid (HST.out k hlt)
      have HZL : Hid (z.size ≤ 13200000) := Lib.hid (by rw [← tx_length, hz]; exact HJL.out k hk)
      have HLT := Lib.hid hlt
      generalize hd : jdAt ds k = d at *
      have HD := Lib.hid hd
      obtain ⟨dk, da, db⟩ := d
      have HDS : Hid ((Nt.deedT ⟨dk, da, db⟩).length ≤ 11) := Lib.hid (deedT_small _)
      simp only at k0 k1 k2 HC0 HC1 HC2
      clear hz hne hkept hd c0 c1 c2
      go_wp2_with fail
      refine (sDeedText_any dk da db _).mono ?_
      rintro e w2 ⟨z2, rfl, hz2, hk2⟩
      have HK2 := Lib.hid (HK.out.trans hk2 (by simp))
      clear k0 k1 k2
      by_cases h0 : Nt.deedT ⟨dk, da, db⟩ = []
      · have hem := empty_yes (s := z2) (by rw [hz2, h0])
        have HF := Lib.hid (HNO1.out h0)
        clear hz2 hk2 h0
        go_wp2
        go_ret
        exact ⟨_, rfl, by rw [HF.out]; rfl, HK2.out⟩
      · have hem := empty_no (s := z2) (by rw [hz2]; exact h0)
        have k0 := (HK2.out.cell (p := ⟨g, k * 3, none⟩) HG.out (by simp)).trans HC0.out
        have k1 := (HK2.out.cell (p := ⟨g, k * 3 + 1, none⟩) HG.out (by simp)).trans HC1.out
        have k2 := (HK2.out.cell (p := ⟨g, k * 3 + 2, none⟩) HG.out (by simp)).trans HC2.out
        have HNX : Hid (∀ j, j < k + 1 → Nt.deedT (jdAt ds j) ≠ []) := Lib.hid (fun j hj => by
          by_cases e : j = k
          · subst e; rw [HD.out]; exact h0
          · exact HNE.out j (by omega))
        clear hz2 hk2 h0
        go_wp2_with fail
        refine (sDeedText_any dk da db _).mono ?_
        rintro e w3 ⟨z3, rfl, hz3, hk3⟩
        have hz3l : z3.size ≤ 11 := by rw [← tx_length, hz3]; exact HDS.out
        obtain ⟨y1, hy1, hys1, hadd1⟩ := add_tx z z3 (by have := HZL.out; omega)
        obtain ⟨y2, hy2, hys2, hadd2⟩ := add_tx y1 ⟨#[10]⟩ (by have := HZL.out; show y1.size + 1 ≤ _; omega)
        have HY : Hid (tx y2 = Nt.jrnT (ds.take (k + 1))) := Lib.hid (by rw [hy2, hy1, hz3, HZ.out, HST1.out]; rfl)
        have HK3 := Lib.hid (HK2.out.trans hk3 (by simp))
        clear hz3 hk3 hz3l hy1 hy2 hys1 hys2 k0 k1 k2
        go_wp2
        go_roundw
        case rel => exact ⟨k + 1, y2, by have := HLT.out; omega, by go_num, rfl, HY.out, HNX.out, HK3.out⟩
        case measure => have := HLT.out; simp [intOf]; omega
    · have hk' : n = k := by omega
      subst hk'
      have HF : Hid (Nt.jtxt ds = Nt.jrnT (ds.take n)) := Lib.hid (HALL.out hne)
      clear hz hne hkept
      go_wp2
      go_ret
      exact ⟨_, rfl, by rw [HF.out]; exact HZ.out, HK.out⟩
end Go.Proofs.YtnajdbnacdnnlaaGreatDoor

namespace Go.Proofs.YtnajdbnacdnnlaaGreatDoor
open Go.RowKit

set_option maxHeartbeats 400000 in
set_option maxRecDepth 100000 in
theorem numberOk_any (n : Int) (w : World) :
    Calls Tryz.prog 68 #[.int .i64 n] w fun e w' => e = .returned (.bool (decide (0 ≤ n ∧ n ≤ 99))) ∧ w = w' := by
  by_cases h1 : 0 ≤ n <;> by_cases h2 : n ≤ 99
  all_goals
    go_enter Tryz.func68, Tryz.ntmps68
    go_wp2
    go_ret
    exact ⟨by simp [h1, h2], rfl⟩

/-- The text of a deed, number by number. -/
def dtxTo (W : List Nat) (x y j : Nat) : List Nat := if j = 0 then W else if j = 1 then W ++ [32] ++ Nt.digs x else W ++ [32] ++ Nt.digs x ++ [32] ++ Nt.digs y
theorem dtx_small (W : List Nat) (x y j : Nat) (hW : W.length ≤ 5) (hx : x ≤ 99) (hy : y ≤ 99) : (dtxTo W x y j).length ≤ 11 := by
  have h1 := digs99 hx
  have h2 := digs99 hy
  unfold dtxTo
  split
  · omega
  · split <;> simp <;> omega
theorem deedT_bad {k a b : Int} (h : ¬ (Nt.dokB ⟨k, a, b⟩ = true ∧ (0 ≤ a ∧ a ≤ 99) ∧ (0 ≤ b ∧ b ≤ 99))) : Nt.deedT ⟨k, a, b⟩ = [] := Nt.deedT_none (fun e => h ((Nt.DOk_is _).1 e))

/-! Words of deeds. -/
def fwAt : Nat → ByteArray
  | 0 => ⟨#[106, 111, 105, 110]⟩
  | 1 => ⟨#[108, 105, 103, 104, 116]⟩
  | 2 => ⟨#[115, 116, 101, 112]⟩
  | 3 => ⟨#[107, 105, 110, 100, 115]⟩
  | _ => ⟨#[98, 97, 99, 107]⟩
def fnAt : Nat → Int
  | 0 => 2
  | 1 => 1
  | 2 => 0
  | 3 => 1
  | _ => 0
theorem forms_at {w : World} {g : Nat} (h : Bk w g 98 formCells) : ∀ k, k < 5 → w.cell? ⟨g, k * 2, none⟩ = some (.string (fwAt k)) ∧ w.cell? ⟨g, k * 2 + 1, none⟩ = some (.int .i64 (fnAt k))
  | 0, _ => ⟨h.cell 0 rfl, h.cell 1 rfl⟩
  | 1, _ => ⟨h.cell 2 rfl, h.cell 3 rfl⟩
  | 2, _ => ⟨h.cell 4 rfl, h.cell 5 rfl⟩
  | 3, _ => ⟨h.cell 6 rfl, h.cell 7 rfl⟩
  | 4, _ => ⟨h.cell 8 rfl, h.cell 9 rfl⟩
theorem fw_words : tx (fwAt 0) = Nt.wJoin ∧ tx (fwAt 1) = Nt.wLight ∧ tx (fwAt 2) = Nt.wStep ∧ tx (fwAt 3) = Nt.wKinds ∧ tx (fwAt 4) = Nt.wBack := ⟨rfl, rfl, rfl, rfl, rfl⟩
theorem kindW_at {t : List Nat} {k : Nat} (hk : k < 5) (hne : ∀ j, j < k → tx (fwAt j) ≠ t) (h : tx (fwAt k) = t) : Nt.kindW t = (k : Int) := by
  subst h
  have : k = 0 ∨ k = 1 ∨ k = 2 ∨ k = 3 ∨ k = 4 := by omega
  rcases this with rfl | rfl | rfl | rfl | rfl <;> rfl
theorem kindW_none {t : List Nat} (hne : ∀ j, j < 5 → tx (fwAt j) ≠ t) : Nt.kindW t = -1 := by
  obtain ⟨e0, e1, e2, e3, e4⟩ := fw_words
  have h0 := hne 0 (by omega)
  have h1 := hne 1 (by omega)
  have h2 := hne 2 (by omega)
  have h3 := hne 3 (by omega)
  have h4 := hne 4 (by omega)
  rw [e0] at h0
  rw [e1] at h1
  rw [e2] at h2
  rw [e3] at h3
  rw [e4] at h4
  unfold Nt.kindW
  rw [if_neg (Ne.symm h0), if_neg (Ne.symm h1), if_neg (Ne.symm h2), if_neg (Ne.symm h3), if_neg (Ne.symm h4)]

def fmAt : Nat → Nat
  | 0 => 2
  | 1 => 1
  | 2 => 0
  | 3 => 1
  | _ => 0
theorem fn_fm : ∀ k, fnAt k = ((fmAt k : Nat) : Int)
  | 0 => rfl
  | 1 => rfl
  | 2 => rfl
  | 3 => rfl
  | _ + 4 => rfl
theorem fm_two (k : Nat) : fmAt k ≤ 2 := by
  match k with
  | 0 => decide
  | 1 => decide
  | 2 => decide
  | 3 => decide
  | _ + 4 => exact Nat.zero_le _
theorem fw_five (k : Nat) : (tx (fwAt k)).length ≤ 5 := by
  match k with
  | 0 => decide
  | 1 => decide
  | 2 => decide
  | 3 => decide
  | _ + 4 => exact (show (tx ⟨#[98, 97, 99, 107]⟩).length ≤ 5 by decide)
theorem deedT_dtx {k x y : Nat} (hk : k < 5) (ho : Nt.dokB ⟨(k : Int), (x : Int), (y : Int)⟩ = true) (hx : x ≤ 99) (hy : y ≤ 99) : Nt.deedT ⟨(k : Int), (x : Int), (y : Int)⟩ = dtxTo (tx (fwAt k)) x y (fmAt k) := by
  have hc := Nt.dokB_cases ho
  simp only at hc
  have h5 : k = 0 ∨ k = 1 ∨ k = 2 ∨ k = 3 ∨ k = 4 := by omega
  rcases h5 with rfl | rfl | rfl | rfl | rfl
  · rw [show ((0 : Nat) : Int) = 0 from rfl, deedT_join hx hy]; rfl
  · have hy0 : y = 0 := by omega
    subst hy0
    exact deedT_light hx
  · have hx0 : x = 0 := by omega
    have hy0 : y = 0 := by omega
    subst hx0; subst hy0
    exact deedT_step
  · have hy0 : y = 0 := by omega
    subst hy0
    exact deedT_kinds hx
  · have hx0 : x = 0 := by omega
    have hy0 : y = 0 := by omega
    subst hx0; subst hy0
    exact deedT_back
/-- A form's block, laid in some order beside the call that makes all forms. -/
def FormLaid (wc w1 : World) (k : Nat) (u3 : Value) : Prop := ∃ fp, u3 = .pointer (some ⟨fp, 0, none⟩) ∧ Bk wc fp 98 #[.string (fwAt k), .int .i64 (fnAt k)] ∧ Kept [] w1 wc
theorem opAt_lr {l : List Oper} {i : Nat} {o : Oper} (h : l[i]? = some o) : l.toArray[i]? = some o := by simpa using h

set_option maxHeartbeats 4000000 in
set_option maxRecDepth 100000 in
theorem iDeedText_any (k a b : Int) (w : World) :
    Calls Tryz.prog 18 #[.agg #[.int .i64 k, .int .i64 a, .int .i64 b]] w fun e w' => ∃ z, e = .returned (.string z) ∧ tx z = Nt.deedT ⟨k, a, b⟩ ∧ Kept [] w w' := by
  have HB := Lib.hid (Bk.new w 41 #[.int .i64 k, .int .i64 a, .int .i64 b])
  have HK0 : Hid (Kept [] w (w.alloc (.cells #[.int .i64 k, .int .i64 a, .int .i64 b] 41))) := Lib.hid ((Kept.refl [] w).alloc _)
  obtain ⟨c0, c1, c2⟩ := HB.out.three
  go_enter Tryz.func18, Tryz.ntmps18
  go_wp2_with fail
  generalize w.alloc (.cells #[.int .i64 k, .int .i64 a, .int .i64 b] 41) = W0 at *
  refine (deedOk_any k a b _).mono ?_
  rintro e w1 ⟨rfl, hk1⟩
  have HB1 := Lib.hid (HB.out.stay hk1)
  have HK1 := Lib.hid (HK0.out.trans hk1 (by simp))
  clear hk1 c0 c1 c2 HB HK0
  obtain ⟨c0, c1, c2⟩ := HB1.out.three
  cases ho : Nt.dokB ⟨k, a, b⟩
  · have HF := Lib.hid (deedT_bad (k := k) (a := a) (b := b) (fun h => by rw [ho] at h; cases h.1))
    clear ho
    go_wp2
    go_ret
    exact ⟨_, rfl, by rw [HF.out]; rfl, HK1.out⟩
  by_cases ha : 0 ≤ a ∧ a ≤ 99
  · by_cases hb : 0 ≤ b ∧ b ≤ 99
    · have hkk := Nt.dokB_kind ho
      simp only at hkk
      obtain ⟨x, rfl⟩ := Int.eq_ofNat_of_zero_le ha.1
      obtain ⟨y, rfl⟩ := Int.eq_ofNat_of_zero_le hb.1
      obtain ⟨k, rfl⟩ := Int.eq_ofNat_of_zero_le hkk.1
      have hx : x ≤ 99 := by omega
      have hy : y ≤ 99 := by omega
      have hk5 : k < 5 := by omega
      have dA : decide (0 ≤ (x : Int) ∧ (x : Int) ≤ 99) = true := dec_of ha
      have dB : decide (0 ≤ (y : Int) ∧ (y : Int) ≤ 99) = true := dec_of hb
      have HDT := Lib.hid (deedT_dtx hk5 ho hx hy)
      have HDS : Hid (∀ j, (dtxTo (tx (fwAt k)) x y j).length ≤ 11) := Lib.hid (fun j => dtx_small _ x y j (fw_five k) hx hy)
      have HX := Lib.hid (tx_itoaZ (show x < 100 by omega))
      have HY := Lib.hid (tx_itoaZ (show y < 100 by omega))
      have HIX : Hid (∀ W : World, Calls Tryz.prog 70 #[.int .i64 (x : Int)] W fun e w' => e = .returned (.string (itoaZ x)) ∧ W = w') := Lib.hid (fun W => itoaZ_any x (by omega) W)
      have HIY : Hid (∀ W : World, Calls Tryz.prog 70 #[.int .i64 (y : Int)] W fun e w' => e = .returned (.string (itoaZ y)) ∧ W = w') := Lib.hid (fun W => itoaZ_any y (by omega) W)
      have HXS : Hid ((itoaZ x).size ≤ 2) := Lib.hid (by rw [← tx_length, HX.out]; exact digs99 hx)
      have HYS : Hid ((itoaZ y).size ≤ 2) := Lib.hid (by rw [← tx_length, HY.out]; exact digs99 hy)
      clear ho ha hb hkk hx hy
      go_wp2_with fail
      refine (numberOk_any (x : Int) _).mono ?_
      rintro e w' ⟨rfl, rfl⟩
      rw [dA]
      go_wp2_with fail
      refine (numberOk_any (y : Int) _).mono ?_
      rintro e w' ⟨rfl, rfl⟩
      rw [dB]
      have HSB : Hid (∀ w', Kept [] w1 w' → w'.cell? ⟨w.heap.size, 0, none⟩ = some (.int .i64 (k : Int)) ∧ w'.cell? ⟨w.heap.size, 1, none⟩ = some (.int .i64 (x : Int)) ∧ w'.cell? ⟨w.heap.size, 2, none⟩ = some (.int .i64 (y : Int))) := Lib.hid (fun w' q => (HB1.out.stay q).three)
      have HFO : Hid (∀ W, Kept [] w1 W → Calls Tryz.prog 69 #[] W fun e w' => ∃ g, e = .returned (.slice (some ⟨g, 0, none⟩) 5 5) ∧ Hid (Bk w' g 98 formCells) ∧ Kept [] W w' ∧ Kept [] w1 w') := Lib.hid (fun W q => (deedForms_any W).mono (by rintro e w' ⟨rfl, rfl⟩; exact ⟨_, rfl, Lib.hid (Bk.new W _ formCells), (Kept.refl _ _).alloc _, q.alloc _⟩))
      clear dA dB
      go_wp2_with fail
      go_cut [3] from 22 to 26 (fun u3 wc => FormLaid wc w1 k u3)
      case first =>
        clear c0 c1 c2
        have K1x : Hid (Kept [] w1 w1.drew) := Lib.hid ((Kept.refl [] w1).drew)
        refine wp_region_held_drew (S := (fun w' => w'.cell? ⟨w.heap.size, 0, none⟩ = some (.int .i64 (k : Int)) ∧ w'.cell? ⟨w.heap.size, 1, none⟩ = some (.int .i64 (x : Int)) ∧ w'.cell? ⟨w.heap.size, 2, none⟩ = some (.int .i64 (y : Int)))) (by kernel_rfl) (HSB.out _ K1x.out) (fun hHeld => ?_)
        generalize w1.drew = X1 at *
        refine wpAnyH_take (i := 1) (v := ?_) (opAt_lr rfl) (by kernel_rfl) (by kernel_rfl) (by kernel_rfl) (fun _ _ _ h => h) (Or.inl ⟨by rfl, ?_⟩) (by assumption) ?_
        rotate_left
        · intro w9 hSw
          (try dsimp only at hSw)
          go_simp
          try with_reducible rfl
        try simp only [Act.put, List.setIfInBounds_toArray, List.set_cons_zero, List.set_cons_succ]
        refine wpAnyH_take (i := 2) (v := ?_) (opAt_lr rfl) (by kernel_rfl) (by kernel_rfl) (by kernel_rfl) (fun _ _ _ h => h) (Or.inl ⟨by rfl, ?_⟩) (by assumption) ?_
        rotate_left
        · intro w9 hSw
          (try dsimp only at hSw)
          go_simp
          try with_reducible rfl
        try simp only [Act.put, List.setIfInBounds_toArray, List.set_cons_zero, List.set_cons_succ]
        refine wpAnyH_ready (rs := [0, 5]) (by kernel_rfl) (by simp) ?_
        refine (AllReadyH.cons (opAt_lr rfl) (fun K hK => ?_) (AllReadyH.cons (opAt_lr rfl) (fun K hK => ?_) AllReadyH.nil))
        · go_simp
          go_at_call 69
          refine (HFO.out _ K1x.out).mono ?_
          rintro e X2 ⟨g, rfl, HFM, hk, hk0⟩
          refine hK.out _ _ (HSB.out _ hk0) (fun hHeld => ?_)
          clear hK K
          try simp only [Act.put, List.setIfInBounds_toArray, List.set_cons_zero, List.set_cons_succ]
          have K2x := Lib.hid hk0
          have HZ1 := Lib.hid (Kept.size (rows := []) hk)
          clear hk hk0
          refine wpAnyH_take (i := 3) (v := ?_) (opAt_lr rfl) (by kernel_rfl) (by kernel_rfl) (by kernel_rfl) (fun _ _ _ h => h) (Or.inl ⟨by rfl, ?_⟩) (by assumption) ?_
          rotate_left
          · intro w9 hSw
            (try dsimp only at hSw)
            go_simp
            rw [if_pos (by omega)]
            try with_reducible rfl
          try simp only [Act.put, List.setIfInBounds_toArray, List.set_cons_zero, List.set_cons_succ]
          refine wpAnyH_ready (rs := [4, 5]) (by kernel_rfl) (by simp) ?_
          refine (AllReadyH.cons (opAt_lr rfl) (fun K hK => ?_) (AllReadyH.cons (opAt_lr rfl) (fun K hK => ?_) AllReadyH.nil))
          · obtain ⟨q0, q1⟩ := forms_at HFM.out k hk5
            go_simp
            refine hK.out _ _ (HSB.out _ K2x.out) (fun hHeld => ?_)
            clear hK K
            try simp only [Act.put, List.setIfInBounds_toArray, List.set_cons_zero, List.set_cons_succ]
            clear q0 q1
            refine wpAnyH_ready (rs := [5]) (by kernel_rfl) (by simp) ?_
            refine (AllReadyH.cons (opAt_lr rfl) (fun K hK => ?_) AllReadyH.nil)
            go_simp
            have hka : Kept [] X2 (X2.alloc (.cells #[.string ⟨#[]⟩, .int .i64 0] 98)) := (Kept.refl _ _).alloc _
            have HFP := Lib.hid (Bk.new X2 98 #[.string ⟨#[]⟩, .int .i64 0])
            refine hK.out _ _ (HSB.out _ (K2x.out.trans hka (by simp))) (fun hHeld => ?_)
            clear hK K
            try simp only [Act.put, List.setIfInBounds_toArray, List.set_cons_zero, List.set_cons_succ]
            obtain ⟨fp, hfp⟩ : ∃ g, g = X2.heap.size := ⟨_, rfl⟩
            have hZfp : w1.heap.size ≤ fp := by rw [hfp]; exact K2x.out.size
            have HZ2 : Hid (X2.heap.size + 1 ≤ (X2.alloc (.cells #[.string ⟨#[]⟩, .int .i64 0] 98)).heap.size) := Lib.hid (by simp)
            have Hfp := Lib.hid hfp
            have K3x := Lib.hid (K2x.out.trans hka (by simp))
            have HFM := Lib.hid (HFM.out.stay hka)
            generalize X2.alloc (.cells #[.string ⟨#[]⟩, .int .i64 0] 98) = X3 at *
            rw [← hfp] at HFP ⊢
            clear hka hfp
            refine wpAnyH_ready (rs := [6]) (by kernel_rfl) (by simp) ?_
            refine (AllReadyH.cons (opAt_lr rfl) (fun K hK => ?_) AllReadyH.nil)
            have l0 := HFP.out.cell 0 rfl
            have l1 := HFP.out.cell 1 rfl
            have f0 := HFP.out.frozen 0
            have f1 := HFP.out.frozen 1
            have hll := HFP.out.lt
            have k3 := (K3x.out.setCell (p := ⟨fp, 0, none⟩) (.inr hZfp) (.string (fwAt k))).setCell (p := ⟨fp, 1, none⟩) (.inr hZfp) (.int .i64 (fnAt k))
            go_simp
            refine hK.out _ _ (HSB.out _ k3) (fun hHeld => ?_)
            clear hK K
            try simp only [Act.put, List.setIfInBounds_toArray, List.set_cons_zero, List.set_cons_succ]
            have HBK := Lib.hid ((HFP.out.set 0 (.string (fwAt k))).set 1 (.int .i64 (fnAt k)))
            have K4x := Lib.hid k3
            refine wpAnyH_done (by kernel_rfl) ?_ _
            go_wp2_with fail
            go_meet
            exact ⟨fp, rfl, HBK.out, K4x.out⟩
          · go_simp
            have hka : Kept [] X2 (X2.alloc (.cells #[.string ⟨#[]⟩, .int .i64 0] 98)) := (Kept.refl _ _).alloc _
            have HFP := Lib.hid (Bk.new X2 98 #[.string ⟨#[]⟩, .int .i64 0])
            refine hK.out _ _ (HSB.out _ (K2x.out.trans hka (by simp))) (fun hHeld => ?_)
            clear hK K
            try simp only [Act.put, List.setIfInBounds_toArray, List.set_cons_zero, List.set_cons_succ]
            obtain ⟨fp, hfp⟩ : ∃ g, g = X2.heap.size := ⟨_, rfl⟩
            have hZfp : w1.heap.size ≤ fp := by rw [hfp]; exact K2x.out.size
            have HZ2 : Hid (X2.heap.size + 1 ≤ (X2.alloc (.cells #[.string ⟨#[]⟩, .int .i64 0] 98)).heap.size) := Lib.hid (by simp)
            have Hfp := Lib.hid hfp
            have K3x := Lib.hid (K2x.out.trans hka (by simp))
            have HFM := Lib.hid (HFM.out.stay hka)
            generalize X2.alloc (.cells #[.string ⟨#[]⟩, .int .i64 0] 98) = X3 at *
            rw [← hfp] at HFP ⊢
            clear hka hfp
            refine wpAnyH_ready (rs := [4]) (by kernel_rfl) (by simp) ?_
            refine (AllReadyH.cons (opAt_lr rfl) (fun K hK => ?_) AllReadyH.nil)
            obtain ⟨q0, q1⟩ := forms_at HFM.out k hk5
            go_simp
            refine hK.out _ _ (HSB.out _ K3x.out) (fun hHeld => ?_)
            clear hK K
            try simp only [Act.put, List.setIfInBounds_toArray, List.set_cons_zero, List.set_cons_succ]
            clear q0 q1
            refine wpAnyH_ready (rs := [6]) (by kernel_rfl) (by simp) ?_
            refine (AllReadyH.cons (opAt_lr rfl) (fun K hK => ?_) AllReadyH.nil)
            have l0 := HFP.out.cell 0 rfl
            have l1 := HFP.out.cell 1 rfl
            have f0 := HFP.out.frozen 0
            have f1 := HFP.out.frozen 1
            have hll := HFP.out.lt
            have k3 := (K3x.out.setCell (p := ⟨fp, 0, none⟩) (.inr hZfp) (.string (fwAt k))).setCell (p := ⟨fp, 1, none⟩) (.inr hZfp) (.int .i64 (fnAt k))
            go_simp
            refine hK.out _ _ (HSB.out _ k3) (fun hHeld => ?_)
            clear hK K
            try simp only [Act.put, List.setIfInBounds_toArray, List.set_cons_zero, List.set_cons_succ]
            have HBK := Lib.hid ((HFP.out.set 0 (.string (fwAt k))).set 1 (.int .i64 (fnAt k)))
            have K4x := Lib.hid k3
            refine wpAnyH_done (by kernel_rfl) ?_ _
            go_wp2_with fail
            go_meet
            exact ⟨fp, rfl, HBK.out, K4x.out⟩
        · go_simp
          have hka : Kept [] X1 (X1.alloc (.cells #[.string ⟨#[]⟩, .int .i64 0] 98)) := (Kept.refl _ _).alloc _
          have HFP := Lib.hid (Bk.new X1 98 #[.string ⟨#[]⟩, .int .i64 0])
          refine hK.out _ _ (HSB.out _ (K1x.out.trans hka (by simp))) (fun hHeld => ?_)
          clear hK K
          try simp only [Act.put, List.setIfInBounds_toArray, List.set_cons_zero, List.set_cons_succ]
          obtain ⟨fp, hfp⟩ : ∃ g, g = X1.heap.size := ⟨_, rfl⟩
          have hZfp : w1.heap.size ≤ fp := by rw [hfp]; exact K1x.out.size
          have HZ1 : Hid (X1.heap.size + 1 ≤ (X1.alloc (.cells #[.string ⟨#[]⟩, .int .i64 0] 98)).heap.size) := Lib.hid (by simp)
          have Hfp := Lib.hid hfp
          have K2x := Lib.hid (K1x.out.trans hka (by simp))
          generalize X1.alloc (.cells #[.string ⟨#[]⟩, .int .i64 0] 98) = X2 at *
          rw [← hfp] at HFP ⊢
          clear hka hfp
          refine wpAnyH_ready (rs := [0]) (by kernel_rfl) (by simp) ?_
          refine (AllReadyH.cons (opAt_lr rfl) (fun K hK => ?_) AllReadyH.nil)
          go_simp
          go_at_call 69
          refine (HFO.out _ K2x.out).mono ?_
          rintro e X3 ⟨g, rfl, HFM, hk, hk0⟩
          refine hK.out _ _ (HSB.out _ hk0) (fun hHeld => ?_)
          clear hK K
          try simp only [Act.put, List.setIfInBounds_toArray, List.set_cons_zero, List.set_cons_succ]
          have K3x := Lib.hid hk0
          have HZ2 := Lib.hid (Kept.size (rows := []) hk)
          have HFP := Lib.hid (HFP.out.stay hk)
          clear hk hk0
          refine wpAnyH_take (i := 3) (v := ?_) (opAt_lr rfl) (by kernel_rfl) (by kernel_rfl) (by kernel_rfl) (fun _ _ _ h => h) (Or.inl ⟨by rfl, ?_⟩) (by assumption) ?_
          rotate_left
          · intro w9 hSw
            (try dsimp only at hSw)
            go_simp
            rw [if_pos (by omega)]
            try with_reducible rfl
          try simp only [Act.put, List.setIfInBounds_toArray, List.set_cons_zero, List.set_cons_succ]
          refine wpAnyH_ready (rs := [4]) (by kernel_rfl) (by simp) ?_
          refine (AllReadyH.cons (opAt_lr rfl) (fun K hK => ?_) AllReadyH.nil)
          obtain ⟨q0, q1⟩ := forms_at HFM.out k hk5
          go_simp
          refine hK.out _ _ (HSB.out _ K3x.out) (fun hHeld => ?_)
          clear hK K
          try simp only [Act.put, List.setIfInBounds_toArray, List.set_cons_zero, List.set_cons_succ]
          clear q0 q1
          refine wpAnyH_ready (rs := [6]) (by kernel_rfl) (by simp) ?_
          refine (AllReadyH.cons (opAt_lr rfl) (fun K hK => ?_) AllReadyH.nil)
          have l0 := HFP.out.cell 0 rfl
          have l1 := HFP.out.cell 1 rfl
          have f0 := HFP.out.frozen 0
          have f1 := HFP.out.frozen 1
          have hll := HFP.out.lt
          have k3 := (K3x.out.setCell (p := ⟨fp, 0, none⟩) (.inr hZfp) (.string (fwAt k))).setCell (p := ⟨fp, 1, none⟩) (.inr hZfp) (.int .i64 (fnAt k))
          go_simp
          refine hK.out _ _ (HSB.out _ k3) (fun hHeld => ?_)
          clear hK K
          try simp only [Act.put, List.setIfInBounds_toArray, List.set_cons_zero, List.set_cons_succ]
          have HBK := Lib.hid ((HFP.out.set 0 (.string (fwAt k))).set 1 (.int .i64 (fnAt k)))
          have K4x := Lib.hid k3
          refine wpAnyH_done (by kernel_rfl) ?_ _
          go_wp2_with fail
          go_meet
          exact ⟨fp, rfl, HBK.out, K4x.out⟩
      case rest =>
        obtain ⟨fp, rfl, hbk, hkc⟩ := hcut
        rw [fn_fm] at hbk
        have HFP := Lib.hid hbk
        have HBC := Lib.hid (HB1.out.stay hkc)
        have HKC := Lib.hid (HK1.out.trans hkc (by simp))
        have hm2 := fm_two k
        clear hkc hbk HSB HFO HB1 HK1 c0 c1 c2
        obtain ⟨c0, c1, c2⟩ := HBC.out.three
        have r0 := HFP.out.cell 0 rfl
        have r1 := HFP.out.cell 1 rfl
        have HD0 : Hid (tx (fwAt k) = dtxTo (tx (fwAt k)) x y 0) := Lib.hid rfl
        generalize hfw : fwAt k = f at *
        generalize hfm : fmAt k = m at *
        clear hfw hfm
        have HLIT : Hid (Sl (wc.alloc (.cells #[.int .i64 (x : Int), .int .i64 (y : Int)] 3)) wc.heap.size (.slice (some ⟨wc.heap.size, 0, none⟩) 2 2) (Nt.nats [x, y])) := Lib.hid (Sl.lit wc (Nt.nats [x, y]) (by simp [Nt.nats]))
        have HKL := Lib.hid (HKC.out.alloc (.cells #[.int .i64 (x : Int), .int .i64 (y : Int)] 3))
        have HFL := Lib.hid (HFP.out.stay ((Kept.refl [] wc).alloc (.cells #[.int .i64 (x : Int), .int .i64 (y : Int)] 3)))
        have r3 := HFL.out.cell 1 rfl
        have HGL : Hid (wc.heap.size < (wc.alloc (.cells #[.int .i64 (x : Int), .int .i64 (y : Int)] 3)).heap.size) := Lib.hid (by simp)
        have HC2 : Hid (∀ j, j < 2 → (wc.alloc (.cells #[.int .i64 (x : Int), .int .i64 (y : Int)] 3)).cell? ⟨wc.heap.size, j, none⟩ = some (.int .i64 ((([x, y].getD j 0 : Nat)) : Int))) := Lib.hid (fun j hj => by
          have h := (HLIT.out.at j (by simpa [Nt.nats] using hj)).1
          rw [Nt.nats_get] at h
          exact h)
        go_wp2
        go_loopw [4, 38] (fun u i wr => ∃ (j : Nat) (z : ByteArray), j ≤ m ∧ i = .int .i64 j ∧ u = .string z ∧ tx z = dtxTo (tx f) x y j ∧ Kept [] (wc.alloc (.cells #[.int .i64 (x : Int), .int .i64 (y : Int)] 3)) wr) (fun _ i _ => m - (intOf i).toNat)
        case atStart => exact ⟨0, _, Nat.zero_le _, rfl, rfl, HD0.out, Kept.refl _ _⟩
        case round =>
          obtain ⟨j, z, hj, rfl, rfl, hz, hkept⟩ := hrel
          have HZ := Lib.hid hz
          have HK := Lib.hid hkept
          have HZL : Hid (z.size ≤ 11) := Lib.hid (by rw [← tx_length, hz]; exact HDS.out j)
          by_cases hlt : j < m
          · have ck := (hkept.cell (p := ⟨wc.heap.size, j, none⟩) HGL.out (by simp)).trans (HC2.out j (by omega))
            have h01 : j = 0 ∨ j = 1 := by omega
            clear hz hkept
            rcases h01 with rfl | rfl
            · have ck0 : wr.cell? ⟨wc.heap.size, 0, none⟩ = some (.int .i64 (x : Int)) := ck
              obtain ⟨y1, hy1, hys1, hadd1⟩ := add_tx ⟨#[32]⟩ (itoaZ x) (by have := HXS.out; show 1 + _ ≤ _; omega)
              obtain ⟨y2, hy2, hys2, hadd2⟩ := add_tx z y1 (by have := HXS.out; have := HZL.out; rw [hys1]; show _ + (1 + _) ≤ _; omega)
              have HY2 : Hid (tx y2 = dtxTo (tx f) x y 1) := Lib.hid (by rw [hy2, hy1, HZ.out, HX.out]; unfold dtxTo; simp; rfl)
              clear ck hy1 hy2 hys1 hys2
              go_wp2_with fail
              refine (HIX.out _).mono ?_
              rintro e w' ⟨rfl, rfl⟩
              go_wp2
              go_roundw
              case rel => exact ⟨1, y2, by omega, by go_num, rfl, HY2.out, HK.out⟩
              case measure => simp [intOf]; omega
            · have ck0 : wr.cell? ⟨wc.heap.size, 1, none⟩ = some (.int .i64 (y : Int)) := ck
              obtain ⟨y1, hy1, hys1, hadd1⟩ := add_tx ⟨#[32]⟩ (itoaZ y) (by have := HYS.out; show 1 + _ ≤ _; omega)
              obtain ⟨y2, hy2, hys2, hadd2⟩ := add_tx z y1 (by have := HYS.out; have := HZL.out; rw [hys1]; show _ + (1 + _) ≤ _; omega)
              have HY2 : Hid (tx y2 = dtxTo (tx f) x y 2) := Lib.hid (by rw [hy2, hy1, HZ.out, HY.out]; unfold dtxTo; simp; rfl)
              clear ck hy1 hy2 hys1 hys2
              go_wp2_with fail
              refine (HIY.out _).mono ?_
              rintro e w' ⟨rfl, rfl⟩
              go_wp2
              go_roundw
              case rel => exact ⟨2, y2, by omega, by go_num, rfl, HY2.out, HK.out⟩
              case measure => simp [intOf]; omega
          · have hj' : m = j := by omega
            subst hj'
            clear hz hkept
            go_wp2
            go_ret
            exact ⟨_, rfl, by rw [HZ.out, HDT.out], HKL.out.trans HK.out (by simp)⟩
    · have dA : decide (0 ≤ a ∧ a ≤ 99) = true := dec_of ha
      have dB : decide (0 ≤ b ∧ b ≤ 99) = false := dec_not hb
      have HF := Lib.hid (deedT_bad (k := k) (a := a) (b := b) (fun h => hb h.2.2))
      clear ho ha hb
      go_wp2_with fail
      refine (numberOk_any a _).mono ?_
      rintro e w' ⟨rfl, rfl⟩
      rw [dA]
      go_wp2_with fail
      refine (numberOk_any b _).mono ?_
      rintro e w' ⟨rfl, rfl⟩
      rw [dB]
      go_wp2
      go_ret
      exact ⟨_, rfl, by rw [HF.out]; rfl, HK1.out⟩
  · have dA : decide (0 ≤ a ∧ a ≤ 99) = false := dec_not ha
    have HF := Lib.hid (deedT_bad (k := k) (a := a) (b := b) (fun h => ha h.2.1))
    clear ho ha
    go_wp2_with fail
    refine (numberOk_any a _).mono ?_
    rintro e w' ⟨rfl, rfl⟩
    rw [dA]
    go_wp2
    go_ret
    exact ⟨_, rfl, by rw [HF.out]; rfl, HK1.out⟩

set_option maxHeartbeats 1000000 in
set_option maxRecDepth 100000 in
theorem wordIs_any (f z : ByteArray) (n : Int) (b : Nat) (w : World) (hb : w.cell? ⟨b, 0, none⟩ = some (.string z)) :
    Calls Tryz.prog 161 #[.agg #[.string f, .int .i64 n], .pointer (some ⟨b, 0, none⟩)] w fun e w' => e = .returned (.bool (decide (tx f = tx z))) ∧ Kept [] w w' := by
  have HK0 : Hid (Kept [] w (w.alloc (.cells #[.string f, .int .i64 n] 98))) := Lib.hid ((Kept.refl [] w).alloc _)
  have k0 := (HK0.out.cell (p := ⟨b, 0, none⟩) (World.block_lt_of_cell? w _ hb) (by simp)).trans hb
  have k1 := (Bk.new w 98 #[.string f, .int .i64 n]).cell 0 rfl
  clear hb
  by_cases h : tx f = tx z
  · have d1 : (f.toList == z.toList) = true := str_yes h
    rw [decide_eq_true h]
    clear h
    go_enter Tryz.func161, Tryz.ntmps161
    go_wp2
    go_ret
    exact ⟨rfl, HK0.out⟩
  · have d1 : (f.toList == z.toList) = false := str_no h
    rw [decide_eq_false h]
    clear h
    go_enter Tryz.func161, Tryz.ntmps161
    go_wp2
    go_ret
    exact ⟨rfl, HK0.out⟩

set_option maxHeartbeats 2000000 in
set_option maxRecDepth 100000 in
theorem indexWord_any (z : ByteArray) (b g : Nat) (w : World) (hF : Bk w g 98 formCells) (hb : w.cell? ⟨b, 0, none⟩ = some (.string z)) :
    Calls Tryz.prog 160 #[.slice (some ⟨g, 0, none⟩) 5 5, .func (.func 161) #[] #[.pointer (some ⟨b, 0, none⟩)]] w fun e w' => e = .returned (.int .i64 (Nt.kindW (tx z))) ∧ Kept [] w w' := by
  have HF := Lib.hid hF
  have HB := Lib.hid hb
  have HBL := Lib.hid (World.block_lt_of_cell? w _ hb)
  have HW := Lib.hid (fun k (hk : k < 5) => @kindW_at (tx z) k hk)
  have HN := Lib.hid (@kindW_none (tx z))
  clear hF hb
  go_enter Tryz.func160, Tryz.ntmps160
  go_wp2
  go_loopw [8] (fun i wr => ∃ k : Nat, k ≤ 5 ∧ i = .int .i64 k ∧ (∀ j, j < k → tx (fwAt j) ≠ tx z) ∧ Kept [] w wr) (fun i _ => 5 - (intOf i).toNat)
  case atStart => exact ⟨0, Nat.zero_le _, rfl, fun j hj => absurd hj (by omega), Kept.refl _ _⟩
  case round =>
    obtain ⟨k, hk, rfl, hne, hkept⟩ := hrel
    have HNE := Lib.hid hne
    have HK := Lib.hid hkept
    by_cases hlt : k < 5
    · obtain ⟨k0, k1⟩ := forms_at (HF.out.stay hkept) k hlt
      have HBR := Lib.hid ((hkept.cell (p := ⟨b, 0, none⟩) HBL.out (by simp)).trans HB.out)
      have HWK := Lib.hid (HW.out k hlt)
      have HLT := Lib.hid hlt
      generalize hf : fwAt k = f at *
      have HFE := Lib.hid hf
      generalize fnAt k = m at *
      clear hne hkept hf
      go_wp2_with fail
      refine (wordIs_any f z m b _ HBR.out).mono ?_
      rintro e w2 ⟨rfl, hk2⟩
      have HK2 := Lib.hid (HK.out.trans hk2 (by simp))
      clear hk2 k0 k1
      by_cases h : tx f = tx z
      · rw [decide_eq_true h]
        have HR := Lib.hid (HWK.out HNE.out h)
        clear h
        go_wp2
        go_ret
        exact ⟨by rw [HR.out]; rfl, HK2.out⟩
      · rw [decide_eq_false h]
        have HNX : Hid (∀ j, j < k + 1 → tx (fwAt j) ≠ tx z) := Lib.hid (fun j hj => by
          by_cases e : j = k
          · subst e; rw [HFE.out]; exact h
          · exact HNE.out j (by omega))
        clear h
        go_wp2
        go_roundw
        case rel => exact ⟨k + 1, by omega, by go_num, HNX.out, HK2.out⟩
        case measure => simp [intOf]; omega
    · have hk' : k = 5 := by omega
      subst hk'
      have HR := Lib.hid (HN.out hne)
      clear hne hkept
      go_wp2
      go_ret
      exact ⟨by rw [HR.out]; rfl, HK.out⟩

set_option maxHeartbeats 1000000 in
set_option maxRecDepth 100000 in
theorem kindOfWord_any (z : ByteArray) (w : World) :
    Calls Tryz.prog 108 #[.string z] w fun e w' => e = .returned (.int .i64 (Nt.kindW (tx z))) ∧ Kept [] w w' := by
  have HB := Lib.hid (Bk.new w 9 #[.string z])
  have HK0 : Hid (Kept [] w (w.alloc (.cells #[.string z] 9))) := Lib.hid ((Kept.refl [] w).alloc _)
  go_enter Tryz.func108, Tryz.ntmps108
  go_wp2_with fail
  generalize w.alloc (.cells #[.string z] 9) = W0 at *
  refine (deedForms_any _).mono ?_
  rintro e w1 ⟨rfl, rfl⟩
  have hk1 : Kept [] W0 (W0.alloc (.cells formCells 98)) := (Kept.refl [] W0).alloc _
  have HF := Lib.hid (Bk.new W0 98 formCells)
  have HB1 := Lib.hid ((HB.out.stay hk1).cell 0 rfl)
  have HK1 := Lib.hid (HK0.out.trans hk1 (by simp))
  clear hk1
  go_wp2_with fail
  refine (indexWord_any z _ _ _ HF.out HB1.out).mono ?_
  rintro e w2 ⟨rfl, hk2⟩
  have HK2 := Lib.hid (HK1.out.trans hk2 (by simp))
  clear hk2
  go_wp2
  go_ret
  exact ⟨rfl, HK2.out⟩

set_option maxHeartbeats 4000000 in
set_option maxRecDepth 100000 in
theorem iReadDeed_any (s : ByteArray) (hs : s.size ≤ 1100000) (w : World) (he : ErrW w) :
    Calls Tryz.prog 59 #[.string s] w fun e w' => e = .returned (.tuple #[dv (rdD (tx s)), .bool (rdB (tx s))]) ∧ Kept [] w w' := by
  have HR0 := Lib.hid (Bk.new w 41 #[.int .i64 0, .int .i64 0, .int .i64 0])
  have HK0 : Hid (Kept [] w (w.alloc (.cells #[.int .i64 0, .int .i64 0, .int .i64 0] 41))) := Lib.hid ((Kept.refl [] w).alloc _)
  have HE := Lib.hid (he.stay HK0.out)
  have HS : Hid (s.size ≤ 2000000) := Lib.hid (by omega)
  clear hs he
  go_enter Tryz.func59, Tryz.ntmps59
  go_wp2_with fail
  generalize w.alloc (.cells #[.int .i64 0, .int .i64 0, .int .i64 0] 41) = W0 at *
  refine (cut32_any s HS.out _ HE.out).mono ?_
  rintro e w1 ⟨word, behind, ok, rfl, hp1, hq1⟩
  have HP1 := Lib.hid hp1
  have HK1 := Lib.hid (HK0.out.trans hq1.kept (by simp))
  have HE1 := Lib.hid (HE.out.stay hq1.kept)
  have HR1 := Lib.hid (HR0.out.stay hq1.kept)
  have HBS : Hid (behind.size ≤ 2000000) := Lib.hid (by have h := hp1.len.2.1; rw [tx_length, tx_length] at h; exact Nat.le_trans h HS.out)
  clear hp1 hq1 HE HR0 HK0
  go_wp2_with fail
  refine (cut32_any behind HBS.out _ HE1.out).mono ?_
  rintro e w2 ⟨a, b, ok2, rfl, hp2, hq2⟩
  have HP2 := Lib.hid hp2
  have HK2 := Lib.hid (HK1.out.trans hq2.kept (by simp))
  have HE2 := Lib.hid (HE1.out.stay hq2.kept)
  have HR2 := Lib.hid (HR1.out.stay hq2.kept)
  have HAS : Hid (a.size ≤ 2000000) := Lib.hid (by have h := hp2.len.1; rw [tx_length, tx_length] at h; exact Nat.le_trans h HBS.out)
  have HBB : Hid (b.size ≤ 2000000) := Lib.hid (by have h := hp2.len.2.1; rw [tx_length, tx_length] at h; exact Nat.le_trans h HBS.out)
  clear hp2 hq2 HE1 HR1 HK1
  go_wp2_with fail
  refine (kindOfWord_any word _).mono ?_
  rintro e w3 ⟨rfl, hk3⟩
  have HK3 := Lib.hid (HK2.out.trans hk3 (by simp))
  have HE3 := Lib.hid (HE2.out.stay hk3)
  have HR3 := Lib.hid (HR2.out.stay hk3)
  clear hk3 HE2 HR2 HK2
  go_wp2_with fail
  refine (numberIn_any a HAS.out _ HE3.out).mono ?_
  rintro e w4 ⟨va, rfl, ha, hk4⟩
  have HA := Lib.hid ha
  have HK4 := Lib.hid (HK3.out.trans hk4 (by simp))
  have HE4 := Lib.hid (HE3.out.stay hk4)
  have HR4 := Lib.hid (HR3.out.stay hk4)
  clear ha hk4 HE3 HR3 HK3
  go_wp2_with fail
  refine (numberIn_any b HBB.out _ HE4.out).mono ?_
  rintro e w5 ⟨vb, rfl, hb, hk5⟩
  have HRD : Hid (Nt.readD (tx s) = if tx s ≠ [] ∧ Nt.deedT ⟨Nt.kindW (tx word), va, vb⟩ = tx s then some ⟨Nt.kindW (tx word), va, vb⟩ else none) := Lib.hid (Nt.readD_is (fun d' h => Nt.readD_cand HP1.out HP2.out HA.out hb h))
  generalize Nt.kindW (tx word) = kk at *
  have hka : Kept [] w5 (w5.alloc (.cells #[.int .i64 kk, .int .i64 va, .int .i64 vb] 41)) := (Kept.refl [] w5).alloc _
  have HD6 := Lib.hid (Bk.new w5 41 #[.int .i64 kk, .int .i64 va, .int .i64 vb])
  have HK6 := Lib.hid ((HK4.out.trans hk5 (by simp)).trans hka (by simp))
  have HR6 := Lib.hid ((HR4.out.stay hk5).stay hka)
  clear hb hk5 hka HE4 HR4 HK4
  obtain ⟨d0, d1, d2⟩ := HD6.out.three
  obtain ⟨q0, q1, q2⟩ := HR6.out.three
  have f0 := HR6.out.frozen 0
  have f1 := HR6.out.frozen 1
  have f2 := HR6.out.frozen 2
  have hrl := HR6.out.lt
  have hdl := HD6.out.lt
  by_cases h0 : tx s = []
  · have hem := empty_yes (s := s) h0
    have HN : Hid (Nt.readD (tx s) = none) := Lib.hid (by rw [HRD.out, if_neg (fun h => h.1 h0)])
    clear h0
    go_wp2
    (try simp only [Exit.inBlock, Exit.then])
    refine bodyPost_ret (v := .tuple #[.agg #[.int .i64 0, .int .i64 0, .int .i64 0], .bool false]) ?_ rfl ?_
    · rw [results_cell_tmp rfl]
      simp [asAddr, ret_deed (HR6.out.set3 _ _ _)]
    · rw [(rd_none HN.out).1, (rd_none HN.out).2]
      exact ⟨rfl, HK6.out.set3 (Nat.le_refl _) _ _ _⟩
  · have hem := empty_no (s := s) h0
    have H0 := Lib.hid h0
    clear h0
    go_wp2_with fail
    generalize w5.alloc (.cells #[.int .i64 kk, .int .i64 va, .int .i64 vb] 41) = W6 at *
    refine (iDeedText_any kk va vb _).mono ?_
    rintro e w7 ⟨z, rfl, hz, hk7⟩
    have HK7 := Lib.hid (HK6.out.trans hk7 (by simp))
    have HR7 := Lib.hid (HR6.out.stay hk7)
    have HD7 := Lib.hid (HD6.out.stay hk7)
    clear hk7 d0 d1 d2 q0 q1 q2 f0 f1 f2 hrl hdl HR6 HD6
    obtain ⟨d0, d1, d2⟩ := HD7.out.three
    obtain ⟨q0, q1, q2⟩ := HR7.out.three
    have f0 := HR7.out.frozen 0
    have f1 := HR7.out.frozen 1
    have f2 := HR7.out.frozen 2
    have hrl := HR7.out.lt
    have hdl := HD7.out.lt
    by_cases he : Nt.deedT ⟨kk, va, vb⟩ = tx s
    · have e1 : (z.toList == s.toList) = true := str_yes (by rw [hz, he])
      have HN : Hid (Nt.readD (tx s) = some ⟨kk, va, vb⟩) := Lib.hid (by rw [HRD.out, if_pos ⟨H0.out, he⟩])
      clear hz he
      go_wp2
      (try simp only [Exit.inBlock, Exit.then])
      refine bodyPost_ret (v := .tuple #[.agg #[.int .i64 kk, .int .i64 va, .int .i64 vb], .bool true]) ?_ rfl ?_
      · rw [results_cell_tmp rfl]
        simp [asAddr, ret_deed (HR7.out.set3 _ _ _)]
      · rw [(rd_some HN.out).1, (rd_some HN.out).2]
        exact ⟨rfl, HK7.out.set3 (Nat.le_refl _) _ _ _⟩
    · have e1 : (z.toList == s.toList) = false := str_no (by rw [hz]; exact he)
      have HN : Hid (Nt.readD (tx s) = none) := Lib.hid (by rw [HRD.out, if_neg (fun h => he h.2)])
      clear hz he
      go_wp2
      (try simp only [Exit.inBlock, Exit.then])
      refine bodyPost_ret (v := .tuple #[.agg #[.int .i64 0, .int .i64 0, .int .i64 0], .bool false]) ?_ rfl ?_
      · rw [results_cell_tmp rfl]
        simp [asAddr, ret_deed (HR7.out.set3 _ _ _)]
      · rw [(rd_none HN.out).1, (rd_none HN.out).2]
        exact ⟨rfl, HK7.out.set3 (Nat.le_refl _) _ _ _⟩
end Go.Proofs.YtnajdbnacdnnlaaGreatDoor

namespace Go.Proofs.YtnajdbnacdnnlaaGreatDoor
open Go.RowKit

/-- The text of a line. -/
def lineTx (ds : List Nt.Dd) (k : Nat) : List Nat := Nt.deedT (jdAt ds k) ++ [10]
theorem lines_flat (ds : List Nt.Dd) : ((List.range ds.length).map (lineTx ds)).flatten = Nt.jrnT ds := by
  have h : ∀ k, k ≤ ds.length → ((List.range k).map (lineTx ds)).flatten = Nt.jrnT (ds.take k) := by
    intro k
    induction k with
    | zero => intro _; rfl
    | succ k ih =>
      intro hk
      rw [List.range_succ, List.map_append, List.flatten_append, ih (by omega), jrn_take (by omega)]
      simp [lineTx]
  have := h ds.length (Nat.le_refl _)
  rw [List.take_length] at this
  exact this

set_option maxHeartbeats 4000000 in
set_option maxRecDepth 100000 in
theorem iJournalText_any (ds : List Nt.Dd) (hl : ds.length ≤ 1100000) (w : World) (v : Value) (base : Nat) (h : Dg w base v ds) :
    Calls Tryz.prog 20 #[v] w fun e w' => ∃ z, e = .returned (.string z) ∧ tx z = Nt.jtxt ds ∧ Kept [] w w' := by
  obtain ⟨a, cap, rfl, hc⟩ := h.rows
  have HC := Lib.hid hc
  obtain ⟨n, hn⟩ : ∃ n, n = ds.length := ⟨_, rfl⟩
  have HNO : Hid (∀ k, k < n → Nt.deedT (jdAt ds k) = [] → Nt.jtxt ds = []) := Lib.hid (fun k hk => jtxt_no (by omega))
  have HALL : Hid ((∀ j, j < n → Nt.deedT (jdAt ds j) ≠ []) → Nt.jtxt ds = ((List.range n).map (lineTx ds)).flatten) := Lib.hid (fun h => by rw [hn, lines_flat]; exact jtxt_all (by rw [← hn]; exact h))
  have HJL : Hid ((((List.range n).map (lineTx ds)).flatten).length ≤ 1000000000) := Lib.hid (by
    have h1 := jrn_small ds
    rw [hn, lines_flat]; omega)
  have hn11 : n ≤ 1100000 := by omega
  rw [← hn] at HC ⊢
  clear h hc hn hl
  go_enter Tryz.func20, Tryz.ntmps20
  go_wp2_with (at_make; refine make_text _ n rfl _ _ rfl rfl rfl (by omega) ?_; intro w2 hs2 hk2 _; have HT2 := Lib.hid hs2; have HK2 := Lib.hid hk2; clear hs2 hk2)
  go_loopw [12] (fun i wr => ∃ (k : Nat) (ps : List ByteArray), k ≤ n ∧ i = .int .i64 k ∧ Ts wr w.heap.size (.slice (some ⟨w.heap.size, 0, none⟩) n n) ps ∧ ps.length = n ∧ (∀ j, j < k → tx (atT ps j) = lineTx ds j ∧ Nt.deedT (jdAt ds j) ≠ []) ∧ Kept [] w wr) (fun i _ => n - (intOf i).toNat)
  case atStart => exact ⟨0, _, Nat.zero_le _, rfl, HT2.out, by simp, fun j hj => absurd hj (by omega), HK2.out⟩
  case round =>
    clear HT2 HK2
    obtain ⟨k, ps, hk, rfl, hts, hpl, hpt, hkept⟩ := hrel
    have HTS := Lib.hid hts
    have HPL := Lib.hid hpl
    have HPT := Lib.hid hpt
    have HK := Lib.hid hkept
    by_cases hlt : k < n
    · obtain ⟨g, rfl, hg, c0, c1, c2⟩ := HC.out k hlt
      have k0 := (hkept.cell (p := ⟨g, k * 3, none⟩) hg (by simp)).trans c0
      have k1 := (hkept.cell (p := ⟨g, k * 3 + 1, none⟩) hg (by simp)).trans c1
      have k2 := (hkept.cell (p := ⟨g, k * 3 + 2, none⟩) hg (by simp)).trans c2
      have HNO1 := Lib.hid (HNO.out k hlt)
      have HLT := Lib.hid hlt
      generalize hd : jdAt ds k = d at *
      have HD := Lib.hid hd
      obtain ⟨dk, da, db⟩ := d
      have HDS : Hid ((Nt.deedT ⟨dk, da, db⟩).length ≤ 11) := Lib.hid (deedT_small _)
      simp only at k0 k1 k2
      have hka : Kept [] wr (wr.alloc (.cells #[.int .i64 dk, .int .i64 da, .int .i64 db] 41)) := (Kept.refl [] wr).alloc _
      have HD5 := Lib.hid (Bk.new wr 41 #[.int .i64 dk, .int .i64 da, .int .i64 db])
      have HTS5 := Lib.hid (HTS.out.stay hka)
      have HK5 := Lib.hid (HK.out.trans hka (by simp))
      obtain ⟨d0, d1, d2⟩ := HD5.out.three
      clear hts hpl hpt hkept hd c0 c1 c2 hka
      go_wp2_with fail
      generalize wr.alloc (.cells #[.int .i64 dk, .int .i64 da, .int .i64 db] 41) = W5 at *
      refine (iDeedText_any dk da db _).mono ?_
      rintro e w6 ⟨z2, rfl, hz2, hk2⟩
      have HK6 := Lib.hid (HK5.out.trans hk2 (by simp))
      have HTS6 := Lib.hid (HTS5.out.stay hk2)
      clear k0 k1 k2 d0 d1 d2
      by_cases h0 : Nt.deedT ⟨dk, da, db⟩ = []
      · have hem := empty_yes (s := z2) (by rw [hz2, h0])
        have HF := Lib.hid (HNO1.out h0)
        clear hz2 hk2 h0
        go_wp2
        go_ret
        exact ⟨_, rfl, by rw [HF.out]; rfl, HK6.out⟩
      · have hem := empty_no (s := z2) (by rw [hz2]; exact h0)
        obtain ⟨y2, hy2, _, hadd2⟩ := add_tx z2 ⟨#[10]⟩ (by have := HDS.out; rw [← hz2, tx_length] at this; show z2.size + 1 ≤ _; omega)
        obtain ⟨q1, q2⟩ := HTS6.out.at k (by rw [HPL.out]; exact hlt)
        have HNX : Hid (∀ j, j < k + 1 → tx (atT (ps.set k y2) j) = lineTx ds j ∧ Nt.deedT (jdAt ds j) ≠ []) := Lib.hid (fun j hj => by
          rw [atT_set (by rw [HPL.out]; exact hlt)]
          by_cases e : j = k
          · rw [if_pos e, e]
            unfold lineTx
            rw [HD.out]
            exact ⟨by rw [hy2, hz2]; rfl, h0⟩
          · rw [if_neg e]; exact HPT.out j (by omega))
        clear hz2 hk2 h0 hy2
        go_wp2
        go_roundw
        case rel => exact ⟨k + 1, ps.set k y2, by omega, by go_num, HTS6.out.set HPL.out.symm k y2, by rw [List.length_set]; exact HPL.out, HNX.out, HK6.out.setCell (.inr (Nat.le_refl _)) _⟩
        case measure => simp [intOf]; omega
    · have hk' : n = k := by omega
      subst hk'
      have HM : Hid (ps.map tx = (List.range n).map (lineTx ds)) := Lib.hid (hts.tx_all hpl (fun k hk => (hpt k hk).1))
      have HF : Hid (Nt.jtxt ds = ((List.range n).map (lineTx ds)).flatten) := Lib.hid (HALL.out (fun j hj => (hpt j hj).2))
      clear hts hpl hpt hkept
      go_wp2_with fail
      refine (joinG_any joinAs0 ps n HPL.out (by omega) (by rw [HM.out]; exact HJL.out) _ _ _ _ HTS.out).mono ?_
      rintro e w7 ⟨z, rfl, hz, hk7⟩
      have HZ := Lib.hid hz
      have HK7 := Lib.hid (HK.out.trans hk7 (by simp))
      clear hz hk7
      go_wp2
      go_ret
      exact ⟨_, rfl, by rw [HZ.out, HM.out, HF.out], HK7.out⟩

/-! A journal read line by line. -/

theorem jstop {t : List Nat} {r : Nat} {ds : List Nt.Dd} (h : Nt.jgo [] t = ds ++ Nt.jgo [] (t.drop r)) (hl : Nt.jlen [] t = r + Nt.jlen [] (t.drop r)) (h2 : Nt.jgo [] (t.drop r) = [] ∧ Nt.jlen [] (t.drop r) = 0) : ds = Nt.jgo [] t ∧ r = Nt.jlen [] t := by
  rw [h2.1, List.append_nil] at h
  rw [h2.2, Nat.add_zero] at hl
  exact ⟨h.symm, hl.symm⟩

theorem jmore {t q p : List Nat} {r : Nat} {ds : List Nt.Dd} {d : Nt.Dd} (h : Nt.jgo [] t = ds ++ Nt.jgo [] (t.drop r)) (hl : Nt.jlen [] t = r + Nt.jlen [] (t.drop r)) (hp : Nt.Parted 10 (t.drop r) p q true) (hd : Nt.readD p = some d) :
    Nt.jgo [] t = (ds ++ [d]) ++ Nt.jgo [] (t.drop (r + (p.length + 1))) ∧ Nt.jlen [] t = (r + (p.length + 1)) + Nt.jlen [] (t.drop (r + (p.length + 1))) := by
  obtain ⟨e1, e2⟩ := Nt.jline_go hp hd
  have e3 : t.drop (r + (p.length + 1)) = q := by rw [← List.drop_drop]; exact (hp.len.2.2 rfl).2.1
  rw [h, hl, e1, e2, e3]
  exact ⟨by simp, by omega⟩

set_option maxHeartbeats 4000000 in
set_option maxRecDepth 100000 in
theorem iReadJournal_any (s : ByteArray) (hs : s.size ≤ 1100000) (w : World) (he : ErrW w) :
    Calls Tryz.prog 12 #[.string s] w fun e w' => ∃ u, e = .returned (.tuple #[u, .int .i64 (Nt.jlen [] (tx s) : Nat)]) ∧ Dg w' w.heap.size u (Nt.jgo [] (tx s)) ∧ Kept [] w w' := by
  have HE := Lib.hid he
  have HL := Lib.hid (tx_length s)
  clear he
  go_enter Tryz.func12, Tryz.ntmps12
  go_wp2
  go_loopw [4, 5] (fun u r wr => ∃ (f : Nat) (ds : List Nt.Dd), f ≤ s.size ∧ r = .int .i64 f ∧ Dg wr w.heap.size u ds ∧ ds.length ≤ f ∧ Nt.jgo [] (tx s) = ds ++ Nt.jgo [] ((tx s).drop f) ∧ Nt.jlen [] (tx s) = f + Nt.jlen [] ((tx s).drop f) ∧ Kept [] w wr) (fun _ r _ => s.size - (intOf r).toNat)
  case atStart => exact ⟨0, [], Nat.zero_le _, rfl, Tg.lit 41 w [] (by simp), Nat.le_refl _, by simp, by simp, (Kept.refl _ _).alloc _⟩
  case round =>
    obtain ⟨f, ds, hf, rfl, hdg, hdl, hgo, hlen, hkept⟩ := hrel
    have HDG := Lib.hid hdg
    have HK := Lib.hid hkept
    have HGO := Lib.hid hgo
    have HLEN := Lib.hid hlen
    have HFZ := Lib.hid hf
    have HE1 := Lib.hid (HE.out.stay hkept)
    have HPT : Hid (tx (s.extract f s.size) = (tx s).drop f) := Lib.hid (by rw [tx_part, ← tx_length, List.take_length])
    have HSZ : Hid ((s.extract f s.size).size ≤ 2000000) := Lib.hid (by rw [← tx_length, HPT.out, List.length_drop, tx_length]; omega)
    obtain ⟨ua, uc, rfl⟩ := Tg.any hdg
    rw [List.length_map] at HDG ⊢
    clear hdg hkept hgo hlen
    go_wp2_with fail
    all_goals (try omega)
    refine (cut10_any (s.extract f s.size) HSZ.out _ HE1.out).mono ?_
    rintro e w5 ⟨p, q, ok, rfl, hpp, hq5⟩
    rw [HPT.out] at hpp
    have HPP := Lib.hid hpp
    have HDG5 := Lib.hid (Tg.stay HDG.out hq5.kept)
    have HK5 := Lib.hid (HK.out.trans hq5.kept (by simp))
    have HE5 := Lib.hid (HE1.out.stay hq5.kept)
    have HPL : Hid (p.size ≤ s.size - f) := Lib.hid (by have h := hpp.len.1; rw [tx_length, List.length_drop, tx_length] at h; exact h)
    have HPZ : Hid (p.size ≤ 1100000) := Lib.hid (by have := HPL.out; omega)
    clear hpp hq5
    go_wp2_with fail
    refine (iReadDeed_any p HPZ.out _ HE5.out).mono ?_
    rintro e w6 ⟨rfl, hk6⟩
    have HDG6 := Lib.hid (Tg.stay HDG5.out hk6)
    have HK6 := Lib.hid (HK5.out.trans hk6 (by simp))
    clear hk6
    cases ok
    · have HJ := Lib.hid (jstop HGO.out HLEN.out (Nt.jline_no HPP.out rfl))
      generalize rdD (tx p) = D at *
      obtain ⟨dk, da, db⟩ := D
      rw [dv_eq]
      go_wp2
      go_ret2
      rw [← HJ.out.1, ← HJ.out.2]
      exact ⟨_, rfl, Tg.stay HDG6.out ((Kept.refl _ _).alloc _), HK6.out.alloc _⟩
    · cases hrd : Nt.readD (tx p) with
      | none =>
        have HJ := Lib.hid (jstop HGO.out HLEN.out (Nt.jline_bad HPP.out hrd))
        rw [(rd_none hrd).1, (rd_none hrd).2, dv_eq]
        clear hrd
        go_wp2
        go_ret2
        rw [← HJ.out.1, ← HJ.out.2]
        exact ⟨_, rfl, Tg.stay HDG6.out ((Kept.refl _ _).alloc _), HK6.out.alloc _⟩
      | some d =>
        have HJ := Lib.hid (jmore HGO.out HLEN.out HPP.out hrd)
        have HPB : Hid (f + (p.size + 1) ≤ s.size) := Lib.hid (by have h := (HPP.out.len.2.2 rfl).1; rw [tx_length, List.length_drop, tx_length] at h; omega)
        have hpb := HPB.out
        obtain ⟨dk, da, db⟩ := d
        rw [(rd_some hrd).1, (rd_some hrd).2, dv_eq]
        rw [tx_length] at HJ
        clear hrd
        obtain ⟨t1, t2, t3⟩ := two_new w6 41 41 #[.int .i64 dk, .int .i64 da, .int .i64 db] #[.int .i64 dk, .int .i64 da, .int .i64 db]
        have HDG7 := Lib.hid (Tg.stay HDG6.out t1)
        have HK7 := Lib.hid (HK6.out.trans t1 (by simp))
        have HB7 := Lib.hid t3
        have hdl2 : ds.length ≤ 1100000 := by omega
        clear t1 t3 t2
        go_wp2_with (at_builtin; refine app_triG 41 24 (.agg #[.int .i64 0, .int .i64 0, .int .i64 0]) 24 Tryz.underlying24 info_deed rfl (by omega) (ds.map d3) ([(⟨dk, da, db⟩ : Nt.Dd)].map d3) (d3_one _) rfl _ _ rfl w.heap.size _ HDG7.out rfl 1 rfl (w6.heap.size + 1) rfl HB7.out (by simp; omega) HK7.out.size ?_; intro u9 w9 hs9 hk9; have HDG9 : Hid (Dg w9 w.heap.size u9 (ds ++ [⟨dk, da, db⟩])) := Lib.hid (by unfold Dg; rw [List.map_append]; exact hs9); have HK9 := Lib.hid (HK7.out.own hk9 (fun g hg => (Tg.block HDG7.out hg).1)); clear hs9 hk9)
        go_roundw
        case rel => exact ⟨f + (p.size + 1), _, hpb, by go_num, HDG9.out, by rw [List.length_append]; show ds.length + 1 ≤ _; omega, HJ.out.1, HJ.out.2, HK9.out⟩
        case measure => simp [intOf]; omega
end Go.Proofs.YtnajdbnacdnnlaaGreatDoor
