/-
  Texts of journals, and journals read of texts, by the program.
-/
import Derived.Test.YtnajdbnacdnnlaaGreatDoorIQ4
import Derived.Test.YtnajdbnacdnnlaaGreatDoorPD3
namespace Go.Proofs.YtnajdbnacdnnlaaGreatDoor
open Go.RowKit

/-- The text of a line. -/
def lineTx (ds : List Nt.Dd) (k : Nat) : List Nat := Nt.deedT (jdAt ds k) ++ [10]
theorem lines_flat (ds : List Nt.Dd) : ((List.range ds.length).map (lineTx ds)).flatten = Nt.jrnT ds := by
  have h : ∀ k, k ≤ ds.length → ((List.range k).map (lineTx ds)).flatten = Nt.jrnT (ds.take k) := by
    intro k
    induction k with
    | zero => intro _; rfl
    | succ k ih =>
      intro hk
      rw [List.range_succ, List.map_append, List.flatten_append, ih (by omega), jrn_take (by omega)]
      simp [lineTx]
  have := h ds.length (Nat.le_refl _)
  rw [List.take_length] at this
  exact this

set_option maxHeartbeats 4000000 in
set_option maxRecDepth 100000 in
theorem iJournalText_any (ds : List Nt.Dd) (hl : ds.length ≤ 1100000) (w : World) (v : Value) (base : Nat) (h : Dg w base v ds) :
    Calls Tryz.prog 20 #[v] w fun e w' => ∃ z, e = .returned (.string z) ∧ tx z = Nt.jtxt ds ∧ Kept [] w w' := by
  obtain ⟨a, cap, rfl, hc⟩ := h.rows
  have HC := Lib.hid hc
  obtain ⟨n, hn⟩ : ∃ n, n = ds.length := ⟨_, rfl⟩
  have HNO : Hid (∀ k, k < n → Nt.deedT (jdAt ds k) = [] → Nt.jtxt ds = []) := Lib.hid (fun k hk => jtxt_no (by omega))
  have HALL : Hid ((∀ j, j < n → Nt.deedT (jdAt ds j) ≠ []) → Nt.jtxt ds = ((List.range n).map (lineTx ds)).flatten) := Lib.hid (fun h => by rw [hn, lines_flat]; exact jtxt_all (by rw [← hn]; exact h))
  have HJL : Hid ((((List.range n).map (lineTx ds)).flatten).length ≤ 1000000000) := Lib.hid (by
    have h1 := jrn_small ds
    rw [hn, lines_flat]; omega)
  have hn11 : n ≤ 1100000 := by omega
  rw [← hn] at HC ⊢
  clear h hc hn hl
  go_enter Tryz.func20, Tryz.ntmps20
  go_wp2_with (at_make; refine make_text _ n rfl _ _ rfl rfl rfl (by omega) ?_; intro w2 hs2 hk2 _; have HT2 := Lib.hid hs2; have HK2 := Lib.hid hk2; clear hs2 hk2)
  go_loopw [12] (fun i wr => ∃ (k : Nat) (ps : List ByteArray), k ≤ n ∧ i = .int .i64 k ∧ Ts wr w.heap.size (.slice (some ⟨w.heap.size, 0, none⟩) n n) ps ∧ ps.length = n ∧ (∀ j, j < k → tx (atT ps j) = lineTx ds j ∧ Nt.deedT (jdAt ds j) ≠ []) ∧ Kept [] w wr) (fun i _ => n - (intOf i).toNat)
  case atStart => exact ⟨0, _, Nat.zero_le _, rfl, HT2.out, by simp, fun j hj => absurd hj (by omega), HK2.out⟩
  case round =>
    clear HT2 HK2
    obtain ⟨k, ps, hk, rfl, hts, hpl, hpt, hkept⟩ := hrel
    have HTS := Lib.hid hts
    have HPL := Lib.hid hpl
    have HPT := Lib.hid hpt
    have HK := Lib.hid hkept
    by_cases hlt : k < n
    · obtain ⟨g, rfl, hg, c0, c1, c2⟩ := HC.out k hlt
      have k0 := (hkept.cell (p := ⟨g, k * 3, none⟩) hg (by simp)).trans c0
      have k1 := (hkept.cell (p := ⟨g, k * 3 + 1, none⟩) hg (by simp)).trans c1
      have k2 := (hkept.cell (p := ⟨g, k * 3 + 2, none⟩) hg (by simp)).trans c2
      have HNO1 := Lib.hid (HNO.out k hlt)
      have HLT := Lib.hid hlt
      generalize hd : jdAt ds k = d at *
      have HD := Lib.hid hd
      obtain ⟨dk, da, db⟩ := d
      have HDS : Hid ((Nt.deedT ⟨dk, da, db⟩).length ≤ 11) := Lib.hid (deedT_small _)
      simp only at k0 k1 k2
      have hka : Kept [] wr (wr.alloc (.cells #[.int .i64 dk, .int .i64 da, .int .i64 db] 41)) := (Kept.refl [] wr).alloc _
      have HD5 := Lib.hid (Bk.new wr 41 #[.int .i64 dk, .int .i64 da, .int .i64 db])
      have HTS5 := Lib.hid (HTS.out.stay hka)
      have HK5 := Lib.hid (HK.out.trans hka (by simp))
      obtain ⟨d0, d1, d2⟩ := HD5.out.three
      clear hts hpl hpt hkept hd c0 c1 c2 hka
      go_wp2_with fail
      generalize wr.alloc (.cells #[.int .i64 dk, .int .i64 da, .int .i64 db] 41) = W5 at *
      refine (iDeedText_any dk da db _).mono ?_
      rintro e w6 ⟨z2, rfl, hz2, hk2⟩
      have HK6 := Lib.hid (HK5.out.trans hk2 (by simp))
      have HTS6 := Lib.hid (HTS5.out.stay hk2)
      clear k0 k1 k2 d0 d1 d2
      by_cases h0 : Nt.deedT ⟨dk, da, db⟩ = []
      · have hem := empty_yes (s := z2) (by rw [hz2, h0])
        have HF := Lib.hid (HNO1.out h0)
        clear hz2 hk2 h0
        go_wp2
        go_ret
        exact ⟨_, rfl, by rw [HF.out]; rfl, HK6.out⟩
      · have hem := empty_no (s := z2) (by rw [hz2]; exact h0)
        obtain ⟨y2, hy2, _, hadd2⟩ := add_tx z2 ⟨#[10]⟩ (by have := HDS.out; rw [← hz2, tx_length] at this; show z2.size + 1 ≤ _; omega)
        obtain ⟨q1, q2⟩ := HTS6.out.at k (by rw [HPL.out]; exact hlt)
        have HNX : Hid (∀ j, j < k + 1 → tx (atT (ps.set k y2) j) = lineTx ds j ∧ Nt.deedT (jdAt ds j) ≠ []) := Lib.hid (fun j hj => by
          rw [atT_set (by rw [HPL.out]; exact hlt)]
          by_cases e : j = k
          · rw [if_pos e, e]
            unfold lineTx
            rw [HD.out]
            exact ⟨by rw [hy2, hz2]; rfl, h0⟩
          · rw [if_neg e]; exact HPT.out j (by omega))
        clear hz2 hk2 h0 hy2
        go_wp2
        go_roundw
        case rel => exact ⟨k + 1, ps.set k y2, by omega, by go_num, HTS6.out.set HPL.out.symm k y2, by rw [List.length_set]; exact HPL.out, HNX.out, HK6.out.setCell (.inr (Nat.le_refl _)) _⟩
        case measure => simp [intOf]; omega
    · have hk' : n = k := by omega
      subst hk'
      have HM : Hid (ps.map tx = (List.range n).map (lineTx ds)) := Lib.hid (hts.tx_all hpl (fun k hk => (hpt k hk).1))
      have HF : Hid (Nt.jtxt ds = ((List.range n).map (lineTx ds)).flatten) := Lib.hid (HALL.out (fun j hj => (hpt j hj).2))
      clear hts hpl hpt hkept
      go_wp2_with fail
      refine (joinG_any joinAs0 ps n HPL.out (by omega) (by rw [HM.out]; exact HJL.out) _ _ _ _ HTS.out).mono ?_
      rintro e w7 ⟨z, rfl, hz, hk7⟩
      have HZ := Lib.hid hz
      have HK7 := Lib.hid (HK.out.trans hk7 (by simp))
      clear hz hk7
      go_wp2
      go_ret
      exact ⟨_, rfl, by rw [HZ.out, HM.out, HF.out], HK7.out⟩

/-! A journal read line by line. -/
theorem jstop {t : List Nat} {r : Nat} {ds : List Nt.Dd} (h : Nt.jgo [] t = ds ++ Nt.jgo [] (t.drop r)) (hl : Nt.jlen [] t = r + Nt.jlen [] (t.drop r)) (h2 : Nt.jgo [] (t.drop r) = [] ∧ Nt.jlen [] (t.drop r) = 0) : ds = Nt.jgo [] t ∧ r = Nt.jlen [] t := by
  rw [h2.1, List.append_nil] at h
  rw [h2.2, Nat.add_zero] at hl
  exact ⟨h.symm, hl.symm⟩
theorem jmore {t q p : List Nat} {r : Nat} {ds : List Nt.Dd} {d : Nt.Dd} (h : Nt.jgo [] t = ds ++ Nt.jgo [] (t.drop r)) (hl : Nt.jlen [] t = r + Nt.jlen [] (t.drop r)) (hp : Nt.Parted 10 (t.drop r) p q true) (hd : Nt.readD p = some d) :
    Nt.jgo [] t = (ds ++ [d]) ++ Nt.jgo [] (t.drop (r + (p.length + 1))) ∧ Nt.jlen [] t = (r + (p.length + 1)) + Nt.jlen [] (t.drop (r + (p.length + 1))) := by
  obtain ⟨e1, e2⟩ := Nt.jline_go hp hd
  have e3 : t.drop (r + (p.length + 1)) = q := by rw [← List.drop_drop]; exact (hp.len.2.2 rfl).2.1
  rw [h, hl, e1, e2, e3]
  exact ⟨by simp, by omega⟩

set_option maxHeartbeats 4000000 in
set_option maxRecDepth 100000 in
theorem iReadJournal_any (s : ByteArray) (hs : s.size ≤ 1100000) (w : World) (he : ErrW w) :
    Calls Tryz.prog 12 #[.string s] w fun e w' => ∃ u, e = .returned (.tuple #[u, .int .i64 (Nt.jlen [] (tx s) : Nat)]) ∧ Dg w' w.heap.size u (Nt.jgo [] (tx s)) ∧ Kept [] w w' := by
  have HE := Lib.hid he
  have HL := Lib.hid (tx_length s)
  clear he
  go_enter Tryz.func12, Tryz.ntmps12
  go_wp2
  go_loopw [4, 5] (fun u r wr => ∃ (f : Nat) (ds : List Nt.Dd), f ≤ s.size ∧ r = .int .i64 f ∧ Dg wr w.heap.size u ds ∧ ds.length ≤ f ∧ Nt.jgo [] (tx s) = ds ++ Nt.jgo [] ((tx s).drop f) ∧ Nt.jlen [] (tx s) = f + Nt.jlen [] ((tx s).drop f) ∧ Kept [] w wr) (fun _ r _ => s.size - (intOf r).toNat)
  case atStart => exact ⟨0, [], Nat.zero_le _, rfl, Tg.lit 41 w [] (by simp), Nat.le_refl _, by simp, by simp, (Kept.refl _ _).alloc _⟩
  case round =>
    obtain ⟨f, ds, hf, rfl, hdg, hdl, hgo, hlen, hkept⟩ := hrel
    have HDG := Lib.hid hdg
    have HK := Lib.hid hkept
    have HGO := Lib.hid hgo
    have HLEN := Lib.hid hlen
    have HFZ := Lib.hid hf
    have HE1 := Lib.hid (HE.out.stay hkept)
    have HPT : Hid (tx (s.extract f s.size) = (tx s).drop f) := Lib.hid (by rw [tx_part, ← tx_length, List.take_length])
    have HSZ : Hid ((s.extract f s.size).size ≤ 2000000) := Lib.hid (by rw [← tx_length, HPT.out, List.length_drop, tx_length]; omega)
    obtain ⟨ua, uc, rfl⟩ := Tg.any hdg
    rw [List.length_map] at HDG ⊢
    clear hdg hkept hgo hlen
    go_wp2_with fail
    all_goals (try omega)
    refine (cut10_any (s.extract f s.size) HSZ.out _ HE1.out).mono ?_
    rintro e w5 ⟨p, q, ok, rfl, hpp, hq5⟩
    rw [HPT.out] at hpp
    have HPP := Lib.hid hpp
    have HDG5 := Lib.hid (Tg.stay HDG.out hq5.kept)
    have HK5 := Lib.hid (HK.out.trans hq5.kept (by simp))
    have HE5 := Lib.hid (HE1.out.stay hq5.kept)
    have HPL : Hid (p.size ≤ s.size - f) := Lib.hid (by have h := hpp.len.1; rw [tx_length, List.length_drop, tx_length] at h; exact h)
    have HPZ : Hid (p.size ≤ 1100000) := Lib.hid (by have := HPL.out; omega)
    clear hpp hq5
    go_wp2_with fail
    refine (iReadDeed_any p HPZ.out _ HE5.out).mono ?_
    rintro e w6 ⟨rfl, hk6⟩
    have HDG6 := Lib.hid (Tg.stay HDG5.out hk6)
    have HK6 := Lib.hid (HK5.out.trans hk6 (by simp))
    clear hk6
    cases ok
    · have HJ := Lib.hid (jstop HGO.out HLEN.out (Nt.jline_no HPP.out rfl))
      generalize rdD (tx p) = D at *
      obtain ⟨dk, da, db⟩ := D
      rw [dv_eq]
      go_wp2
      go_ret2
      rw [← HJ.out.1, ← HJ.out.2]
      exact ⟨_, rfl, Tg.stay HDG6.out ((Kept.refl _ _).alloc _), HK6.out.alloc _⟩
    · cases hrd : Nt.readD (tx p) with
      | none =>
        have HJ := Lib.hid (jstop HGO.out HLEN.out (Nt.jline_bad HPP.out hrd))
        rw [(rd_none hrd).1, (rd_none hrd).2, dv_eq]
        clear hrd
        go_wp2
        go_ret2
        rw [← HJ.out.1, ← HJ.out.2]
        exact ⟨_, rfl, Tg.stay HDG6.out ((Kept.refl _ _).alloc _), HK6.out.alloc _⟩
      | some d =>
        have HJ := Lib.hid (jmore HGO.out HLEN.out HPP.out hrd)
        have HPB : Hid (f + (p.size + 1) ≤ s.size) := Lib.hid (by have h := (HPP.out.len.2.2 rfl).1; rw [tx_length, List.length_drop, tx_length] at h; omega)
        have hpb := HPB.out
        obtain ⟨dk, da, db⟩ := d
        rw [(rd_some hrd).1, (rd_some hrd).2, dv_eq]
        rw [tx_length] at HJ
        clear hrd
        obtain ⟨t1, t2, t3⟩ := two_new w6 41 41 #[.int .i64 dk, .int .i64 da, .int .i64 db] #[.int .i64 dk, .int .i64 da, .int .i64 db]
        have HDG7 := Lib.hid (Tg.stay HDG6.out t1)
        have HK7 := Lib.hid (HK6.out.trans t1 (by simp))
        have HB7 := Lib.hid t3
        have hdl2 : ds.length ≤ 1100000 := by omega
        clear t1 t3 t2
        go_wp2_with (at_builtin; refine app_triG 41 24 (.agg #[.int .i64 0, .int .i64 0, .int .i64 0]) 24 Tryz.underlying24 info_deed rfl (by omega) (ds.map d3) ([(⟨dk, da, db⟩ : Nt.Dd)].map d3) (d3_one _) rfl _ _ rfl w.heap.size _ HDG7.out rfl 1 rfl (w6.heap.size + 1) rfl HB7.out (by simp; omega) HK7.out.size ?_; intro u9 w9 hs9 hk9; have HDG9 : Hid (Dg w9 w.heap.size u9 (ds ++ [⟨dk, da, db⟩])) := Lib.hid (by unfold Dg; rw [List.map_append]; exact hs9); have HK9 := Lib.hid (HK7.out.own hk9 (fun g hg => (Tg.block HDG7.out hg).1)); clear hs9 hk9)
        go_roundw
        case rel => exact ⟨f + (p.size + 1), _, hpb, by go_num, HDG9.out, by rw [List.length_append]; show ds.length + 1 ≤ _; omega, HJ.out.1, HJ.out.2, HK9.out⟩
        case measure => simp [intOf]; omega
end Go.Proofs.YtnajdbnacdnnlaaGreatDoor
