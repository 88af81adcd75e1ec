/-
  Texts cut at a sign, by the model (for any seat).
-/
import Derived.Test.YtnajdbnacdnnlaaGreatDoorTsB
import Derived.Test.YtnajdbnacdnnlaaGreatDoorTxC
namespace Go.Proofs.YtnajdbnacdnnlaaGreatDoor
open Go.RowKit

set_option maxHeartbeats 2000000 in
set_option maxRecDepth 100000 in
theorem l1CutT_any (s : ByteArray) (sep : Nat) (hs : s.size ≤ 1100000) (w : World) :
    Calls Tryz.prog 109 #[.string s, .int .u8 (sep : Int)] w fun e w' => ∃ u ps, e = .returned u ∧ Ts w' w.heap.size u ps ∧ ps.map tx = Nt.cut sep (tx s) ∧ Kept [] w w' := by
  have HT0 := Lib.hid (Ts.empty w)
  have HA0 := Lib.hid ((Kept.refl [] w).alloc (.cells #[] 9))
  have HL := Lib.hid (tx_length s)
  go_enter Tryz.func109, Tryz.ntmps109
  go_wp2
  go_loopw [5, 6, 7] (fun u fr i wr => ∃ (k f : Nat) (ps : List ByteArray), k ≤ s.size ∧ f ≤ k ∧ i = .int .i64 k ∧ fr = .int .i64 f ∧ Ts wr w.heap.size u ps ∧ ps.length ≤ k ∧
      Nt.cut sep (tx s) = ps.map tx ++ Nt.cutFrom sep (((tx s).take k).drop f) ((tx s).drop k) ∧ Kept [] w wr) (fun _ _ i _ => s.size - (intOf i).toNat)
  case atStart => exact ⟨0, 0, [], Nat.zero_le _, Nat.le_refl _, rfl, rfl, HT0.out, Nat.le_refl _, by simp [Nt.cut], HA0.out⟩
  case round =>
    clear HT0 HA0
    obtain ⟨k, f, ps, hk, hf, rfl, rfl, hts, hpl, hcut, hkept⟩ := hrel
    have HTS := Lib.hid hts
    have HK := Lib.hid hkept
    have HCUT := Lib.hid hcut
    have hsz := hkept.size
    clear hts hkept hcut
    by_cases hlt : k < s.size
    · have HX := Lib.hid (tx_get hlt)
      by_cases hh : s[k].toNat = sep
      · have d1 : ((s[k].toNat : Int) == (sep : Int)) = true := by simp [hh]
        have HNX : Hid (Nt.cut sep (tx s) = (ps ++ [s.extract f k]).map tx ++ Nt.cutFrom sep (((tx s).take (k + 1)).drop (k + 1)) ((tx s).drop (k + 1))) := Lib.hid (by
          rw [HCUT.out, cut_hit (by rw [HL.out]; exact hlt) (by rw [HX.out]; exact hh), List.map_append, List.map_singleton, tx_part, List.append_assoc]; rfl)
        clear hh
        go_wp2_with (at_builtin; refine app_text _ rfl _ _ rfl w.heap.size _ _ HTS.out rfl rfl (by omega) hsz ?_; intro u9 w9 hs9 hk9; have HS9 := Lib.hid hs9; have HK9 := Lib.hid (HK.out.own hk9 (fun g hg => (HTS.out.block hg).1)); clear hs9 hk9)
        go_roundw
        case rel => exact ⟨k + 1, k + 1, _, by omega, Nat.le_refl _, by go_num, by go_num, HS9.out, by rw [List.length_append]; show ps.length + 1 ≤ k + 1; omega, HNX.out, HK9.out⟩
        case measure => simp [intOf]; omega
      · have d1 : ((s[k].toNat : Int) == (sep : Int)) = false := beq_eq_false_iff_ne.2 (by omega)
        have HNX : Hid (Nt.cut sep (tx s) = ps.map tx ++ Nt.cutFrom sep (((tx s).take (k + 1)).drop f) ((tx s).drop (k + 1))) := Lib.hid (by
          rw [HCUT.out, cut_more hf (by rw [HL.out]; exact hlt) (by rw [HX.out]; exact hh)])
        clear hh
        go_wp2
        go_roundw
        case rel => exact ⟨k + 1, f, ps, by omega, by omega, by go_num, rfl, HTS.out, by omega, HNX.out, HK.out⟩
        case measure => simp [intOf]; omega
    · have hk' : s.size = k := by omega
      subst hk'
      have HEND : Hid ((ps ++ [s.extract f s.size]).map tx = Nt.cut sep (tx s)) := Lib.hid (by
        have e : (tx s).drop s.size = [] := List.drop_eq_nil_of_le (by rw [HL.out]; exact Nat.le_refl _)
        rw [HCUT.out, e, List.map_append, List.map_singleton, tx_part]
        rfl)
      go_wp2_with (at_builtin; refine app_text _ rfl _ _ rfl w.heap.size _ _ HTS.out rfl rfl (by omega) hsz ?_; intro u9 w9 hs9 hk9; have HS9 := Lib.hid hs9; have HK9 := Lib.hid (HK.out.own hk9 (fun g hg => (HTS.out.block hg).1)); clear hs9 hk9)
      go_ret
      exact ⟨_, _, rfl, HS9.out, HEND.out, HK9.out⟩

theorem l1Cut32_any (s : ByteArray) (hs : s.size ≤ 1100000) (w : World) :
    Calls Tryz.prog 109 #[.string s, .int .u8 32] w fun e w' => ∃ u ps, e = .returned u ∧ Ts w' w.heap.size u ps ∧ ps.map tx = Nt.cut 32 (tx s) ∧ Kept [] w w' := by
  have h := l1CutT_any s 32 hs w
  have e : ((32 : Nat) : Int) = 32 := rfl
  rw [e] at h
  exact h

theorem l1Cut44_any (s : ByteArray) (hs : s.size ≤ 1100000) (w : World) :
    Calls Tryz.prog 109 #[.string s, .int .u8 44] w fun e w' => ∃ u ps, e = .returned u ∧ Ts w' w.heap.size u ps ∧ ps.map tx = Nt.cut 44 (tx s) ∧ Kept [] w w' := by
  have h := l1CutT_any s 44 hs w
  have e : ((44 : Nat) : Int) = 44 := rfl
  rw [e] at h
  exact h

theorem cut_partT (sep : Nat) (t : List Nat) : ∀ p ∈ Nt.cut sep t, p.length ≤ t.length := by
  intro p hp
  have h1 := Nt.join_cut sep t
  have h3 : ∀ (ps : List (List Nat)) (q : List Nat), q ∈ ps → q.length ≤ (Nt.join sep ps).length := by
    intro ps
    induction ps with
    | nil => intro q hq; simp at hq
    | cons a r ih =>
      intro q hq
      cases r with
      | nil => simp at hq; rw [hq]; exact Nat.le_refl _
      | cons b r2 =>
        show q.length ≤ (a ++ sep :: Nt.join sep (b :: r2)).length
        rw [List.length_append, List.length_cons]
        rw [List.mem_cons] at hq
        rcases hq with rfl | hq
        · omega
        · have := ih q hq; omega
  have := h3 _ p hp
  rw [h1] at this
  exact this
/-- What the parts of a cut text are. -/
theorem cut_at {s : ByteArray} {sep : Nat} {ps : List ByteArray} (h : ps.map tx = Nt.cut sep (tx s)) : (Nt.cut sep (tx s)).length = ps.length ∧ ∀ k, k < ps.length → tx (atT ps k) = (Nt.cut sep (tx s)).getD k [] ∧ (atT ps k).size ≤ s.size := by
  refine ⟨by rw [← h, List.length_map], fun k hk => ?_⟩
  have e : (Nt.cut sep (tx s)).getD k [] = tx (atT ps k) := by
    rw [← h, List.getD_eq_getElem?_getD, List.getElem?_map, List.getElem?_eq_getElem hk, atT_get hk]; rfl
  refine ⟨e.symm, ?_⟩
  have h2 := cut_partT sep (tx s) (tx (atT ps k)) (by rw [← h, atT_get hk]; exact List.mem_map.2 ⟨_, List.getElem_mem hk, rfl⟩)
  rw [tx_length, tx_length] at h2
  exact h2
end Go.Proofs.YtnajdbnacdnnlaaGreatDoor
