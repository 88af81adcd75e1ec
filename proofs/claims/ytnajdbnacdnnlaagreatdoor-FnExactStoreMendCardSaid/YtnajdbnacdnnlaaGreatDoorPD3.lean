/-
  Journals read line by line, by the model.
-/
import Derived.Test.YtnajdbnacdnnlaaGreatDoorPD2
namespace Go.Proofs.YtnajdbnacdnnlaaGreatDoor
open Go.RowKit

theorem drop_at {t : List Nat} {k : Nat} (h : k < t.length) : t.drop k = t.getD k 0 :: t.drop (k + 1) := by
  rw [List.drop_eq_getElem_cons h, List.getD_eq_getElem?_getD, List.getElem?_eq_getElem h]; rfl
theorem seen_more {t : List Nat} {f k : Nat} (hf : f ≤ k) (h : k < t.length) : (t.take (k + 1)).drop f = (t.take k).drop f ++ [t.getD k 0] := by
  rw [List.take_succ_eq_append_getElem h, List.drop_append_of_le_length (by rw [List.length_take]; omega), List.getD_eq_getElem?_getD, List.getElem?_eq_getElem h]; rfl
theorem seen_len {t : List Nat} {f k : Nat} (h : k ≤ t.length) : ((t.take k).drop f).length = k - f := by
  rw [List.length_drop, List.length_take]; omega
theorem seen_none (t : List Nat) (k : Nat) : (t.take k).drop k = [] := List.drop_eq_nil_of_le (by rw [List.length_take]; omega)
theorem jrn_on {t : List Nat} {f k : Nat} (hf : f ≤ k) (h : k < t.length) (hx : t.getD k 0 ≠ 10) :
    Nt.jgo ((t.take k).drop f) (t.drop k) = Nt.jgo ((t.take (k + 1)).drop f) (t.drop (k + 1)) ∧ Nt.jlen ((t.take k).drop f) (t.drop k) = Nt.jlen ((t.take (k + 1)).drop f) (t.drop (k + 1)) := by
  rw [drop_at h, seen_more hf h]
  exact Nt.jgo_on hx _ _
theorem jrn_nl {t : List Nat} {f k : Nat} (hf : f ≤ k) (h : k < t.length) (hx : t.getD k 0 = 10) {d : Nt.Dd} (hd : Nt.readD ((t.take k).drop f) = some d) :
    Nt.jgo ((t.take k).drop f) (t.drop k) = d :: Nt.jgo ((t.take (k + 1)).drop (k + 1)) (t.drop (k + 1)) ∧ f + Nt.jlen ((t.take k).drop f) (t.drop k) = k + 1 + Nt.jlen ((t.take (k + 1)).drop (k + 1)) (t.drop (k + 1)) := by
  rw [drop_at h, hx, seen_none]
  obtain ⟨h1, h2⟩ := Nt.jgo_nl hd (t.drop (k + 1))
  refine ⟨h1, ?_⟩
  rw [h2, seen_len (by omega)]
  omega
theorem jrn_stop {t : List Nat} {f k : Nat} (h : k < t.length) (hx : t.getD k 0 = 10) (hd : Nt.readD ((t.take k).drop f) = none) :
    Nt.jgo ((t.take k).drop f) (t.drop k) = [] ∧ Nt.jlen ((t.take k).drop f) (t.drop k) = 0 := by
  rw [drop_at h, hx]
  exact Nt.jgo_stop hd _
theorem jrn_end (t : List Nat) (f : Nat) : Nt.jgo ((t.take t.length).drop f) (t.drop t.length) = [] ∧ Nt.jlen ((t.take t.length).drop f) (t.drop t.length) = 0 := by
  rw [List.drop_length]
  exact ⟨rfl, rfl⟩

set_option maxHeartbeats 4000000 in
set_option maxRecDepth 100000 in
theorem sReadJournal_any (s : ByteArray) (hs : s.size ≤ 1100000) (w : World) :
    Calls Tryz.prog 13 #[.string s] w fun e w' => ∃ u, e = .returned (.tuple #[u, .int .i64 (Nt.jlen [] (tx s) : Nat)]) ∧ Dg w' w.heap.size u (Nt.jgo [] (tx s)) ∧ Kept [] w w' := by
  have HL := Lib.hid (tx_length s)
  have HS := Lib.hid hs
  go_enter Tryz.func13, Tryz.ntmps13
  go_wp2
  go_loopw [4, 5, 6] (fun u fr i wr => ∃ (k f : Nat) (ds : List Nt.Dd), k ≤ s.size ∧ f ≤ k ∧ i = .int .i64 k ∧ fr = .int .i64 f ∧ Dg wr w.heap.size u ds ∧ ds.length ≤ k ∧
      Nt.jgo [] (tx s) = ds ++ Nt.jgo (((tx s).take k).drop f) ((tx s).drop k) ∧ Nt.jlen [] (tx s) = f + Nt.jlen (((tx s).take k).drop f) ((tx s).drop k) ∧ Kept [] w wr) (fun _ _ i _ => s.size - (intOf i).toNat)
  case atStart => exact ⟨0, 0, [], Nat.zero_le _, Nat.le_refl _, rfl, rfl, Tg.lit 41 w [] (by simp), Nat.le_refl _, by simp, by simp, (Kept.refl _ _).alloc _⟩
  case round =>
    obtain ⟨k, f, ds, hk, hf, rfl, rfl, hdg, hdl, hgo, hlen, hkept⟩ := hrel
    have HDG := Lib.hid hdg
    have HK := Lib.hid hkept
    have HGO := Lib.hid hgo
    have HLEN := Lib.hid hlen
    have hsz := hkept.size
    clear hdg hkept hgo hlen
    by_cases hlt : k < s.size
    · have HX := Lib.hid (tx_get hlt)
      have HKL : Hid (k < (tx s).length) := Lib.hid (by rw [HL.out]; exact hlt)
      by_cases hh : s[k].toNat = 10
      · have d1 : ((s[k].toNat : Int) == 10) = true := by simp [hh]
        have HPT : Hid (tx (s.extract f k) = ((tx s).take k).drop f) := Lib.hid (tx_part s f k)
        have HSZ : Hid ((s.extract f k).size ≤ 1100000) := Lib.hid (by rw [← tx_length, HPT.out, seen_len (Nat.le_of_lt HKL.out)]; omega)
        have HX10 : Hid ((tx s).getD k 0 = 10) := Lib.hid (by rw [HX.out, hh])
        clear hh
        go_wp2_with fail
        refine (sReadDeed_any (s.extract f k) HSZ.out _).mono ?_
        rintro e w5 ⟨rfl, hk5⟩
        rw [HPT.out]
        have HK5 := Lib.hid (HK.out.trans hk5 (by simp))
        have HDG5 := Lib.hid (Tg.stay HDG.out hk5)
        have hsz5 := HK5.out.size
        clear hk5
        cases hrd : Nt.readD (((tx s).take k).drop f) with
        | none =>
          have HJ := Lib.hid (jrn_stop HKL.out HX10.out hrd)
          obtain ⟨e1, e2⟩ := rd_none hrd
          rw [e1, e2, dv_eq]
          have HFG : Hid (Nt.jgo [] (tx s) = ds) := Lib.hid (by rw [HGO.out, HJ.out.1, List.append_nil])
          have HFL : Hid (Nt.jlen [] (tx s) = f) := Lib.hid (by rw [HLEN.out, HJ.out.2, Nat.add_zero])
          clear hrd e1 e2
          go_wp2
          go_ret2
          rw [HFL.out, HFG.out]
          exact ⟨_, rfl, Tg.stay HDG5.out ((Kept.refl _ _).alloc _), HK5.out.alloc _⟩
        | some d =>
          have HJ := Lib.hid (jrn_nl hf HKL.out HX10.out hrd)
          obtain ⟨e1, e2⟩ := rd_some hrd
          obtain ⟨dk, da, db⟩ := d
          rw [e1, e2, dv_eq]
          clear hrd e1 e2
          obtain ⟨t1, _, t3⟩ := two_new w5 41 41 #[.int .i64 dk, .int .i64 da, .int .i64 db] #[.int .i64 dk, .int .i64 da, .int .i64 db]
          have HDG6 := Lib.hid (Tg.stay HDG5.out t1)
          have HK6 := Lib.hid (HK5.out.trans t1 (by simp))
          have HB6 := Lib.hid t3
          clear t1 t3
          go_wp2_with (at_builtin; refine app_triG 41 24 (.agg #[.int .i64 0, .int .i64 0, .int .i64 0]) 24 Tryz.underlying24 info_deed rfl (by omega) (ds.map d3) ([(⟨dk, da, db⟩ : Nt.Dd)].map d3) (d3_one _) rfl _ _ rfl w.heap.size _ HDG6.out rfl 1 rfl (w5.heap.size + 1) rfl HB6.out (by simp; omega) HK6.out.size ?_; intro u9 w9 hs9 hk9; have HDG9 : Hid (Dg w9 w.heap.size u9 (ds ++ [⟨dk, da, db⟩])) := Lib.hid (by unfold Dg; rw [List.map_append]; exact hs9); have HK9 := Lib.hid (HK6.out.own hk9 (fun g hg => (Tg.block HDG6.out hg).1)); clear hs9 hk9)
          go_roundw
          case rel => exact ⟨k + 1, k + 1, _, by omega, Nat.le_refl _, by go_num, by go_num, HDG9.out, by rw [List.length_append]; show ds.length + 1 ≤ k + 1; omega, by rw [HGO.out, HJ.out.1, List.append_assoc]; rfl, by rw [HLEN.out, HJ.out.2], HK9.out⟩
          case measure => simp [intOf]; omega
      · have d1 : ((s[k].toNat : Int) == 10) = false := beq_eq_false_iff_ne.2 (by omega)
        have HJ := Lib.hid (jrn_on hf HKL.out (by rw [HX.out]; exact hh))
        clear hh
        go_wp2
        go_roundw
        case rel => exact ⟨k + 1, f, ds, by omega, by omega, by go_num, rfl, HDG.out, by omega, by rw [HGO.out, HJ.out.1], by rw [HLEN.out, HJ.out.2], HK.out⟩
        case measure => simp [intOf]; omega
    · have hk' : k = (tx s).length := by rw [HL.out]; omega
      have HE := Lib.hid (jrn_end (tx s) f)
      have HFG : Hid (Nt.jgo [] (tx s) = ds) := Lib.hid (by rw [HGO.out, hk', HE.out.1, List.append_nil])
      have HFL : Hid (Nt.jlen [] (tx s) = f) := Lib.hid (by rw [HLEN.out, hk', HE.out.2, Nat.add_zero])
      clear hk'
      go_wp2
      go_ret2
      rw [HFL.out, HFG.out]
      exact ⟨_, rfl, HDG.out, HK.out⟩
end Go.Proofs.YtnajdbnacdnnlaaGreatDoor
