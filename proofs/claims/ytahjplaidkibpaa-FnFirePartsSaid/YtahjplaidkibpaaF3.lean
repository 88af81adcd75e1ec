/-
  Walks: a state after a step, by the model.
-/
import Derived.Test.YtahjplaidkibpaaF2
namespace Go.Proofs.Ytahjplaidkibpaa
open Go.RowKit

theorem step_take (ns : List Nat) (c : Nat) (ks : List Nat) (k : Nat) (h : k < ks.length) : Nt.nats ((Nt.step ns c ks).take (k + 1)) = Nt.nats ((Nt.step ns c ks).take k) ++ [(((Nt.step ns c ks).getD k 0 : Nat) : Int)] :=
  Nt.take_more _ _ (by rw [Nt.step_length]; exact h)

set_option maxHeartbeats 2000000 in
theorem l3Step_any (ns : List Nat) (c : Nat) (ks : List Nat) (ok : Nt.Ok ns) (st : Nt.St c ks) (hl : ks.length = ns.length) (w : World) (v : Value) (base : Nat) (u : Value) (base' : Nat)
    (hs : Sl w base v (Nt.nats ns)) (ht : Sl w base' u (Nt.nats ks)) :
    Calls Try.prog 39 #[v, .int .i64 (c : Int), u] w fun e w' => ∃ z, e = .returned z ∧ Sl w' w.heap.size z (Nt.nats (Nt.step ns c ks)) ∧ Kept [] w w' := by
  obtain ⟨n, hn⟩ : ∃ n, n = ks.length := ⟨_, rfl⟩
  have hp := st.some
  have h6 := st.few
  have h3 := st.c3
  have h5 := st.c5
  have HSM := Lib.hid (fun k (hk : k ≤ n) => Nt.firesTo_small (ks := ks) h6 (k := k) (by omega))
  have HLT := Lib.hid (fun k (hk : k < n) => st.lt k (by omega))
  have HGL := Lib.hid (fun k => ok.get_lt k)
  have HSG := Lib.hid (fun k (hk : k < n) => Nt.step_get ns c ks (k := k) (by omega))
  have HTK := Lib.hid (fun k (hk : k < n) => step_take ns c ks k (by omega))
  have HLN := Lib.hid (Nt.step_length ns c ks)
  have HFT : Hid (Nt.firesTo ks n = Nt.fires ks) := Lib.hid (by rw [hn]; rfl)
  rw [← hn] at hp h6
  obtain ⟨g1, cap1, rfl, hg1, hc1⟩ := hs.row (n := n) (by omega) hp
  obtain ⟨g, cap, rfl, hg, hc⟩ := ht.row hn.symm hp
  have HC1 := Lib.hid hc1
  have HC := Lib.hid hc
  have HN := Lib.hid hn
  clear hs ht ok st hl hc hc1 hn
  go_enter Try.func39, Try.ntmps39
  go_wp2
  go_loop [7, 8] (fun a i => ∃ k : Nat, k ≤ n ∧ i = .int .i64 k ∧ a = .int .i64 ((Nt.firesTo ks k : Nat) : Int)) (fun _ i => n - (intOf i).toNat)
  case atStart => exact ⟨0, Nat.zero_le _, rfl, rfl⟩
  case round =>
    obtain ⟨k, hk, rfl, rfl⟩ := hrel
    by_cases hlt : k < n
    · have hcell := HC.out k hlt
      have hx := HLT.out k hlt
      have hb1 := HSM.out k hk
      have HF : Hid (Nt.firesTo ks (k + 1) = if ks.getD k 0 = 1 then Nt.firesTo ks k ||| 2 ^ k else Nt.firesTo ks k) := Lib.hid rfl
      have HE := Lib.hid (or_shl (Nt.firesTo ks k) k hb1 (by omega))
      generalize Nt.firesTo ks k = s at *
      generalize ks.getD k 0 = x at *
      by_cases h1 : x = 1
      · subst h1
        go_wp2
        go_round
        case rel => exact ⟨k + 1, by omega, by go_num, by rw [HF.out, if_pos rfl, ← HE.out]⟩
        case measure => simp [intOf]; omega
      · have h1' : ((x : Int) == 1) = false := by simp; omega
        have HNO := Lib.hid h1
        clear h1
        go_wp2
        go_round
        case rel => exact ⟨k + 1, by omega, by go_num, by rw [HF.out, if_neg HNO.out]⟩
        case measure => simp [intOf]; omega
    · have hk' : k = n := by omega
      subst hk'
      rw [HFT.out]
      have hb64 : Nt.fires ks < 64 := by rw [← HFT.out]; exact HSM.out k (Nat.le_refl _)
      have HLIT : Hid (∀ j, Nt.litB ns ks j = decide ((ns.getD j 0 &&& Nt.fires ks) ≠ 0)) := Lib.hid (fun _ => rfl)
      generalize Nt.fires ks = s at *
      clear HFT HSM hlt hk
      go_wp2
      go_loopw [9, 10] (fun u i wr => ∃ j : Nat, j ≤ k ∧ i = .int .i64 j ∧ Sl wr w.heap.size u (Nt.nats ((Nt.step ns c ks).take j)) ∧ Kept [] w wr) (fun _ i _ => k - (intOf i).toNat)
      case atStart => exact ⟨0, Nat.zero_le _, rfl, Sl.empty3 w, (Kept.refl _ _).alloc _⟩
      case round =>
        obtain ⟨j, hj, rfl, hsl, hkept⟩ := hrel
        have HSL := Lib.hid hsl
        have HK := Lib.hid hkept
        have hsz := hkept.size
        by_cases hlt : j < k
        · have hck := (hkept.cell (p := ⟨g, j, none⟩) hg (by simp)).trans (HC.out j hlt)
          have hck1 := (hkept.cell (p := ⟨g1, j, none⟩) hg1 (by simp)).trans (HC1.out j hlt)
          have HT := Lib.hid (HTK.out j hlt)
          have HG := Lib.hid (HSG.out j hlt)
          have hx := HLT.out j hlt
          have hgl := HGL.out j
          have hlit := HLIT.out j
          have HL : Hid ((Nt.nats ((Nt.step ns c ks).take j)).length ≤ 1000000) := Lib.hid (by rw [Nt.nats_length, List.length_take]; omega)
          have hand := bits_and_nat (ns.getD j 0) s (by omega) (by omega)
          clear hsl hkept
          generalize (Nt.step ns c ks).getD j 0 = y at *
          generalize Nt.litB ns ks j = b at *
          generalize ks.getD j 0 = x at *
          generalize ns.getD j 0 = r at *
          by_cases h0 : 0 < x
          · have HY : Hid (y = (x + 1) % c) := Lib.hid (by rw [HG.out]; unfold Nt.fireK; rw [if_pos h0])
            have f1 := succ_mod x c
            have hc0 : ¬ c = 0 := by omega
            rw [HY.out] at HT
            clear HG hand hlit
            generalize (x + 1) % c = q at *
            go_wp2_with (at_builtin; refine app_int _ rfl _ _ rfl w.heap.size _ _ HSL.out rfl rfl HL.out (by omega) ?_; intro u' w1 hs1 hk1; have HS1 := Lib.hid hs1; have HK1 := Lib.hid hk1; clear hs1 hk1)
            go_roundw
            case rel => exact ⟨j + 1, by omega, by go_num, HS1.out.val rfl HT.out, HK.out.own HK1.out (fun g hg => (HSL.out.block hg).1)⟩
            case measure => simp [intOf]; omega
          · have hx0 : x = 0 := by omega
            subst hx0
            clear h0
            cases b
            · have HY : Hid (y = 0) := Lib.hid (by rw [HG.out]; rfl)
              have hz : ((((r &&& s) : Nat) : Int) != 0) = false := by
                have := hlit.symm
                rw [decide_eq_false_iff_not] at this
                simp; omega
              rw [HY.out] at HT
              clear HG hlit
              generalize r &&& s = q at *
              go_wp2_with (at_builtin; refine app_int _ rfl _ _ rfl w.heap.size _ _ HSL.out rfl rfl HL.out (by omega) ?_; intro u' w1 hs1 hk1; have HS1 := Lib.hid hs1; have HK1 := Lib.hid hk1; clear hs1 hk1)
              go_roundw
              case rel => exact ⟨j + 1, by omega, by go_num, HS1.out.val rfl HT.out, HK.out.own HK1.out (fun g hg => (HSL.out.block hg).1)⟩
              case measure => simp [intOf]; omega
            · have HY : Hid (y = 1) := Lib.hid (by rw [HG.out]; rfl)
              have hz : ((((r &&& s) : Nat) : Int) != 0) = true := by
                have := hlit.symm
                rw [decide_eq_true_eq] at this
                simp; omega
              rw [HY.out] at HT
              clear HG hlit
              generalize r &&& s = q at *
              go_wp2_with (at_builtin; refine app_int _ rfl _ _ rfl w.heap.size _ _ HSL.out rfl rfl HL.out (by omega) ?_; intro u' w1 hs1 hk1; have HS1 := Lib.hid hs1; have HK1 := Lib.hid hk1; clear hs1 hk1)
              go_roundw
              case rel => exact ⟨j + 1, by omega, by go_num, HS1.out.val rfl HT.out, HK.out.own HK1.out (fun g hg => (HSL.out.block hg).1)⟩
              case measure => simp [intOf]; omega
        · have hk' : j = k := by omega
          subst hk'
          clear hsl hkept
          go_wp2
          go_ret
          exact ⟨_, rfl, by have h := HSL.out; rw [List.take_of_length_le (by rw [HLN.out, HN.out]; exact Nat.le_refl _)] at h; exact h, HK.out⟩

set_option maxHeartbeats 1000000 in
theorem sFireStep_any (xs : List Int) (kinds : Int) (ys : List Int) (w : World) (v : Value) (base : Nat) (u : Value) (base' : Nat) (hs : Sl w base v xs) (ht : Sl w base' u ys) :
    Calls Try.prog 14 #[v, .int .i64 kinds, u] w fun e w' => ∃ z, e = .returned z ∧ Sl w' w.heap.size z (Nt.stepOf xs kinds ys) ∧ Kept [] w w' := by
  have HS := Lib.hid hs
  have HT := Lib.hid ht
  obtain ⟨a, cap, rfl, _, hm, _⟩ := hs.any
  obtain ⟨a', cap', rfl, _, hm', _⟩ := ht.any
  clear hs ht
  go_enter Try.func14, Try.ntmps14
  go_wp2_with fail
  refine (l3Ok_any xs kinds ys _ _ _ _ _ HS.out HT.out).mono ?_
  rintro e w1 ⟨rfl, hq⟩
  have HK1 := Lib.hid hq.kept
  have HS1 := Lib.hid (hq.sl HS.out)
  have HT1 := Lib.hid (hq.sl HT.out)
  clear hq HS HT
  cases ho : Nt.fireB xs kinds ys
  · have HF := Lib.hid (Nt.stepOf_no ho)
    go_wp2_with fail
    go_ret
    exact ⟨_, rfl, by rw [HF.out]; exact (Sl.empty3 w1).mono HK1.out.size, HK1.out.alloc _⟩
  · obtain ⟨ns, c, ks, rfl, rfl, rfl, ok, st, hl⟩ := Nt.fireB_ok ho
    have HF := Lib.hid (Nt.stepOf_ok ok st hl)
    have HO := Lib.hid (And.intro ok (And.intro st hl))
    clear ok st hl ho
    go_wp2_with fail
    refine (l3Step_any ns c ks HO.out.1 HO.out.2.1 HO.out.2.2 _ _ _ _ _ HS1.out HT1.out).mono ?_
    rintro e w2 ⟨z, rfl, hs2, hk2⟩
    have HS2 := Lib.hid (hs2.mono HK1.out.size)
    have HK2 := Lib.hid (HK1.out.trans hk2 (by simp))
    clear hs2 hk2
    go_wp2_with fail
    go_ret
    exact ⟨_, rfl, by rw [HF.out]; exact HS2.out, HK2.out⟩
end Go.Proofs.Ytahjplaidkibpaa
