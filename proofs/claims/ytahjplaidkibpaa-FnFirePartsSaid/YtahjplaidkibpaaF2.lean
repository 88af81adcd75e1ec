/-
  Walks: a state after a step, by the program and by the model.
-/
import Derived.Test.YtahjplaidkibpaaF1
import Derived.Test.YtahjplaidkibpaaW2
import Derived.Test.YtahjplaidkibpaaS4
namespace Go.Proofs.Ytahjplaidkibpaa
open Go.RowKit

set_option maxHeartbeats 2000000 in
theorem firedState_any (ns : List Nat) (c : Nat) (ks : List Nat) (ok : Nt.Ok ns) (st : Nt.St c ks) (hl : ks.length = ns.length) (w : World) (v : Value) (base : Nat) (u : Value) (base' : Nat)
    (hs : Sl w base v (Nt.nats ns)) (ht : Sl w base' u (Nt.nats ks)) :
    Calls Try.prog 37 #[v, .int .i64 (c : Int), u] w fun e w' => ∃ z, e = .returned z ∧ Sl w' w.heap.size z (Nt.nats (Nt.step ns c ks)) ∧ Kept [] w w' := by
  have HS := Lib.hid hs
  have HT := Lib.hid ht
  have HOK := Lib.hid ok
  have HST := Lib.hid st
  obtain ⟨n, hn⟩ : ∃ n, n = ks.length := ⟨_, rfl⟩
  have hp := st.some
  have h6 := st.few
  have h3 := st.c3
  have h5 := st.c5
  have HLT := Lib.hid (fun k (hk : k < n) => st.lt k (by omega))
  have HNB := Lib.hid (fun k (hk : k < n) => Nt.near_fires ok hl (k := k) (by omega))
  have HSG := Lib.hid (fun k (hk : k < n) => Nt.step_get ns c ks (k := k) (by omega))
  have HLN := Lib.hid (Nt.step_length ns c ks)
  rw [← hn] at hp h6
  obtain ⟨g1, cap1, rfl, _, _⟩ := hs.row (n := n) (by omega) hp
  obtain ⟨g, cap, rfl, hg, hc⟩ := ht.row hn.symm hp
  have HC := Lib.hid hc
  have HN := Lib.hid hn
  have HX := Lib.hid (show 0 < (Nt.nats ks).length ∧ (Nt.nats ks).length ≤ 1000 from by rw [Nt.nats_length]; omega)
  clear hs ht ok st hl hc hn
  go_enter Try.func37, Try.ntmps37
  go_wp2_with fail
  refine (firingSet_any c ks HST.out _ _ _ HT.out).mono ?_
  rintro e w' ⟨rfl, rfl⟩
  go_wp2_with fail
  refine (nearSet_any ns HOK.out (Nt.fires ks) _ _ _ HS.out).mono ?_
  rintro e w' ⟨rfl, rfl⟩
  generalize Nt.near ns (Nt.fires ks) = s at *
  go_wp2_with fail
  refine (cloneInts_any (Nt.nats ks) HX.out.1 HX.out.2 _ _ _ HT.out).mono ?_
  rintro e w1 ⟨z, rfl, hs1, hk1⟩
  obtain ⟨gz, capz, rfl, hgz1, hgz⟩ := hs1.shape (n := n) (by rw [Nt.nats_length, HN.out]) hp
  have HZ1 : Hid (Sl w1 w.heap.size (.slice (some ⟨gz, 0, none⟩) n capz) (Nt.nats (Nt.mix (Nt.step ns c ks) ks 0))) := Lib.hid (by rw [Nt.mix_zero]; exact hs1)
  have HK1 := Lib.hid hk1
  clear hs1 hk1 HX
  go_wp2_with fail
  go_loopw [19] (fun i wr => ∃ k : Nat, k ≤ n ∧ i = .int .i64 k ∧ Sl wr w.heap.size (.slice (some ⟨gz, 0, none⟩) n capz) (Nt.nats (Nt.mix (Nt.step ns c ks) ks k)) ∧ Kept [] w wr) (fun i _ => n - (intOf i).toNat)
  case atStart => exact ⟨0, Nat.zero_le _, rfl, HZ1.out, HK1.out⟩
  case round =>
    clear HZ1 HK1
    obtain ⟨k, hk, rfl, hsl, hkept⟩ := hrel
    have HSL := Lib.hid hsl
    have HK := Lib.hid hkept
    by_cases hlt : k < n
    · have hkl : k < ks.length := by rw [← HN.out]; exact hlt
      have hck := (hkept.cell (p := ⟨g, k, none⟩) hg (by simp)).trans (HC.out k hlt)
      have HML : Hid ((Nt.nats (Nt.mix (Nt.step ns c ks) ks k)).length = n) := Lib.hid (by rw [Nt.nats_length, Nt.mix_length HLN.out, ← HN.out])
      obtain ⟨hcell, hfr⟩ := hsl.at k (by rw [HML.out]; exact hlt)
      have HSET := Lib.hid (Nt.mix_set HLN.out hkl)
      have HKEEP := Lib.hid (Nt.mix_keep HLN.out hkl)
      have HG := Lib.hid (HSG.out k hlt)
      have hx := HLT.out k hlt
      have hnb := HNB.out k hlt
      clear hsl hkept hkl
      generalize (Nt.nats (Nt.mix (Nt.step ns c ks) ks k)).getD k 0 = z at *
      generalize Nt.litB ns ks k = b at *
      generalize (Nt.step ns c ks).getD k 0 = y at *
      generalize ks.getD k 0 = x at *
      by_cases h0 : 0 < x
      · have HY : Hid (y = (x + 1) % c) := Lib.hid (by rw [HG.out]; unfold Nt.fireK; rw [if_pos h0])
        clear HG hnb HKEEP
        go_wp2_with (go_at_call 64; refine (nextKind_any c x h3 (by omega) _).mono ?_; rintro e w' ⟨rfl, rfl⟩; rw [← HY.out])
        go_roundw
        case rel => exact ⟨k + 1, by omega, by go_num, by rw [← HSET.out, Nt.nats_set]; exact HSL.out.set HML.out.symm k _, HK.out.setCell (.inr hgz1) _⟩
        case measure => simp [intOf]; omega
      · have hx0 : x = 0 := by omega
        subst hx0
        clear h0
        cases b
        · have HY : Hid (y = 0) := Lib.hid (by rw [HG.out]; rfl)
          clear HG HSET
          go_wp2_with (go_at_call 57; refine (hasNode_nat s k _ (by omega)).mono ?_; rintro e w' ⟨rfl, rfl⟩; rw [hnb])
          go_roundw
          case rel => exact ⟨k + 1, by omega, by go_num, by rw [← HKEEP.out HY.out]; exact HSL.out, HK.out⟩
          case measure => simp [intOf]; omega
        · have HY : Hid (y = (0 + 1) % c) := Lib.hid (by rw [HG.out, Nat.mod_eq_of_lt (by omega)]; rfl)
          clear HG HKEEP
          go_wp2_with (first | (go_at_call 57; refine (hasNode_nat s k _ (by omega)).mono ?_; rintro e w' ⟨rfl, rfl⟩; rw [hnb]) | (go_at_call 64; refine (nextKind_any c 0 h3 (by omega) _).mono ?_; rintro e w' ⟨rfl, rfl⟩; rw [← HY.out]))
          go_roundw
          case rel => exact ⟨k + 1, by omega, by go_num, by rw [← HSET.out, Nt.nats_set]; exact HSL.out.set HML.out.symm k _, HK.out.setCell (.inr hgz1) _⟩
          case measure => simp [intOf]; omega
    · have hk' : k = n := by omega
      subst hk'
      clear hsl hkept
      go_wp2
      go_ret
      exact ⟨_, rfl, by have h := HSL.out; rw [HN.out, Nt.mix_end HLN.out, ← HN.out] at h; exact h, HK.out⟩

set_option maxHeartbeats 1000000 in
theorem iFireStep_any (xs : List Int) (kinds : Int) (ys : List Int) (w : World) (v : Value) (base : Nat) (u : Value) (base' : Nat) (hs : Sl w base v xs) (ht : Sl w base' u ys) :
    Calls Try.prog 12 #[v, .int .i64 kinds, u] w fun e w' => ∃ z, e = .returned z ∧ Sl w' w.heap.size z (Nt.stepOf xs kinds ys) ∧ Kept [] w w' := by
  have HS := Lib.hid hs
  have HT := Lib.hid ht
  obtain ⟨a, cap, rfl, _, hm, _⟩ := hs.any
  obtain ⟨a', cap', rfl, _, hm', _⟩ := ht.any
  clear hs ht
  cases ho : Nt.fireB xs kinds ys
  · have HF := Lib.hid (Nt.stepOf_no ho)
    go_enter Try.func12, Try.ntmps12
    go_wp2_with (go_at_call 36; refine (firingOk_any xs kinds ys _ _ _ _ _ HS.out HT.out).mono ?_; rintro e w' ⟨rfl, rfl⟩; rw [ho])
    go_ret
    exact ⟨_, rfl, by rw [HF.out]; exact Sl.nil _ _, Kept.refl _ _⟩
  · obtain ⟨ns, c, ks, rfl, rfl, rfl, ok, st, hl⟩ := Nt.fireB_ok ho
    have HF := Lib.hid (Nt.stepOf_ok ok st hl)
    have HO := Lib.hid (And.intro ok (And.intro st hl))
    clear ok st hl
    go_enter Try.func12, Try.ntmps12
    go_wp2_with (go_at_call 36; refine (firingOk_any _ _ _ _ _ _ _ _ HS.out HT.out).mono ?_; rintro e w' ⟨rfl, rfl⟩; rw [ho])
    refine (firedState_any ns c ks HO.out.1 HO.out.2.1 HO.out.2.2 _ _ _ _ _ HS.out HT.out).mono ?_
    rintro e w1 ⟨z, rfl, hs1, hk1⟩
    have HS1 := Lib.hid hs1
    have HK1 := Lib.hid hk1
    clear hs1 hk1
    go_wp2_with fail
    go_ret
    exact ⟨_, rfl, by rw [HF.out]; exact HS1.out, HK1.out⟩
end Go.Proofs.Ytahjplaidkibpaa
