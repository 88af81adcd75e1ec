/-
  Walks: how often nodes fire, by the model.
-/
import Derived.Test.YtahjplaidkibpaaF7
namespace Go.Proofs.Ytahjplaidkibpaa
open Go.RowKit

set_option maxHeartbeats 2000000 in
theorem sFiredRow_any (xs : List Int) (kinds : Int) (ys : List Int) (steps : Int) (w : World) (v : Value) (base : Nat) (u : Value) (base' : Nat) (hs : Sl w base v xs) (ht : Sl w base' u ys) :
    Calls Try.prog 25 #[v, .int .i64 kinds, u, .int .i64 steps] w fun e w' => ∃ z, e = .returned z ∧ Sl w' w.heap.size z (Nt.firedOf xs kinds ys steps) ∧ Kept [] w w' := by
  have HS := Lib.hid hs
  have HT := Lib.hid ht
  obtain ⟨a, cap, rfl, _, hm, _⟩ := hs.any
  obtain ⟨a', cap', rfl, _, hm', _⟩ := ht.any
  clear hs ht
  go_enter Try.func25, Try.ntmps25
  go_wp2_with fail
  refine (l3Ok_any xs kinds ys _ _ _ _ _ HS.out HT.out).mono ?_
  rintro e w1 ⟨rfl, hq⟩
  have HK1 := Lib.hid hq.kept
  have HS1 := Lib.hid (hq.sl HS.out)
  have HT1 := Lib.hid (hq.sl HT.out)
  clear hq HS HT
  cases ho : Nt.fireB xs kinds ys
  · have HF := Lib.hid (Nt.firedOf_no1 (steps := steps) ho)
    go_wp2_with fail
    go_ret
    exact ⟨_, rfl, by rw [HF.out]; exact (Sl.empty3 w1).mono HK1.out.size, HK1.out.alloc _⟩
  · cases h2 : Nt.stepsB steps
    · have HF := Lib.hid (Nt.firedOf_no2 (xs := xs) (kinds := kinds) (ys := ys) h2)
      go_wp2_with (go_at_call 51; refine (l1In_any steps 0 60 _).mono ?_; rintro e w' ⟨rfl, rfl⟩; rw [show decide (0 ≤ steps ∧ steps ≤ 60) = false from h2])
      go_ret
      exact ⟨_, rfl, by rw [HF.out]; exact (Sl.empty3 w1).mono HK1.out.size, HK1.out.alloc _⟩
    · obtain ⟨ns, c, ks, rfl, rfl, rfl, ok, st, hl⟩ := Nt.fireB_ok ho
      obtain ⟨t, rfl, ht60⟩ := Nt.stepsB_ok h2
      have HF := Lib.hid (Nt.firedOf_ok ok st hl ht60)
      have HOK := Lib.hid ok
      have HST := Lib.hid st
      have HL := Lib.hid hl
      have h6 := st.few
      have hp := st.some
      obtain ⟨n, hn⟩ : ∃ n, n = ks.length := ⟨_, rfl⟩
      have HN := Lib.hid hn
      rw [← hn] at h6 hp
      have hln : (Nt.nats ns).length = n := by rw [Nt.nats_length]; omega
      rw [hln] at HS1 ⊢
      have HX := Lib.hid (show 0 < (Nt.nats ks).length ∧ (Nt.nats ks).length ≤ 1000 from by rw [Nt.nats_length]; omega)
      clear ok st hl ho hm hm' hln hn
      go_wp2_with (first
        | (go_at_call 51; refine (l1In_any _ 0 60 _).mono ?_; rintro e w' ⟨rfl, rfl⟩; rw [show decide (0 ≤ (t : Int) ∧ (t : Int) ≤ 60) = true from h2])
        | (at_make; refine make_int _ n rfl _ _ rfl rfl rfl ?_ ?_))
      · omega
      · intro w2 hs2 hk2 hlt2
        have hs2' : Sl w2 w1.heap.size (.slice (some ⟨w1.heap.size, 0, none⟩) n n) (Nt.nats (Nt.firedL ns c ks 0)) := by rw [Nt.firedL_zero, nats_zeros, ← HN.out]; exact hs2
        have HLT2 : Hid (w1.heap.size < w2.heap.size) := Lib.hid hlt2
        have HR2 := Lib.hid hs2'
        have HK2 := Lib.hid hk2
        have HT2 := Lib.hid ((HT1.out.stay hk2).stay ((Kept.refl [] w2).alloc (.cells #[] 3)))
        have HE := Lib.hid (Sl.empty3 w2)
        clear hs2 hs2' hk2 hlt2 h2
        go_wp2_with (at_builtin; refine app_sl rfl _ _ rfl w2.heap.size _ [] HE.out rfl _ _ (Nt.nats ks) HT2.out HX.out.1 rfl (by have := HX.out.2; simp; omega) (by simp) ?_; intro z w3 hs3 hk3; have HZ := Lib.hid hs3; have HK3 := Lib.hid (((Kept.refl [] w2).alloc (.cells #[] 3)).own hk3 (fun g' hg' => by simp [Value.ownBlock] at hg'; omega)); clear hs3 hk3)
        have hz0 : Sl w3 w2.heap.size z (Nt.nats (Nt.run ns c ks 0)) := by have h := HZ.out; rw [List.nil_append] at h; exact h
        have HZ0 := Lib.hid hz0
        have HR3 := Lib.hid (HR2.out.stay HK3.out)
        have HK3' := Lib.hid (HK2.out.trans HK3.out (by simp))
        clear hz0 HZ HE HT2 HX
        go_loopw [10, 11] (fun z i wr => ∃ k : Nat, k ≤ t ∧ i = .int .i64 k ∧ Sl wr w2.heap.size z (Nt.nats (Nt.run ns c ks k)) ∧ Sl wr w1.heap.size (.slice (some ⟨w1.heap.size, 0, none⟩) n n) (Nt.nats (Nt.firedL ns c ks k)) ∧ Kept [] w1 wr ∧ w2.heap.size ≤ wr.heap.size) (fun _ i _ => t - (intOf i).toNat)
        case atStart => exact ⟨0, Nat.zero_le _, rfl, HZ0.out, HR3.out, HK3'.out, HK3.out.size⟩
        case round =>
          clear HZ0 HK3 HK3' HR3 HR2 HK2
          obtain ⟨k, hk, rfl, hsl, hfl, hkept, hsz⟩ := hrel
          have HSL := Lib.hid hsl
          have HFL := Lib.hid hfl
          have HK := Lib.hid hkept
          have HSZ := Lib.hid hsz
          clear hsl hfl hkept hsz
          by_cases hlt : k < t
          · go_wp2_with fail
            refine (l3Step_any ns c (Nt.run ns c ks k) HOK.out (Nt.run_st ns HST.out k) (by rw [Nt.run_length]; exact HL.out) _ _ _ _ _ (HS1.out.stay HK.out) HSL.out).mono ?_
            rintro e w4 ⟨z4, rfl, hs4, hk4⟩
            have hs4' : Sl w4 wr.heap.size z4 (Nt.nats (Nt.run ns c ks (k + 1))) := hs4
            have HZ4 := Lib.hid hs4'
            have HR4 := Lib.hid (HFL.out.stay hk4)
            have HK4 := Lib.hid (HK.out.trans hk4 (by simp))
            have HSZ4 := Lib.hid (Nat.le_trans HSZ.out hk4.size)
            have HGE := Lib.hid (fun g hg => (hs4'.block (g := g) hg).1)
            have HRL : Hid ((Nt.run ns c ks (k + 1)).length = n) := Lib.hid (by rw [Nt.run_length]; exact HN.out.symm)
            obtain ⟨g4, cap4, rfl, hg4, hc4⟩ := hs4'.row HRL.out hp
            have hne4 : ¬ g4 = w1.heap.size := by have h1 := HGE.out g4 rfl; have h2 := HSZ.out; have h3 := HLT2.out; omega
            have HNE := Lib.hid hne4
            have HC4 := Lib.hid hc4
            have HCL := Lib.hid (Nt.firedL_length ns c ks k)
            have HSU := Lib.hid (Nt.firedL_succ ns c ks k)
            have HLN : Hid ((Nt.firedL ns c ks (k + 1)).length = (Nt.firedL ns c ks k).length) := Lib.hid (by rw [Nt.firedL_length, Nt.firedL_length])
            have HR4' : Hid (Sl w4 w1.heap.size (.slice (some ⟨w1.heap.size, 0, none⟩) n n) (Nt.nats (Nt.mix (Nt.firedL ns c ks (k + 1)) (Nt.firedL ns c ks k) 0))) := Lib.hid (by rw [Nt.mix_zero]; exact HR4.out)
            clear hs4 hs4' hk4 hc4 hne4 HR4
            go_wp2_with fail
            go_loopw [12] (fun i wi => ∃ j : Nat, j ≤ n ∧ i = .int .i64 j ∧ Sl wi w1.heap.size (.slice (some ⟨w1.heap.size, 0, none⟩) n n) (Nt.nats (Nt.mix (Nt.firedL ns c ks (k + 1)) (Nt.firedL ns c ks k) j)) ∧ Kept [w1.heap.size] w4 wi) (fun i _ => n - (intOf i).toNat)
            case atStart => exact ⟨0, Nat.zero_le _, rfl, HR4'.out, Kept.refl _ _⟩
            case round =>
              clear HR4'
              obtain ⟨j, hj, rfl, hri, hki⟩ := hrel
              have HRI := Lib.hid hri
              have HKI := Lib.hid hki
              by_cases hlj : j < n
              · have hjl : j < (Nt.firedL ns c ks k).length := by rw [HCL.out, ← HN.out]; exact hlj
                have hck := (hki.cell (p := ⟨g4, j, none⟩) hg4 (by simp; exact HNE.out)).trans (HC4.out j hlj)
                have HML : Hid ((Nt.nats (Nt.mix (Nt.firedL ns c ks (k + 1)) (Nt.firedL ns c ks k) j)).length = n) := Lib.hid (by rw [Nt.nats_length, Nt.mix_length HLN.out, HCL.out, ← HN.out])
                obtain ⟨hcell, hfr⟩ := hri.at j (by rw [HML.out]; exact hlj)
                rw [Nt.nats_get, Nt.mix_get HLN.out hjl] at hcell
                have HSET := Lib.hid (Nt.mix_set HLN.out hjl)
                have HKEEP := Lib.hid (Nt.mix_keep HLN.out hjl)
                have HG : Hid ((Nt.firedL ns c ks (k + 1)).getD j 0 = (Nt.firedL ns c ks k).getD j 0 + if (Nt.run ns c ks (k + 1)).getD j 0 = 1 then 1 else 0) := Lib.hid (by rw [← HSU.out]; exact Nt.counted_get _ _ hjl)
                have hcs := firedL_small ns c ks k (by omega) j (by rw [← HN.out]; exact hlj)
                clear hri hki hjl
                generalize (Nt.firedL ns c ks (k + 1)).getD j 0 = y at *
                generalize (Nt.run ns c ks (k + 1)).getD j 0 = x at *
                generalize (Nt.firedL ns c ks k).getD j 0 = z at *
                by_cases h1 : x = 1
                · subst h1
                  have HY : Hid (((y : Nat) : Int) = (z : Int) + 1) := Lib.hid (by rw [HG.out]; rfl)
                  clear HG HKEEP
                  go_wp2
                  go_roundw
                  case rel => exact ⟨j + 1, by omega, by go_num, by rw [← HSET.out, Nt.nats_set, HY.out]; exact HRI.out.set HML.out.symm j _, HKI.out.setCell (.inl (by simp)) _⟩
                  case measure => simp [intOf]; omega
                · have h1' : ((x : Int) == 1) = false := by simp; omega
                  have HY : Hid (y = z) := Lib.hid (by rw [HG.out, if_neg h1]; rfl)
                  clear h1 HG HSET
                  go_wp2
                  go_roundw
                  case rel => exact ⟨j + 1, by omega, by go_num, by rw [← HKEEP.out HY.out]; exact HRI.out, HKI.out⟩
                  case measure => simp [intOf]; omega
              · have hj' : j = n := by omega
                subst hj'
                clear hri hki
                go_wp2_with fail
                go_roundw
                case rel =>
                  refine ⟨k + 1, by omega, by go_num, ?_, ?_, HK4.out.trans HKI.out (fun x hx => by right; simp at hx; omega), Nat.le_trans HSZ4.out HKI.out.size⟩
                  · exact (HZ4.out.kept HKI.out (fun g hg hm => by simp [Value.ownBlock] at hg hm; have := HNE.out; omega)).mono HSZ.out
                  · have h := HRI.out
                    rw [show j = (Nt.firedL ns c ks k).length by rw [HCL.out]; exact HN.out, Nt.mix_end HLN.out] at h
                    rw [show j = (Nt.firedL ns c ks k).length by rw [HCL.out]; exact HN.out]
                    exact h
                case measure => simp [intOf]; omega
          · have hk' : k = t := by omega
            subst hk'
            go_wp2_with fail
            go_ret
            exact ⟨_, rfl, by rw [HF.out]; exact HFL.out.mono HK1.out.size, HK1.out.trans HK.out (by simp)⟩
end Go.Proofs.Ytahjplaidkibpaa
