/-
  Walks: how often nodes fire, by the program and by the model.
  Walks: how often nodes fire, by the program and by the model.
  Walks: how often nodes fire, by the model.
-/
import Derived.Test.YtilbdpcijdcffaaFA
namespace Go.Proofs.Ytilbdpcijdcffaa
open Go.RowKit

set_option maxHeartbeats 1000000 in
set_option maxRecDepth 100000 in
theorem countFiring_any (cs ks : List Nat) (n : Nat) (hc : cs.length = n) (hk : ks.length = n) (hp : 0 < n) (h6 : n ≤ 6) (hcs : ∀ k, k < n → cs.getD k 0 ≤ 1000) (w : World) (v : Value) (base : Nat) (u : Value) (base' : Nat)
    (hs : Sl w base v (Nt.nats cs)) (ht : Sl w base' u (Nt.nats ks)) (hne : ∀ g, u.ownBlock = some g → ¬ g ∈ v.ownBlock.toList) :
    Calls Try.prog 56 #[v, u] w fun e w' => e = .returned (.tuple #[]) ∧ Sl w' base v (Nt.nats (Nt.counted cs ks)) ∧ Kept v.ownBlock.toList w w' := by
  obtain ⟨g, cap, rfl, hg, _⟩ := hs.row hc hp
  obtain ⟨g2, cap2, rfl, hg2, hd⟩ := ht.row hk hp
  have hne2 : ¬ g2 = g := by have := hne g2 rfl; simpa [Value.ownBlock] using this
  have HLN := Lib.hid (Nt.counted_length cs ks)
  have HC := Lib.hid hc
  have HD := Lib.hid hd
  have HCS := Lib.hid hcs
  have HS : Hid (Sl w base (.slice (some ⟨g, 0, none⟩) n cap) (Nt.nats (Nt.mix (Nt.counted cs ks) cs 0))) := Lib.hid (by rw [Nt.mix_zero]; exact hs)
  have HNE := Lib.hid hne2
  have HKL := Lib.hid hk
  clear hs ht hc hk hd hcs hne hne2
  go_enter Try.func56, Try.ntmps56
  go_wp2
  go_loopw [8] (fun i wr => ∃ k : Nat, k ≤ n ∧ i = .int .i64 k ∧ Sl wr base (.slice (some ⟨g, 0, none⟩) n cap) (Nt.nats (Nt.mix (Nt.counted cs ks) cs k)) ∧ Kept [g] w wr) (fun i _ => n - (intOf i).toNat)
  case atStart => exact ⟨0, Nat.zero_le _, rfl, HS.out, Kept.refl _ _⟩
  case round =>
    clear HS
    obtain ⟨k, hk, rfl, hsl, hkept⟩ := hrel
    have HSL := Lib.hid hsl
    have HK := Lib.hid hkept
    by_cases hlt : k < n
    · have hkl : k < cs.length := by rw [HC.out]; exact hlt
      have hck := (hkept.cell (p := ⟨g2, k, none⟩) hg2 (by simp; exact HNE.out)).trans (HD.out k hlt)
      have HML : Hid ((Nt.nats (Nt.mix (Nt.counted cs ks) cs k)).length = n) := Lib.hid (by rw [Nt.nats_length, Nt.mix_length HLN.out, HC.out])
      obtain ⟨hcell, hfr⟩ := hsl.at k (by rw [HML.out]; exact hlt)
      rw [Nt.nats_get, Nt.mix_get HLN.out hkl] at hcell
      have HSET := Lib.hid (Nt.mix_set HLN.out hkl)
      have HKEEP := Lib.hid (Nt.mix_keep HLN.out hkl)
      have HG := Lib.hid (Nt.counted_get cs ks hkl)
      have hcs := HCS.out k hlt
      clear hsl hkept hkl
      generalize (Nt.counted cs ks).getD k 0 = y at *
      generalize ks.getD k 0 = x at *
      generalize cs.getD k 0 = z at *
      by_cases h1 : x = 1
      · subst h1
        have HY : Hid (((y : Nat) : Int) = (z : Int) + 1) := Lib.hid (by rw [HG.out]; rfl)
        clear HG HKEEP
        go_wp2
        go_roundw
        case rel => exact ⟨k + 1, by omega, by go_num, by rw [← HSET.out, Nt.nats_set, HY.out]; exact HSL.out.set HML.out.symm k _, HK.out.setCell (.inl (by simp)) _⟩
        case measure => simp [intOf]; omega
      · have h1' : ((x : Int) == 1) = false := by simp; omega
        have HY : Hid (y = z) := Lib.hid (by rw [HG.out, if_neg h1]; rfl)
        clear h1 HG HSET
        go_wp2
        go_roundw
        case rel => exact ⟨k + 1, by omega, by go_num, by rw [← HKEEP.out HY.out]; exact HSL.out, HK.out⟩
        case measure => simp [intOf]; omega
    · have hk' : k = n := by omega
      subst hk'
      clear hsl hkept
      go_wp2
      go_end0
      exact ⟨rfl, by have h := HSL.out; rw [← HC.out, Nt.mix_end HLN.out, HC.out] at h; exact h, HK.out⟩
end Go.Proofs.Ytilbdpcijdcffaa

namespace Go.Proofs.Ytilbdpcijdcffaa
open Go.RowKit

set_option maxHeartbeats 1000000 in
set_option maxRecDepth 100000 in
theorem fired1_any (ns : List Nat) (c : Nat) (ks : List Nat) (ok : Nt.Ok ns) (st : Nt.St c ks) (hl : ks.length = ns.length) (cs : List Nat) (n : Nat) (hn : ks.length = n) (hcl : cs.length = n) (hcs : ∀ k, k < n → cs.getD k 0 ≤ 1000)
    (w : World) (v : Value) (base : Nat) (u : Value) (base' : Nat) (b1 b2 b3 gf cap basef : Nat)
    (hA : w.cell? ⟨b1, 0, none⟩ = some v) (hK : w.cell? ⟨b2, 0, none⟩ = some (.int .i64 (c : Int))) (hF : w.cell? ⟨b3, 0, none⟩ = some (.slice (some ⟨gf, 0, none⟩) n cap)) (hb3 : b3 < w.heap.size)
    (hs : Sl w base v (Nt.nats ns)) (ht : Sl w base' u (Nt.nats ks)) (hf : Sl w basef (.slice (some ⟨gf, 0, none⟩) n cap) (Nt.nats cs)) :
    Calls Try.prog 55 #[u, .pointer (some ⟨b1, 0, none⟩), .pointer (some ⟨b2, 0, none⟩), .pointer (some ⟨b3, 0, none⟩)] w fun e w' => ∃ z, e = .returned z ∧ Sl w' w.heap.size z (Nt.nats (Nt.step ns c ks)) ∧
      Sl w' basef (.slice (some ⟨gf, 0, none⟩) n cap) (Nt.nats (Nt.counted cs (Nt.step ns c ks))) ∧ Kept [gf] w w' := by
  have hp : 0 < n := by have := st.some; omega
  have h6 : n ≤ 6 := by have := st.few; omega
  obtain ⟨g, capn, rfl, _, _⟩ := hs.row (n := n) (by omega) hp
  obtain ⟨g2, cap2, rfl, _, _⟩ := ht.row hn hp
  have HS := Lib.hid hs
  have HT := Lib.hid ht
  have HFL := Lib.hid hf
  have HF := Lib.hid hF
  have HOK := Lib.hid ok
  have HST := Lib.hid st
  have HL := Lib.hid hl
  have HCL := Lib.hid hcl
  have HCS := Lib.hid hcs
  have HSL : Hid ((Nt.step ns c ks).length = n) := Lib.hid (by rw [Nt.step_length]; exact hn)
  have HGF := Lib.hid (hf.block (g := gf) rfl).2
  have HB3 := Lib.hid hb3
  clear hs ht hf hF ok st hl hcl hcs hn hb3
  go_enter Try.func55, Try.ntmps55
  go_wp2_with fail
  refine (firedState_any ns c ks HOK.out HST.out HL.out _ _ _ _ _ HS.out HT.out).mono ?_
  rintro e w1 ⟨z, rfl, hs1, hk1⟩
  have HS1 := Lib.hid hs1
  have HK1 := Lib.hid hk1
  have HF1 := Lib.hid ((hk1.cell (p := ⟨b3, 0, none⟩) HB3.out (by simp)).trans HF.out)
  have HFL1 := Lib.hid (HFL.out.stay hk1)
  have HGE := Lib.hid (fun g hg => (hs1.block (g := g) hg).1)
  obtain ⟨gz, capz, rfl, _, _⟩ := hs1.row HSL.out hp
  clear hs1 hk1 hA hK
  have hF1 := HF1.out
  go_wp2_with fail
  refine (countFiring_any cs (Nt.step ns c ks) n HCL.out HSL.out hp h6 HCS.out _ _ _ _ _ HFL1.out HS1.out (fun g hg hm => by have h1 := HGE.out g hg; have h2 := HGF.out; simp [Value.ownBlock] at hm; omega)).mono ?_
  rintro e w2 ⟨rfl, hs2, hk2⟩
  have HS2 := Lib.hid hs2
  have HK2 : Hid (Kept [gf] w1 w2) := Lib.hid hk2
  have HZ2 := Lib.hid (HS1.out.kept hk2 (fun g hg hm => by have h1 := HGE.out g hg; have h2 := HGF.out; simp [Value.ownBlock] at hm; omega))
  clear hs2 hk2 hF1
  go_wp2_with fail
  go_ret
  refine ⟨_, rfl, HZ2.out, HS2.out, ?_⟩
  have h1 := HK1.out
  have h2 : Kept [gf] w w1 := ⟨h1.os, h1.tape, h1.output, h1.size, fun k hk _ => h1.block k hk (by simp)⟩
  exact h2.trans HK2.out (fun x hx => .inl hx)

theorem enter_fired1 (args : Array Value) (w : World) : Sem.run Try.prog (callFunc 55 args) w = .ok (.enter 55 args) w := by kernel_rfl

theorem firedL_small (ns : List Nat) (c : Nat) (ks : List Nat) (t : Nat) (ht : t ≤ 60) (k : Nat) (hk : k < ks.length) : (Nt.firedL ns c ks t).getD k 0 ≤ 1000 := by
  rw [Nt.firedL_get _ _ _ _ hk]
  have := Nt.fired_le ns c ks k t
  omega

set_option maxHeartbeats 2000000 in
set_option maxRecDepth 100000 in
theorem iFiredRow_any (xs : List Int) (kinds : Int) (ys : List Int) (steps : Int) (w : World) (v : Value) (base : Nat) (u : Value) (base' : Nat) (hs : Sl w base v xs) (ht : Sl w base' u ys) :
    Calls Try.prog 22 #[v, .int .i64 kinds, u, .int .i64 steps] w fun e w' => ∃ z, e = .returned z ∧ Sl w' w.heap.size z (Nt.firedOf xs kinds ys steps) ∧ Kept [] w w' := by
  have hmf : ∀ (fn : Fn) (first cap : Array Value) (w : World), (Instr.makeFunc fn first cap).run Try.prog w = .ok (.func fn first cap) w := fun _ _ _ _ => rfl
  obtain ⟨hk1, ha, hb, hsz⟩ := two_boxes w 29 v kinds
  have HK1 := Lib.hid hk1
  have HA := Lib.hid ha
  have HB := Lib.hid hb
  have HSZ := Lib.hid hsz
  have HS1 := Lib.hid (hs.stay hk1)
  have HT1 := Lib.hid (ht.stay hk1)
  obtain ⟨a, cap, rfl, _, hm, _⟩ := hs.any
  obtain ⟨a', cap', rfl, _, hm', _⟩ := ht.any
  clear hs ht hk1 ha hb hsz
  cases ho : Nt.fireB xs kinds ys
  · have HF := Lib.hid (Nt.firedOf_no1 (steps := steps) ho)
    go_enter Try.func22, Try.ntmps22
    go_wp2_with (go_at_call 49; refine (firingOk_any xs kinds ys _ _ _ _ _ HS1.out HT1.out).mono ?_; rintro e w' ⟨rfl, rfl⟩; rw [ho])
    go_ret
    exact ⟨_, rfl, by rw [HF.out]; exact Sl.nil _ _, HK1.out⟩
  · cases h2 : Nt.stepsB steps
    · have HF := Lib.hid (Nt.firedOf_no2 (xs := xs) (kinds := kinds) (ys := ys) h2)
      go_enter Try.func22, Try.ntmps22
      go_wp2_with (first | (go_at_call 49; refine (firingOk_any xs kinds ys _ _ _ _ _ HS1.out HT1.out).mono ?_; rintro e w' ⟨rfl, rfl⟩; rw [ho]) | (go_at_call 50; refine (runOk_any steps _).mono ?_; rintro e w' ⟨rfl, rfl⟩; rw [h2]))
      go_ret
      exact ⟨_, rfl, by rw [HF.out]; exact Sl.nil _ _, HK1.out⟩
    · obtain ⟨ns, c, ks, rfl, rfl, rfl, ok, st, hl⟩ := Nt.fireB_ok ho
      obtain ⟨t, rfl, ht60⟩ := Nt.stepsB_ok h2
      have HF := Lib.hid (Nt.firedOf_ok ok st hl ht60)
      have HOK := Lib.hid ok
      have HST := Lib.hid st
      have HL := Lib.hid hl
      have h6 := st.few
      have hp := st.some
      obtain ⟨n, hn⟩ : ∃ n, n = ks.length := ⟨_, rfl⟩
      have HN := Lib.hid hn
      rw [← hn] at h6 hp
      have hln : (Nt.nats ns).length = n := by rw [Nt.nats_length]; omega
      rw [hln] at HA HB HSZ HK1 HS1 HT1 ⊢
      clear ok st hl hn hln hm hm'
      go_enter Try.func22, Try.ntmps22
      go_wp2_with (first | (go_at_call 49; refine (firingOk_any _ _ _ _ _ _ _ _ HS1.out HT1.out).mono ?_; rintro e w' ⟨rfl, rfl⟩; rw [ho]) | (go_at_call 50; refine (runOk_any _ _).mono ?_; rintro e w' ⟨rfl, rfl⟩; rw [h2]) | (at_make; refine make_int _ n rfl _ _ rfl rfl rfl ?_ ?_))
      · omega
      · intro w2 hs2 hk2 hlt2
        have hgw := HSZ.out
        generalize hw1 : (w.alloc (.cells #[Value.slice a n cap] 29)).alloc (.cells #[.int .i64 (c : Int)] 3) = w1 at *
        have hs2' : Sl w2 (w.heap.size + 1 + 1) (.slice (some ⟨w.heap.size + 1 + 1, 0, none⟩) n n) (List.replicate n 0) := hs2
        have hlt2' : w.heap.size + 1 + 1 < w2.heap.size := hlt2
        have hgw' : w1.heap.size = w.heap.size + 1 + 1 := hgw
        have hbx := Boxed.new w2 29 (.slice (some ⟨w.heap.size + 1 + 1, 0, none⟩) n n)
        have hbc := hbx.cell
        have hbl := hbx.lt
        have hk4 : Kept [] w2 (w2.alloc (.cells #[.slice (some ⟨w.heap.size + 1 + 1, 0, none⟩) n n] 29)) := (Kept.refl _ _).alloc _
        have HX2 := Lib.hid hlt2'
        have HGW := Lib.hid hgw'
        have HS2 := Lib.hid (hs2'.stay hk4)
        have HK4 := Lib.hid (hk2.trans hk4 (by simp))
        have HBC := Lib.hid hbc
        have HBL := Lib.hid hbl
        clear hs2 hk2 hlt2 hk4 hbx hbc hbl ho h2 hgw hs2' hlt2' hgw'
        go_wp2_with fail
        generalize w2.alloc (.cells #[.slice (some ⟨w.heap.size + 1 + 1, 0, none⟩) n n] 29) = w4 at *
        generalize hgf : w.heap.size + 1 + 1 = gf at *
        have hz0 : Nt.nats (Nt.firedL ns c ks 0) = List.replicate n 0 := by rw [Nt.firedL_zero, nats_zeros, ← HN.out]
        refine (foldedSteps_any 55 #[.pointer (some ⟨w.heap.size, 0, none⟩), .pointer (some ⟨w.heap.size + 1, 0, none⟩), .pointer (some ⟨w2.heap.size, 0, none⟩)] (Nt.run ns c ks) n t ht60 hp h6 (fun t => by rw [Nt.run_length]; exact HN.out.symm)
          (fun t wr => Kept [gf] w4 wr ∧ Sl wr gf (.slice (some ⟨gf, 0, none⟩) n n) (Nt.nats (Nt.firedL ns c ks t))) [gf] w4.heap.size enter_fired1 ?_ (fun _ _ _ _ h k => ⟨h.1.trans k (by simp), h.2.stay k⟩) ?_ w4 _ base' (Nat.le_refl _) (HT1.out.stay HK4.out) ⟨Kept.refl _ _, by rw [hz0]; exact HS2.out⟩).mono ?_
        · intro t' htt w5 v5 base5 hs5 hj _
          have hsz1 := HK4.out.size
          have hx2 := HX2.out
          have hgw := HGW.out
          have hbl := HBL.out
          have h := fired1_any ns c (Nt.run ns c ks t') HOK.out (Nt.run_st ns HST.out t') (by rw [Nt.run_length]; exact HL.out) (Nt.firedL ns c ks t') n (by rw [Nt.run_length]; exact HN.out.symm) (by rw [Nt.firedL_length]; exact HN.out.symm)
            (fun k hk => firedL_small ns c ks t' (by omega) k (by rw [← HN.out]; exact hk)) w5 _ base v5 base5 w.heap.size (w.heap.size + 1) w2.heap.size gf n gf
            ((hj.1.cell (p := ⟨w.heap.size, 0, none⟩) (by show w.heap.size < w4.heap.size; omega) (by simp; omega)).trans ((HK4.out.cell (p := ⟨w.heap.size, 0, none⟩) (by show w.heap.size < w1.heap.size; omega) (by simp)).trans HA.out))
            ((hj.1.cell (p := ⟨w.heap.size + 1, 0, none⟩) (by show w.heap.size + 1 < w4.heap.size; omega) (by simp; omega)).trans ((HK4.out.cell (p := ⟨w.heap.size + 1, 0, none⟩) (by show w.heap.size + 1 < w1.heap.size; omega) (by simp)).trans HB.out))
            ((hj.1.cell (p := ⟨w2.heap.size, 0, none⟩) hbl (by simp; omega)).trans HBC.out) (Nat.lt_of_lt_of_le hbl hj.1.size)
            ((HS1.out.stay HK4.out).kept hj.1 (fun g hg hm => by have := (HS1.out.block hg).2; simp at hm; omega)) hs5 hj.2
          refine Calls.mono (by simpa using h) ?_
          rintro e w6 ⟨z, rfl, hs6, hf6, hk6⟩
          rw [show Nt.counted (Nt.firedL ns c ks t') (Nt.step ns c (Nt.run ns c ks t')) = Nt.firedL ns c ks (t' + 1) from Nt.firedL_succ ns c ks t'] at hf6
          exact ⟨z, rfl, hs6, ⟨hj.1.trans hk6 (fun x hx => .inl hx), hf6⟩, hk6⟩
        · intro r hr
          have := HX2.out
          have := HBL.out
          simp at hr
          omega
        · rintro e w6 ⟨z, rfl, _, hj, _⟩
          have hx2 := HX2.out
          have hc6 := (hj.1.cell (p := ⟨w2.heap.size, 0, none⟩) HBL.out (by simp; omega)).trans HBC.out
          have HJ := Lib.hid hj
          clear hj hz0
          go_wp2_with fail
          go_ret
          exact ⟨_, rfl, by rw [HF.out]; exact HJ.out.2.mono (by omega), (HK1.out.trans HK4.out (by simp)).trans HJ.out.1 (fun x hx => by right; simp at hx; omega)⟩
end Go.Proofs.Ytilbdpcijdcffaa

namespace Go.Proofs.Ytilbdpcijdcffaa
open Go.RowKit

end Go.Proofs.Ytilbdpcijdcffaa
