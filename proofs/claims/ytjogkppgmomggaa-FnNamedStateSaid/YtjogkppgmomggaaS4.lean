/-
  Walks: raised states, by the program and by the model.
-/
import Derived.Test.YtjogkppgmomggaaS6
namespace Go.Proofs.Ytjogkppgmomggaa
open Go.RowKit
open Nt (stB)

theorem succ_mod (k c : Nat) : ((k : Int) + 1).tmod (c : Int) = (((k + 1) % c : Nat) : Int) := by
  have e : (k : Int) + 1 = ((k + 1 : Nat) : Int) := by omega
  rw [e]; exact tmod_nat _ _

set_option maxHeartbeats 400000 in
theorem nextKind_any (c k : Nat) (h3 : 3 ≤ c) (hk : k ≤ 1000) (w : World) :
    Calls Try.prog 42 #[.int .i64 (c : Int), .int .i64 (k : Int)] w fun e w' => e = .returned (.int .i64 (((k + 1) % c : Nat) : Int)) ∧ w = w' := by
  have f1 := succ_mod k c
  have hc0 : ¬ c = 0 := by omega
  generalize (k + 1) % c = r at *
  go_enter Try.func42, Try.ntmps42
  go_wp2
  go_ret
  exact ⟨rfl, rfl⟩

set_option maxHeartbeats 400000 in
theorem raise1_any (c k B : Nat) (h3 : 3 ≤ c) (hk : k ≤ 1000) (w : World) (hB : w.cell? ⟨B, 0, none⟩ = some (.int .i64 (c : Int))) :
    Calls Try.prog 41 #[.int .i64 (k : Int), .pointer (some ⟨B, 0, none⟩)] w fun e w' => e = .returned (.int .i64 (((k + 1) % c : Nat) : Int)) ∧ w = w' := by
  go_enter Try.func41, Try.ntmps41
  go_wp2_with (go_at_call 42; refine (nextKind_any c k h3 hk _).mono ?_; rintro e w' ⟨rfl, rfl⟩)
  go_ret
  exact ⟨rfl, rfl⟩

set_option maxHeartbeats 1000000 in
theorem changedRow_any (c B : Nat) (h3 : 3 ≤ c) (ks : List Nat) (hk6 : ks.length ≤ 6) (hp : 0 < ks.length) (hks : ∀ k, k < ks.length → ks.getD k 0 ≤ 1000) (w : World) (v : Value) (base : Nat) (hs : Sl w base v (Nt.nats ks))
    (hB : w.cell? ⟨B, 0, none⟩ = some (.int .i64 (c : Int))) (hBs : B < w.heap.size) :
    Calls Try.prog 40 #[v, .func (.func 41) #[] #[.pointer (some ⟨B, 0, none⟩)]] w fun e w' => ∃ u, e = .returned u ∧ Sl w' w.heap.size u (Nt.nats (Nt.raised c ks)) ∧ Kept [] w w' := by
  obtain ⟨n, hn⟩ : ∃ n, n = ks.length := ⟨_, rfl⟩
  rw [← hn] at hk6 hp
  obtain ⟨g, cap, rfl, hg, hc⟩ := hs.row hn.symm hp
  have HC := Lib.hid hc
  have HN := Lib.hid hn
  have HKS := Lib.hid hks
  have HB := Lib.hid hB
  clear hs hc hn hks hB
  go_enter Try.func40, Try.ntmps40
  go_wp2_with (at_make; refine make_int w n rfl _ _ rfl rfl rfl ?_ ?_)
  · omega
  · intro w1 hs1 hk1 _
    have hs2 : Sl w1 w.heap.size (.slice (some ⟨w.heap.size, 0, none⟩) n n) (Nt.nats (Nt.raisedTo c ks 0)) := by
      rw [Nt.raisedTo_zero, nats_zeros, ← HN.out]; exact hs1
    have HS1 := Lib.hid hs2
    have HK1 := Lib.hid hk1
    clear hs1 hk1 hs2
    go_wp2
    go_loopw [13] (fun i wr => ∃ k : Nat, k ≤ n ∧ i = .int .i64 k ∧ Sl wr w.heap.size (.slice (some ⟨w.heap.size, 0, none⟩) n n) (Nt.nats (Nt.raisedTo c ks k)) ∧ Kept [] w wr) (fun i _ => n - (intOf i).toNat)
    case atStart => exact ⟨0, Nat.zero_le _, rfl, HS1.out, HK1.out⟩
    case round =>
      clear HS1 HK1
      obtain ⟨k, hk, rfl, hsl, hkept⟩ := hrel
      have HSL := Lib.hid hsl
      have HK := Lib.hid hkept
      by_cases hlt : k < n
      · have hkl : k < ks.length := by rw [← HN.out]; exact hlt
        have hck := (hkept.cell (p := ⟨g, k, none⟩) hg (by simp)).trans (HC.out k hlt)
        have hbk := (hkept.cell (p := ⟨B, 0, none⟩) hBs (by simp)).trans HB.out
        have HLEN := Lib.hid (Nt.raisedTo_length c ks k (by omega))
        obtain ⟨hcell, hfr⟩ := hsl.at k (by rw [Nt.nats_length, HLEN.out]; exact hkl)
        have HSET := Lib.hid (Nt.raisedTo_set c ks k hkl)
        have hx := HKS.out k hkl
        have HBK := Lib.hid hbk
        have HLN : Hid (n = (Nt.nats (Nt.raisedTo c ks k)).length) := Lib.hid (by rw [Nt.nats_length, HLEN.out]; exact HN.out)
        clear hsl hkept hkl hbk
        generalize (Nt.nats (Nt.raisedTo c ks k)).getD k 0 = z at *
        generalize ks.getD k 0 = x at *
        go_wp2_with (go_at_call 41; refine (raise1_any c x B h3 hx _ HBK.out).mono ?_; rintro e w' ⟨rfl, rfl⟩)
        go_roundw
        case rel => exact ⟨k + 1, by omega, by go_num, by rw [← HSET.out, Nt.nats_set]; exact HSL.out.set HLN.out k _, HK.out.setCell (.inr (Nat.le_refl _)) _⟩
        case measure => simp [intOf]; omega
      · have hk' : k = n := by omega
        subst hk'
        clear hsl hkept
        go_wp2
        go_ret
        exact ⟨_, rfl, by have h := HSL.out; rw [HN.out, Nt.raisedTo_end, ← HN.out] at h; exact h, HK.out⟩

set_option maxHeartbeats 1000000 in
theorem iRaised_any (kinds : Int) (xs : List Int) (w : World) (v : Value) (base : Nat) (hs : Sl w base v xs) :
    Calls Try.prog 18 #[.int .i64 kinds, v] w fun e w' => ∃ u, e = .returned u ∧ Sl w' w.heap.size u (Nt.raisedOf kinds xs) ∧ Kept [] w w' := by
  have hmf : ∀ (fn : Fn) (first cap : Array Value) (w : World), (Instr.makeFunc fn first cap).run Try.prog w = .ok (.func fn first cap) w := fun _ _ _ _ => rfl
  have hk1 : Kept [] w (w.alloc (.cells #[.int .i64 kinds] 3)) := (Kept.refl _ _).alloc _
  have HS := Lib.hid hs
  have HS1 := Lib.hid (hs.stay hk1)
  have HK1 := Lib.hid hk1
  have HB : Hid ((w.alloc (.cells #[.int .i64 kinds] 3)).cell? ⟨w.heap.size, 0, none⟩ = some (.int .i64 kinds)) := Lib.hid (by
    have h := (Sl.lit w [kinds] (by simp)).at 0 (by simp)
    exact h.1)
  obtain ⟨a, cap, rfl, _, hm, _⟩ := hs.any
  by_cases ho : stB kinds xs = true
  · obtain ⟨c, ks, rfl, rfl, hst⟩ := Nt.stB_st ho
    have HF := Lib.hid (Nt.raisedOf_ok hst)
    have HST := Lib.hid hst
    clear hs hst hk1
    go_enter Try.func18, Try.ntmps18
    go_wp2_with fail
    refine (iStateOk_any (c : Int) (Nt.nats ks) _ _ base HS1.out).mono ?_
    rintro e w' ⟨rfl, rfl⟩
    rw [ho]
    clear ho
    go_wp2_with fail
    refine (changedRow_any c w.heap.size HST.out.c3 ks HST.out.few HST.out.some (fun k hk => by have := HST.out.lt k hk; have := HST.out.c5; omega) _ _ base HS1.out HB.out (by simp)).mono ?_
    rintro e w2 ⟨u, rfl, hs2, hk2⟩
    have HS2 := Lib.hid (hs2.mono (base' := w.heap.size) HK1.out.size)
    have HK2 := Lib.hid (HK1.out.trans hk2 (by simp))
    clear hs2 hk2
    go_wp2
    go_ret
    exact ⟨_, rfl, by rw [HF.out]; exact HS2.out, HK2.out⟩
  · have ho' : stB kinds xs = false := by simpa using ho
    have HF := Lib.hid (Nt.raisedOf_no ho')
    clear ho hs hk1
    go_enter Try.func18, Try.ntmps18
    go_wp2_with fail
    refine (iStateOk_any kinds xs _ _ base HS1.out).mono ?_
    rintro e w' ⟨rfl, rfl⟩
    rw [ho']
    clear ho'
    go_wp2
    go_ret
    exact ⟨_, rfl, by rw [HF.out]; exact Sl.nil _ _, HK1.out⟩

theorem raised_take (c : Nat) (ks : List Nat) (k : Nat) (h : k < ks.length) : Nt.nats ((Nt.raised c ks).take (k + 1)) = Nt.nats ((Nt.raised c ks).take k) ++ [(((ks.getD k 0 + 1) % c : Nat) : Int)] := by
  rw [Nt.take_more _ _ (by rw [Nt.raised_length]; exact h), Nt.raised_get _ _ _ h]

set_option maxHeartbeats 1000000 in
theorem sRaised_any (kinds : Int) (xs : List Int) (w : World) (v : Value) (base : Nat) (hs : Sl w base v xs) :
    Calls Try.prog 23 #[.int .i64 kinds, v] w fun e w' => ∃ u, e = .returned u ∧ Sl w' w.heap.size u (Nt.raisedOf kinds xs) ∧ Kept [] w w' := by
  have HS := Lib.hid hs
  by_cases ho : stB kinds xs = true
  · obtain ⟨c, ks, rfl, rfl, hst⟩ := Nt.stB_st ho
    have HF := Lib.hid (Nt.raisedOf_ok hst)
    have HST := Lib.hid hst
    obtain ⟨n, hn⟩ : ∃ n, n = ks.length := ⟨_, rfl⟩
    have hp := hst.some
    have h6 := hst.few
    have h3 := hst.c3
    have h5 := hst.c5
    rw [← hn] at hp h6
    obtain ⟨g, cap, rfl, hg, hc⟩ := hs.row hn.symm hp
    have HC := Lib.hid hc
    have HN := Lib.hid hn
    clear hs hst hc hn
    go_enter Try.func23, Try.ntmps23
    go_wp2
    go_loopw [5, 6] (fun u i wr => ∃ k : Nat, k ≤ n ∧ i = .int .i64 k ∧ Sl wr w.heap.size u (Nt.nats ((Nt.raised c ks).take k)) ∧ Kept [] w wr) (fun _ i _ => n - (intOf i).toNat)
    case atStart => exact ⟨0, Nat.zero_le _, rfl, Sl.empty3 w, (Kept.refl _ _).alloc _⟩
    case round =>
      obtain ⟨k, hk, rfl, hsl, hkept⟩ := hrel
      have HSL := Lib.hid hsl
      have HK := Lib.hid hkept
      have hsz := hkept.size
      by_cases hlt : k < n
      · have hkl : k < ks.length := by rw [← HN.out]; exact hlt
        have hck := (hkept.cell (p := ⟨g, k, none⟩) hg (by simp)).trans (HC.out k hlt)
        have HT := Lib.hid (raised_take c ks k hkl)
        have hx := HST.out.lt k hkl
        have hl : (Nt.nats ((Nt.raised c ks).take k)).length ≤ 1000000 := by rw [Nt.nats_length, List.length_take]; omega
        have HL := Lib.hid hl
        have HSX := Lib.hid (HS.out.stay hkept)
        clear hl hsl hkept hkl
        generalize ks.getD k 0 = x at *
        have f1 := succ_mod x c
        have hc0 : ¬ c = 0 := by omega
        generalize (x + 1) % c = r at *
        go_wp2_with fail
        refine (sStateOk_any (c : Int) (Nt.nats ks) _ _ base HSX.out).mono ?_
        rintro e w' ⟨rfl, rfl⟩
        rw [ho]
        go_wp2_with (at_builtin; refine app_int _ rfl _ _ rfl w.heap.size _ _ HSL.out rfl rfl HL.out (by omega) ?_; intro u' w1 hs1 hk1; have HS1 := Lib.hid hs1; have HK1 := Lib.hid hk1; clear hs1 hk1)
        go_roundw
        case rel => exact ⟨k + 1, by omega, by go_num, HS1.out.val rfl HT.out, HK.out.own HK1.out (fun g hg => (HSL.out.block hg).1)⟩
        case measure => simp [intOf]; omega
      · have hk' : k = n := by omega
        subst hk'
        clear hsl hkept
        go_wp2
        go_ret
        exact ⟨_, rfl, by have h := HSL.out; rw [List.take_of_length_le (by rw [Nt.raised_length, HN.out]; exact Nat.le_refl _)] at h; rw [HF.out]; exact h, HK.out⟩
  · have ho' : stB kinds xs = false := by simpa using ho
    have HF := Lib.hid (Nt.raisedOf_no ho')
    obtain ⟨a, cap, rfl, _, hm, _⟩ := hs.any
    clear ho hs
    by_cases h0 : 0 < xs.length
    · go_enter Try.func23, Try.ntmps23
      go_wp2
      refine wp_loop_rounds 1 ?_
      rw [rounds_succ]
      go_wp2_with fail
      refine (sStateOk_any kinds xs _ _ base (HS.out.stay ((Kept.refl _ _).alloc _))).mono ?_
      rintro e w' ⟨rfl, rfl⟩
      rw [ho']
      clear ho'
      go_wp2
      go_ret
      exact ⟨_, rfl, by rw [HF.out]; exact Sl.empty3 _, (Kept.refl _ _).alloc _⟩
    · go_enter Try.func23, Try.ntmps23
      go_wp2
      refine wp_loop_rounds 1 ?_
      rw [rounds_succ]
      go_wp2
      go_ret
      exact ⟨_, rfl, by rw [HF.out]; exact Sl.empty3 _, (Kept.refl _ _).alloc _⟩
end Go.Proofs.Ytjogkppgmomggaa
