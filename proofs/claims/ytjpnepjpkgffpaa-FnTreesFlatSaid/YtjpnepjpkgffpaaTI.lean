/-
  Walks: turns of a state, stillness, runs of turns and their loops, by the program.
  Walks: how often nodes turn, by the program.
-/
import Derived.Test.YtjpnepjpkgffpaaFC
import Derived.Test.YtjpnepjpkgffpaaTA
import Derived.Test.YtjpnepjpkgffpaaFB
namespace Go.Proofs.Ytjpnepjpkgffpaa
open Go.RowKit

/-- Whether a set has a node among the first ones with a kind. -/
def hasK (s q : Nat) (ks : List Nat) (j : Nat) : Bool := (List.range j).any fun i => s.testBit i && decide (ks.getD i 0 = q)
theorem hasK_succ (s q : Nat) (ks : List Nat) (j : Nat) : hasK s q ks (j + 1) = (hasK s q ks j || (s.testBit j && decide (ks.getD j 0 = q))) := by
  unfold hasK
  rw [List.range_succ, List.any_append]
  simp
theorem hasK_all {s q : Nat} {ks : List Nat} {j n : Nat} (h : j < n) (e : (s.testBit j && decide (ks.getD j 0 = q)) = true) : hasK s q ks n = true := by
  unfold hasK
  rw [List.any_eq_true]
  exact ⟨j, List.mem_range.2 h, e⟩

theorem turningOk_any (xs : List Int) (ys : List Int) (w : World) (v : Value) (base : Nat) (u : Value) (base' : Nat) (hs : Sl w base v xs) (ht : Sl w base' u ys) :
    Calls Try.prog 47 #[v, u] w fun e w' => e = .returned (.bool (Nt.fireB xs 3 ys)) ∧ w = w' := by
  have HS := Lib.hid hs
  have HT := Lib.hid ht
  obtain ⟨a, cap, rfl, _, hm, _⟩ := hs.any
  obtain ⟨a', cap', rfl, _, hm', _⟩ := ht.any
  clear hs ht
  go_enter Try.func47, Try.ntmps47
  go_wp2_with (go_at_call 49; refine (firingOk_any xs 3 ys _ _ _ _ _ HS.out HT.out).mono ?_; rintro e w' ⟨rfl, rfl⟩)
  go_ret
  exact ⟨rfl, rfl⟩

set_option maxHeartbeats 1000000 in
set_option maxRecDepth 100000 in
theorem setHasKind_any (s q : Nat) (ks : List Nat) (n : Nat) (hn : ks.length = n) (hp : 0 < n) (h6 : n ≤ 6) (w : World) (v : Value) (base : Nat) (hs : Sl w base v (Nt.nats ks)) :
    Calls Try.prog 86 #[.int .i64 (s : Int), v, .int .i64 (q : Int)] w fun e w' => e = .returned (.bool (hasK s q ks n)) ∧ w = w' := by
  obtain ⟨g, cap, rfl, hg, hc⟩ := hs.row hn hp
  have HC := Lib.hid hc
  have HS := Lib.hid (fun j => hasK_succ s q ks j)
  have HA := Lib.hid (fun j (h : j < n) => hasK_all (s := s) (q := q) (ks := ks) h)
  clear hs hc hn
  go_enter Try.func86, Try.ntmps86
  go_wp2
  go_loop [11] (fun i => ∃ k : Nat, k ≤ n ∧ i = .int .i64 k ∧ hasK s q ks k = false) (fun i => n - (intOf i).toNat)
  case atStart => exact ⟨0, Nat.zero_le _, rfl, rfl⟩
  case round =>
    obtain ⟨k, hk, rfl, hf⟩ := hrel
    by_cases hlt : k < n
    · have hcell := HC.out k hlt
      have hsu := HS.out k
      rw [hf, Bool.false_or] at hsu
      have hall := HA.out k hlt
      clear hf
      generalize ks.getD k 0 = x at *
      by_cases hx : x = q
      · have d1 : ((x : Int) == (q : Int)) = true := by simp [hx]
        cases hb : s.testBit k
        · have HF : Hid (hasK s q ks (k + 1) = false) := Lib.hid (by rw [hsu, hb]; rfl)
          clear hsu hall hx
          go_wp2_with (go_at_call 60; refine (hasNode_nat s k _ (by omega)).mono ?_; rintro e w' ⟨rfl, rfl⟩; rw [hb])
          go_round
          case rel => exact ⟨k + 1, by omega, by go_num, HF.out⟩
          case measure => simp [intOf]; omega
        · have HF : Hid (hasK s q ks n = true) := Lib.hid (hall (by rw [hb]; simp [hx]))
          clear hsu hall hx
          go_wp2_with (go_at_call 60; refine (hasNode_nat s k _ (by omega)).mono ?_; rintro e w' ⟨rfl, rfl⟩; rw [hb])
          go_ret
          exact ⟨by rw [HF.out]; rfl, rfl⟩
      · have d1 : ((x : Int) == (q : Int)) = false := by simp; omega
        have HF : Hid (hasK s q ks (k + 1) = false) := Lib.hid (by rw [hsu]; simp [hx])
        clear hsu hall hx
        go_wp2
        go_round
        case rel => exact ⟨k + 1, by omega, by go_num, HF.out⟩
        case measure => simp [intOf]; omega
    · have hk' : k = n := by omega
      subst hk'
      have HF := Lib.hid hf
      clear hf
      go_wp2
      go_ret
      exact ⟨by rw [HF.out]; rfl, rfl⟩

set_option maxHeartbeats 2000000 in
set_option maxRecDepth 100000 in
theorem turnedState_any (ns : List Nat) (ks : List Nat) (_ok : Nt.Ok ns) (st : Nt.St 3 ks) (hl : ks.length = ns.length) (w : World) (v : Value) (base : Nat) (u : Value) (base' : Nat)
    (hs : Sl w base v (Nt.nats ns)) (ht : Sl w base' u (Nt.nats ks)) :
    Calls Try.prog 51 #[v, u] w fun e w' => ∃ z, e = .returned z ∧ Sl w' w.heap.size z (Nt.nats (Nt.turn ns ks)) ∧ Kept [] w w' := by
  have HT := Lib.hid ht
  obtain ⟨n, hn⟩ : ∃ n, n = ks.length := ⟨_, rfl⟩
  have hp := st.some
  have h6 := st.few
  have HLT := Lib.hid (fun k (hk : k < n) => st.lt k (by omega))
  have HSG := Lib.hid (fun k (hk : k < n) => Nt.turn_get ns ks (k := k) (by omega))
  have HPE : Hid (∀ k, Nt.pullB ns ks k = hasK (ns.getD k 0) ((ks.getD k 0 + 1) % 3) ks n) := Lib.hid (fun k => by rw [hn]; rfl)
  have HLN := Lib.hid (Nt.turn_length ns ks)
  rw [← hn] at hp h6
  obtain ⟨g1, cap1, rfl, hg1, hc1⟩ := hs.row (n := n) (by omega) hp
  obtain ⟨g, cap, rfl, hg, hc⟩ := ht.row hn.symm hp
  have HC := Lib.hid hc
  have HC1 := Lib.hid hc1
  have HN := Lib.hid hn
  have HX := Lib.hid (show 0 < (Nt.nats ks).length ∧ (Nt.nats ks).length ≤ 1000 from by rw [Nt.nats_length]; omega)
  clear hs ht st hl hc hc1 hn
  go_enter Try.func51, Try.ntmps51
  go_wp2_with fail
  refine (cloneInts_any (Nt.nats ks) HX.out.1 HX.out.2 _ _ _ HT.out).mono ?_
  rintro e w1 ⟨z, rfl, hs1, hk1⟩
  obtain ⟨gz, capz, rfl, hgz1, hgz⟩ := hs1.shape (n := n) (by rw [Nt.nats_length, HN.out]) hp
  have HZ1 : Hid (Sl w1 w.heap.size (.slice (some ⟨gz, 0, none⟩) n capz) (Nt.nats (Nt.mix (Nt.turn ns ks) ks 0))) := Lib.hid (by rw [Nt.mix_zero]; exact hs1)
  have HK1 := Lib.hid hk1
  clear hs1 hk1 HX
  go_wp2_with fail
  go_loopw [13] (fun i wr => ∃ k : Nat, k ≤ n ∧ i = .int .i64 k ∧ Sl wr w.heap.size (.slice (some ⟨gz, 0, none⟩) n capz) (Nt.nats (Nt.mix (Nt.turn ns ks) ks k)) ∧ Kept [] w wr) (fun i _ => n - (intOf i).toNat)
  case atStart => exact ⟨0, Nat.zero_le _, rfl, HZ1.out, HK1.out⟩
  case round =>
    clear HZ1 HK1
    obtain ⟨k, hk, rfl, hsl, hkept⟩ := hrel
    have HSL := Lib.hid hsl
    have HK := Lib.hid hkept
    by_cases hlt : k < n
    · have hkl : k < ks.length := by rw [← HN.out]; exact hlt
      have hck := (hkept.cell (p := ⟨g, k, none⟩) hg (by simp)).trans (HC.out k hlt)
      have hck1 := (hkept.cell (p := ⟨g1, k, none⟩) hg1 (by simp)).trans (HC1.out k hlt)
      have HML : Hid ((Nt.nats (Nt.mix (Nt.turn ns ks) ks k)).length = n) := Lib.hid (by rw [Nt.nats_length, Nt.mix_length HLN.out, ← HN.out])
      have HTW := Lib.hid (HT.out.stay hkept)
      obtain ⟨hcell, hfr⟩ := hsl.at k (by rw [HML.out]; exact hlt)
      have HSET := Lib.hid (Nt.mix_set HLN.out hkl)
      have HKEEP := Lib.hid (Nt.mix_keep HLN.out hkl)
      have HG := Lib.hid (HSG.out k hlt)
      have hx := HLT.out k hlt
      have hpe := HPE.out k
      clear hsl hkept hkl
      generalize (Nt.nats (Nt.mix (Nt.turn ns ks) ks k)).getD k 0 = z at *
      generalize Nt.pullB ns ks k = b at *
      generalize (Nt.turn ns ks).getD k 0 = y at *
      generalize ks.getD k 0 = x at *
      generalize ns.getD k 0 = r at *
      obtain ⟨q, hq⟩ : ∃ q, q = (x + 1) % 3 := ⟨_, rfl⟩
      have HQ := Lib.hid hq
      rw [← hq] at hpe
      have HPB := Lib.hid hpe.symm
      clear hq hpe
      cases b
      · have HY : Hid (y = x) := Lib.hid (by rw [HG.out]; rfl)
        clear HG HSET
        go_wp2_with (first | (go_at_call 82; refine (nextKind_any 3 x (by omega) (by omega) _).mono ?_; rintro e w' ⟨rfl, rfl⟩; rw [← HQ.out]) | (go_at_call 86; refine (setHasKind_any r q ks n HN.out.symm hp h6 _ _ _ HTW.out).mono ?_; rintro e w' ⟨rfl, rfl⟩; rw [HPB.out]))
        go_roundw
        case rel => exact ⟨k + 1, by omega, by go_num, by rw [← HKEEP.out HY.out]; exact HSL.out, HK.out⟩
        case measure => simp [intOf]; omega
      · have HY : Hid (y = q) := Lib.hid (by rw [HG.out, HQ.out]; rfl)
        clear HG HKEEP
        go_wp2_with (first | (go_at_call 82; refine (nextKind_any 3 x (by omega) (by omega) _).mono ?_; rintro e w' ⟨rfl, rfl⟩; rw [← HQ.out]) | (go_at_call 86; refine (setHasKind_any r q ks n HN.out.symm hp h6 _ _ _ HTW.out).mono ?_; rintro e w' ⟨rfl, rfl⟩; rw [HPB.out]))
        go_roundw
        case rel => exact ⟨k + 1, by omega, by go_num, by rw [← HSET.out, Nt.nats_set, HY.out]; exact HSL.out.set HML.out.symm k _, HK.out.setCell (.inr hgz1) _⟩
        case measure => simp [intOf]; omega
    · have hk' : k = n := by omega
      subst hk'
      clear hsl hkept
      go_wp2
      go_ret
      exact ⟨_, rfl, by have h := HSL.out; rw [HN.out, Nt.mix_end HLN.out, ← HN.out] at h; exact h, HK.out⟩

set_option maxHeartbeats 1000000 in
set_option maxRecDepth 100000 in
theorem iTurnStep_any (xs : List Int) (ys : List Int) (w : World) (v : Value) (base : Nat) (u : Value) (base' : Nat) (hs : Sl w base v xs) (ht : Sl w base' u ys) :
    Calls Try.prog 16 #[v, u] w fun e w' => ∃ z, e = .returned z ∧ Sl w' w.heap.size z (Nt.turnOf xs ys) ∧ Kept [] w w' := by
  have HS := Lib.hid hs
  have HT := Lib.hid ht
  obtain ⟨a, cap, rfl, _, hm, _⟩ := hs.any
  obtain ⟨a', cap', rfl, _, hm', _⟩ := ht.any
  clear hs ht
  cases ho : Nt.fireB xs 3 ys
  · have HF := Lib.hid (Nt.turnOf_no ho)
    go_enter Try.func16, Try.ntmps16
    go_wp2_with (go_at_call 47; refine (turningOk_any xs ys _ _ _ _ _ HS.out HT.out).mono ?_; rintro e w' ⟨rfl, rfl⟩; rw [ho])
    go_ret
    exact ⟨_, rfl, by rw [HF.out]; exact Sl.nil _ _, Kept.refl _ _⟩
  · obtain ⟨ns, ks, rfl, rfl, ok, st, hl⟩ := Nt.fireB3_ok ho
    have HF := Lib.hid (Nt.turnOf_ok ok st hl)
    have HO := Lib.hid (And.intro ok (And.intro st hl))
    clear ok st hl
    go_enter Try.func16, Try.ntmps16
    go_wp2_with (go_at_call 47; refine (turningOk_any _ _ _ _ _ _ _ HS.out HT.out).mono ?_; rintro e w' ⟨rfl, rfl⟩; rw [ho])
    refine (turnedState_any ns ks HO.out.1 HO.out.2.1 HO.out.2.2 _ _ _ _ _ HS.out HT.out).mono ?_
    rintro e w1 ⟨z, rfl, hs1, hk1⟩
    have HS1 := Lib.hid hs1
    have HK1 := Lib.hid hk1
    clear hs1 hk1
    go_wp2_with fail
    go_ret
    exact ⟨_, rfl, by rw [HF.out]; exact HS1.out, HK1.out⟩

set_option maxHeartbeats 1000000 in
set_option maxRecDepth 100000 in
theorem iStill_any (xs : List Int) (ys : List Int) (w : World) (v : Value) (base : Nat) (u : Value) (base' : Nat) (hs : Sl w base v xs) (ht : Sl w base' u ys) :
    Calls Try.prog 32 #[v, u] w fun e w' => e = .returned (.bool (Nt.stillOf xs ys)) ∧ Kept [] w w' := by
  have HS := Lib.hid hs
  have HT := Lib.hid ht
  obtain ⟨a, cap, rfl, _, hm, _⟩ := hs.any
  obtain ⟨a', cap', rfl, _, hm', _⟩ := ht.any
  clear hs ht
  cases ho : Nt.fireB xs 3 ys
  · have HF := Lib.hid (Nt.stillOf_no ho)
    go_enter Try.func32, Try.ntmps32
    go_wp2_with (go_at_call 47; refine (turningOk_any xs ys _ _ _ _ _ HS.out HT.out).mono ?_; rintro e w' ⟨rfl, rfl⟩; rw [ho])
    go_ret
    exact ⟨by rw [HF.out]; rfl, Kept.refl _ _⟩
  · obtain ⟨ns, ks, rfl, rfl, ok, st, hl⟩ := Nt.fireB3_ok ho
    have HF := Lib.hid (Nt.stillOf_ok ok st hl)
    have HO := Lib.hid (And.intro ok (And.intro st hl))
    clear ok st hl
    go_enter Try.func32, Try.ntmps32
    go_wp2_with (go_at_call 47; refine (turningOk_any _ _ _ _ _ _ _ HS.out HT.out).mono ?_; rintro e w' ⟨rfl, rfl⟩; rw [ho])
    refine (turnedState_any ns ks HO.out.1 HO.out.2.1 HO.out.2.2 _ _ _ _ _ HS.out HT.out).mono ?_
    rintro e w1 ⟨z, rfl, hs1, hk1⟩
    have HS1 := Lib.hid hs1
    have HT1 := Lib.hid (HT.out.stay hk1)
    have HK1 := Lib.hid hk1
    clear hs1 hk1
    go_wp2_with fail
    refine (equalInts_any _ _ _ _ _ _ _ HS1.out HT1.out).mono ?_
    rintro e w2 ⟨rfl, hq⟩
    rw [dec_nats]
    have HK2 := Lib.hid (HK1.out.trans hq.kept (by simp))
    clear hq
    go_wp2_with fail
    go_ret
    exact ⟨by rw [HF.out] <;> rfl, HK2.out⟩

/-- One box: a slice. -/
theorem one_box (w : World) (t : TypeId) (v : Value) :
    Kept [] w (w.alloc (.cells #[v] t)) ∧ (w.alloc (.cells #[v] t)).cell? ⟨w.heap.size, 0, none⟩ = some v ∧ (w.alloc (.cells #[v] t)).heap.size = w.heap.size + 1 :=
  ⟨(Kept.refl _ _).alloc _, (Boxed.new w t v).cell, by simp⟩

set_option maxHeartbeats 400000 in
set_option maxRecDepth 100000 in
theorem turnRun1_any (ns : List Nat) (ks : List Nat) (ok : Nt.Ok ns) (st : Nt.St 3 ks) (hl : ks.length = ns.length) (w : World) (v : Value) (base : Nat) (u : Value) (base' : Nat) (b1 : Nat)
    (hA : w.cell? ⟨b1, 0, none⟩ = some v) (hs : Sl w base v (Nt.nats ns)) (ht : Sl w base' u (Nt.nats ks)) :
    Calls Try.prog 68 #[u, .pointer (some ⟨b1, 0, none⟩)] w fun e w' => ∃ z, e = .returned z ∧ Sl w' w.heap.size z (Nt.nats (Nt.turn ns ks)) ∧ Kept [] w w' := by
  have HS := Lib.hid hs
  have HT := Lib.hid ht
  have HOK := Lib.hid ok
  have HST := Lib.hid st
  have HL := Lib.hid hl
  obtain ⟨n, hn⟩ : ∃ n, n = ks.length := ⟨_, rfl⟩
  obtain ⟨g, cap, rfl, _, _⟩ := hs.row (n := n) (by omega) (by have := ok.some; omega)
  obtain ⟨g2, cap2, rfl, _, _⟩ := ht.row (n := n) (by omega) (by have := st.some; omega)
  clear hs ht ok st hl hn
  go_enter Try.func68, Try.ntmps68
  go_wp2_with fail
  refine (turnedState_any ns ks HOK.out HST.out HL.out _ _ _ _ _ HS.out HT.out).mono ?_
  rintro e w1 ⟨z, rfl, hs1, hk1⟩
  have HS1 := Lib.hid hs1
  have HK1 := Lib.hid hk1
  clear hs1 hk1
  go_wp2_with fail
  go_ret
  exact ⟨_, rfl, HS1.out, HK1.out⟩

theorem enter_trun1 (args : Array Value) (w : World) : Sem.run Try.prog (callFunc 68 args) w = .ok (.enter 68 args) w := by kernel_rfl

set_option maxHeartbeats 1000000 in
set_option maxRecDepth 100000 in
theorem iTurnRun_any (xs : List Int) (ys : List Int) (steps : Int) (w : World) (v : Value) (base : Nat) (u : Value) (base' : Nat) (hs : Sl w base v xs) (ht : Sl w base' u ys) :
    Calls Try.prog 31 #[v, u, .int .i64 steps] w fun e w' => ∃ z, e = .returned z ∧ Sl w' w.heap.size z (Nt.trunOf xs ys steps) ∧ Kept [] w w' := by
  have hmf : ∀ (fn : Fn) (first cap : Array Value) (w : World), (Instr.makeFunc fn first cap).run Try.prog w = .ok (.func fn first cap) w := fun _ _ _ _ => rfl
  obtain ⟨hk1, ha, hsz⟩ := one_box w 23 v
  have HK1 := Lib.hid hk1
  have HA := Lib.hid ha
  have HSZ := Lib.hid hsz
  have HS1 := Lib.hid (hs.stay hk1)
  have HT1 := Lib.hid (ht.stay hk1)
  obtain ⟨a, cap, rfl, _, hm, _⟩ := hs.any
  obtain ⟨a', cap', rfl, _, hm', _⟩ := ht.any
  clear hs ht hk1 ha hsz
  cases ho : Nt.fireB xs 3 ys
  · have HF := Lib.hid (Nt.trunOf_no1 (steps := steps) ho)
    go_enter Try.func31, Try.ntmps31
    go_wp2_with (go_at_call 47; refine (turningOk_any xs ys _ _ _ _ _ HS1.out HT1.out).mono ?_; rintro e w' ⟨rfl, rfl⟩; rw [ho])
    go_ret
    exact ⟨_, rfl, by rw [HF.out]; exact Sl.nil _ _, HK1.out⟩
  · cases h2 : Nt.stepsB steps
    · have HF := Lib.hid (Nt.trunOf_no2 (xs := xs) (ys := ys) h2)
      go_enter Try.func31, Try.ntmps31
      go_wp2_with (first | (go_at_call 47; refine (turningOk_any xs ys _ _ _ _ _ HS1.out HT1.out).mono ?_; rintro e w' ⟨rfl, rfl⟩; rw [ho]) | (go_at_call 56; refine (runOk_any steps _).mono ?_; rintro e w' ⟨rfl, rfl⟩; rw [h2]))
      go_ret
      exact ⟨_, rfl, by rw [HF.out]; exact Sl.nil _ _, HK1.out⟩
    · obtain ⟨ns, ks, rfl, rfl, ok, st, hl⟩ := Nt.fireB3_ok ho
      obtain ⟨t, rfl, ht60⟩ := Nt.stepsB_ok h2
      have HF := Lib.hid (Nt.trunOf_ok ok st hl ht60)
      have HOK := Lib.hid ok
      have HST := Lib.hid st
      have HL := Lib.hid hl
      clear ok st hl
      go_enter Try.func31, Try.ntmps31
      go_wp2_with (first | (go_at_call 47; refine (turningOk_any _ _ _ _ _ _ _ HS1.out HT1.out).mono ?_; rintro e w' ⟨rfl, rfl⟩; rw [ho]) | (go_at_call 56; refine (runOk_any _ _).mono ?_; rintro e w' ⟨rfl, rfl⟩; rw [h2]))
      generalize hw1 : w.alloc (.cells #[Value.slice a (Nt.nats ns).length cap] 23) = w1 at *
      have h6 := HST.out.few
      have hp := HST.out.some
      refine (foldedSteps_any 68 #[.pointer (some ⟨w.heap.size, 0, none⟩)] (Nt.turns ns ks) ks.length t ht60 hp h6 (Nt.turns_length ns ks) (fun _ wr => Kept [] w1 wr) [] w1.heap.size enter_trun1 ?_ (fun _ _ _ _ h k => h.trans k (by simp)) (by simp) w1 _ base' (Nat.le_refl _) HT1.out (Kept.refl _ _)).mono ?_
      · intro t' _ w2 v2 base2 hs2 hj _
        have hz := HSZ.out
        have h := turnRun1_any ns (Nt.turns ns ks t') HOK.out (Nt.turns_st ns HST.out t') (by rw [Nt.turns_length]; exact HL.out) w2 _ base v2 base2 w.heap.size
          ((hj.cell (p := ⟨w.heap.size, 0, none⟩) (by show w.heap.size < w1.heap.size; omega) (by simp)).trans HA.out) (HS1.out.stay hj) hs2
        refine Calls.mono (by simpa using h) ?_
        rintro e w3 ⟨z, rfl, hs3, hk3⟩
        exact ⟨z, rfl, hs3, hj.trans hk3 (by simp), hk3⟩
      · rintro e w2 ⟨z, rfl, hs2, _, hk2⟩
        have HS2 := Lib.hid (hs2.mono HK1.out.size)
        have HK2 := Lib.hid (HK1.out.trans hk2 (by simp))
        clear hs2 hk2
        go_wp2_with fail
        go_ret
        exact ⟨_, rfl, by rw [HF.out]; exact HS2.out, HK2.out⟩

set_option maxHeartbeats 400000 in
set_option maxRecDepth 100000 in
theorem tloop1_any (ns : List Nat) (ks : List Nat) (ok : Nt.Ok ns) (st : Nt.St 3 ks) (hl : ks.length = ns.length) (w : World) (v : Value) (base : Nat) (u : Value) (base' : Nat) (b1 : Nat)
    (hA : w.cell? ⟨b1, 0, none⟩ = some v) (hs : Sl w base v (Nt.nats ns)) (ht : Sl w base' u (Nt.nats ks)) :
    Calls Try.prog 93 #[u, .pointer (some ⟨b1, 0, none⟩)] w fun e w' => ∃ z, e = .returned z ∧ Sl w' w.heap.size z (Nt.nats (Nt.turn ns ks)) ∧ Kept [] w w' := by
  have HS := Lib.hid hs
  have HT := Lib.hid ht
  have HOK := Lib.hid ok
  have HST := Lib.hid st
  have HL := Lib.hid hl
  obtain ⟨n, hn⟩ : ∃ n, n = ks.length := ⟨_, rfl⟩
  obtain ⟨g, cap, rfl, _, _⟩ := hs.row (n := n) (by omega) (by have := ok.some; omega)
  obtain ⟨g2, cap2, rfl, _, _⟩ := ht.row (n := n) (by omega) (by have := st.some; omega)
  clear hs ht ok st hl hn
  go_enter Try.func93, Try.ntmps93
  go_wp2_with fail
  refine (turnedState_any ns ks HOK.out HST.out HL.out _ _ _ _ _ HS.out HT.out).mono ?_
  rintro e w1 ⟨z, rfl, hs1, hk1⟩
  have HS1 := Lib.hid hs1
  have HK1 := Lib.hid hk1
  clear hs1 hk1
  go_wp2_with fail
  go_ret
  exact ⟨_, rfl, HS1.out, HK1.out⟩

theorem enter_tloop1 (args : Array Value) (w : World) : Sem.run Try.prog (callFunc 93 args) w = .ok (.enter 93 args) w := by kernel_rfl

set_option maxHeartbeats 1000000 in
set_option maxRecDepth 100000 in
theorem iTLoopOk_any (ns : List Nat) (ks : List Nat) (ok : Nt.Ok ns) (st : Nt.St 3 ks) (hl : ks.length = ns.length) (m l : Nat) (hloop : Nt.IsLoop (Nt.turns ns ks) m l) (hb : m + l ≤ 3 ^ ks.length)
    (w : World) (v : Value) (base : Nat) (u : Value) (base' : Nat) (hs : Sl w base v (Nt.nats ns)) (ht : Sl w base' u (Nt.nats ks)) :
    Calls Try.prog 65 #[v, u] w fun e w' => e = .returned (.tuple #[.int .i64 (m : Int), .int .i64 (l : Int)]) ∧ Kept [] w w' := by
  have hmf : ∀ (fn : Fn) (first cap : Array Value) (w : World), (Instr.makeFunc fn first cap).run Try.prog w = .ok (.func fn first cap) w := fun _ _ _ _ => rfl
  obtain ⟨hk1, ha, hsz⟩ := one_box w 23 v
  have ho := Nt.fireB3_yes ok st hl
  have hsm := Nt.loop_small st.c5 st.few hb
  have HK1 := Lib.hid hk1
  have HA := Lib.hid ha
  have HSZ := Lib.hid hsz
  have HS1 := Lib.hid (hs.stay hk1)
  have HT1 := Lib.hid (ht.stay hk1)
  have HOK := Lib.hid ok
  have HST := Lib.hid st
  have HL := Lib.hid hl
  have HLP := Lib.hid hloop
  obtain ⟨a, cap, rfl, _, hm, _⟩ := hs.any
  obtain ⟨a', cap', rfl, _, hm', _⟩ := ht.any
  clear hs ht hk1 ha hsz ok st hl hloop hb
  go_enter Try.func65, Try.ntmps65
  go_wp2_with (go_at_call 47; refine (turningOk_any _ _ _ _ _ _ _ HS1.out HT1.out).mono ?_; rintro e w' ⟨rfl, rfl⟩; rw [ho])
  generalize hw1 : w.alloc (.cells #[Value.slice a (Nt.nats ns).length cap] 23) = w1 at *
  refine (loopFrom_any 93 #[.pointer (some ⟨w.heap.size, 0, none⟩)] (Nt.turns ns ks) m l HLP.out (Nt.turns_tells ns ks) (by omega) w1 enter_tloop1 ?_ _ base' HT1.out).mono ?_
  · intro t' w2 v2 hs2 hj
    have hz := HSZ.out
    have h := tloop1_any ns (Nt.turns ns ks t') HOK.out (Nt.turns_st ns HST.out t') (by rw [Nt.turns_length]; exact HL.out) w2 _ base v2 0 w.heap.size
      ((hj.cell (p := ⟨w.heap.size, 0, none⟩) (by show w.heap.size < w1.heap.size; omega) (by simp)).trans HA.out) (HS1.out.stay hj) hs2
    refine Calls.mono (by simpa using h) ?_
    rintro e w3 ⟨z, rfl, hs3, hk3⟩
    exact ⟨z, rfl, hs3.zero, hk3⟩
  · rintro e w2 ⟨rfl, hk2⟩
    have HK2 := Lib.hid (HK1.out.trans hk2 (by simp))
    clear hk2
    go_wp2_with fail
    go_ret2
    exact ⟨rfl, HK2.out⟩

set_option maxHeartbeats 1000000 in
set_option maxRecDepth 100000 in
theorem iTLoopNo_any (xs : List Int) (ys : List Int) (ho : Nt.fireB xs 3 ys = false) (w : World) (v : Value) (base : Nat) (u : Value) (base' : Nat) (hs : Sl w base v xs) (ht : Sl w base' u ys) :
    Calls Try.prog 65 #[v, u] w fun e w' => e = .returned (.tuple #[.int .i64 (-1), .int .i64 (-1)]) ∧ Kept [] w w' := by
  obtain ⟨hk1, ha, hsz⟩ := one_box w 23 v
  have HK1 := Lib.hid hk1
  have HS1 := Lib.hid (hs.stay hk1)
  have HT1 := Lib.hid (ht.stay hk1)
  obtain ⟨a, cap, rfl, _, hm, _⟩ := hs.any
  obtain ⟨a', cap', rfl, _, hm', _⟩ := ht.any
  clear hs ht hk1 ha hsz
  go_enter Try.func65, Try.ntmps65
  go_wp2_with (go_at_call 47; refine (turningOk_any xs ys _ _ _ _ _ HS1.out HT1.out).mono ?_; rintro e w' ⟨rfl, rfl⟩; rw [ho])
  go_ret2
  exact ⟨rfl, HK1.out⟩

theorem iTLoop_any {a b : Int} (xs : List Int) (ys : List Int) (hL : Nt.TLoopIs xs ys a b) (w : World) (v : Value) (base : Nat) (u : Value) (base' : Nat) (hs : Sl w base v xs) (ht : Sl w base' u ys) :
    Calls Try.prog 65 #[v, u] w fun e w' => e = .returned (.tuple #[.int .i64 a, .int .i64 b]) ∧ Kept [] w w' := by
  rcases hL with ⟨ns, ks, m, l, rfl, rfl, ok, st, hl, hloop, hb, rfl, rfl⟩ | ⟨ho, rfl, rfl⟩
  · exact iTLoopOk_any ns ks ok st hl m l hloop hb w v base u base' hs ht
  · exact iTLoopNo_any xs ys ho w v base u base' hs ht
end Go.Proofs.Ytjpnepjpkgffpaa

namespace Go.Proofs.Ytjpnepjpkgffpaa
open Go.RowKit

/-- Counts and what is added in the round from state to state. -/
def addD (cs ks js : List Nat) : List Nat := (List.range cs.length).map fun k => cs.getD k 0 + (js.getD k 0 + 3 - ks.getD k 0) % 3
theorem addD_length (cs ks js : List Nat) : (addD cs ks js).length = cs.length := by simp [addD]
theorem addD_get (cs ks js : List Nat) {k : Nat} (h : k < cs.length) : (addD cs ks js).getD k 0 = cs.getD k 0 + (js.getD k 0 + 3 - ks.getD k 0) % 3 := by
  unfold addD
  rw [List.getD_eq_getElem?_getD, List.getElem?_map, List.getElem?_range h]
  rfl
theorem addD_turned {ns ks : List Nat} (st : Nt.St 3 ks) (t : Nat) : addD (Nt.turnedL ns ks t) (Nt.turns ns ks t) (Nt.turn ns (Nt.turns ns ks t)) = Nt.turnedL ns ks (t + 1) := by
  apply Nt.ext_getD
  · rw [addD_length, Nt.turnedL_length, Nt.turnedL_length]
  · intro k hk
    rw [addD_length] at hk
    have hk2 : k < ks.length := by rw [Nt.turnedL_length] at hk; exact hk
    rw [addD_get _ _ _ hk, Nt.turnedL_next st t hk2]
    have h1 := (Nt.turns_st ns st t).lt k (by rw [Nt.turns_length]; exact hk2)
    have h2 := Nt.turn_get ns (Nt.turns ns ks t) (k := k) (by rw [Nt.turns_length]; exact hk2)
    rw [show Nt.turns ns ks (t + 1) = Nt.turn ns (Nt.turns ns ks t) from rfl, h2]
    congr 1
    generalize (Nt.turns ns ks t).getD k 0 = x at *
    unfold Nt.turnK
    cases Nt.pullB ns (Nt.turns ns ks t) k
    · simp
    · rw [if_pos rfl, if_pos (by omega)]; omega
theorem sub_mod3 (x y : Nat) (hx : x < 3) (hy : y < 3) : ((y : Int) - (x : Int) + 3).tmod 3 = (((y + 3 - x) % 3 : Nat) : Int) := by
  rw [show (y : Int) - (x : Int) + 3 = ((y + 3 - x : Nat) : Int) by omega]
  exact tmod_nat _ 3

set_option maxHeartbeats 1000000 in
set_option maxRecDepth 100000 in
theorem addDiff_any (cs ks js : List Nat) (n : Nat) (hc : cs.length = n) (hk : ks.length = n) (hj : js.length = n) (hp : 0 < n) (h6 : n ≤ 6) (hcs : ∀ k, k < n → cs.getD k 0 ≤ 1000) (hk3 : ∀ k, k < n → ks.getD k 0 < 3) (hj3 : ∀ k, k < n → js.getD k 0 < 3)
    (w : World) (v : Value) (base : Nat) (u : Value) (base' : Nat) (r : Value) (base2 : Nat)
    (hs : Sl w base v (Nt.nats cs)) (ht : Sl w base' u (Nt.nats ks)) (hr : Sl w base2 r (Nt.nats js)) (hne : ∀ g, u.ownBlock = some g → ¬ g ∈ v.ownBlock.toList) (hne2 : ∀ g, r.ownBlock = some g → ¬ g ∈ v.ownBlock.toList) :
    Calls Try.prog 59 #[v, u, r] w fun e w' => e = .returned (.tuple #[]) ∧ Sl w' base v (Nt.nats (addD cs ks js)) ∧ Kept v.ownBlock.toList w w' := by
  obtain ⟨g, cap, rfl, hg, _⟩ := hs.row hc hp
  obtain ⟨g2, cap2, rfl, hg2, hd⟩ := ht.row hk hp
  obtain ⟨g3, cap3, rfl, hg3, he⟩ := hr.row hj hp
  have hne2' : ¬ g2 = g := by have := hne g2 rfl; simpa [Value.ownBlock] using this
  have hne3' : ¬ g3 = g := by have := hne2 g3 rfl; simpa [Value.ownBlock] using this
  have HLN := Lib.hid (addD_length cs ks js)
  have HC := Lib.hid hc
  have HD := Lib.hid hd
  have HE := Lib.hid he
  have HCS := Lib.hid hcs
  have HK3 := Lib.hid hk3
  have HJ3 := Lib.hid hj3
  have HS : Hid (Sl w base (.slice (some ⟨g, 0, none⟩) n cap) (Nt.nats (Nt.mix (addD cs ks js) cs 0))) := Lib.hid (by rw [Nt.mix_zero]; exact hs)
  have HNE := Lib.hid hne2'
  have HNE3 := Lib.hid hne3'
  clear hs ht hr hc hk hj hd he hcs hk3 hj3 hne hne2 hne2' hne3'
  go_enter Try.func59, Try.ntmps59
  go_wp2
  go_loopw [10] (fun i wr => ∃ k : Nat, k ≤ n ∧ i = .int .i64 k ∧ Sl wr base (.slice (some ⟨g, 0, none⟩) n cap) (Nt.nats (Nt.mix (addD cs ks js) cs k)) ∧ Kept [g] w wr) (fun i _ => n - (intOf i).toNat)
  case atStart => exact ⟨0, Nat.zero_le _, rfl, HS.out, Kept.refl _ _⟩
  case round =>
    clear HS
    obtain ⟨k, hk, rfl, hsl, hkept⟩ := hrel
    have HSL := Lib.hid hsl
    have HK := Lib.hid hkept
    by_cases hlt : k < n
    · have hkl : k < cs.length := by rw [HC.out]; exact hlt
      have hck := (hkept.cell (p := ⟨g2, k, none⟩) hg2 (by simp; exact HNE.out)).trans (HD.out k hlt)
      have hck3 := (hkept.cell (p := ⟨g3, k, none⟩) hg3 (by simp; exact HNE3.out)).trans (HE.out k hlt)
      have HML : Hid ((Nt.nats (Nt.mix (addD cs ks js) cs k)).length = n) := Lib.hid (by rw [Nt.nats_length, Nt.mix_length HLN.out, HC.out])
      obtain ⟨hcell, hfr⟩ := hsl.at k (by rw [HML.out]; exact hlt)
      rw [Nt.nats_get, Nt.mix_get HLN.out hkl] at hcell
      have HSET := Lib.hid (Nt.mix_set HLN.out hkl)
      have HG := Lib.hid (addD_get cs ks js hkl)
      have hcs := HCS.out k hlt
      have hx := HK3.out k hlt
      have hy := HJ3.out k hlt
      clear hsl hkept hkl
      generalize (addD cs ks js).getD k 0 = y at *
      generalize ks.getD k 0 = x at *
      generalize js.getD k 0 = j at *
      generalize cs.getD k 0 = z at *
      have f1 := sub_mod3 x j hx hy
      obtain ⟨d, hd⟩ : ∃ d, d = (j + 3 - x) % 3 := ⟨_, rfl⟩
      have hd3 : d < 3 := by omega
      rw [← hd] at f1
      have HY : Hid (((y : Nat) : Int) = (z : Int) + (d : Int)) := Lib.hid (by rw [HG.out, hd, Int.natCast_add])
      clear HG hd
      have e1 : IntKind.i64.wrap ((j : Int) - (x : Int)) = (j : Int) - (x : Int) := IntWalk.i64_in _ (by omega)
      have e2 : IntKind.i64.wrap ((j : Int) - (x : Int) + 3) = (j : Int) - (x : Int) + 3 := IntWalk.i64_in _ (by omega)
      have e3 : IntKind.i64.wrap ((z : Int) + (d : Int)) = (z : Int) + (d : Int) := IntWalk.i64_in _ (by omega)
      have HSLd : Hid (Sl wr.drew base (.slice (some ⟨g, 0, none⟩) n cap) (Nt.nats (Nt.mix (addD cs ks js) cs k))) := HSL
      have HKd := Lib.hid HK.out.drew
      have hcell2 : wr.drew.cell? ⟨g, k, none⟩ = some (.int .i64 (z : Int)) := hcell
      have hfr2 : wr.drew.frozen? ⟨g, k, none⟩ = false := hfr
      go_wp2_with fail
      go_still_tail 14, (by kernel_rfl)
      change wpList _ _ _ _ _ wr.drew
      clear hcell hfr HSL HK hck hck3
      generalize wr.drew = w2 at *
      go_wp2
      go_roundw
      case rel => exact ⟨k + 1, by omega, by go_num, by rw [← HSET.out, Nt.nats_set, HY.out]; exact HSLd.out.set HML.out.symm k _, HKd.out.setCell (.inl (by simp)) _⟩
      case measure => simp [intOf]; omega
    · have hk' : k = n := by omega
      subst hk'
      clear hsl hkept
      go_wp2
      go_end0
      exact ⟨rfl, by have h := HSL.out; rw [← HC.out, Nt.mix_end HLN.out, HC.out] at h; exact h, HK.out⟩

set_option maxHeartbeats 1000000 in
set_option maxRecDepth 100000 in
theorem turned1_any (ns : List Nat) (ks : List Nat) (ok : Nt.Ok ns) (st : Nt.St 3 ks) (hl : ks.length = ns.length) (cs : List Nat) (n : Nat) (hn : ks.length = n) (hcl : cs.length = n) (hcs : ∀ k, k < n → cs.getD k 0 ≤ 1000)
    (w : World) (v : Value) (base : Nat) (u : Value) (base' : Nat) (b1 b3 gf cap basef : Nat)
    (hA : w.cell? ⟨b1, 0, none⟩ = some v) (hF : w.cell? ⟨b3, 0, none⟩ = some (.slice (some ⟨gf, 0, none⟩) n cap)) (hb3 : b3 < w.heap.size)
    (hs : Sl w base v (Nt.nats ns)) (ht : Sl w base' u (Nt.nats ks)) (hf : Sl w basef (.slice (some ⟨gf, 0, none⟩) n cap) (Nt.nats cs)) (hne : ∀ g, u.ownBlock = some g → ¬ g = gf) :
    Calls Try.prog 58 #[u, .pointer (some ⟨b1, 0, none⟩), .pointer (some ⟨b3, 0, none⟩)] w fun e w' => ∃ z, e = .returned z ∧ Sl w' w.heap.size z (Nt.nats (Nt.turn ns ks)) ∧
      Sl w' basef (.slice (some ⟨gf, 0, none⟩) n cap) (Nt.nats (addD cs ks (Nt.turn ns ks))) ∧ Kept [gf] w w' := by
  have hp : 0 < n := by have := st.some; omega
  have h6 : n ≤ 6 := by have := st.few; omega
  have HT := Lib.hid ht
  obtain ⟨g, capn, rfl, _, _⟩ := hs.row (n := n) (by omega) hp
  obtain ⟨g2, cap2, rfl, _, _⟩ := ht.row hn hp
  have HS := Lib.hid hs
  have HFL := Lib.hid hf
  have HF := Lib.hid hF
  have HOK := Lib.hid ok
  have HST := Lib.hid st
  have HL := Lib.hid hl
  have HN := Lib.hid hn
  have HCL := Lib.hid hcl
  have HCS := Lib.hid hcs
  have HNE := Lib.hid hne
  have HSL : Hid ((Nt.turn ns ks).length = n) := Lib.hid (by rw [Nt.turn_length]; exact hn)
  have HK3 := Lib.hid (fun k (hk : k < n) => st.lt k (by omega))
  have HJ3 := Lib.hid (fun k (hk : k < n) => (Nt.turn_st ns st).lt k (by rw [Nt.turn_length]; omega))
  have HGF := Lib.hid (hf.block (g := gf) rfl).2
  have HB3 := Lib.hid hb3
  clear hs ht hf hF ok st hl hcl hcs hn hb3 hne
  go_enter Try.func58, Try.ntmps58
  go_wp2_with fail
  refine (turnedState_any ns ks HOK.out HST.out HL.out _ _ _ _ _ HS.out HT.out).mono ?_
  rintro e w1 ⟨z, rfl, hs1, hk1⟩
  have HS1 := Lib.hid hs1
  have HK1 := Lib.hid hk1
  have HT1 := Lib.hid (HT.out.stay hk1)
  have HF1 := Lib.hid ((hk1.cell (p := ⟨b3, 0, none⟩) HB3.out (by simp)).trans HF.out)
  have HFL1 := Lib.hid (HFL.out.stay hk1)
  have HGE := Lib.hid (fun g hg => (hs1.block (g := g) hg).1)
  obtain ⟨gz, capz, rfl, _, _⟩ := hs1.row HSL.out hp
  clear hs1 hk1 hA
  have hF1 := HF1.out
  go_wp2_with fail
  refine (addDiff_any cs ks (Nt.turn ns ks) n HCL.out HN.out HSL.out hp h6 HCS.out HK3.out HJ3.out _ _ _ _ _ _ _ HFL1.out HT1.out HS1.out (fun g hg hm => by have h1 := HNE.out g hg; simp [Value.ownBlock] at hm; omega) (fun g hg hm => by have h1 := HGE.out g hg; have h2 := HGF.out; simp [Value.ownBlock] at hm; omega)).mono ?_
  rintro e w2 ⟨rfl, hs2, hk2⟩
  have HS2 := Lib.hid hs2
  have HK2 : Hid (Kept [gf] w1 w2) := Lib.hid hk2
  have HZ2 := Lib.hid (HS1.out.kept hk2 (fun g hg hm => by have h1 := HGE.out g hg; have h2 := HGF.out; simp [Value.ownBlock] at hm; omega))
  clear hs2 hk2 hF1
  go_wp2_with fail
  go_ret
  refine ⟨_, rfl, HZ2.out, HS2.out, ?_⟩
  have h1 := HK1.out
  have h2 : Kept [gf] w w1 := ⟨h1.os, h1.tape, h1.output, h1.size, fun k hk _ => h1.block k hk (by simp)⟩
  exact h2.trans HK2.out (fun x hx => .inl hx)

theorem enter_turned1 (args : Array Value) (w : World) : Sem.run Try.prog (callFunc 58 args) w = .ok (.enter 58 args) w := by kernel_rfl

theorem turnedL_few (ns ks : List Nat) (t : Nat) (ht : t ≤ 60) (k : Nat) (hk : k < ks.length) : (Nt.turnedL ns ks t).getD k 0 ≤ 1000 := by
  rw [Nt.turnedL_get _ _ _ hk]
  have := Nt.turned_le ns ks k t
  omega

set_option maxHeartbeats 2000000 in
set_option maxRecDepth 100000 in
theorem iTurnedRow_any (xs : List Int) (ys : List Int) (steps : Int) (w : World) (v : Value) (base : Nat) (u : Value) (base' : Nat) (hs : Sl w base v xs) (ht : Sl w base' u ys) :
    Calls Try.prog 22 #[v, u, .int .i64 steps] w fun e w' => ∃ z, e = .returned z ∧ Sl w' w.heap.size z (Nt.tturnedOf xs ys steps) ∧ Kept [] w w' := by
  have hmf : ∀ (fn : Fn) (first cap : Array Value) (w : World), (Instr.makeFunc fn first cap).run Try.prog w = .ok (.func fn first cap) w := fun _ _ _ _ => rfl
  obtain ⟨hk1, ha, hsz⟩ := one_box w 23 v
  have HK1 := Lib.hid hk1
  have HA := Lib.hid ha
  have HSZ := Lib.hid hsz
  have HS1 := Lib.hid (hs.stay hk1)
  have HT1 := Lib.hid (ht.stay hk1)
  obtain ⟨a, cap, rfl, _, hm, _⟩ := hs.any
  obtain ⟨a', cap', rfl, _, hm', _⟩ := ht.any
  clear hs ht hk1 ha hsz
  cases ho : Nt.fireB xs 3 ys
  · have HF := Lib.hid (Nt.tturnedOf_no1 (steps := steps) ho)
    go_enter Try.func22, Try.ntmps22
    go_wp2_with (go_at_call 47; refine (turningOk_any xs ys _ _ _ _ _ HS1.out HT1.out).mono ?_; rintro e w' ⟨rfl, rfl⟩; rw [ho])
    go_ret
    exact ⟨_, rfl, by rw [HF.out]; exact Sl.nil _ _, HK1.out⟩
  · cases h2 : Nt.stepsB steps
    · have HF := Lib.hid (Nt.tturnedOf_no2 (xs := xs) (ys := ys) h2)
      go_enter Try.func22, Try.ntmps22
      go_wp2_with (first | (go_at_call 47; refine (turningOk_any xs ys _ _ _ _ _ HS1.out HT1.out).mono ?_; rintro e w' ⟨rfl, rfl⟩; rw [ho]) | (go_at_call 56; refine (runOk_any steps _).mono ?_; rintro e w' ⟨rfl, rfl⟩; rw [h2]))
      go_ret
      exact ⟨_, rfl, by rw [HF.out]; exact Sl.nil _ _, HK1.out⟩
    · obtain ⟨ns, ks, rfl, rfl, ok, st, hl⟩ := Nt.fireB3_ok ho
      obtain ⟨t, rfl, ht60⟩ := Nt.stepsB_ok h2
      have HF := Lib.hid (Nt.tturnedOf_ok ok st hl ht60)
      have HOK := Lib.hid ok
      have HST := Lib.hid st
      have HL := Lib.hid hl
      have h6 := st.few
      have hp := st.some
      obtain ⟨n, hn⟩ : ∃ n, n = ks.length := ⟨_, rfl⟩
      have HN := Lib.hid hn
      rw [← hn] at h6 hp
      have hln : (Nt.nats ns).length = n := by rw [Nt.nats_length]; omega
      rw [hln] at HA HSZ HK1 HS1 HT1 ⊢
      clear ok st hl hn hln hm hm'
      go_enter Try.func22, Try.ntmps22
      go_wp2_with (first | (go_at_call 47; refine (turningOk_any _ _ _ _ _ _ _ HS1.out HT1.out).mono ?_; rintro e w' ⟨rfl, rfl⟩; rw [ho]) | (go_at_call 56; refine (runOk_any _ _).mono ?_; rintro e w' ⟨rfl, rfl⟩; rw [h2]) | (at_make; refine make_int _ n rfl _ _ rfl rfl rfl ?_ ?_))
      · omega
      · intro w2 hs2 hk2 hlt2
        have hgw := HSZ.out
        generalize hw1 : w.alloc (.cells #[Value.slice a n cap] 23) = w1 at *
        have hs2' : Sl w2 (w.heap.size + 1) (.slice (some ⟨w.heap.size + 1, 0, none⟩) n n) (List.replicate n 0) := by exact hs2
        have hlt2' : w.heap.size + 1 < w2.heap.size := by exact hlt2
        have hbx := Boxed.new w2 23 (.slice (some ⟨w.heap.size + 1, 0, none⟩) n n)
        have hbc := hbx.cell
        have hbl := hbx.lt
        have hk4 : Kept [] w2 (w2.alloc (.cells #[.slice (some ⟨w.heap.size + 1, 0, none⟩) n n] 23)) := (Kept.refl _ _).alloc _
        have HX2 := Lib.hid hlt2'
        have HGW := Lib.hid hgw
        have HS2 := Lib.hid (hs2'.stay hk4)
        have HK4 := Lib.hid (hk2.trans hk4 (by simp))
        have HBC := Lib.hid hbc
        have HBL := Lib.hid hbl
        clear hs2 hk2 hlt2 hk4 hbx hbc hbl ho h2 hs2' hlt2'
        go_wp2_with fail
        clear hgw
        generalize w2.alloc (.cells #[.slice (some ⟨w.heap.size + 1, 0, none⟩) n n] 23) = w4 at *
        generalize hgf : w.heap.size + 1 = gf at *
        have hz0 : Nt.nats (Nt.turnedL ns ks 0) = List.replicate n 0 := by rw [Nt.turnedL_zero, nats_zeros, ← HN.out]
        refine (foldedStepsB_any 58 #[.pointer (some ⟨w.heap.size, 0, none⟩), .pointer (some ⟨w2.heap.size, 0, none⟩)] (Nt.turns ns ks) n t ht60 hp h6 (fun t => by rw [Nt.turns_length]; exact HN.out.symm)
          (fun t wr => Kept [gf] w4 wr ∧ Sl wr gf (.slice (some ⟨gf, 0, none⟩) n n) (Nt.nats (Nt.turnedL ns ks t))) [gf] w4.heap.size enter_turned1 ?_ (fun _ _ _ _ h k => ⟨h.1.trans k (by simp), h.2.stay k⟩) ?_ w4 _ base' (Nat.le_refl _) (HT1.out.stay HK4.out) ⟨Kept.refl _ _, by rw [hz0]; exact HS2.out⟩).mono ?_
        · intro t' htt w5 v5 base5 hb5 hs5 hj _
          have hsz1 := HK4.out.size
          have hx2 := HX2.out
          have hgw := HGW.out
          have hbl := HBL.out
          have h := turned1_any ns (Nt.turns ns ks t') HOK.out (Nt.turns_st ns HST.out t') (by rw [Nt.turns_length]; exact HL.out) (Nt.turnedL ns ks t') n (by rw [Nt.turns_length]; exact HN.out.symm) (by rw [Nt.turnedL_length]; exact HN.out.symm)
            (fun k hk => turnedL_few ns ks t' (by omega) k (by rw [← HN.out]; exact hk)) w5 _ base v5 base5 w.heap.size w2.heap.size gf n gf
            ((hj.1.cell (p := ⟨w.heap.size, 0, none⟩) (by show w.heap.size < w4.heap.size; omega) (by simp; omega)).trans ((HK4.out.cell (p := ⟨w.heap.size, 0, none⟩) (by show w.heap.size < w1.heap.size; omega) (by simp)).trans HA.out))
            ((hj.1.cell (p := ⟨w2.heap.size, 0, none⟩) hbl (by simp; omega)).trans HBC.out) (Nat.lt_of_lt_of_le hbl hj.1.size)
            ((HS1.out.stay HK4.out).kept hj.1 (fun g hg hm => by have := (HS1.out.block hg).2; simp at hm; omega)) hs5 hj.2 (fun g hg => by have := (hs5.block hg).1; omega)
          refine Calls.mono (by simpa using h) ?_
          rintro e w6 ⟨z, rfl, hs6, hf6, hk6⟩
          rw [addD_turned HST.out t'] at hf6
          exact ⟨z, rfl, hs6, ⟨hj.1.trans hk6 (fun x hx => .inl hx), hf6⟩, hk6⟩
        · intro r hr
          have := HX2.out
          have := HBL.out
          simp at hr
          omega
        · rintro e w6 ⟨z, rfl, _, hj, _⟩
          have hx2 := HX2.out
          have hc6 := (hj.1.cell (p := ⟨w2.heap.size, 0, none⟩) HBL.out (by simp; omega)).trans HBC.out
          have HJ := Lib.hid hj
          clear hj hz0
          go_wp2_with fail
          go_ret
          exact ⟨_, rfl, by rw [HF.out]; exact HJ.out.2.mono (by omega), (HK1.out.trans HK4.out (by simp)).trans HJ.out.1 (fun x hx => by right; simp at hx; omega)⟩
end Go.Proofs.Ytjpnepjpkgffpaa
