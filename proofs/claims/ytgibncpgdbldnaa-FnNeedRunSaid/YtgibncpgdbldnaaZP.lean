/-
  Walks: needs, steps and runs with needs, sets that grow, least sparks, nodes asked one by one, by the program.
-/
import Derived.Test.YtgibncpgdbldnaaZM
import Derived.Test.YtgibncpgdbldnaaFA
import Derived.Test.YtgibncpgdbldnaaVN
import Derived.Test.YtgibncpgdbldnaaW15
import Derived.Test.YtgibncpgdbldnaaZA
namespace Go.Proofs.Ytgibncpgdbldnaa
open Go.RowKit

theorem boxes2 (w : World) (t1 t2 : TypeId) (v1 v2 : Value) :
    Kept [] w ((w.alloc (.cells #[v1] t1)).alloc (.cells #[v2] t2)) ∧
    ((w.alloc (.cells #[v1] t1)).alloc (.cells #[v2] t2)).cell? ⟨w.heap.size, 0, none⟩ = some v1 ∧
    ((w.alloc (.cells #[v1] t1)).alloc (.cells #[v2] t2)).cell? ⟨w.heap.size + 1, 0, none⟩ = some v2 ∧
    ((w.alloc (.cells #[v1] t1)).alloc (.cells #[v2] t2)).heap.size = w.heap.size + 2 := by
  refine ⟨((Kept.refl _ _).alloc _).alloc _, ((Boxed.new w t1 v1).alloc _).cell, ?_, by simp⟩
  have h := (Boxed.new (w.alloc (.cells #[v1] t1)) t2 v2).cell
  have e : (w.alloc (.cells #[v1] t1)).heap.size = w.heap.size + 1 := by simp
  rw [e] at h
  exact h
theorem boxes3 (w : World) (t1 t2 t3 : TypeId) (v1 v2 v3 : Value) :
    Kept [] w (((w.alloc (.cells #[v1] t1)).alloc (.cells #[v2] t2)).alloc (.cells #[v3] t3)) ∧
    (((w.alloc (.cells #[v1] t1)).alloc (.cells #[v2] t2)).alloc (.cells #[v3] t3)).cell? ⟨w.heap.size, 0, none⟩ = some v1 ∧
    (((w.alloc (.cells #[v1] t1)).alloc (.cells #[v2] t2)).alloc (.cells #[v3] t3)).cell? ⟨w.heap.size + 1, 0, none⟩ = some v2 ∧
    (((w.alloc (.cells #[v1] t1)).alloc (.cells #[v2] t2)).alloc (.cells #[v3] t3)).cell? ⟨w.heap.size + 1 + 1, 0, none⟩ = some v3 ∧
    (((w.alloc (.cells #[v1] t1)).alloc (.cells #[v2] t2)).alloc (.cells #[v3] t3)).heap.size = w.heap.size + 3 := by
  obtain ⟨k1, a1, b1, s1⟩ := boxes2 w t1 t2 v1 v2
  have h := (Boxed.new ((w.alloc (.cells #[v1] t1)).alloc (.cells #[v2] t2)) t3 v3).cell
  have hk : Kept [] ((w.alloc (.cells #[v1] t1)).alloc (.cells #[v2] t2)) (((w.alloc (.cells #[v1] t1)).alloc (.cells #[v2] t2)).alloc (.cells #[v3] t3)) := (Kept.refl _ _).alloc _
  rw [s1] at h
  exact ⟨k1.alloc _, (hk.cell (p := ⟨w.heap.size, 0, none⟩) (by show w.heap.size < ((w.alloc (.cells #[v1] t1)).alloc (.cells #[v2] t2)).heap.size; omega) (by simp)).trans a1, (hk.cell (p := ⟨w.heap.size + 1, 0, none⟩) (by show w.heap.size + 1 < ((w.alloc (.cells #[v1] t1)).alloc (.cells #[v2] t2)).heap.size; omega) (by simp)).trans b1, h, by simp⟩

set_option maxHeartbeats 1000000 in
set_option maxRecDepth 100000 in
theorem needsE_any (xs nds : List Int) (w : World) (v : Value) (base : Nat) (u : Value) (base' : Nat) (hs : Sl w base v xs) (ht : Sl w base' u nds) :
    Calls Try.prog 12 #[v, u] w fun e w' => e = .returned (.bool (Nt.ndB xs nds)) ∧ w = w' := by
  have HS := Lib.hid hs
  obtain ⟨a, cap, rfl, _, hm, _⟩ := hs.any
  obtain ⟨a', cap', rfl, _, hm', hc⟩ := ht.any
  have HC := Lib.hid hc
  clear hs ht hc
  cases h1 : Nt.okB xs
  · have HF := Lib.hid (Nt.ndB_no1 (ys := nds) h1)
    go_enter Try.func12, Try.ntmps12
    go_wp2_with (go_at_call 14; refine (iNetOk_any xs _ _ base HS.out).mono ?_; rintro e w' ⟨rfl, rfl⟩; rw [h1])
    go_ret
    exact ⟨by rw [HF.out]; rfl, rfl⟩
  · by_cases h2 : nds.length = xs.length
    · have d2 : ((nds.length : Int) != (xs.length : Int)) = false := by simp [h2]
      have H1 := Lib.hid h1
      have H2 := Lib.hid h2
      clear h2
      go_enter Try.func12, Try.ntmps12
      go_wp2_with (go_at_call 14; refine (iNetOk_any xs _ _ base HS.out).mono ?_; rintro e w' ⟨rfl, rfl⟩; rw [h1])
      clear h1
      go_loop [19] (fun i => ∃ k : Nat, k ≤ nds.length ∧ i = .int .i64 k ∧ Nt.ndTo nds k) (fun i => nds.length - (intOf i).toNat)
      case atStart => exact ⟨0, Nat.zero_le _, rfl, fun j hj => absurd hj (by omega)⟩
      case round =>
        obtain ⟨k, hk, rfl, hto⟩ := hrel
        have HT := Lib.hid hto
        clear hto
        by_cases hlt : k < nds.length
        · obtain ⟨g, rfl, _, _, hcell, _⟩ := HC.out k hlt
          generalize hb : nds.getD k 0 = b at *
          have HB := Lib.hid hb
          clear hb
          by_cases h3 : b < 1
          · have HNO := Lib.hid (Nt.ndB_no3 (xs := xs) hlt (by rw [HB.out]; omega))
            go_wp2
            go_ret
            exact ⟨by rw [HNO.out]; rfl, rfl⟩
          · by_cases h4 : 6 < b
            · have HNO := Lib.hid (Nt.ndB_no3 (xs := xs) hlt (by rw [HB.out]; omega))
              go_wp2
              go_ret
              exact ⟨by rw [HNO.out]; rfl, rfl⟩
            · have HT2 := Lib.hid (Nt.ndTo_succ HT.out (by rw [HB.out]; omega))
              go_wp2
              go_round
              case rel => exact ⟨k + 1, by omega, by go_num, HT2.out⟩
              case measure => simp [intOf]; omega
        · have hk' : k = nds.length := by omega
          subst hk'
          have HF : Hid (Nt.ndB xs nds = true) := Lib.hid (by rw [Nt.ndB_end HT.out, H1.out, decide_eq_true H2.out]; rfl)
          go_wp2
          go_ret
          exact ⟨by rw [HF.out]; rfl, rfl⟩
    · have d2 : ((nds.length : Int) != (xs.length : Int)) = true := bne_iff_ne.2 (by omega)
      have HF := Lib.hid (Nt.ndB_no2 h2)
      clear h2
      go_enter Try.func12, Try.ntmps12
      go_wp2_with (go_at_call 14; refine (iNetOk_any xs _ _ base HS.out).mono ?_; rintro e w' ⟨rfl, rfl⟩; rw [h1])
      go_ret
      exact ⟨by rw [HF.out]; rfl, rfl⟩

theorem iNeedsOk_any (xs nds : List Int) (w : World) (v : Value) (base : Nat) (u : Value) (base' : Nat) (hs : Sl w base v xs) (ht : Sl w base' u nds) :
    Calls Try.prog 12 #[v, u] w fun e w' => e = .returned (.bool (Nt.ndB xs nds)) ∧ Kept [] w w' :=
  (needsE_any xs nds w v base u base' hs ht).mono fun _ _ h => ⟨h.1, by rw [← h.2]; exact Kept.refl _ _⟩

set_option maxHeartbeats 1000000 in
set_option maxRecDepth 100000 in
theorem spreadingOk_any (xs nds : List Int) (set : Int) (w : World) (v : Value) (base : Nat) (u : Value) (base' : Nat) (hs : Sl w base v xs) (ht : Sl w base' u nds) :
    Calls Try.prog 53 #[v, u, .int .i64 set] w fun e w' => e = .returned (.bool (Nt.sprB xs nds set)) ∧ w = w' := by
  have HS := Lib.hid hs
  have HT := Lib.hid ht
  obtain ⟨a, cap, rfl, _, hm, _⟩ := hs.any
  obtain ⟨a', cap', rfl, _, hm', _⟩ := ht.any
  clear hs ht
  cases h1 : Nt.ndB xs nds
  · have HF := Lib.hid (Nt.sprB_no1 (set := set) h1)
    go_enter Try.func53, Try.ntmps53
    go_wp2_with (go_at_call 12; refine (needsE_any xs nds _ _ _ _ _ HS.out HT.out).mono ?_; rintro e w' ⟨rfl, rfl⟩; rw [h1])
    go_ret
    exact ⟨by rw [HF.out]; rfl, rfl⟩
  · obtain ⟨ns, nd, e1, e2, ok, hn⟩ := Nt.ndB_ok h1
    have h6 : xs.length ≤ 6 := by have := ok.few; rw [e1, Nt.nats_length]; omega
    have HF : Hid (Nt.sprB xs nds set = decide (0 ≤ set ∧ set < 2 ^ (xs.length : Int).toNat)) := Lib.hid (by unfold Nt.sprB; rw [h1, Int.toNat_natCast]; rfl)
    have HSO := Lib.hid (fun w => setOk_any (xs.length : Int) set w (by omega) (by omega))
    clear e1 e2 ok hn
    generalize decide (0 ≤ set ∧ set < 2 ^ (xs.length : Int).toNat) = d at *
    go_enter Try.func53, Try.ntmps53
    go_wp2_with (first | (go_at_call 12; refine (needsE_any xs nds _ _ _ _ _ HS.out HT.out).mono ?_; rintro e w' ⟨rfl, rfl⟩; rw [h1]) | (go_at_call 42; refine (HSO.out _).mono ?_; rintro e w' ⟨rfl, rfl⟩))
    go_ret
    exact ⟨by rw [HF.out]; rfl, rfl⟩

set_option maxHeartbeats 1000000 in
set_option maxRecDepth 100000 in
theorem needMet_any (ns nd : List Nat) (s k : Nat) (ok : Nt.Ok ns) (hnd : Nt.Nd ns nd) (hs2 : s < 2 ^ ns.length) (hk : k < ns.length) (w : World) (v : Value) (base : Nat) (u : Value) (base' : Nat) (hs : Sl w base v (Nt.nats ns)) (ht : Sl w base' u (Nt.nats nd)) :
    Calls Try.prog 78 #[v, u, .int .i64 (s : Int), .int .i64 (k : Int)] w fun e w' => e = .returned (.bool (Nt.enoughB ns nd s k)) ∧ Qt w w' := by
  obtain ⟨n, hn⟩ : ∃ n, n = ns.length := ⟨_, rfl⟩
  have hp := ok.some
  have h6 := ok.few
  have HV : Hid (Nt.enoughB ns nd s k = decide (nd.getD k 0 ≤ Nt.pop (ns.getD k 0 &&& s))) := Lib.hid (by
    rw [show Nt.pop (ns.getD k 0 &&& s) = Nt.popTo (ns.getD k 0 &&& s) ns.length from Nt.popTo_more (and_small hs2) 6 h6]
    rfl)
  have hand := bits_and_nat (ns.getD k 0) s (by have := ok.get_lt k; omega) (by have := Nt.pow_le h6; omega)
  have hlen := hnd.len
  have h64 : ns.getD k 0 &&& s < 64 := Nat.lt_of_lt_of_le (and_small hs2) (Nt.pow_le h6)
  rw [← hn] at hp h6 hk hlen
  obtain ⟨g, cap, rfl, hg, hc⟩ := hs.row hn.symm hp
  obtain ⟨g2, cap2, rfl, hg2, hd⟩ := ht.row hlen hp
  have ck := hc k hk
  have dk := hd k hk
  have HSZ := Lib.hid (fun w => sizeOf_any (ns.getD k 0 &&& s) h64 w)
  clear hs ht hc hd ok hnd hn hlen hs2
  generalize Nt.pop (ns.getD k 0 &&& s) = p at *
  generalize ns.getD k 0 &&& s = m at *
  generalize ns.getD k 0 = r at *
  generalize nd.getD k 0 = d at *
  go_enter Try.func78, Try.ntmps78
  go_wp2_with fail
  go_quiet ((go_at_call 58; exact quietL (HSZ.out _)))
  go_wp2
  go_ret
  exact ⟨by rw [HV.out]; rfl, (Qt.refl _).draw _⟩

set_option maxHeartbeats 2000000 in
set_option maxRecDepth 100000 in
theorem neededState_any (ns nd : List Nat) (c : Nat) (ks : List Nat) (ok : Nt.Ok ns) (hnd : Nt.Nd ns nd) (st : Nt.St c ks) (hl : ks.length = ns.length) (w : World) (v : Value) (base : Nat) (r : Value) (base2 : Nat) (u : Value) (base' : Nat)
    (hs : Sl w base v (Nt.nats ns)) (hr : Sl w base2 r (Nt.nats nd)) (ht : Sl w base' u (Nt.nats ks)) :
    Calls Try.prog 46 #[v, .int .i64 (c : Int), r, u] w fun e w' => ∃ z, e = .returned z ∧ Sl w' w.heap.size z (Nt.nats (Nt.needStep ns nd c ks)) ∧ Kept [] w w' := by
  have HS := Lib.hid hs
  have HR := Lib.hid hr
  have HT := Lib.hid ht
  have HOK := Lib.hid ok
  have HND := Lib.hid hnd
  have HST := Lib.hid st
  have HL := Lib.hid hl
  obtain ⟨n, hn⟩ : ∃ n, n = ks.length := ⟨_, rfl⟩
  have hp := st.some
  have h6 := st.few
  have HF := Lib.hid (fun k (hk : k < n) => Nt.needStep_from (nd := nd) st hl hnd.lo (k := k) (by omega))
  have HFS : Hid (Nt.fires ks < 2 ^ ns.length) := Lib.hid (by rw [← hl]; exact Nt.fires_ltQ ks)
  have HLN : Hid ((Nt.needStep ns nd c ks).length = (Nt.step ns c ks).length) := Lib.hid (by rw [Nt.needStep_length, Nt.step_length])
  have HSL : Hid ((Nt.step ns c ks).length = n) := Lib.hid (by rw [Nt.step_length, hn])
  have HNN : Hid (n = ns.length) := Lib.hid (by rw [hn, hl])
  have hlen2 := hnd.len
  rw [← hn] at hp h6
  obtain ⟨g1, cap1, rfl, hg1, _⟩ := hs.row (n := n) (by omega) hp
  obtain ⟨g2, cap2, rfl, hg2, _⟩ := hr.row (n := n) (by omega) hp
  obtain ⟨g, cap, rfl, hg, _⟩ := ht.row hn.symm hp
  clear hs hr ht ok hnd st hl hn hlen2
  go_enter Try.func46, Try.ntmps46
  go_wp2_with fail
  refine (firedState_any ns c ks HOK.out HST.out HL.out _ _ _ _ _ HS.out HT.out).mono ?_
  rintro e w1 ⟨z, rfl, hs1, hk1⟩
  obtain ⟨gz, capz, rfl, hgz1, hgz⟩ := hs1.shape (n := n) (by rw [Nt.nats_length, HSL.out]) hp
  have HZ1 : Hid (Sl w1 w.heap.size (.slice (some ⟨gz, 0, none⟩) n capz) (Nt.nats (Nt.mix (Nt.needStep ns nd c ks) (Nt.step ns c ks) 0))) := Lib.hid (by rw [Nt.mix_zero]; exact hs1)
  have HK1 := Lib.hid hk1
  have HT1 := Lib.hid (HT.out.stay hk1)
  clear hs1 hk1
  go_wp2_with fail
  refine (firingSet_any c ks HST.out _ _ _ HT1.out).mono ?_
  rintro e w' ⟨rfl, rfl⟩
  clear HT1
  generalize Nt.fires ks = s at *
  go_wp2_with fail
  go_loopw [21] (fun i wr => ∃ k : Nat, k ≤ n ∧ i = .int .i64 k ∧ Sl wr w.heap.size (.slice (some ⟨gz, 0, none⟩) n capz) (Nt.nats (Nt.mix (Nt.needStep ns nd c ks) (Nt.step ns c ks) k)) ∧ Kept [] w wr) (fun i _ => n - (intOf i).toNat)
  case atStart => exact ⟨0, Nat.zero_le _, rfl, HZ1.out, HK1.out⟩
  case round =>
    clear HZ1 HK1
    obtain ⟨k, hk, rfl, hsl, hkept⟩ := hrel
    have HSL2 := Lib.hid hsl
    have HK := Lib.hid hkept
    by_cases hlt : k < n
    · have HML : Hid ((Nt.nats (Nt.mix (Nt.needStep ns nd c ks) (Nt.step ns c ks) k)).length = n) := Lib.hid (by rw [Nt.nats_length, Nt.mix_length HLN.out, HSL.out])
      obtain ⟨hcell, hfr⟩ := hsl.at k (by rw [HML.out]; exact hlt)
      have hkl : k < (Nt.step ns c ks).length := by rw [HSL.out]; exact hlt
      rw [Nt.nats_get, Nt.mix_get HLN.out hkl] at hcell
      have HSET := Lib.hid (Nt.mix_set HLN.out hkl)
      have HKEEP := Lib.hid (Nt.mix_keep HLN.out hkl)
      have HG := Lib.hid (HF.out k hlt)
      have HKN : Hid (k < ns.length) := Lib.hid (by rw [← HNN.out]; exact hlt)
      have HSA := Lib.hid (HS.out.stay hkept)
      have HRA := Lib.hid (HR.out.stay hkept)
      clear hsl hkept hkl
      have HX : Hid (∀ w : World, True) := Lib.hid (fun _ => trivial)
      generalize (Nt.step ns c ks).getD k 0 = x at *
      generalize (Nt.needStep ns nd c ks).getD k 0 = y at *
      by_cases h1 : x = 1
      · subst h1
        have HM := Lib.hid (needMet_any ns nd s k HOK.out HND.out HFS.out HKN.out wr _ _ _ _ HSA.out HRA.out)
        cases he : Nt.enoughB ns nd s k
        · have HY : Hid (y = 0) := Lib.hid (by rw [HG.out, he]; simp)
          have HE := Lib.hid he
          clear HG HKEEP he
          go_wp2_with (go_at_call 78; refine HM.out.mono ?_; rintro e w2 ⟨rfl, hq⟩; rw [HE.out]; have hcell2 := (hq.cell _).trans hcell; have hfr2 := (hq.frozen _).trans hfr; have HQ := Lib.hid hq; clear hq)
          go_roundw
          case rel => exact ⟨k + 1, by omega, by go_num, by rw [← HSET.out, HY.out, Nt.nats_set]; exact (HQ.out.sl HSL2.out).set HML.out.symm k _, (HK.out.trans HQ.out.kept (by simp)).setCell (.inr hgz1) _⟩
          case measure => simp [intOf]; omega
        · have HY : Hid (y = 1) := Lib.hid (by rw [HG.out, he]; simp)
          have HE := Lib.hid he
          clear HG HSET he
          go_wp2_with (go_at_call 78; refine HM.out.mono ?_; rintro e w2 ⟨rfl, hq⟩; rw [HE.out]; have HQ := Lib.hid hq; clear hq)
          go_roundw
          case rel => exact ⟨k + 1, by omega, by go_num, by rw [← HKEEP.out HY.out]; exact HQ.out.sl HSL2.out, HK.out.trans HQ.out.kept (by simp)⟩
          case measure => simp [intOf]; omega
      · have HY : Hid (y = x) := Lib.hid (by rw [HG.out, if_neg (fun h => h1 h.1)])
        have hb : ((x : Int) == 1) = false := by simp; omega
        clear HG HSET h1
        go_wp2
        go_roundw
        case rel => exact ⟨k + 1, by omega, by go_num, by rw [← HKEEP.out HY.out]; exact HSL2.out, HK.out⟩
        case measure => simp [intOf]; omega
    · have hk' : k = n := by omega
      subst hk'
      clear hsl hkept
      go_wp2
      go_ret
      exact ⟨_, rfl, by have h := HSL2.out; rw [← HSL.out, Nt.mix_end HLN.out, HSL.out] at h; exact h, HK.out⟩

set_option maxHeartbeats 1000000 in
set_option maxRecDepth 100000 in
theorem iNeedStep_any (xs : List Int) (kinds : Int) (nds ys : List Int) (w : World) (v : Value) (base : Nat) (r : Value) (base2 : Nat) (u : Value) (base' : Nat) (hs : Sl w base v xs) (hr : Sl w base2 r nds) (ht : Sl w base' u ys) :
    Calls Try.prog 17 #[v, .int .i64 kinds, r, u] w fun e w' => ∃ z, e = .returned z ∧ Sl w' w.heap.size z (Nt.nstOf xs kinds nds ys) ∧ Kept [] w w' := by
  have HS := Lib.hid hs
  have HR := Lib.hid hr
  have HT := Lib.hid ht
  obtain ⟨a, cap, rfl, _, hm, _⟩ := hs.any
  obtain ⟨a', cap', rfl, _, hm', _⟩ := ht.any
  obtain ⟨a2, cap2, rfl, _, hm2, _⟩ := hr.any
  clear hs ht hr
  cases hd : Nt.ndB xs nds
  · have HF := Lib.hid (Nt.nstOf_no (Nt.nstB_no2 (kinds := kinds) (ys := ys) hd))
    go_enter Try.func17, Try.ntmps17
    go_wp2_with (go_at_call 12; refine (needsE_any xs nds _ _ _ _ _ HS.out HR.out).mono ?_; rintro e w' ⟨rfl, rfl⟩; rw [hd])
    go_ret
    exact ⟨_, rfl, by rw [HF.out]; exact Sl.nil _ _, Kept.refl _ _⟩
  · cases ho : Nt.fireB xs kinds ys
    · have HF := Lib.hid (Nt.nstOf_no (Nt.nstB_no1 (nds := nds) ho))
      go_enter Try.func17, Try.ntmps17
      go_wp2_with (first | (go_at_call 12; refine (needsE_any xs nds _ _ _ _ _ HS.out HR.out).mono ?_; rintro e w' ⟨rfl, rfl⟩; rw [hd]) | (go_at_call 45; refine (firingOk_any xs kinds ys _ _ _ _ _ HS.out HT.out).mono ?_; rintro e w' ⟨rfl, rfl⟩; rw [ho]))
      go_ret
      exact ⟨_, rfl, by rw [HF.out]; exact Sl.nil _ _, Kept.refl _ _⟩
    · obtain ⟨ns, c, nd, ks, rfl, rfl, rfl, rfl, ok, hnd, st, hl⟩ := Nt.nstB_ok (Nt.nstB_all ho hd)
      have HF := Lib.hid (Nt.nstOf_ok ok hnd st hl)
      have HN := Lib.hid (neededState_any ns nd c ks ok hnd st hl w _ _ _ _ _ _ HS.out HR.out HT.out)
      clear ok st hl hnd
      go_enter Try.func17, Try.ntmps17
      go_wp2_with (first | (go_at_call 12; refine (needsE_any _ _ _ _ _ _ _ HS.out HR.out).mono ?_; rintro e w' ⟨rfl, rfl⟩; rw [hd]) | (go_at_call 45; refine (firingOk_any _ _ _ _ _ _ _ _ HS.out HT.out).mono ?_; rintro e w' ⟨rfl, rfl⟩; rw [ho]))
      refine HN.out.mono ?_
      rintro e w1 ⟨z, rfl, hs1, hk1⟩
      have HS1 := Lib.hid hs1
      have HK1 := Lib.hid hk1
      clear hs1 hk1
      go_wp2_with fail
      go_ret
      exact ⟨_, rfl, by rw [HF.out]; exact HS1.out, HK1.out⟩

set_option maxHeartbeats 1000000 in
set_option maxRecDepth 100000 in
theorem metSet_any (ns nd : List Nat) (s : Nat) (ok : Nt.Ok ns) (hnd : Nt.Nd ns nd) (hs2 : s < 2 ^ ns.length) (w : World) (v : Value) (base : Nat) (u : Value) (base' : Nat) (hs : Sl w base v (Nt.nats ns)) (ht : Sl w base' u (Nt.nats nd)) :
    Calls Try.prog 83 #[v, u, .int .i64 (s : Int)] w fun e w' => e = .returned (.int .i64 ((Nt.metTo ns nd s ns.length : Nat) : Int)) ∧ Qt w w' := by
  have HS := Lib.hid hs
  have HT := Lib.hid ht
  have HOK := Lib.hid ok
  have HND := Lib.hid hnd
  have HS2 := Lib.hid hs2
  obtain ⟨n, hn⟩ : ∃ n, n = ns.length := ⟨_, rfl⟩
  have hp := ok.some
  have h6 := ok.few
  have HSU : Hid (∀ k, Nt.metTo ns nd s (k + 1) = if Nt.enoughB ns nd s k = true then Nt.metTo ns nd s k ||| 2 ^ k else Nt.metTo ns nd s k) := Lib.hid (fun _ => rfl)
  have HB : Hid (∀ k, k ≤ n → Nt.metTo ns nd s k < 64) := Lib.hid (fun k hk => Nat.lt_of_lt_of_le (Nt.metTo_lt ns nd s k) (Nt.pow_le (by omega)))
  have HNN := Lib.hid hn
  have hlen := hnd.len
  rw [← hn] at hp h6 hlen
  obtain ⟨g, cap, rfl, hg, _⟩ := hs.row hn.symm hp
  obtain ⟨g2, cap2, rfl, hg2, _⟩ := ht.row hlen hp
  clear hs ht ok hnd hs2 hlen hn
  rw [← HNN.out]
  go_enter Try.func83, Try.ntmps83
  go_wp2_with fail
  go_loopw [7, 11] (fun m i wr => ∃ k : Nat, k ≤ n ∧ i = .int .i64 k ∧ m = .int .i64 ((Nt.metTo ns nd s k : Nat) : Int) ∧ Qt w wr) (fun _ i _ => n - (intOf i).toNat)
  case atStart => exact ⟨0, Nat.zero_le _, rfl, rfl, Qt.refl _⟩
  case round =>
    obtain ⟨k, hk, rfl, rfl, hq⟩ := hrel
    have HQ := Lib.hid hq
    by_cases hlt : k < n
    · have HM := Lib.hid (needMet_any ns nd s k HOK.out HND.out HS2.out (by rw [← HNN.out]; exact hlt) wr _ _ _ _ (hq.sl HS.out) (hq.sl HT.out))
      have hb := HB.out k hk
      have HE := Lib.hid (or_shl (Nt.metTo ns nd s k) k hb (by omega))
      have HN := Lib.hid (HSU.out k)
      clear hq
      generalize Nt.metTo ns nd s k = m at *
      cases he : Nt.enoughB ns nd s k
      · have HY : Hid (Nt.metTo ns nd s (k + 1) = m) := Lib.hid (by rw [HN.out, he]; rfl)
        rw [he] at HM
        clear HN he
        go_wp2_with fail
        refine HM.out.mono ?_
        rintro e w2 ⟨rfl, hq2⟩
        have HQ2 := Lib.hid (HQ.out.trans hq2)
        clear hq2
        go_wp2_with fail
        go_roundw
        case rel => exact ⟨k + 1, by omega, by go_num, by rw [HY.out], HQ2.out⟩
        case measure => simp [intOf]; omega
      · have HY : Hid (Nt.metTo ns nd s (k + 1) = m ||| 2 ^ k) := Lib.hid (by rw [HN.out, he]; rfl)
        rw [he] at HM
        clear HN he
        go_wp2_with fail
        refine HM.out.mono ?_
        rintro e w2 ⟨rfl, hq2⟩
        have HQ2 := Lib.hid (HQ.out.trans hq2)
        clear hq2
        go_wp2_with fail
        go_roundw
        case rel => exact ⟨k + 1, by omega, by go_num, by rw [HY.out, ← HE.out], HQ2.out⟩
        case measure => simp [intOf]; omega
    · have hk' : k = n := by omega
      subst hk'
      clear hq
      go_wp2_with fail
      go_ret
      exact ⟨rfl, HQ.out⟩

set_option maxHeartbeats 1000000 in
set_option maxRecDepth 100000 in
/-- A set grows by any function until it stays. -/
theorem grownSet_any (F : Nat) (caps : Array Value) (q : Nat → Nat) (T : Nat) (hT : T ≤ 1000)
    (hent : ∀ (args : Array Value) (w : World), Sem.run Try.prog (callFunc F args) w = .ok (.enter F args) w)
    (w0 : World) (hP : ∀ t, t ≤ T → ∀ w, Kept [] w0 w → Calls Try.prog F (#[.int .i64 ((q t : Nat) : Int)] ++ caps) w fun e w' => e = .returned (.int .i64 ((q (t + 1) : Nat) : Int)) ∧ Kept [] w w')
    (hne : ∀ t, t < T → q (t + 1) ≠ q t) (heq : q (T + 1) = q T) :
    Calls Try.prog 63 #[.int .i64 ((q 0 : Nat) : Int), .func (.func F) #[] caps] w0 fun e w' => e = .returned (.tuple #[.int .i64 ((q T : Nat) : Int), .int .i64 (T : Int)]) ∧ Kept [] w0 w' := by
  have HENT := Lib.hid hent
  have HP := Lib.hid hP
  have HNE := Lib.hid hne
  have HEQ := Lib.hid heq
  clear hent hP hne heq
  go_enter Try.func63, Try.ntmps63
  go_wp2_with fail
  rw [HENT.out, Oper.upon_enter]
  refine (HP.out 0 (Nat.zero_le _) _ (Kept.refl _ _)).mono ?_
  rintro e w1 ⟨rfl, hk1⟩
  have HK1 := Lib.hid hk1
  clear hk1
  go_wp2_with fail
  go_loopw [0, 6, 7] (fun x n y wr => ∃ t : Nat, t ≤ T ∧ x = .int .i64 ((q t : Nat) : Int) ∧ n = .int .i64 t ∧ y = .int .i64 ((q (t + 1) : Nat) : Int) ∧ Kept [] w0 wr) (fun _ n _ _ => T - (intOf n).toNat)
  case atStart => exact ⟨0, Nat.zero_le _, rfl, rfl, rfl, HK1.out⟩
  case round =>
    clear HK1
    obtain ⟨t, ht, rfl, rfl, rfl, hk⟩ := hrel
    have HK := Lib.hid hk
    clear hk
    by_cases hlt : t < T
    · have hb : (((q (t + 1) : Nat) : Int) != ((q t : Nat) : Int)) = true := bne_iff_ne.2 (by have := HNE.out t hlt; omega)
      go_wp2_with fail
      rw [HENT.out, Oper.upon_enter]
      refine (HP.out (t + 1) (by omega) _ HK.out).mono ?_
      rintro e w2 ⟨rfl, hk2⟩
      have HK2 := Lib.hid (HK.out.trans hk2 (by simp))
      clear hk2
      go_wp2_with fail
      go_roundw
      case rel => exact ⟨t + 1, by omega, rfl, by go_num, rfl, HK2.out⟩
      case measure => simp [intOf]; omega
    · have ht' : t = T := by omega
      subst ht'
      have hb : (((q (t + 1) : Nat) : Int) != ((q t : Nat) : Int)) = false := by rw [HEQ.out]; simp
      go_wp2_with fail
      go_ret2
      exact ⟨rfl, HK.out⟩

set_option maxHeartbeats 1000000 in
set_option maxRecDepth 100000 in
theorem spread1_any (ns nd : List Nat) (s : Nat) (ok : Nt.Ok ns) (hnd : Nt.Nd ns nd) (hs2 : s < 2 ^ ns.length) (w : World) (v : Value) (base : Nat) (u : Value) (base' : Nat) (b1 b2 : Nat)
    (hA : w.cell? ⟨b1, 0, none⟩ = some v) (hB : w.cell? ⟨b2, 0, none⟩ = some u) (hs : Sl w base v (Nt.nats ns)) (ht : Sl w base' u (Nt.nats nd)) :
    Calls Try.prog 82 #[.int .i64 (s : Int), .pointer (some ⟨b1, 0, none⟩), .pointer (some ⟨b2, 0, none⟩)] w fun e w' => e = .returned (.int .i64 ((Nt.grow ns nd s : Nat) : Int)) ∧ Kept [] w w' := by
  have HM := Lib.hid (metSet_any ns nd s ok hnd hs2 w _ _ _ _ hs ht)
  obtain ⟨n, hn⟩ : ∃ n, n = ns.length := ⟨_, rfl⟩
  have hp : 0 < n := by have := ok.some; omega
  have h64 := Nt.pow_le ok.few
  have hml := Nt.metTo_lt ns nd s ns.length
  have hor := bits_or_nat s (Nt.metTo ns nd s ns.length) (by omega) (by omega)
  rw [show s ||| Nt.metTo ns nd s ns.length = Nt.grow ns nd s from Nt.metTo_grow ns nd s ns.length] at hor
  obtain ⟨g1, cap1, rfl, _, _⟩ := hs.row (n := n) (by omega) hp
  obtain ⟨g2, cap2, rfl, _, _⟩ := ht.row (n := n) (by rw [hnd.len]; omega) hp
  clear hs ht ok hnd hs2 hn hml h64
  generalize Nt.metTo ns nd s ns.length = m at *
  generalize Nt.grow ns nd s = y at *
  go_enter Try.func82, Try.ntmps82
  go_wp2_with fail
  refine HM.out.mono ?_
  rintro e w1 ⟨rfl, hq⟩
  have HQ := Lib.hid hq
  clear hq
  go_wp2_with fail
  go_ret
  exact ⟨by rw [← hor]; rfl, HQ.out.kept⟩

theorem enter_spread1 (args : Array Value) (w : World) : Sem.run Try.prog (callFunc 82 args) w = .ok (.enter 82 args) w := by kernel_rfl

set_option maxHeartbeats 1000000 in
set_option maxRecDepth 100000 in
theorem spread_any (ns nd : List Nat) (s : Nat) (ok : Nt.Ok ns) (hnd : Nt.Nd ns nd) (hs2 : s < 2 ^ ns.length) (w : World) (v : Value) (base : Nat) (u : Value) (base' : Nat) (hs : Sl w base v (Nt.nats ns)) (ht : Sl w base' u (Nt.nats nd)) :
    Calls Try.prog 54 #[v, u, .int .i64 (s : Int)] w fun e w' => e = .returned (.tuple #[.int .i64 ((Nt.spread ns nd s : Nat) : Int), .int .i64 ((Nt.spN ns nd s : Nat) : Int)]) ∧ Kept [] w w' := by
  have hmf : ∀ (fn : Fn) (first cap : Array Value) (w : World), (Instr.makeFunc fn first cap).run Try.prog w = .ok (.func fn first cap) w := fun _ _ _ _ => rfl
  obtain ⟨hk1, ha, hb, hsz⟩ := boxes2 w 23 23 v u
  have HK1 := Lib.hid hk1
  have HA := Lib.hid ha
  have HB := Lib.hid hb
  have HSZ := Lib.hid hsz
  have HS1 := Lib.hid (hs.stay hk1)
  have HT1 := Lib.hid (ht.stay hk1)
  have HOK := Lib.hid ok
  have HND := Lib.hid hnd
  have HLA := Lib.hid (fun t => Nt.litAt_lt (nd := nd) hs2 t)
  have hends := Nt.spN_ends (nd := nd) hs2
  have hT : Nt.spN ns nd s ≤ 1000 := by have := Nt.spN_le (nd := nd) hs2; have := ok.few; omega
  have HEND := Lib.hid hends
  have HAL := Lib.hid (hends.all hs2)
  obtain ⟨n, hn⟩ : ∃ n, n = ns.length := ⟨_, rfl⟩
  have hp : 0 < n := by have := ok.some; omega
  obtain ⟨g1, cap1, rfl, _, _⟩ := hs.row (n := n) (by omega) hp
  obtain ⟨g2, cap2, rfl, _, _⟩ := ht.row (n := n) (by rw [hnd.len]; omega) hp
  clear hs ht hk1 ha hb hsz ok hnd hs2 hends hn
  generalize hw1 : (w.alloc (.cells #[Value.slice (some ⟨g1, 0, none⟩) n cap1] 23)).alloc (.cells #[Value.slice (some ⟨g2, 0, none⟩) n cap2] 23) = w1 at *
  go_enter Try.func54, Try.ntmps54
  go_wp2_with fail
  refine (grownSet_any 82 #[.pointer (some ⟨w.heap.size, 0, none⟩), .pointer (some ⟨w.heap.size + 1, 0, none⟩)] (Nt.litAt ns nd s) (Nt.spN ns nd s) hT enter_spread1 w1 ?_ HEND.out.least HEND.out.fix).mono ?_
  · intro t _ w2 hj
    have hz := HSZ.out
    have h := spread1_any ns nd (Nt.litAt ns nd s t) HOK.out HND.out (HLA.out t) w2 _ base _ base' w.heap.size (w.heap.size + 1)
      ((hj.cell (p := ⟨w.heap.size, 0, none⟩) (by show w.heap.size < w1.heap.size; omega) (by simp)).trans HA.out) ((hj.cell (p := ⟨w.heap.size + 1, 0, none⟩) (by show w.heap.size + 1 < w1.heap.size; omega) (by simp)).trans HB.out) (HS1.out.stay hj) (HT1.out.stay hj)
    rw [show Nt.grow ns nd (Nt.litAt ns nd s t) = Nt.litAt ns nd s (t + 1) from rfl] at h
    exact Calls.mono (by simpa using h) (fun _ _ h => h)
  · rintro e w2 ⟨rfl, hk2⟩
    have HK2 := Lib.hid (HK1.out.trans hk2 (by simp))
    clear hk2
    rw [HAL.out]
    go_wp2_with fail
    go_ret2
    exact ⟨rfl, HK2.out⟩

set_option maxHeartbeats 1000000 in
set_option maxRecDepth 100000 in
theorem iSpread_any (xs nds : List Int) (set : Int) (w : World) (v : Value) (base : Nat) (u : Value) (base' : Nat) (hs : Sl w base v xs) (ht : Sl w base' u nds) :
    Calls Try.prog 23 #[v, u, .int .i64 set] w fun e w' => e = .returned (.tuple #[.int .i64 (Nt.sprOf xs nds set), .int .i64 (Nt.sprN xs nds set)]) ∧ Kept [] w w' := by
  have HS := Lib.hid hs
  have HT := Lib.hid ht
  obtain ⟨a, cap, rfl, _, hm, _⟩ := hs.any
  obtain ⟨a', cap', rfl, _, hm', _⟩ := ht.any
  clear hs ht
  cases h1 : Nt.sprB xs nds set
  · have HF := Lib.hid (Nt.sprOf_no h1)
    have HG := Lib.hid (Nt.sprN_no h1)
    go_enter Try.func23, Try.ntmps23
    go_wp2_with (go_at_call 53; refine (spreadingOk_any xs nds set _ _ _ _ _ HS.out HT.out).mono ?_; rintro e w' ⟨rfl, rfl⟩; rw [h1])
    go_ret2
    exact ⟨by rw [HF.out, HG.out]; rfl, Kept.refl _ _⟩
  · obtain ⟨ns, nd, s, rfl, rfl, rfl, ok, hn, hs2⟩ := Nt.sprB_ok h1
    have HF := Lib.hid (Nt.sprOf_ok ok hn hs2)
    have HG := Lib.hid (Nt.sprN_ok ok hn hs2)
    have HP := Lib.hid (spread_any ns nd s ok hn hs2 w _ _ _ _ HS.out HT.out)
    clear ok hn hs2
    go_enter Try.func23, Try.ntmps23
    go_wp2_with (go_at_call 53; refine (spreadingOk_any _ _ _ _ _ _ _ _ HS.out HT.out).mono ?_; rintro e w' ⟨rfl, rfl⟩; rw [h1])
    refine HP.out.mono ?_
    rintro e w1 ⟨rfl, hk1⟩
    have HK1 := Lib.hid hk1
    clear hk1
    go_wp2_with fail
    go_ret2
    exact ⟨by rw [HF.out, HG.out]; rfl, HK1.out⟩

theorem full_pop {ns nd : List Nat} {s : Nat} (ok : Nt.Ok ns) (hs2 : s < 2 ^ ns.length) : (((Nt.pop (Nt.spread ns nd s) : Nat) : Int) == ((ns.length : Nat) : Int)) = decide (Nt.spread ns nd s = Nt.full ns) := by
  have h1 := Nt.spread_lt (nd := nd) hs2
  rw [show Nt.pop (Nt.spread ns nd s) = Nt.popTo (Nt.spread ns nd s) ns.length from Nt.popTo_more h1 6 ok.few, Bool.eq_iff_iff, beq_iff_eq, decide_eq_true_iff]
  constructor
  · intro h
    exact (Nt.full_iff h1).2 (Nt.pop_all_bits (by omega))
  · intro h
    rw [h, show Nt.popTo (Nt.full ns) ns.length = ns.length from Nt.popTo_all _]

set_option maxHeartbeats 1000000 in
set_option maxRecDepth 100000 in
theorem spark1_any (ns nd : List Nat) (s : Nat) (ok : Nt.Ok ns) (hnd : Nt.Nd ns nd) (hs2 : s < 2 ^ ns.length) (w : World) (v : Value) (base : Nat) (u : Value) (base' : Nat) (b1 b2 : Nat)
    (hA : w.cell? ⟨b1, 0, none⟩ = some v) (hB : w.cell? ⟨b2, 0, none⟩ = some u) (hs : Sl w base v (Nt.nats ns)) (ht : Sl w base' u (Nt.nats nd)) :
    Calls Try.prog 57 #[.int .i64 (s : Int), .pointer (some ⟨b1, 0, none⟩), .pointer (some ⟨b2, 0, none⟩)] w fun e w' => e = .returned (.bool (decide (Nt.spread ns nd s = Nt.full ns))) ∧ Kept [] w w' := by
  have HM := Lib.hid (spread_any ns nd s ok hnd hs2 w _ _ _ _ hs ht)
  have HL1 := Lib.hid (World.block_lt_of_cell? w _ hA)
  have HV := full_pop (nd := nd) ok hs2
  obtain ⟨n, hn⟩ : ∃ n, n = ns.length := ⟨_, rfl⟩
  have hp : 0 < n := by have := ok.some; omega
  have h64 : Nt.spread ns nd s < 64 := Nat.lt_of_lt_of_le (Nt.spread_lt hs2) (Nt.pow_le ok.few)
  have HSZ := Lib.hid (fun w => sizeOf_any (Nt.spread ns nd s) h64 w)
  rw [← hn] at HV
  obtain ⟨g1, cap1, rfl, _, _⟩ := hs.row (n := n) (by omega) hp
  obtain ⟨g2, cap2, rfl, _, _⟩ := ht.row (n := n) (by rw [hnd.len]; omega) hp
  have HA := Lib.hid hA
  clear hs ht ok hnd hs2 hn h64
  generalize Nt.pop (Nt.spread ns nd s) = y at *
  generalize hz : decide (Nt.spread ns nd s = Nt.full ns) = z at *
  clear hz
  generalize Nt.spread ns nd s = m at *
  generalize Nt.spN ns nd s = t at *
  go_enter Try.func57, Try.ntmps57
  go_wp2_with fail
  refine HM.out.mono ?_
  rintro e w1 ⟨rfl, hk⟩
  have hA1 := (hk.cell (p := ⟨b1, 0, none⟩) HL1.out (by simp)).trans HA.out
  have HK := Lib.hid hk
  clear hk hA hB
  go_wp2_with fail
  go_quiet ((go_at_call 58; exact quietL (HSZ.out _)))
  go_wp2
  go_ret
  exact ⟨rfl, HK.out.trans (Qt.kept ⟨_, rfl⟩) (by simp)⟩

theorem enter_spark1 (args : Array Value) (w : World) : Sem.run Try.prog (callFunc 57 args) w = .ok (.enter 57 args) w := by kernel_rfl

set_option maxHeartbeats 1000000 in
set_option maxRecDepth 100000 in
theorem iSpark_any (xs nds : List Int) (w : World) (v : Value) (base : Nat) (u : Value) (base' : Nat) (hs : Sl w base v xs) (ht : Sl w base' u nds) :
    Calls Try.prog 26 #[v, u] w fun e w' => e = .returned (.int .i64 (Nt.sparkOf xs nds)) ∧ Kept [] w w' := by
  have hmf : ∀ (fn : Fn) (first cap : Array Value) (w : World), (Instr.makeFunc fn first cap).run Try.prog w = .ok (.func fn first cap) w := fun _ _ _ _ => rfl
  obtain ⟨hk1, ha, hb, hsz⟩ := boxes2 w 23 23 v u
  have HK1 := Lib.hid hk1
  have HA := Lib.hid ha
  have HB := Lib.hid hb
  have HSZ := Lib.hid hsz
  have HS1 := Lib.hid (hs.stay hk1)
  have HT1 := Lib.hid (ht.stay hk1)
  obtain ⟨a, cap, rfl, _, hm, _⟩ := hs.any
  obtain ⟨a', cap', rfl, _, hm', _⟩ := ht.any
  clear hs ht hk1 ha hb hsz
  cases h1 : Nt.ndB xs nds
  · have HF := Lib.hid (Nt.sparkOf_no h1)
    go_enter Try.func26, Try.ntmps26
    go_wp2_with (go_at_call 12; refine (needsE_any xs nds _ _ _ _ _ HS1.out HT1.out).mono ?_; rintro e w' ⟨rfl, rfl⟩; rw [h1])
    go_ret
    exact ⟨by rw [HF.out]; rfl, HK1.out⟩
  · obtain ⟨ns, nd, rfl, rfl, ok, hn⟩ := Nt.ndB_ok h1
    have hsp := Nt.spark_of ns nd
    have HF := Lib.hid (Nt.sparkOf_ok ok hn)
    generalize Nt.sparkTo ns nd (2 ^ ns.length) = r at *
    have HSP := Lib.hid hsp
    have HOK := Lib.hid ok
    have HND := Lib.hid hn
    have hp := ok.some
    have h6 := ok.few
    have HNL := Lib.hid (Nt.nats_length ns)
    clear ok hn hsp
    go_enter Try.func26, Try.ntmps26
    go_wp2_with (go_at_call 12; refine (needsE_any _ _ _ _ _ _ _ HS1.out HT1.out).mono ?_; rintro e w' ⟨rfl, rfl⟩; rw [h1])
    generalize hw1 : (w.alloc (.cells #[Value.slice a (Nt.nats ns).length cap] 23)).alloc (.cells #[Value.slice a' (Nt.nats nd).length cap'] 23) = w1 at *
    rw [HNL.out] at *
    refine (smallestSet_any 57 #[.pointer (some ⟨w.heap.size, 0, none⟩), .pointer (some ⟨w.heap.size + 1, 0, none⟩)] (fun s => decide (Nt.spread ns nd s = Nt.full ns)) ns.length r (Nt.popTo r ns.length) hp h6 enter_spark1 w1 ?_ HSP.out.lt (decide_eq_true HSP.out.all) rfl (Nt.popTo_le r ns.length)
      (fun u hu hP => HSP.out.few u hu (of_decide_eq_true hP)) (fun u hu hP => by have := HSP.out.first u hu (of_decide_eq_true hP.1); omega)).mono ?_
    · intro s hs2 w2 hj
      have hz := HSZ.out
      have h := spark1_any ns nd s HOK.out HND.out hs2 w2 _ base _ base' w.heap.size (w.heap.size + 1)
        ((hj.cell (p := ⟨w.heap.size, 0, none⟩) (by show w.heap.size < w1.heap.size; omega) (by simp)).trans HA.out) ((hj.cell (p := ⟨w.heap.size + 1, 0, none⟩) (by show w.heap.size + 1 < w1.heap.size; omega) (by simp)).trans HB.out) (HS1.out.stay hj) (HT1.out.stay hj)
      exact Calls.mono (by simpa using h) (fun _ _ h => h)
    · rintro e w2 ⟨rfl, hk2⟩
      have HK2 := Lib.hid (HK1.out.trans hk2 (by simp))
      clear hk2
      go_wp2_with fail
      go_ret
      exact ⟨by rw [HF.out]; rfl, HK2.out⟩

set_option maxHeartbeats 1000000 in
set_option maxRecDepth 100000 in
theorem asked_any (ns nd : List Nat) (s : Nat) (os : List Nat) (ok : Nt.Ok ns) (hnd : Nt.Nd ns nd) (ho : Nt.Ord ns.length os) (hs2 : s < 2 ^ ns.length) (w : World) (v : Value) (base : Nat) (u : Value) (base' : Nat) (r : Value) (base2 : Nat)
    (hs : Sl w base v (Nt.nats ns)) (ht : Sl w base' u (Nt.nats nd)) (hr : Sl w base2 r (Nt.nats os)) :
    Calls Try.prog 65 #[v, u, .int .i64 (s : Int), r] w fun e w' => e = .returned (.int .i64 ((Nt.askTo ns nd os s ns.length : Nat) : Int)) ∧ Qt w w' := by
  have HS := Lib.hid hs
  have HT := Lib.hid ht
  have HOK := Lib.hid ok
  have HND := Lib.hid hnd
  obtain ⟨n, hn⟩ : ∃ n, n = ns.length := ⟨_, rfl⟩
  have hp := ok.some
  have h6 := ok.few
  have HSU : Hid (∀ k, Nt.askTo ns nd os s (k + 1) = if Nt.enoughB ns nd (Nt.askTo ns nd os s k) (os.getD k 0) = true then Nt.askTo ns nd os s k ||| 2 ^ (os.getD k 0) else Nt.askTo ns nd os s k) := Lib.hid (fun _ => rfl)
  have HB := Lib.hid (fun k (hk : k ≤ n) => askTo_lt (nd := nd) ho hs2 k (by omega))
  have HOL := Lib.hid (fun k (hk : k < n) => ho.lt k (by omega))
  have HNN := Lib.hid hn
  have H64 := Lib.hid (Nt.pow_le h6)
  have hlen := hnd.len
  have holen := ho.len
  rw [← hn] at hp h6 hlen holen
  obtain ⟨g, cap, rfl, hg, _⟩ := hs.row hn.symm hp
  obtain ⟨g2, cap2, rfl, hg2, _⟩ := ht.row hlen hp
  obtain ⟨g3, cap3, rfl, hg3, hc3⟩ := hr.row holen hp
  have HC3 := Lib.hid hc3
  clear hs ht hr ok hnd ho hs2 hlen holen hn hc3
  rw [← HNN.out]
  go_enter Try.func65, Try.ntmps65
  go_wp2_with fail
  go_loopw [2, 13] (fun m i wr => ∃ k : Nat, k ≤ n ∧ i = .int .i64 k ∧ m = .int .i64 ((Nt.askTo ns nd os s k : Nat) : Int) ∧ Qt w wr) (fun _ i _ => n - (intOf i).toNat)
  case atStart => exact ⟨0, Nat.zero_le _, rfl, rfl, Qt.refl _⟩
  case round =>
    obtain ⟨k, hk, rfl, rfl, hq⟩ := hrel
    have HQ := Lib.hid hq
    by_cases hlt : k < n
    · have hol := HOL.out k hlt
      have c3 := (hq.cell _).trans (HC3.out k hlt)
      have hb := HB.out k hk
      have HM := Lib.hid (needMet_any ns nd (Nt.askTo ns nd os s k) (os.getD k 0) HOK.out HND.out hb hol wr _ _ _ _ (hq.sl HS.out) (hq.sl HT.out))
      rw [← HNN.out] at hol
      have hb64 : Nt.askTo ns nd os s k < 64 := Nat.lt_of_lt_of_le hb H64.out
      have HE := Lib.hid (or_shl (Nt.askTo ns nd os s k) (os.getD k 0) hb64 (by omega))
      have HN := Lib.hid (HSU.out k)
      clear hq hb
      generalize Nt.askTo ns nd os s k = m at *
      generalize os.getD k 0 = q at *
      cases he : Nt.enoughB ns nd m q
      · have HY : Hid (Nt.askTo ns nd os s (k + 1) = m) := Lib.hid (by rw [HN.out, he]; rfl)
        rw [he] at HM
        clear HN he
        go_wp2_with fail
        refine HM.out.mono ?_
        rintro e w2 ⟨rfl, hq2⟩
        have HQ2 := Lib.hid (HQ.out.trans hq2)
        clear hq2
        go_wp2_with fail
        go_roundw
        case rel => exact ⟨k + 1, by omega, by go_num, by rw [HY.out], HQ2.out⟩
        case measure => simp [intOf]; omega
      · have HY : Hid (Nt.askTo ns nd os s (k + 1) = m ||| 2 ^ q) := Lib.hid (by rw [HN.out, he]; rfl)
        rw [he] at HM
        clear HN he
        go_wp2_with fail
        refine HM.out.mono ?_
        rintro e w2 ⟨rfl, hq2⟩
        have HQ2 := Lib.hid (HQ.out.trans hq2)
        clear hq2
        go_wp2_with fail
        go_roundw
        case rel => exact ⟨k + 1, by omega, by go_num, by rw [HY.out, ← HE.out], HQ2.out⟩
        case measure => simp [intOf]; omega
    · have hk' : k = n := by omega
      subst hk'
      clear hq
      go_wp2_with fail
      go_ret
      exact ⟨rfl, HQ.out⟩

set_option maxHeartbeats 1000000 in
set_option maxRecDepth 100000 in
theorem oneby1_any (ns nd : List Nat) (s : Nat) (os : List Nat) (ok : Nt.Ok ns) (hnd : Nt.Nd ns nd) (ho : Nt.Ord ns.length os) (hs2 : s < 2 ^ ns.length) (w : World) (v : Value) (base : Nat) (u : Value) (base' : Nat) (r : Value) (base2 : Nat) (b1 b2 b3 : Nat)
    (hA : w.cell? ⟨b1, 0, none⟩ = some v) (hB : w.cell? ⟨b2, 0, none⟩ = some u) (hC : w.cell? ⟨b3, 0, none⟩ = some r) (hs : Sl w base v (Nt.nats ns)) (ht : Sl w base' u (Nt.nats nd)) (hr : Sl w base2 r (Nt.nats os)) :
    Calls Try.prog 64 #[.int .i64 (s : Int), .pointer (some ⟨b1, 0, none⟩), .pointer (some ⟨b2, 0, none⟩), .pointer (some ⟨b3, 0, none⟩)] w fun e w' => e = .returned (.int .i64 ((Nt.askTo ns nd os s ns.length : Nat) : Int)) ∧ Kept [] w w' := by
  have HM := Lib.hid (asked_any ns nd s os ok hnd ho hs2 w _ _ _ _ _ _ hs ht hr)
  obtain ⟨n, hn⟩ : ∃ n, n = ns.length := ⟨_, rfl⟩
  have hp : 0 < n := by have := ok.some; omega
  obtain ⟨g1, cap1, rfl, _, _⟩ := hs.row (n := n) (by omega) hp
  obtain ⟨g2, cap2, rfl, _, _⟩ := ht.row (n := n) (by rw [hnd.len]; omega) hp
  obtain ⟨g3, cap3, rfl, _, _⟩ := hr.row (n := n) (by rw [ho.len]; omega) hp
  clear hs ht hr ok hnd ho hs2 hn
  generalize Nt.askTo ns nd os s ns.length = m at *
  go_enter Try.func64, Try.ntmps64
  go_wp2_with fail
  refine HM.out.mono ?_
  rintro e w1 ⟨rfl, hq⟩
  have HQ := Lib.hid hq
  clear hq
  go_wp2_with fail
  go_ret
  exact ⟨rfl, HQ.out.kept⟩

theorem enter_oneby1 (args : Array Value) (w : World) : Sem.run Try.prog (callFunc 64 args) w = .ok (.enter 64 args) w := by kernel_rfl

set_option maxHeartbeats 2000000 in
set_option maxRecDepth 100000 in
theorem iOneByOne_any (xs nds : List Int) (set : Int) (os : List Int) (w : World) (v : Value) (base : Nat) (u : Value) (base' : Nat) (r : Value) (base2 : Nat) (hs : Sl w base v xs) (ht : Sl w base' u nds) (hr : Sl w base2 r os) :
    Calls Try.prog 30 #[v, u, .int .i64 set, r] w fun e w' => e = .returned (.int .i64 (Nt.onebOf xs nds set os)) ∧ Kept [] w w' := by
  have hmf : ∀ (fn : Fn) (first cap : Array Value) (w : World), (Instr.makeFunc fn first cap).run Try.prog w = .ok (.func fn first cap) w := fun _ _ _ _ => rfl
  obtain ⟨hk1, ha, hb, hc, hsz⟩ := boxes3 w 23 23 23 v u r
  have HK1 := Lib.hid hk1
  have HA := Lib.hid ha
  have HB := Lib.hid hb
  have HC := Lib.hid hc
  have HSZ := Lib.hid hsz
  have HS1 := Lib.hid (hs.stay hk1)
  have HT1 := Lib.hid (ht.stay hk1)
  have HR1 := Lib.hid (hr.stay hk1)
  obtain ⟨a, cap, rfl, _, hm, _⟩ := hs.any
  obtain ⟨a', cap', rfl, _, hm', _⟩ := ht.any
  obtain ⟨a2, cap2, rfl, _, hm2, _⟩ := hr.any
  clear hs ht hr hk1 ha hb hc hsz
  cases h1 : Nt.sprB xs nds set
  · have HF := Lib.hid (Nt.onebOf_no1 (os := os) h1)
    go_enter Try.func30, Try.ntmps30
    go_wp2_with (go_at_call 53; refine (spreadingOk_any xs nds set _ _ _ _ _ HS1.out HT1.out).mono ?_; rintro e w' ⟨rfl, rfl⟩; rw [h1])
    go_ret
    exact ⟨by rw [HF.out]; rfl, HK1.out⟩
  · have HF0 := Lib.hid (fun h2 => Nt.onebOf_yes (os := os) h1 h2)
    have HF1 := Lib.hid (fun h2 => Nt.onebOf_no2 (xs := xs) (nds := nds) (set := set) (os := os) h2)
    obtain ⟨ns, nd, s, rfl, rfl, rfl, ok, hn, hs2⟩ := Nt.sprB_ok h1
    have h6 := ok.few
    have HNL := Lib.hid (Nt.nats_length ns)
    have HOR : Hid (∀ w v base, Sl w base v os → Calls Try.prog 62 #[.int .i64 (((Nt.nats ns).length : Nat) : Int), v] w fun e w' => e = .returned (.bool (Nt.ordB (Nt.nats ns).length os)) ∧ w = w') := Lib.hid (fun w v base h => orderOk_any _ (by rw [HNL.out]; exact h6) os w v base h)
    cases h2 : Nt.ordB (Nt.nats ns).length os
    · have HF := Lib.hid (HF1.out h2)
      rw [h2] at HOR
      clear HF0 HF1 ok hn hs2 h2 h6
      go_enter Try.func30, Try.ntmps30
      go_wp2_with (first | (go_at_call 53; refine (spreadingOk_any _ _ _ _ _ _ _ _ HS1.out HT1.out).mono ?_; rintro e w' ⟨rfl, rfl⟩; rw [h1]) | (go_at_call 62; refine (HOR.out _ _ _ HR1.out).mono ?_; rintro e w' ⟨rfl, rfl⟩))
      go_ret
      exact ⟨by rw [HF.out]; rfl, HK1.out⟩
    · have HV0 := Lib.hid (HF0.out h2)
      have HV1 := Lib.hid (Nt.sprOf_ok ok hn hs2)
      rw [h2] at HOR
      rw [HNL.out] at h2
      obtain ⟨ol, rfl, hord⟩ := Nt.ordB_ord h2
      obtain ⟨T, hTn, hne, heq⟩ := Nt.asks_end (nd := nd) hord hs2
      have HT := Lib.hid (show Nt.asks ns nd ol s T = Nt.spread ns nd s from Nt.asks_spread hord hs2 heq)
      have HAL := Lib.hid (fun t => asks_lt (nd := nd) hord hs2 t)
      have HNE := Lib.hid hne
      have HEQ := Lib.hid heq
      have HOK := Lib.hid ok
      have HND := Lib.hid hn
      have HORD := Lib.hid hord
      have hT : T ≤ 1000 := by omega
      clear HF0 HF1 ok hn hs2 h2 hord hne heq hTn
      go_enter Try.func30, Try.ntmps30
      go_wp2_with (first | (go_at_call 53; refine (spreadingOk_any _ _ _ _ _ _ _ _ HS1.out HT1.out).mono ?_; rintro e w' ⟨rfl, rfl⟩; rw [h1]) | (go_at_call 62; refine (HOR.out _ _ _ HR1.out).mono ?_; rintro e w' ⟨rfl, rfl⟩))
      generalize hw1 : ((w.alloc (.cells #[Value.slice a (Nt.nats ns).length cap] 23)).alloc (.cells #[Value.slice a' (Nt.nats nd).length cap'] 23)).alloc (.cells #[Value.slice a2 (Nt.nats ol).length cap2] 23) = w1 at *
      refine (grownSet_any 64 #[.pointer (some ⟨w.heap.size, 0, none⟩), .pointer (some ⟨w.heap.size + 1, 0, none⟩), .pointer (some ⟨w.heap.size + 1 + 1, 0, none⟩)] (Nt.asks ns nd ol s) T hT enter_oneby1 w1 ?_ HNE.out HEQ.out).mono ?_
      · intro t _ w2 hj
        have hz := HSZ.out
        have h := oneby1_any ns nd (Nt.asks ns nd ol s t) ol HOK.out HND.out HORD.out (HAL.out t) w2 _ base _ base' _ base2 w.heap.size (w.heap.size + 1) (w.heap.size + 1 + 1)
          ((hj.cell (p := ⟨w.heap.size, 0, none⟩) (by show w.heap.size < w1.heap.size; omega) (by simp)).trans HA.out) ((hj.cell (p := ⟨w.heap.size + 1, 0, none⟩) (by show w.heap.size + 1 < w1.heap.size; omega) (by simp)).trans HB.out) ((hj.cell (p := ⟨w.heap.size + 1 + 1, 0, none⟩) (by show w.heap.size + 1 + 1 < w1.heap.size; omega) (by simp)).trans HC.out) (HS1.out.stay hj) (HT1.out.stay hj) (HR1.out.stay hj)
        rw [show Nt.askTo ns nd ol (Nt.asks ns nd ol s t) ns.length = Nt.asks ns nd ol s (t + 1) from rfl] at h
        exact Calls.mono (by simpa using h) (fun _ _ h => h)
      · rintro e w2 ⟨rfl, hk2⟩
        have HK2 := Lib.hid (HK1.out.trans hk2 (by simp))
        clear hk2
        rw [HT.out]
        generalize Nt.spread ns nd s = y at *
        go_wp2_with fail
        go_ret
        exact ⟨by rw [HV0.out, HV1.out]; rfl, HK2.out⟩

set_option maxHeartbeats 1000000 in
set_option maxRecDepth 100000 in
theorem needRun1_any (ns nd : List Nat) (c : Nat) (ks : List Nat) (ok : Nt.Ok ns) (hnd : Nt.Nd ns nd) (st : Nt.St c ks) (hl : ks.length = ns.length) (w : World) (v : Value) (base : Nat) (r : Value) (base2 : Nat) (u : Value) (base' : Nat) (b1 b2 b3 : Nat)
    (hA : w.cell? ⟨b1, 0, none⟩ = some v) (hB : w.cell? ⟨b2, 0, none⟩ = some (.int .i64 (c : Int))) (hC : w.cell? ⟨b3, 0, none⟩ = some r) (hs : Sl w base v (Nt.nats ns)) (hr : Sl w base2 r (Nt.nats nd)) (ht : Sl w base' u (Nt.nats ks)) :
    Calls Try.prog 70 #[u, .pointer (some ⟨b1, 0, none⟩), .pointer (some ⟨b2, 0, none⟩), .pointer (some ⟨b3, 0, none⟩)] w fun e w' => ∃ z, e = .returned z ∧ Sl w' w.heap.size z (Nt.nats (Nt.needStep ns nd c ks)) ∧ Kept [] w w' := by
  have HM := Lib.hid (neededState_any ns nd c ks ok hnd st hl w _ _ _ _ _ _ hs hr ht)
  obtain ⟨n, hn⟩ : ∃ n, n = ns.length := ⟨_, rfl⟩
  have hp : 0 < n := by have := ok.some; omega
  obtain ⟨g1, cap1, rfl, _, _⟩ := hs.row (n := n) (by omega) hp
  obtain ⟨g2, cap2, rfl, _, _⟩ := hr.row (n := n) (by rw [hnd.len]; omega) hp
  obtain ⟨g3, cap3, rfl, _, _⟩ := ht.row (n := n) (by omega) hp
  clear hs ht hr ok hnd st hl hn
  go_enter Try.func70, Try.ntmps70
  go_wp2_with fail
  refine HM.out.mono ?_
  rintro e w1 ⟨z, rfl, hs1, hk1⟩
  have HS1 := Lib.hid hs1
  have HK1 := Lib.hid hk1
  clear hs1 hk1
  go_wp2_with fail
  go_ret
  exact ⟨_, rfl, HS1.out, HK1.out⟩

theorem enter_needRun1 (args : Array Value) (w : World) : Sem.run Try.prog (callFunc 70 args) w = .ok (.enter 70 args) w := by kernel_rfl

set_option maxHeartbeats 2000000 in
set_option maxRecDepth 100000 in
theorem iNeedRun_any (xs : List Int) (kinds : Int) (nds ys : List Int) (steps : Int) (w : World) (v : Value) (base : Nat) (r : Value) (base2 : Nat) (u : Value) (base' : Nat) (hs : Sl w base v xs) (hr : Sl w base2 r nds) (ht : Sl w base' u ys) :
    Calls Try.prog 33 #[v, .int .i64 kinds, r, u, .int .i64 steps] w fun e w' => ∃ z, e = .returned z ∧ Sl w' w.heap.size z (Nt.nrunOf xs kinds nds ys steps) ∧ Kept [] w w' := by
  have hmf : ∀ (fn : Fn) (first cap : Array Value) (w : World), (Instr.makeFunc fn first cap).run Try.prog w = .ok (.func fn first cap) w := fun _ _ _ _ => rfl
  obtain ⟨hk1, ha, hb, hc, hsz⟩ := boxes3 w 23 3 23 v (.int .i64 kinds) r
  have HK1 := Lib.hid hk1
  have HA := Lib.hid ha
  have HB := Lib.hid hb
  have HC := Lib.hid hc
  have HSZ := Lib.hid hsz
  have HS1 := Lib.hid (hs.stay hk1)
  have HR1 := Lib.hid (hr.stay hk1)
  have HT1 := Lib.hid (ht.stay hk1)
  obtain ⟨a, cap, rfl, _, hm, _⟩ := hs.any
  obtain ⟨a', cap', rfl, _, hm', _⟩ := ht.any
  obtain ⟨a2, cap2, rfl, _, hm2, _⟩ := hr.any
  clear hs ht hr hk1 ha hb hc hsz
  cases hd : Nt.ndB xs nds
  · have HF := Lib.hid (Nt.nrunOf_no1 (steps := steps) (Nt.nstB_no2 (kinds := kinds) (ys := ys) hd))
    go_enter Try.func33, Try.ntmps33
    go_wp2_with (go_at_call 12; refine (needsE_any xs nds _ _ _ _ _ HS1.out HR1.out).mono ?_; rintro e w' ⟨rfl, rfl⟩; rw [hd])
    go_ret
    exact ⟨_, rfl, by rw [HF.out]; exact Sl.nil _ _, HK1.out⟩
  · cases ho : Nt.fireB xs kinds ys
    · have HF := Lib.hid (Nt.nrunOf_no1 (steps := steps) (Nt.nstB_no1 (nds := nds) ho))
      go_enter Try.func33, Try.ntmps33
      go_wp2_with (first | (go_at_call 12; refine (needsE_any xs nds _ _ _ _ _ HS1.out HR1.out).mono ?_; rintro e w' ⟨rfl, rfl⟩; rw [hd]) | (go_at_call 45; refine (firingOk_any xs kinds ys _ _ _ _ _ HS1.out HT1.out).mono ?_; rintro e w' ⟨rfl, rfl⟩; rw [ho]))
      go_ret
      exact ⟨_, rfl, by rw [HF.out]; exact Sl.nil _ _, HK1.out⟩
    · cases h2 : Nt.stepsB steps
      · have HF := Lib.hid (Nt.nrunOf_no2 (xs := xs) (kinds := kinds) (nds := nds) (ys := ys) h2)
        go_enter Try.func33, Try.ntmps33
        go_wp2_with (first | (go_at_call 12; refine (needsE_any xs nds _ _ _ _ _ HS1.out HR1.out).mono ?_; rintro e w' ⟨rfl, rfl⟩; rw [hd]) | (go_at_call 45; refine (firingOk_any xs kinds ys _ _ _ _ _ HS1.out HT1.out).mono ?_; rintro e w' ⟨rfl, rfl⟩; rw [ho]) | (go_at_call 68; refine (runOk_any steps _).mono ?_; rintro e w' ⟨rfl, rfl⟩; rw [h2]))
        go_ret
        exact ⟨_, rfl, by rw [HF.out]; exact Sl.nil _ _, HK1.out⟩
      · obtain ⟨ns, c, nd, ks, rfl, rfl, rfl, rfl, ok, hnd, st, hl⟩ := Nt.nstB_ok (Nt.nstB_all ho hd)
        obtain ⟨t, rfl, ht60⟩ := Nt.stepsB_ok h2
        have HF := Lib.hid (Nt.nrunOf_ok ok hnd st hl ht60)
        have HOK := Lib.hid ok
        have HND := Lib.hid hnd
        have HST := Lib.hid st
        have HL := Lib.hid hl
        clear ok hnd st hl
        go_enter Try.func33, Try.ntmps33
        go_wp2_with (first | (go_at_call 12; refine (needsE_any _ _ _ _ _ _ _ HS1.out HR1.out).mono ?_; rintro e w' ⟨rfl, rfl⟩; rw [hd]) | (go_at_call 45; refine (firingOk_any _ _ _ _ _ _ _ _ HS1.out HT1.out).mono ?_; rintro e w' ⟨rfl, rfl⟩; rw [ho]) | (go_at_call 68; refine (runOk_any _ _).mono ?_; rintro e w' ⟨rfl, rfl⟩; rw [h2]))
        generalize hw1 : ((w.alloc (.cells #[Value.slice a (Nt.nats ns).length cap] 23)).alloc (.cells #[.int .i64 (c : Int)] 3)).alloc (.cells #[Value.slice a2 (Nt.nats nd).length cap2] 23) = w1 at *
        have h6 := HST.out.few
        have hp := HST.out.some
        refine (foldedSteps_any 70 #[.pointer (some ⟨w.heap.size, 0, none⟩), .pointer (some ⟨w.heap.size + 1, 0, none⟩), .pointer (some ⟨w.heap.size + 1 + 1, 0, none⟩)] (Nt.needRun ns nd c ks) ks.length t ht60 hp h6 (Nt.needRun_length ns nd c ks) (fun _ wr => Kept [] w1 wr) [] w1.heap.size enter_needRun1 ?_ (fun _ _ _ _ h k => h.trans k (by simp)) (by simp) w1 _ base' (Nat.le_refl _) HT1.out (Kept.refl _ _)).mono ?_
        · intro t' _ w2 v2 base3 hs2 hj _
          have hz := HSZ.out
          have h := needRun1_any ns nd c (Nt.needRun ns nd c ks t') HOK.out HND.out (Nt.needRun_st ns nd HST.out t') (by rw [Nt.needRun_length]; exact HL.out) w2 _ base _ base2 v2 base3 w.heap.size (w.heap.size + 1) (w.heap.size + 1 + 1)
            ((hj.cell (p := ⟨w.heap.size, 0, none⟩) (by show w.heap.size < w1.heap.size; omega) (by simp)).trans HA.out) ((hj.cell (p := ⟨w.heap.size + 1, 0, none⟩) (by show w.heap.size + 1 < w1.heap.size; omega) (by simp)).trans HB.out) ((hj.cell (p := ⟨w.heap.size + 1 + 1, 0, none⟩) (by show w.heap.size + 1 + 1 < w1.heap.size; omega) (by simp)).trans HC.out) (HS1.out.stay hj) (HR1.out.stay hj) hs2
          refine Calls.mono (by simpa using h) ?_
          rintro e w3 ⟨z, rfl, hs3, hk3⟩
          exact ⟨z, rfl, hs3, hj.trans hk3 (by simp), hk3⟩
        · rintro e w2 ⟨z, rfl, hs2, _, hk2⟩
          have HS2 := Lib.hid (hs2.mono HK1.out.size)
          have HK2 := Lib.hid (HK1.out.trans hk2 (by simp))
          clear hs2 hk2
          go_wp2_with fail
          go_ret
          exact ⟨_, rfl, by rw [HF.out]; exact HS2.out, HK2.out⟩
end Go.Proofs.Ytgibncpgdbldnaa
