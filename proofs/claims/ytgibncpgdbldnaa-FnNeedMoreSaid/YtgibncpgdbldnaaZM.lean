/-
  Walks: needs, steps with needs, what is lit at once, by the model.
  Walks: what is lit in the end, sparks, by the model.
  Walks: nodes asked one by one, runs with needs, by the model.
-/
import Derived.Test.YtgibncpgdbldnaaFA
import Derived.Test.YtgibncpgdbldnaaVM
import Derived.Test.YtgibncpgdbldnaaZA
import Derived.Test.YtgibncpgdbldnaaNC
import Derived.Deep.LoopGhost
namespace Go.Proofs.Ytgibncpgdbldnaa
open Go.RowKit

set_option maxHeartbeats 1000000 in
set_option maxRecDepth 100000 in
theorem sNeedsOk_any (xs ys : List Int) (w : World) (v : Value) (base : Nat) (u : Value) (base' : Nat) (hs : Sl w base v xs) (ht : Sl w base' u ys) :
    Calls Try.prog 13 #[v, u] w fun e w' => e = .returned (.bool (Nt.ndB xs ys)) ∧ Qt w w' := by
  have HS := Lib.hid hs
  obtain ⟨a, cap, rfl, _, hm, _⟩ := hs.any
  obtain ⟨a', cap', rfl, _, hm', hc⟩ := ht.any
  have HC := Lib.hid hc
  clear hs ht hc
  go_enter Try.func13, Try.ntmps13
  go_wp2
  go_loop [5] (fun i => ∃ k : Nat, k ≤ ys.length ∧ i = .int .i64 k ∧ Nt.ndTo ys k) (fun i => ys.length - (intOf i).toNat)
  case atStart => exact ⟨0, Nat.zero_le _, rfl, fun j hj => absurd hj (by omega)⟩
  case round =>
    obtain ⟨k, hk, rfl, hto⟩ := hrel
    have HT := Lib.hid hto
    clear hto
    by_cases hlt : k < ys.length
    · obtain ⟨g, rfl, _, _, hcell, _⟩ := HC.out k hlt
      generalize hb : ys.getD k 0 = b at *
      have HB := Lib.hid hb
      clear hb
      by_cases h3 : 1 ≤ b ∧ b ≤ 6
      · have d1 : decide (1 ≤ b ∧ b ≤ 6) = true := dec_of h3
        have HT2 := Lib.hid (Nt.ndTo_succ HT.out (by rw [HB.out]; exact h3))
        clear h3
        go_wp2_with (go_at_call 40; refine (l1In_any _ _ _ _).mono ?_; rintro e w' ⟨rfl, rfl⟩; rw [d1])
        go_round
        case rel => exact ⟨k + 1, by omega, by go_num, HT2.out⟩
        case measure => simp [intOf]; omega
      · have d1 : decide (1 ≤ b ∧ b ≤ 6) = false := dec_not h3
        have HNO := Lib.hid (Nt.ndB_no3 (xs := xs) hlt (by rw [HB.out]; exact h3))
        clear h3
        go_wp2_with (go_at_call 40; refine (l1In_any _ _ _ _).mono ?_; rintro e w' ⟨rfl, rfl⟩; rw [d1])
        go_ret
        exact ⟨by rw [HNO.out]; rfl, Qt.refl _⟩
    · have hk' : k = ys.length := by omega
      subst hk'
      have HE := Lib.hid (Nt.ndB_end (xs := xs) HT.out)
      go_wp2_with fail
      refine (sNetOk_any xs _ _ base HS.out).mono ?_
      rintro e w1 ⟨rfl, hq⟩
      have HQ := Lib.hid hq
      clear hq
      cases h1 : Nt.okB xs
      · have HF : Hid (Nt.ndB xs ys = false) := Lib.hid (by rw [HE.out, h1]; rfl)
        clear h1
        go_wp2
        go_ret
        exact ⟨by rw [HF.out]; rfl, HQ.out⟩
      · by_cases h2 : ys.length = xs.length
        · have HF : Hid (Nt.ndB xs ys = true) := Lib.hid (by rw [HE.out, h1, decide_eq_true h2]; rfl)
          have d2 : ((ys.length : Int) == (xs.length : Int)) = true := by rw [h2]; exact beq_self_eq_true _
          clear h1
          go_wp2
          go_ret
          exact ⟨by rw [HF.out]; rfl, HQ.out⟩
        · have HF : Hid (Nt.ndB xs ys = false) := Lib.hid (by rw [HE.out, decide_eq_false h2, Bool.and_false])
          have d2 : ((ys.length : Int) == (xs.length : Int)) = false := beq_eq_false_iff_ne.2 (by omega)
          clear h1
          go_wp2
          go_ret
          exact ⟨by rw [HF.out]; rfl, HQ.out⟩

theorem growTo_bits {ns nd : List Nat} (h6 : ns.length ≤ 6) {s : Nat} (hs : s < 2 ^ ns.length) (k : Nat) (hk : k ≤ ns.length) : Nt.growTo ns nd s k < 64 :=
  Nat.lt_of_lt_of_le (Nt.lt_of_bits (n := ns.length) fun j hj => by
    rcases (Nt.testBit_growTo ns nd s j k).1 hj with h | h
    · exact Nt.bits_lt hs h
    · omega) (Nt.pow_le h6)
theorem and_small {r s n : Nat} (hs : s < 2 ^ n) : r &&& s < 2 ^ n := Nat.lt_of_le_of_lt Nat.and_le_right hs

set_option maxHeartbeats 1000000 in
set_option maxRecDepth 100000 in
theorem l9Grow_any (ns nd : List Nat) (s : Nat) (ok : Nt.Ok ns) (hnd : Nt.Nd ns nd) (hs2 : s < 2 ^ ns.length) (w : World) (v : Value) (base : Nat) (u : Value) (base' : Nat) (hs : Sl w base v (Nt.nats ns)) (ht : Sl w base' u (Nt.nats nd)) :
    Calls Try.prog 55 #[v, u, .int .i64 (s : Int)] w fun e w' => e = .returned (.int .i64 ((Nt.grow ns nd s : Nat) : Int)) ∧ Qt w w' := by
  obtain ⟨n, hn⟩ : ∃ n, n = ns.length := ⟨_, rfl⟩
  have hp := ok.some
  have h6 := ok.few
  have HGB := Lib.hid (growTo_bits (nd := nd) h6 hs2)
  have HSU : Hid (∀ k, Nt.growTo ns nd s (k + 1) = if Nt.enoughB ns nd s k = true then Nt.growTo ns nd s k ||| 2 ^ k else Nt.growTo ns nd s k) := Lib.hid (fun _ => rfl)
  have HEN : Hid (∀ k, Nt.enoughB ns nd s k = decide (nd.getD k 0 ≤ Nt.popTo (ns.getD k 0 &&& s) n)) := Lib.hid (fun k => by unfold Nt.enoughB; rw [hn])
  have HGR : Hid (Nt.growTo ns nd s n = Nt.grow ns nd s) := Lib.hid (by rw [hn]; rfl)
  have HGL := Lib.hid (fun k => ok.get_lt k)
  have HHI := Lib.hid (fun k (hk : k < n) => hnd.hi k (by omega))
  have HPL := Lib.hid (fun a => Nt.popTo_le a n)
  have hlen := hnd.len
  rw [← hn] at hp h6 hs2 hlen HGB
  have hs64 : s < 64 := Nat.lt_of_lt_of_le hs2 (Nt.pow_le h6)
  obtain ⟨g, cap, rfl, hg, hc⟩ := hs.row hn.symm hp
  obtain ⟨g2, cap2, rfl, hg2, hd⟩ := ht.row hlen hp
  have HC := Lib.hid hc
  have HD := Lib.hid hd
  have HS2 := Lib.hid hs2
  clear hs ht hc hd ok hnd hn hlen hs2
  go_enter Try.func55, Try.ntmps55
  go_wp2
  go_loopw [7, 8] (fun o i wr => ∃ k : Nat, k ≤ n ∧ i = .int .i64 k ∧ o = .int .i64 ((Nt.growTo ns nd s k : Nat) : Int) ∧ Qt w wr) (fun _ i _ => n - (intOf i).toNat)
  case atStart => exact ⟨0, Nat.zero_le _, rfl, rfl, Qt.refl _⟩
  case round =>
    obtain ⟨k, hk, rfl, rfl, hq⟩ := hrel
    have HQ := Lib.hid hq
    by_cases hlt : k < n
    · have ck := (hq.cell _).trans (HC.out k hlt)
      have dk := (hq.cell _).trans (HD.out k hlt)
      have hgb := HGB.out k hk
      have hsu := HSU.out k
      have hen := HEN.out k
      have hgl := HGL.out k
      have hhi := HHI.out k hlt
      have hand := bits_and_nat (ns.getD k 0) s (by omega) (by omega)
      have HE := Lib.hid (or_shl (Nt.growTo ns nd s k) k hgb (by omega))
      have HSZ := Lib.hid (fun w => l4Size_any (ns.getD k 0 &&& s) n h6 (and_small HS2.out) w)
      have hpl := HPL.out (ns.getD k 0 &&& s)
      clear hq
      generalize Nt.growTo ns nd s k = q at *
      generalize Nt.popTo (ns.getD k 0 &&& s) n = p at *
      generalize ns.getD k 0 &&& s = m at *
      generalize ns.getD k 0 = r at *
      generalize nd.getD k 0 = d at *
      by_cases hle : d ≤ p
      · have HY : Hid (Nt.growTo ns nd s (k + 1) = q ||| 2 ^ k) := Lib.hid (by rw [hsu, hen, decide_eq_true hle, if_pos rfl])
        clear hsu hen
        go_wp2_with fail
        go_quiet ((go_at_call 48; exact quietL (HSZ.out _)))
        go_wp2
        go_roundw
        case rel => exact ⟨k + 1, by omega, by go_num, by rw [HY.out, ← HE.out], HQ.out.draw _⟩
        case measure => simp [intOf]; omega
      · have HY : Hid (Nt.growTo ns nd s (k + 1) = q) := Lib.hid (by rw [hsu, hen, decide_eq_false hle]; rfl)
        clear hsu hen
        go_wp2_with fail
        go_quiet ((go_at_call 48; exact quietL (HSZ.out _)))
        go_wp2
        go_roundw
        case rel => exact ⟨k + 1, by omega, by go_num, by rw [HY.out], HQ.out.draw _⟩
        case measure => simp [intOf]; omega
    · have hk' : k = n := by omega
      subst hk'
      go_wp2
      go_ret
      exact ⟨by rw [← HGR.out]; rfl, HQ.out⟩

set_option maxHeartbeats 2000000 in
set_option maxRecDepth 100000 in
theorem sNeedStep_any (xs : List Int) (kinds : Int) (nds ys : List Int) (w : World) (v : Value) (base : Nat) (r : Value) (base2 : Nat) (u : Value) (base' : Nat) (hs : Sl w base v xs) (hr : Sl w base2 r nds) (ht : Sl w base' u ys) :
    Calls Try.prog 19 #[v, .int .i64 kinds, r, u] w fun e w' => ∃ z, e = .returned z ∧ Sl w' w.heap.size z (Nt.nstOf xs kinds nds ys) ∧ Kept [] w w' := by
  have HS := Lib.hid hs
  have HR := Lib.hid hr
  have HT := Lib.hid ht
  obtain ⟨a, cap, rfl, _, hm, _⟩ := hs.any
  obtain ⟨a', cap', rfl, _, hm', _⟩ := ht.any
  obtain ⟨a2, cap2, rfl, _, hm2, _⟩ := hr.any
  clear hs ht hr
  go_enter Try.func19, Try.ntmps19
  go_wp2_with fail
  refine (l3Ok_any xs kinds ys _ _ _ _ _ HS.out HT.out).mono ?_
  rintro e w1 ⟨rfl, hq⟩
  have HK1 := Lib.hid hq.kept
  have HS1 := Lib.hid (hq.sl HS.out)
  have HR1 := Lib.hid (hq.sl HR.out)
  have HT1 := Lib.hid (hq.sl HT.out)
  clear hq HS HR HT
  cases ho : Nt.fireB xs kinds ys
  · have HF := Lib.hid (Nt.nstOf_no (Nt.nstB_no1 (nds := nds) ho))
    clear ho
    go_wp2_with fail
    go_ret
    exact ⟨_, rfl, by rw [HF.out]; exact (Sl.empty3 w1).mono HK1.out.size, HK1.out.alloc _⟩
  · go_wp2_with fail
    refine (sNeedsOk_any xs nds _ _ _ _ _ HS1.out HR1.out).mono ?_
    rintro e w2 ⟨rfl, hq⟩
    have HK2 := Lib.hid (HK1.out.trans hq.kept (by simp))
    have HS2 := Lib.hid (hq.sl HS1.out)
    have HR2 := Lib.hid (hq.sl HR1.out)
    have HT2 := Lib.hid (hq.sl HT1.out)
    clear hq HK1 HS1 HR1 HT1
    cases hd : Nt.ndB xs nds
    · have HF := Lib.hid (Nt.nstOf_no (Nt.nstB_no2 (kinds := kinds) (ys := ys) hd))
      clear ho hd
      go_wp2_with fail
      go_ret
      exact ⟨_, rfl, by rw [HF.out]; exact (Sl.empty3 w2).mono HK2.out.size, HK2.out.alloc _⟩
    · obtain ⟨ns, c, nd, ks, rfl, rfl, rfl, rfl, ok, hnd, st, hl⟩ := Nt.nstB_ok (Nt.nstB_all ho hd)
      have HF := Lib.hid (Nt.nstOf_ok ok hnd st hl)
      obtain ⟨n, hn⟩ : ∃ n, n = ks.length := ⟨_, rfl⟩
      have hp := st.some
      have h6 := st.few
      have h3 := st.c3
      have h5 := st.c5
      have HSM := Lib.hid (fun k (hk : k ≤ n) => Nt.firesTo_small (ks := ks) h6 (k := k) (by omega))
      have HFL : Hid (Nt.fires ks < 2 ^ n) := Lib.hid (by rw [hn]; exact Nt.fires_ltQ ks)
      have HLT := Lib.hid (fun k (hk : k < n) => st.lt k (by omega))
      have HGL := Lib.hid (fun k => ok.get_lt k)
      have HHI := Lib.hid (fun k (hk : k < n) => hnd.hi k (by omega))
      have HSG := Lib.hid (fun k (hk : k < n) => Nt.needStep_get ns nd c ks (k := k) (by omega))
      have HTK := Lib.hid (fun k (hk : k < n) => Nt.take_more (Nt.needStep ns nd c ks) k (by rw [Nt.needStep_length]; omega))
      have HLN : Hid ((Nt.needStep ns nd c ks).length = n) := Lib.hid (by rw [Nt.needStep_length, hn])
      have HFT : Hid (Nt.firesTo ks n = Nt.fires ks) := Lib.hid (by rw [hn]; rfl)
      have HEN : Hid (∀ k, Nt.enoughB ns nd (Nt.fires ks) k = decide (nd.getD k 0 ≤ Nt.popTo (ns.getD k 0 &&& Nt.fires ks) n)) := Lib.hid (fun k => by unfold Nt.enoughB; rw [hn, hl])
      have HPL := Lib.hid (fun a => Nt.popTo_le a n)
      have hlen := hnd.len
      rw [← hn] at hp h6
      obtain ⟨g1, c1, e1, hg1, hc1⟩ := HS2.out.row (n := n) (by omega) hp
      obtain ⟨g, cp, e2, hg, hc⟩ := HT2.out.row hn.symm hp
      obtain ⟨g2, c2, e3, hg2, hc2⟩ := HR2.out.row (n := n) (by omega) hp
      rw [e1, e2, e3]
      have HC1 := Lib.hid hc1
      have HC := Lib.hid hc
      have HC2 := Lib.hid hc2
      clear ok st hl hc hc1 hc2 hn hnd ho hd hlen e1 e2 e3 HS2 HR2 HT2
      go_wp2
      go_loop [9, 10] (fun a i => ∃ k : Nat, k ≤ n ∧ i = .int .i64 k ∧ a = .int .i64 ((Nt.firesTo ks k : Nat) : Int)) (fun _ i => n - (intOf i).toNat)
      case atStart => exact ⟨0, Nat.zero_le _, rfl, rfl⟩
      case round =>
        obtain ⟨k, hk, rfl, rfl⟩ := hrel
        by_cases hlt : k < n
        · have hcell := HC.out k hlt
          have hx := HLT.out k hlt
          have hb1 := HSM.out k hk
          have HF1 : Hid (Nt.firesTo ks (k + 1) = if ks.getD k 0 = 1 then Nt.firesTo ks k ||| 2 ^ k else Nt.firesTo ks k) := Lib.hid rfl
          have HE := Lib.hid (or_shl (Nt.firesTo ks k) k hb1 (by omega))
          generalize Nt.firesTo ks k = s at *
          generalize ks.getD k 0 = x at *
          by_cases h1 : x = 1
          · subst h1
            go_wp2
            go_round
            case rel => exact ⟨k + 1, by omega, by go_num, by rw [HF1.out, if_pos rfl, ← HE.out]⟩
            case measure => simp [intOf]; omega
          · have h1' : ((x : Int) == 1) = false := by simp; omega
            have HNO := Lib.hid h1
            clear h1
            go_wp2
            go_round
            case rel => exact ⟨k + 1, by omega, by go_num, by rw [HF1.out, if_neg HNO.out]⟩
            case measure => simp [intOf]; omega
        · have hk' : k = n := by omega
          subst hk'
          rw [HFT.out]
          have hb64 : Nt.fires ks < 64 := by rw [← HFT.out]; exact HSM.out k (Nat.le_refl _)
          have HKA := Lib.hid (HK2.out)
          generalize Nt.fires ks = s at *
          clear HFT HSM hlt hk
          go_wp2
          go_loopw [11, 12] (fun u i wr => ∃ j : Nat, j ≤ k ∧ i = .int .i64 j ∧ Sl wr w2.heap.size u (Nt.nats ((Nt.needStep ns nd c ks).take j)) ∧ Kept [] w2 wr) (fun _ i _ => k - (intOf i).toNat)
          case atStart => exact ⟨0, Nat.zero_le _, rfl, Sl.empty3 w2, (Kept.refl _ _).alloc _⟩
          case round =>
            obtain ⟨j, hj, rfl, hsl, hkept⟩ := hrel
            have HSL := Lib.hid hsl
            have HK := Lib.hid hkept
            have hsz := hkept.size
            by_cases hlt : j < k
            · have hck := (hkept.cell (p := ⟨g, j, none⟩) hg (by simp)).trans (HC.out j hlt)
              have hck1 := (hkept.cell (p := ⟨g1, j, none⟩) hg1 (by simp)).trans (HC1.out j hlt)
              have hck2 := (hkept.cell (p := ⟨g2, j, none⟩) hg2 (by simp)).trans (HC2.out j hlt)
              have HT := Lib.hid (HTK.out j hlt)
              have HG := Lib.hid (HSG.out j hlt)
              have hx := HLT.out j hlt
              have hgl := HGL.out j
              have hhi := HHI.out j hlt
              have hen := HEN.out j
              have HL : Hid ((Nt.nats ((Nt.needStep ns nd c ks).take j)).length ≤ 1000000) := Lib.hid (by rw [Nt.nats_length, List.length_take]; omega)
              have hand := bits_and_nat (ns.getD j 0) s (by omega) (by omega)
              have HSZ := Lib.hid (fun w => l4Size_any (ns.getD j 0 &&& s) k h6 (and_small HFL.out) w)
              have hpl := HPL.out (ns.getD j 0 &&& s)
              have HSLD := Lib.hid (fun d => hsl.stay (Qt.kept (w := wr) (w' := wr.drewN d) ⟨d, rfl⟩))
              have HKD := Lib.hid (fun d => hkept.trans (Qt.kept (w := wr) (w' := wr.drewN d) ⟨d, rfl⟩) (by simp))
              clear hsl hkept
              generalize (Nt.needStep ns nd c ks).getD j 0 = y at *
              generalize Nt.popTo (ns.getD j 0 &&& s) k = p at *
              generalize ns.getD j 0 &&& s = m at *
              generalize ks.getD j 0 = x at *
              generalize ns.getD j 0 = r at *
              generalize nd.getD j 0 = d at *
              by_cases h0 : 0 < x
              · have HY : Hid (y = (x + 1) % c) := Lib.hid (by rw [HG.out]; unfold Nt.fireK; rw [if_pos h0])
                have f1 := succ_mod x c
                have hc0 : ¬ c = 0 := by omega
                rw [HY.out] at HT
                clear HG hand hen
                generalize (x + 1) % c = q at *
                go_wp2_with (at_builtin; refine app_int _ rfl _ _ rfl w2.heap.size _ _ HSL.out rfl rfl HL.out (by omega) ?_; intro u' w1 hs1 hk1; have HS1 := Lib.hid hs1; have HK1 := Lib.hid hk1; clear hs1 hk1)
                go_roundw
                case rel => exact ⟨j + 1, by omega, by go_num, HS1.out.val rfl HT.out, HK.out.own HK1.out (fun g hg => (HSL.out.block hg).1)⟩
                case measure => simp [intOf]; omega
              · have hx0 : x = 0 := by omega
                subst hx0
                clear h0
                by_cases hle : d ≤ p
                · have HY : Hid (y = 1) := Lib.hid (by rw [HG.out, hen, decide_eq_true hle]; rfl)
                  rw [HY.out] at HT
                  clear HG hen
                  go_wp2_with fail
                  go_quiet ((go_at_call 48; exact quietL (HSZ.out _)))
                  go_wp2_with (at_builtin; refine app_int _ rfl _ _ rfl w2.heap.size _ _ (HSLD.out _) rfl rfl HL.out (by show w2.heap.size ≤ wr.heap.size; omega) ?_; intro u' w1 hs1 hk1; have HS1 := Lib.hid hs1; have HK1 := Lib.hid hk1; clear hs1 hk1)
                  go_roundw
                  case rel => exact ⟨j + 1, by omega, by go_num, HS1.out.val rfl HT.out, (HKD.out _).own HK1.out (fun g hg => (HSL.out.block hg).1)⟩
                  case measure => simp [intOf]; omega
                · have HY : Hid (y = 0) := Lib.hid (by rw [HG.out, hen, decide_eq_false hle]; rfl)
                  rw [HY.out] at HT
                  clear HG hen
                  go_wp2_with fail
                  go_quiet ((go_at_call 48; exact quietL (HSZ.out _)))
                  go_wp2_with (at_builtin; refine app_int _ rfl _ _ rfl w2.heap.size _ _ (HSLD.out _) rfl rfl HL.out (by show w2.heap.size ≤ wr.heap.size; omega) ?_; intro u' w1 hs1 hk1; have HS1 := Lib.hid hs1; have HK1 := Lib.hid hk1; clear hs1 hk1)
                  go_roundw
                  case rel => exact ⟨j + 1, by omega, by go_num, HS1.out.val rfl HT.out, (HKD.out _).own HK1.out (fun g hg => (HSL.out.block hg).1)⟩
                  case measure => simp [intOf]; omega
            · have hk' : j = k := by omega
              subst hk'
              clear hsl hkept
              go_wp2
              go_ret
              exact ⟨_, rfl, by have h := HSL.out; rw [List.take_of_length_le (by rw [HLN.out]; exact Nat.le_refl _)] at h; rw [HF.out]; exact h.mono HK2.out.size, HK2.out.trans HK.out (by simp)⟩
end Go.Proofs.Ytgibncpgdbldnaa

namespace Go.Proofs.Ytgibncpgdbldnaa
open Go.RowKit

theorem pow_pred_is (n : Nat) (h : n ≤ 6) : wrap64 (wrap64 (2 ^ n) - 1) = 2 ^ n - 1 := by
  have h1 := wrap_pow n (by omega) (by omega)
  rw [Int.toNat_natCast] at h1
  have h2 := wrap_pow_pred n (by omega)
  rw [IntWalk.i64_left] at h2
  rw [h1]
  exact h2
theorem pow_int (n : Nat) : ((2 ^ n : Nat) : Int) = (2 : Int) ^ n := Int.natCast_pow 2 n
theorem pow_is (n : Nat) (h : n ≤ 6) : wrap64 (2 ^ n) = ((2 ^ n : Nat) : Int) := by
  have h1 := wrap_pow n (by omega) (by omega)
  rw [Int.toNat_natCast] at h1
  rw [h1]; exact (pow_int n).symm
theorem sub_wrap (s p : Nat) (h : p ≤ s) (hs : s < 1000000) : IntKind.i64.wrap ((s : Int) - (p : Int)) = ((s - p : Nat) : Int) := by
  rw [IntWalk.i64_in _ (by omega)]; omega
theorem pred_wrap (p f : Nat) (h : p = f + 1) (hs : p < 1000000) : IntKind.i64.wrap ((p : Int) - 1) = (f : Int) ∧ wrap64 ((p : Int) - 1) = (f : Int) := by
  have e : IntKind.i64.wrap ((p : Int) - 1) = (f : Int) := by rw [IntWalk.i64_in _ (by omega)]; omega
  exact ⟨e, by rw [← IntWalk.i64_left]; exact e⟩

set_option maxHeartbeats 2000000 in
set_option maxRecDepth 100000 in
theorem sSpread_any (xs nds : List Int) (set : Int) (w : World) (v : Value) (base : Nat) (u : Value) (base' : Nat) (hs : Sl w base v xs) (ht : Sl w base' u nds) :
    Calls Try.prog 24 #[v, u, .int .i64 set] w fun e w' => e = .returned (.tuple #[.int .i64 (Nt.sprOf xs nds set), .int .i64 (Nt.sprN xs nds set)]) ∧ Qt w w' := by
  have HS := Lib.hid hs
  have HT := Lib.hid ht
  obtain ⟨a, cap, rfl, _, hm, _⟩ := hs.any
  obtain ⟨a', cap', rfl, _, hm', _⟩ := ht.any
  clear hs ht
  go_enter Try.func24, Try.ntmps24
  go_wp2_with fail
  refine (sNeedsOk_any xs nds _ _ _ _ _ HS.out HT.out).mono ?_
  rintro e w1 ⟨rfl, hq⟩
  have HQ1 := Lib.hid hq
  cases hd : Nt.ndB xs nds
  · have HF := Lib.hid (Nt.sprB_no1 (set := set) hd)
    have HV := Lib.hid (Nt.sprOf_no HF.out)
    have HV2 := Lib.hid (Nt.sprN_no HF.out)
    clear hq hd HF
    go_wp2
    go_ret2
    exact ⟨by rw [HV.out, HV2.out]; rfl, HQ1.out⟩
  · obtain ⟨ns, nd, rfl, rfl, ok, hnd⟩ := Nt.ndB_ok hd
    obtain ⟨n, hn⟩ : ∃ n, n = ns.length := ⟨_, rfl⟩
    have hp := ok.some
    have h6 := ok.few
    have hlen : (Nt.nats ns).length = n := by rw [Nt.nats_length, hn]
    have h6n : n ≤ 6 := by omega
    have EP := Lib.hid (pow_pred_is n h6n)
    have HS1 := Lib.hid (hq.sl HS.out)
    have HT1 := Lib.hid (hq.sl HT.out)
    rw [hlen] at HS1 ⊢
    by_cases h2 : 0 ≤ set ∧ set ≤ 2 ^ n - 1
    · obtain ⟨s, rfl⟩ := Int.eq_ofNat_of_zero_le h2.1
      have d1 : decide ((0 : Int) ≤ (s : Int) ∧ (s : Int) ≤ 2 ^ n - 1) = true := dec_of h2
      have hs2 : s < 2 ^ ns.length := by
        have := pow_int n
        rw [← hn]; omega
      have HV := Lib.hid (Nt.sprOf_ok ok hnd hs2)
      have HV2 := Lib.hid (Nt.sprN_ok ok hnd hs2)
      have hE := Nt.spN_ends (nd := nd) hs2
      have HALL := Lib.hid (hE.all hs2)
      have HFIX := Lib.hid hE.fix
      have HLEAST := Lib.hid hE.least
      have HLL := Lib.hid (fun t => Nt.litAt_lt (nd := nd) hs2 t)
      have HTN := Nt.spN_le (nd := nd) hs2
      have HO := Lib.hid (And.intro ok hnd)
      have HD1 := Lib.hid d1
      have HT6 : Hid (Nt.spN ns nd s ≤ 6) := Lib.hid (by omega)
      clear hq hd ok hnd h2 hs2 hE HTN hn d1
      generalize Nt.spN ns nd s = T at *
      go_wp2_with fail
      rw [EP.out]
      refine (l1In_any _ _ _ _).mono ?_
      rintro e w' ⟨rfl, rfl⟩
      rw [HD1.out]
      have hT6 := HT6.out
      go_wp2_with fail
      go_loopw [8, 9] (fun m t wr => ∃ k : Nat, k ≤ T ∧ t = .int .i64 k ∧ m = .int .i64 ((Nt.litAt ns nd s k : Nat) : Int) ∧ Qt w1 wr) (fun _ t _ => T - (intOf t).toNat)
      case atStart => exact ⟨0, Nat.zero_le _, rfl, rfl, Qt.refl _⟩
      case round =>
        obtain ⟨k, hk, rfl, rfl, hq⟩ := hrel
        have HQ := Lib.hid hq
        have HS2 := Lib.hid (hq.sl HS1.out)
        have HT2 := Lib.hid (hq.sl HT1.out)
        clear hq
        by_cases hlt : k < T
        · have hne := HLEAST.out k hlt
          have HL := Lib.hid (HLL.out k)
          have HNX : Hid (Nt.litAt ns nd s (k + 1) = Nt.grow ns nd (Nt.litAt ns nd s k)) := Lib.hid rfl
          generalize Nt.litAt ns nd s k = m at *
          go_wp2_with fail
          refine (l9Grow_any ns nd m HO.out.1 HO.out.2 HL.out _ _ _ _ _ HS2.out HT2.out).mono ?_
          rintro e w2 ⟨rfl, hq2⟩
          have HQ2 := Lib.hid (HQ.out.trans hq2)
          have HS3 := Lib.hid (hq2.sl HS2.out)
          have HT3 := Lib.hid (hq2.sl HT2.out)
          have HG := Lib.hid (l9Grow_any ns nd m HO.out.1 HO.out.2 HL.out w2 _ _ _ _ HS3.out HT3.out)
          clear hq2
          generalize Nt.grow ns nd m = z at *
          have d2 : ((z : Int) != (m : Int)) = true := bne_iff_ne.2 (by omega)
          clear hne
          go_wp2_with fail
          refine HG.out.mono ?_
          rintro e w3 ⟨rfl, hq3⟩
          have HQ3 := Lib.hid (HQ2.out.trans hq3)
          clear hq3
          go_wp2_with fail
          go_roundw
          case rel => exact ⟨k + 1, by omega, by go_num, by rw [HNX.out], HQ3.out⟩
          case measure => simp [intOf]; omega
        · have hk' : k = T := by omega
          subst hk'
          have HL := Lib.hid (HLL.out k)
          have HX : Hid (Nt.grow ns nd (Nt.litAt ns nd s k) = Nt.litAt ns nd s k) := Lib.hid HFIX.out
          rw [HALL.out] at HL HX ⊢
          generalize Nt.spread ns nd s = m at *
          go_wp2_with fail
          refine (l9Grow_any ns nd m HO.out.1 HO.out.2 HL.out _ _ _ _ _ HS2.out HT2.out).mono ?_
          rintro e w2 ⟨rfl, hq2⟩
          rw [HX.out]
          have HQ2 := Lib.hid (HQ1.out.trans (HQ.out.trans hq2))
          have d2 : ((m : Int) != (m : Int)) = false := by simp
          clear hq2
          go_wp2_with fail
          go_ret2
          exact ⟨by rw [HV.out, HV2.out]; rfl, HQ2.out⟩
    · have d1 : decide ((0 : Int) ≤ set ∧ set ≤ 2 ^ n - 1) = false := dec_not h2
      have HF := Lib.hid (Nt.sprB_no2 (xs := Nt.nats ns) (nds := Nt.nats nd) (set := set) (fun h => h2 (by rw [hlen] at h; omega)))
      have HV := Lib.hid (Nt.sprOf_no HF.out)
      have HV2 := Lib.hid (Nt.sprN_no HF.out)
      clear hq hd ok hnd h2 hn HF
      go_wp2_with fail
      rw [EP.out]
      refine (l1In_any _ _ _ _).mono ?_
      rintro e w' ⟨rfl, rfl⟩
      rw [d1]
      go_wp2_with fail
      go_ret2
      exact ⟨by rw [HV.out, HV2.out]; rfl, HQ1.out⟩

set_option maxHeartbeats 2000000 in
set_option maxRecDepth 100000 in
theorem sSpark_any (xs nds : List Int) (w : World) (v : Value) (base : Nat) (u : Value) (base' : Nat) (hs : Sl w base v xs) (ht : Sl w base' u nds) :
    Calls Try.prog 27 #[v, u] w fun e w' => e = .returned (.int .i64 (Nt.sparkOf xs nds)) ∧ Qt w w' := by
  have HS := Lib.hid hs
  have HT := Lib.hid ht
  obtain ⟨a, cap, rfl, _, hm, _⟩ := hs.any
  obtain ⟨a', cap', rfl, _, hm', _⟩ := ht.any
  clear hs ht
  go_enter Try.func27, Try.ntmps27
  go_wp2_with fail
  refine (sNeedsOk_any xs nds _ _ _ _ _ HS.out HT.out).mono ?_
  rintro e w1 ⟨rfl, hq⟩
  have HQ1 := Lib.hid hq
  cases hd : Nt.ndB xs nds
  · have HV := Lib.hid (Nt.sparkOf_no hd)
    clear hq hd
    go_wp2
    go_ret
    exact ⟨by rw [HV.out]; rfl, HQ1.out⟩
  · obtain ⟨ns, nd, rfl, rfl, ok, hnd⟩ := Nt.ndB_ok hd
    obtain ⟨n, hn⟩ : ∃ n, n = ns.length := ⟨_, rfl⟩
    have hp := ok.some
    have h6 := ok.few
    have hlen : (Nt.nats ns).length = n := by rw [Nt.nats_length, hn]
    have HV := Lib.hid (Nt.sparkOf_ok ok hnd)
    have HS1 := Lib.hid (hq.sl HS.out)
    have HT1 := Lib.hid (hq.sl HT.out)
    have HN := Lib.hid hn
    have HSP : Hid (∀ s : Nat, s < 2 ^ n → Nt.sprOf (Nt.nats ns) (Nt.nats nd) (s : Int) = ((Nt.spread ns nd s : Nat) : Int)) := Lib.hid (fun (s : Nat) h => Nt.sprOf_ok ok hnd (by rw [← hn]; exact h))
    have HLT := Lib.hid (fun s (h : s ≤ 2 ^ n) => (Nt.sparkTo_good ns nd s (by rw [← hn]; exact h)).1)
    have HNX : Hid (∀ s, Nt.sparkTo ns nd (s + 1) = if Nt.spread ns nd s = Nt.full ns ∧ Nt.popTo s ns.length < Nt.popTo (Nt.sparkTo ns nd s) ns.length then s else Nt.sparkTo ns nd s) := Lib.hid (fun _ => rfl)
    have HFU : Hid (Nt.full ns = 2 ^ n - 1) := Lib.hid (by rw [hn]; rfl)
    have HF0 : Hid (Nt.sparkTo ns nd 0 = 2 ^ n - 1) := Lib.hid (by rw [hn]; rfl)
    have HPL := Lib.hid (fun a => Nt.popTo_le a n)
    have EP : Hid (wrap64 (2 ^ n) = ((2 ^ n : Nat) : Int)) := Lib.hid (by
      have h := wrap_pow n (by omega) (by omega)
      rw [Int.toNat_natCast] at h
      rw [h]; exact (pow_int n).symm)
    have h64 : 2 ^ n ≤ 64 := Nt.pow_le (by omega)
    have h1n : 1 ≤ 2 ^ n := Nat.two_pow_pos n
    rw [hlen] at HS1 ⊢
    rw [← hn] at h6 HNX HLT HV
    obtain ⟨top, htop⟩ : ∃ top, top = 2 ^ n := ⟨_, rfl⟩
    rw [← htop] at EP HLT HSP HFU HF0 h64 h1n HV
    have ep := EP.out
    obtain ⟨f, hf⟩ : ∃ f, f = top - 1 := ⟨_, rfl⟩
    rw [← hf] at HFU HF0
    have e2 : IntKind.i64.wrap ((top : Int) - 1) = (f : Int) := by rw [IntWalk.i64_in _ (by omega)]; omega
    have e3 : wrap64 ((top : Int) - 1) = (f : Int) := by rw [← IntWalk.i64_left]; exact e2
    have HTOP := Lib.hid htop
    clear hq hd ok hnd hn hlen htop hf
    go_wp2_with fail
    rw [ep]
    go_loopw [5, 6] (fun b i wr => ∃ s : Nat, s ≤ top ∧ i = .int .i64 s ∧ b = .int .i64 ((Nt.sparkTo ns nd s : Nat) : Int) ∧ Qt w1 wr) (fun _ i _ => top - (intOf i).toNat)
    case atStart => exact ⟨0, Nat.zero_le _, rfl, by rw [HF0.out], Qt.refl _⟩
    case round =>
      obtain ⟨s, hs2, rfl, rfl, hq⟩ := hrel
      have HQ := Lib.hid hq
      have HS2 := Lib.hid (hq.sl HS1.out)
      have HT2 := Lib.hid (hq.sl HT1.out)
      clear hq
      by_cases hlt : s < top
      · have HSV := Lib.hid (HSP.out s hlt)
        have HB : Hid (Nt.sparkTo ns nd s < 2 ^ n) := Lib.hid (by rw [← HTOP.out]; exact HLT.out s hs2)
        have HSB : Hid (s < 2 ^ n) := Lib.hid (by rw [← HTOP.out]; exact hlt)
        have HX := Lib.hid (HNX.out s)
        have HZ1 := Lib.hid (fun w => l4Size_any s n h6 HSB.out w)
        have HZ2 := Lib.hid (fun w => l4Size_any (Nt.sparkTo ns nd s) n h6 HB.out w)
        have p1 := HPL.out s
        have p2 := HPL.out (Nt.sparkTo ns nd s)
        rw [HFU.out] at HX
        go_wp2_with fail
        refine (sSpread_any (Nt.nats ns) (Nt.nats nd) (s : Int) _ _ _ _ _ HS2.out HT2.out).mono ?_
        rintro e w2 ⟨rfl, hq2⟩
        rw [HSV.out]
        have HQ2 := Lib.hid (HQ.out.trans hq2)
        clear hq2
        generalize Nt.sprN (Nt.nats ns) (Nt.nats nd) (s : Int) = tt at *
        generalize Nt.spread ns nd s = z at *
        generalize Nt.sparkTo ns nd s = b at *
        generalize Nt.popTo s n = q1 at *
        generalize Nt.popTo b n = q2 at *
        by_cases hz : z = f
        · have d1 : ((z : Int) == (f : Int)) = true := by rw [hz]; exact beq_self_eq_true _
          by_cases hl : q1 < q2
          · have HY : Hid (Nt.sparkTo ns nd (s + 1) = s) := Lib.hid (by rw [HX.out, if_pos ⟨hz, hl⟩])
            clear hz
            go_wp2_with fail
            refine (HZ1.out _).mono ?_
            rintro e w' ⟨rfl, rfl⟩
            go_wp2_with fail
            refine (HZ2.out _).mono ?_
            rintro e w' ⟨rfl, rfl⟩
            go_wp2_with fail
            go_roundw
            case rel => exact ⟨s + 1, by omega, by go_num, by rw [HY.out], HQ2.out⟩
            case measure => simp [intOf]; omega
          · have HY : Hid (Nt.sparkTo ns nd (s + 1) = b) := Lib.hid (by rw [HX.out, if_neg (fun h => hl h.2)])
            clear hz
            go_wp2_with fail
            refine (HZ1.out _).mono ?_
            rintro e w' ⟨rfl, rfl⟩
            go_wp2_with fail
            refine (HZ2.out _).mono ?_
            rintro e w' ⟨rfl, rfl⟩
            go_wp2_with fail
            go_roundw
            case rel => exact ⟨s + 1, by omega, by go_num, by rw [HY.out], HQ2.out⟩
            case measure => simp [intOf]; omega
        · have d1 : ((z : Int) == (f : Int)) = false := beq_eq_false_iff_ne.2 (by omega)
          have HY : Hid (Nt.sparkTo ns nd (s + 1) = b) := Lib.hid (by rw [HX.out, if_neg (fun h => hz h.1)])
          clear hz
          go_wp2_with fail
          go_roundw
          case rel => exact ⟨s + 1, by omega, by go_num, by rw [HY.out], HQ2.out⟩
          case measure => simp [intOf]; omega
      · have hs' : s = top := by omega
        subst hs'
        go_wp2_with fail
        go_ret
        exact ⟨by rw [HV.out]; rfl, HQ1.out.trans HQ.out⟩
end Go.Proofs.Ytgibncpgdbldnaa

namespace Go.Proofs.Ytgibncpgdbldnaa
open Go.RowKit

theorem askTo_lt {ns nd os : List Nat} (ho : Nt.Ord ns.length os) {m : Nat} (hm : m < 2 ^ ns.length) : ∀ k, k ≤ ns.length → Nt.askTo ns nd os m k < 2 ^ ns.length
  | 0, _ => hm
  | k + 1, hk => by
    have ih := askTo_lt (nd := nd) ho hm k (by omega)
    rw [Nt.askTo]
    split
    · exact Nat.or_lt_two_pow ih (Nat.pow_lt_pow_right (by omega) (ho.lt k (by omega)))
    · exact ih
theorem asks_lt {ns nd os : List Nat} (ho : Nt.Ord ns.length os) {s : Nat} (hs : s < 2 ^ ns.length) : ∀ t, Nt.asks ns nd os s t < 2 ^ ns.length
  | 0 => hs
  | t + 1 => askTo_lt ho (asks_lt ho hs t) _ (Nat.le_refl _)

set_option maxHeartbeats 4000000 in
set_option maxRecDepth 100000 in
theorem sOneByOne_any (xs nds : List Int) (set : Int) (os : List Int) (w : World) (v : Value) (base : Nat) (u : Value) (base' : Nat) (r : Value) (base2 : Nat) (hs : Sl w base v xs) (ht : Sl w base' u nds) (hr : Sl w base2 r os) :
    Calls Try.prog 31 #[v, u, .int .i64 set, r] w fun e w' => e = .returned (.int .i64 (Nt.onebOf xs nds set os)) ∧ Qt w w' := by
  have HS := Lib.hid hs
  have HT := Lib.hid ht
  have HR := Lib.hid hr
  obtain ⟨a, cap, rfl, _, hm, _⟩ := hs.any
  obtain ⟨a', cap', rfl, _, hm', _⟩ := ht.any
  obtain ⟨a2, cap2, rfl, _, hm2, _⟩ := hr.any
  clear hs ht hr
  go_enter Try.func31, Try.ntmps31
  go_wp2_with fail
  refine (sNeedsOk_any xs nds _ _ _ _ _ HS.out HT.out).mono ?_
  rintro e w1 ⟨rfl, hq⟩
  have HQ1 := Lib.hid hq
  cases hd : Nt.ndB xs nds
  · have HV := Lib.hid (Nt.onebOf_no1 (os := os) (Nt.sprB_no1 (set := set) hd))
    clear hq hd
    go_wp2
    go_ret
    exact ⟨by rw [HV.out]; rfl, HQ1.out⟩
  · obtain ⟨ns, nd, rfl, rfl, ok, hnd⟩ := Nt.ndB_ok hd
    obtain ⟨n, hn⟩ : ∃ n, n = ns.length := ⟨_, rfl⟩
    have hp := ok.some
    have h6 := ok.few
    have hlen : (Nt.nats ns).length = n := by rw [Nt.nats_length, hn]
    have hlen2 : (Nt.nats nd).length = n := by rw [Nt.nats_length, hnd.len, hn]
    have h6n : n ≤ 6 := by omega
    have EP := Lib.hid (pow_pred_is n h6n)
    have HS1 := Lib.hid (hq.sl HS.out)
    have HT1 := Lib.hid (hq.sl HT.out)
    have HR1 := Lib.hid (hq.sl HR.out)
    rw [hlen] at HS1 ⊢
    rw [hlen2] at HT1 ⊢
    by_cases h2 : 0 ≤ set ∧ set ≤ 2 ^ n - 1
    · obtain ⟨s, rfl⟩ := Int.eq_ofNat_of_zero_le h2.1
      have d1 : decide ((0 : Int) ≤ (s : Int) ∧ (s : Int) ≤ 2 ^ n - 1) = true := dec_of h2
      have hs2 : s < 2 ^ ns.length := by
        have := pow_int n
        rw [← hn]; omega
      have HD1 := Lib.hid d1
      cases ho : Nt.ordB n os
      · have HV := Lib.hid (Nt.onebOf_no2 (xs := Nt.nats ns) (nds := Nt.nats nd) (set := (s : Int)) (os := os) (by rw [hlen]; exact ho))
        have HOB := Lib.hid ho
        rw [← hn] at h6
        clear hq hd ok hnd h2 hs2 hn d1 ho hp
        go_wp2_with fail
        rw [EP.out]
        refine (l1In_any _ _ _ _).mono ?_
        rintro e w' ⟨rfl, rfl⟩
        rw [HD1.out]
        go_wp2_with fail
        refine (l1Order_any n h6 os _ _ _ HR1.out).mono ?_
        rintro e w' ⟨rfl, rfl⟩
        rw [HOB.out]
        go_wp2_with fail
        go_ret
        exact ⟨by rw [HV.out]; rfl, HQ1.out⟩
      · have HOB := Lib.hid ho
        have HV0 := Lib.hid (Nt.onebOf_yes (os := os) (Nt.sprB_yes ok hnd hs2) (by rw [hlen]; exact ho))
        obtain ⟨ol, rfl, hord⟩ := Nt.ordB_ord ho
        have HV : Hid (Nt.onebOf (Nt.nats ns) (Nt.nats nd) (s : Int) (Nt.nats ol) = ((Nt.spread ns nd s : Nat) : Int)) := Lib.hid (by rw [HV0.out]; exact Nt.sprOf_ok ok hnd hs2)
        have hord' : Nt.Ord ns.length ol := by rw [← hn]; exact hord
        have HAL := Lib.hid (fun t => asks_lt (nd := nd) hord' hs2 t)
        have HAK := Lib.hid (fun t k (hk : k ≤ n) => askTo_lt (nd := nd) hord' (asks_lt (nd := nd) hord' hs2 t) k (by omega))
        have HSPR := Lib.hid (fun t h => Nt.asks_spread (nd := nd) (t := t) hord' hs2 h)
        have HMANY := Lib.hid (fun t h => Nt.asks_many (nd := nd) hord' hs2 t h)
        have HPM := Lib.hid (fun a => Nt.pop_most a n)
        have HOL := Lib.hid (fun k (hk : k < n) => hord.lt k hk)
        have HSU : Hid (∀ m k, Nt.askTo ns nd ol m (k + 1) = if Nt.enoughB ns nd (Nt.askTo ns nd ol m k) (ol.getD k 0) = true then Nt.askTo ns nd ol m k ||| 2 ^ (ol.getD k 0) else Nt.askTo ns nd ol m k) := Lib.hid (fun _ _ => rfl)
        have HAS : Hid (∀ t, Nt.askTo ns nd ol (Nt.asks ns nd ol s t) n = Nt.asks ns nd ol s (t + 1)) := Lib.hid (fun t => by rw [hn]; rfl)
        have HEN : Hid (∀ m k, Nt.enoughB ns nd m k = decide (nd.getD k 0 ≤ Nt.popTo (ns.getD k 0 &&& m) n)) := Lib.hid (fun m k => by unfold Nt.enoughB; rw [hn])
        have HGL := Lib.hid (fun k => ok.get_lt k)
        have HHI := Lib.hid (fun k (hk : k < n) => hnd.hi k (by omega))
        have HPL := Lib.hid (fun a => Nt.popTo_le a n)
        rw [← hn] at hp h6 HAL HAK HSPR HMANY
        have h64 := Nt.pow_le h6
        obtain ⟨g, cp, e1, hg, hc⟩ := HS1.out.row (n := n) hn.symm hp
        obtain ⟨g2, cp2, e2, hg2, hc2⟩ := HT1.out.row (n := n) (by rw [hnd.len, hn]) hp
        obtain ⟨g3, cp3, e3, hg3, hc3⟩ := HR1.out.row (n := n) hord.len hp
        have hlen3 : (Nt.nats ol).length = n := by rw [Nt.nats_length, hord.len]
        rw [hlen3] at HR1 e3 ⊢
        rw [e1, e2, e3]
        rw [e3] at HR1
        have HC := Lib.hid hc
        have HC2 := Lib.hid hc2
        have HC3 := Lib.hid hc3
        clear hq hd ok hnd h2 hs2 hn d1 ho hord hord' hc hc2 hc3 e1 e2 e3 HS1 HT1 hlen hlen2 hlen3
        go_wp2_with fail
        rw [EP.out]
        refine (l1In_any _ _ _ _).mono ?_
        rintro e w' ⟨rfl, rfl⟩
        rw [HD1.out]
        go_wp2_with fail
        refine (l1Order_any n h6 (Nt.nats ol) _ _ _ HR1.out).mono ?_
        rintro e w' ⟨rfl, rfl⟩
        rw [HOB.out]
        clear HR1
        go_wp2_with fail
        go_loopg [9, 10] (n + 2) (fun gh m ag wr => ∃ (t : Nat) (b : Bool), m = .int .i64 ((Nt.asks ns nd ol s t : Nat) : Int) ∧ ag = .bool b ∧ ((b = true ∧ n + 2 - t ≤ gh ∧ ∀ u, u < t → Nt.askTo ns nd ol (Nt.asks ns nd ol s u) n ≠ Nt.asks ns nd ol s u) ∨ (b = false ∧ Nt.asks ns nd ol s t = Nt.spread ns nd s)) ∧ Qt w1 wr)
        case atStart => exact ⟨0, true, rfl, rfl, .inl ⟨rfl, by omega, fun u hu => absurd hu (by omega)⟩, Qt.refl _⟩
        case round =>
          obtain ⟨t, b, rfl, rfl, hb, hq⟩ := hrel
          have HQ := Lib.hid hq
          clear hq
          cases b
          · have HX : Hid (Nt.asks ns nd ol s t = Nt.spread ns nd s) := Lib.hid (by
              rcases hb with h | h
              · exact absurd h.1 (by simp)
              · exact h.2)
            clear hb
            go_wp2_with fail
            go_ret
            exact ⟨by rw [HV.out, ← HX.out]; rfl, HQ1.out.trans HQ.out⟩
          · rcases hb with ⟨_, hgh, hun⟩ | ⟨hbf, _⟩
            rotate_left
            · exact absurd hbf (by simp)
            have HUN := Lib.hid hun
            have htn : t ≤ n := by
              have h1 := HMANY.out t hun
              have h2 := HPM.out (Nt.asks ns nd ol s t)
              omega
            have HKL := Lib.hid (fun k hk => HAK.out t k hk)
            have HST := Lib.hid (HAS.out t)
            have HSR := Lib.hid (HSPR.out t)
            have HA0 : Hid (Nt.askTo ns nd ol (Nt.asks ns nd ol s t) 0 = Nt.asks ns nd ol s t) := Lib.hid rfl
            clear hun
            go_wp2_with fail
            go_loopw [9, 12] (fun m i wx => ∃ k : Nat, k ≤ n ∧ i = .int .i64 k ∧ m = .int .i64 ((Nt.askTo ns nd ol (Nt.asks ns nd ol s t) k : Nat) : Int) ∧ Qt w1 wx) (fun _ i _ => n - (intOf i).toNat)
            case atStart => exact ⟨0, Nat.zero_le _, rfl, by rw [HA0.out], HQ.out⟩
            case round =>
              obtain ⟨k, hk, rfl, rfl, hqx⟩ := hrel
              have HQX := Lib.hid hqx
              by_cases hlt : k < n
              · have hol := HOL.out k hlt
                have c3 := (hqx.cell _).trans (HC3.out k hlt)
                have c1 := (hqx.cell _).trans (HC.out _ hol)
                have c2 := (hqx.cell _).trans (HC2.out _ hol)
                have hkl := HKL.out k hk
                have hsu := HSU.out (Nt.asks ns nd ol s t) k
                have hgl := HGL.out (ol.getD k 0)
                have hhi := HHI.out _ hol
                clear hqx
                generalize Nt.askTo ns nd ol (Nt.asks ns nd ol s t) k = m at *
                generalize ol.getD k 0 = q at *
                have hen := HEN.out m q
                have hand := bits_and_nat (ns.getD q 0) m (by omega) (by omega)
                have HE := Lib.hid (or_shl m q (by omega) (by omega))
                have HSZ := Lib.hid (fun w => l4Size_any (ns.getD q 0 &&& m) n h6 (and_small hkl) w)
                have hpl := HPL.out (ns.getD q 0 &&& m)
                generalize Nt.popTo (ns.getD q 0 &&& m) n = p at *
                generalize ns.getD q 0 &&& m = mm at *
                generalize ns.getD q 0 = rr at *
                generalize nd.getD q 0 = d at *
                by_cases hle : d ≤ p
                · have HY : Hid (Nt.askTo ns nd ol (Nt.asks ns nd ol s t) (k + 1) = m ||| 2 ^ q) := Lib.hid (by rw [hsu, hen, decide_eq_true hle, if_pos rfl])
                  clear hsu hen
                  go_wp2_with fail
                  go_quiet ((go_at_call 48; exact quietL (HSZ.out _)))
                  go_wp2
                  go_roundw
                  case rel => exact ⟨k + 1, by omega, by go_num, by rw [HY.out, ← HE.out], HQX.out.draw _⟩
                  case measure => simp [intOf]; omega
                · have HY : Hid (Nt.askTo ns nd ol (Nt.asks ns nd ol s t) (k + 1) = m) := Lib.hid (by rw [hsu, hen, decide_eq_false hle]; rfl)
                  clear hsu hen
                  go_wp2_with fail
                  go_quiet ((go_at_call 48; exact quietL (HSZ.out _)))
                  go_wp2
                  go_roundw
                  case rel => exact ⟨k + 1, by omega, by go_num, by rw [HY.out], HQX.out.draw _⟩
                  case measure => simp [intOf]; omega
              · have hk' : k = n := by omega
                subst hk'
                clear hqx
                rw [HST.out]
                have HN1 := Lib.hid (HSPR.out (t + 1))
                by_cases heq : Nt.asks ns nd ol s (t + 1) = Nt.asks ns nd ol s t
                · have HZ : Hid (Nt.asks ns nd ol s (t + 1) = Nt.spread ns nd s) := Lib.hid (by rw [heq]; exact HSR.out (by rw [HST.out]; exact heq))
                  have d2 : (((Nt.asks ns nd ol s (t + 1) : Nat) : Int) != ((Nt.asks ns nd ol s t : Nat) : Int)) = false := by rw [heq]; simp
                  go_wp2_with fail
                  go_roundg (k + 1 - t)
                  case measure => omega
                  case rel => exact ⟨t + 1, false, rfl, rfl, .inr ⟨rfl, HZ.out⟩, HQX.out⟩
                · have d2 : (((Nt.asks ns nd ol s (t + 1) : Nat) : Int) != ((Nt.asks ns nd ol s t : Nat) : Int)) = true := bne_iff_ne.2 (by omega)
                  have HU2 : Hid (∀ u, u < t + 1 → Nt.askTo ns nd ol (Nt.asks ns nd ol s u) k ≠ Nt.asks ns nd ol s u) := Lib.hid (fun u hu => by
                    by_cases e : u = t
                    · subst e; rw [HST.out]; exact heq
                    · exact HUN.out u (by omega))
                  go_wp2_with fail
                  go_roundg (k + 1 - t)
                  case measure => omega
                  case rel => exact ⟨t + 1, true, rfl, rfl, .inl ⟨rfl, by omega, HU2.out⟩, HQX.out⟩
    · have d1 : decide ((0 : Int) ≤ set ∧ set ≤ 2 ^ n - 1) = false := dec_not h2
      have HV := Lib.hid (Nt.onebOf_no1 (os := os) (Nt.sprB_no2 (xs := Nt.nats ns) (nds := Nt.nats nd) (set := set) (fun h => h2 (by rw [hlen] at h; omega))))
      clear hq hd ok hnd h2 hn
      go_wp2_with fail
      rw [EP.out]
      refine (l1In_any _ _ _ _).mono ?_
      rintro e w' ⟨rfl, rfl⟩
      rw [d1]
      go_wp2_with fail
      go_ret
      exact ⟨by rw [HV.out]; rfl, HQ1.out⟩

set_option maxHeartbeats 2000000 in
set_option maxRecDepth 100000 in
theorem sNeedRun_any (xs : List Int) (kinds : Int) (nds ys : List Int) (steps : Int) (w : World) (v : Value) (base : Nat) (r : Value) (base2 : Nat) (u : Value) (base' : Nat) (hs : Sl w base v xs) (hr : Sl w base2 r nds) (ht : Sl w base' u ys) :
    Calls Try.prog 34 #[v, .int .i64 kinds, r, u, .int .i64 steps] w fun e w' => ∃ z, e = .returned z ∧ Sl w' w.heap.size z (Nt.nrunOf xs kinds nds ys steps) ∧ Kept [] w w' := by
  have HS := Lib.hid hs
  have HR := Lib.hid hr
  have HT := Lib.hid ht
  obtain ⟨a, cap, rfl, _, hm, _⟩ := hs.any
  obtain ⟨a', cap', rfl, _, hm', _⟩ := ht.any
  obtain ⟨a2, cap2, rfl, _, hm2, _⟩ := hr.any
  clear hs ht hr
  go_enter Try.func34, Try.ntmps34
  go_wp2_with fail
  refine (l3Ok_any xs kinds ys _ _ _ _ _ HS.out HT.out).mono ?_
  rintro e w1 ⟨rfl, hq⟩
  have HK1 := Lib.hid hq.kept
  have HS1 := Lib.hid (hq.sl HS.out)
  have HR1 := Lib.hid (hq.sl HR.out)
  have HT1 := Lib.hid (hq.sl HT.out)
  clear hq HS HR HT
  cases ho : Nt.fireB xs kinds ys
  · have HF := Lib.hid (Nt.nrunOf_no1 (steps := steps) (Nt.nstB_no1 (nds := nds) ho))
    clear ho
    go_wp2_with fail
    go_ret
    exact ⟨_, rfl, by rw [HF.out]; exact (Sl.empty3 w1).mono HK1.out.size, HK1.out.alloc _⟩
  · go_wp2_with fail
    refine (sNeedsOk_any xs nds _ _ _ _ _ HS1.out HR1.out).mono ?_
    rintro e w2 ⟨rfl, hq⟩
    have HK2 := Lib.hid (HK1.out.trans hq.kept (by simp))
    have HS2 := Lib.hid (hq.sl HS1.out)
    have HR2 := Lib.hid (hq.sl HR1.out)
    have HT2 := Lib.hid (hq.sl HT1.out)
    clear hq HK1 HS1 HR1 HT1
    cases hd : Nt.ndB xs nds
    · have HF := Lib.hid (Nt.nrunOf_no1 (steps := steps) (Nt.nstB_no2 (kinds := kinds) (ys := ys) hd))
      clear ho hd
      go_wp2_with fail
      go_ret
      exact ⟨_, rfl, by rw [HF.out]; exact (Sl.empty3 w2).mono HK2.out.size, HK2.out.alloc _⟩
    · cases h2 : Nt.stepsB steps
      · have HF := Lib.hid (Nt.nrunOf_no2 (xs := xs) (kinds := kinds) (nds := nds) (ys := ys) h2)
        clear ho hd
        go_wp2_with (go_at_call 40; refine (l1In_any steps 0 60 _).mono ?_; rintro e w' ⟨rfl, rfl⟩; rw [show decide (0 ≤ steps ∧ steps ≤ 60) = false from h2])
        go_ret
        exact ⟨_, rfl, by rw [HF.out]; exact (Sl.empty3 w2).mono HK2.out.size, HK2.out.alloc _⟩
      · obtain ⟨ns, c, nd, ks, rfl, rfl, rfl, rfl, ok, hnd, st, hl⟩ := Nt.nstB_ok (Nt.nstB_all ho hd)
        obtain ⟨t, rfl, ht60⟩ := Nt.stepsB_ok h2
        have HF := Lib.hid (Nt.nrunOf_ok ok hnd st hl ht60)
        have HNS := Lib.hid (fun k => Nt.nstOf_ok ok hnd (Nt.needRun_st ns nd st k) (by rw [Nt.needRun_length]; exact hl))
        have HX := Lib.hid (show 0 < (Nt.nats ks).length ∧ (Nt.nats ks).length ≤ 1000 from by rw [Nt.nats_length]; have := st.some; have := st.few; omega)
        have HE := Lib.hid (Sl.empty3 w2)
        have HT3 := Lib.hid (HT2.out.stay ((Kept.refl [] w2).alloc (.cells #[] 3)))
        clear ok st hl ho hd hnd
        go_wp2_with (first
          | (go_at_call 40; refine (l1In_any _ 0 60 _).mono ?_; rintro e w' ⟨rfl, rfl⟩; rw [show decide (0 ≤ (t : Int) ∧ (t : Int) ≤ 60) = true from h2])
          | (at_builtin; refine app_sl rfl _ _ rfl w2.heap.size _ [] HE.out rfl _ _ (Nt.nats ks) HT3.out HX.out.1 rfl (by have := HX.out.2; simp; omega) (by simp) ?_; intro z w3 hs2 hk2; have HZ := Lib.hid hs2; have HK3 := Lib.hid (((Kept.refl [] w2).alloc (.cells #[] 3)).own hk2 (fun g' hg' => by simp [Value.ownBlock] at hg'; omega)); clear hs2 hk2))
        clear h2 HE HT3
        have hz0 : Sl w3 w2.heap.size z (Nt.nats (Nt.needRun ns nd c ks 0)) := by have h := HZ.out; rw [List.nil_append] at h; exact h
        have HZ0 := Lib.hid hz0
        clear hz0 HZ
        go_loopw [11, 12] (fun z i wr => ∃ k : Nat, k ≤ t ∧ i = .int .i64 k ∧ Sl wr w2.heap.size z (Nt.nats (Nt.needRun ns nd c ks k)) ∧ Kept [] w2 wr) (fun _ i _ => t - (intOf i).toNat)
        case atStart => exact ⟨0, Nat.zero_le _, rfl, HZ0.out, HK3.out⟩
        case round =>
          clear HZ0 HK3
          obtain ⟨k, hk, rfl, hsl, hkept⟩ := hrel
          have HSL := Lib.hid hsl
          have HK := Lib.hid hkept
          clear hsl hkept
          by_cases hlt : k < t
          · go_wp2_with fail
            refine (sNeedStep_any (Nt.nats ns) (c : Int) (Nt.nats nd) (Nt.nats (Nt.needRun ns nd c ks k)) _ _ _ _ _ _ _ (HS2.out.stay HK.out) (HR2.out.stay HK.out) HSL.out).mono ?_
            rintro e w4 ⟨z4, rfl, hs4, hk4⟩
            rw [HNS.out k] at hs4
            have HS4 := Lib.hid (hs4.mono HK.out.size)
            have HK4 := Lib.hid (HK.out.trans hk4 (by simp))
            clear hs4 hk4
            go_wp2_with fail
            go_roundw
            case rel => exact ⟨k + 1, by omega, by go_num, HS4.out, HK4.out⟩
            case measure => simp [intOf]; omega
          · have hk' : k = t := by omega
            subst hk'
            go_wp2_with fail
            go_ret
            exact ⟨_, rfl, by rw [HF.out]; exact HSL.out.mono HK2.out.size, HK2.out.trans HK.out (by simp)⟩
end Go.Proofs.Ytgibncpgdbldnaa
