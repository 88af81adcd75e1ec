/-
  Walks: what an order is, by the program and by the model.
  Walks: states with other names, by the program and by the model.
  Walks: nets with other names, by the program and by the model.
  Walks: nets with other names, by the program and by the model.
  Walks: parts of nets, by the program and by the model.
  Walks: parts of nets, by the model.
-/
import Derived.Test.YtoeojopjdeclnaaKA
import Derived.Test.YtoeojopjdeclnaaPA
import Derived.Test.YtoeojopjdeclnaaNA
import Derived.StillTailTactics
import Derived.Deep.RegionWith
import Derived.Test.YtoeojopjdeclnaaNB
namespace Go.Proofs.Ytoeojopjdeclnaa
open Go.RowKit
open Nt (ordB ordB_iff ordB_no ordTo ordTo_succ)

theorem toNat_get (ys : List Int) (k : Nat) : (ys.map Int.toNat).getD k 0 = (ys.getD k 0).toNat := by
  simp only [List.getD_eq_getElem?_getD, List.getElem?_map]
  cases ys[k]? <;> rfl

theorem seen_some {n k m : Nat} {ys : List Int} (h : ordTo n ys k) (hb : (Nt.seenTo (ys.map Int.toNat) k).testBit m = true) : ∃ i, i < k ∧ ys.getD i 0 = (m : Int) := by
  obtain ⟨i, hi, e⟩ := (Nt.testBit_seenTo _ m k).1 hb
  rw [toNat_get] at e
  have := (h i hi).1.1
  exact ⟨i, hi, by omega⟩

theorem seen_none {k m : Nat} {ys : List Int} (hb : (Nt.seenTo (ys.map Int.toNat) k).testBit m = false) (i : Nat) (hi : i < k) : ys.getD i 0 ≠ (m : Int) := by
  intro e
  have := (Nt.testBit_seenTo (ys.map Int.toNat) m k).2 ⟨i, hi, by rw [toNat_get, e, Int.toNat_natCast]⟩
  rw [hb] at this
  cases this

theorem seen_lt {n : Nat} {ys : List Int} (h6 : n ≤ 6) : ∀ k, ordTo n ys k → Nt.seenTo (ys.map Int.toNat) k < 64
  | 0, _ => by simp [Nt.seenTo]
  | k + 1, h => by
    have ih := seen_lt h6 k fun i hi => h i (by omega)
    have h1 := (h k (by omega)).1
    rw [Nt.seenTo, toNat_get]
    exact or_small ih (by omega)

theorem seen_succ {k m : Nat} {ys : List Int} (e : ys.getD k 0 = (m : Int)) : Nt.seenTo (ys.map Int.toNat) (k + 1) = Nt.seenTo (ys.map Int.toNat) k ||| 2 ^ m := by
  rw [Nt.seenTo, toNat_get, e, Int.toNat_natCast]

set_option maxHeartbeats 1000000 in
theorem orderOk_any (n : Nat) (h6 : n ≤ 6) (ys : List Int) (w : World) (v : Value) (base : Nat) (hs : Sl w base v ys) :
    Calls Try.prog 55 #[.int .i64 (n : Int), v] w fun e w' => e = .returned (.bool (ordB n ys)) ∧ w = w' := by
  obtain ⟨a, cap, rfl, _, hm, hc⟩ := hs.any
  have HC := Lib.hid hc
  clear hc hs
  by_cases hl : ys.length = n
  · have h0 : ((ys.length : Int) != (n : Int)) = false := by simp [hl]
    have HL := Lib.hid hl
    clear hl
    go_enter Try.func55, Try.ntmps55
    go_wp2
    go_loop [5, 14] (fun s i => ∃ k : Nat, k ≤ ys.length ∧ i = .int .i64 k ∧ s = .int .i64 ((Nt.seenTo (ys.map Int.toNat) k : Nat) : Int) ∧ ordTo n ys k) (fun _ i => ys.length - (intOf i).toNat)
    case atStart => exact ⟨0, Nat.zero_le _, rfl, rfl, fun j hj => absurd hj (by omega)⟩
    case round =>
      obtain ⟨k, hk, rfl, rfl, hto⟩ := hrel
      have hs64 := seen_lt h6 k hto
      have HT := Lib.hid hto
      clear hto
      by_cases hlt : k < ys.length
      · obtain ⟨g, rfl, _, _, hcell, _⟩ := HC.out k hlt
        by_cases h3 : ys.getD k 0 < 0
        · generalize hb : ys.getD k 0 = b at *
          have HB := Lib.hid hb
          clear hb
          go_wp2
          go_ret
          exact ⟨by rw [ordB_no (fun h => by have := (h.2 k hlt).1.1; rw [HB.out] at this; omega)]; rfl, rfl⟩
        · obtain ⟨m, hm2⟩ := Int.eq_ofNat_of_zero_le (show 0 ≤ ys.getD k 0 by omega)
          have HS := Lib.hid (seen_succ hm2)
          have HB := Lib.hid hm2
          rw [hm2] at hcell
          clear h3 hm2
          by_cases h4 : m < n
          · have hn : ¬ (n : Int) ≤ (m : Int) := by omega
            have HSO := Lib.hid (fun hb => seen_some (m := m) HT.out hb)
            have HNO := Lib.hid (fun hb => seen_none (k := k) (m := m) (ys := ys) hb)
            have HE := Lib.hid (or_shl (Nt.seenTo (ys.map Int.toNat) k) m hs64 (by omega))
            generalize Nt.seenTo (ys.map Int.toNat) k = s at *
            cases hbit : s.testBit m
            · go_wp2_with (go_at_call 70; refine (hasNode_nat s m _ (by omega)).mono ?_; rintro e w' ⟨rfl, rfl⟩; rw [hbit])
              go_round
              case rel => exact ⟨k + 1, by omega, by go_num, by rw [HS.out, ← HE.out], ordTo_succ HT.out (by rw [HB.out]; omega) (by rw [HB.out]; exact HNO.out hbit)⟩
              case measure => simp [intOf]; omega
            · go_wp2_with (go_at_call 70; refine (hasNode_nat s m _ (by omega)).mono ?_; rintro e w' ⟨rfl, rfl⟩; rw [hbit])
              go_ret
              exact ⟨by rw [ordB_no (fun h => by obtain ⟨i, hi, e⟩ := HSO.out hbit; exact (h.2 k hlt).2 i hi (by rw [e, HB.out]))]; rfl, rfl⟩
          · have hn : (n : Int) ≤ (m : Int) := by omega
            go_wp2
            go_ret
            exact ⟨by rw [ordB_no (fun h => by have := (h.2 k hlt).1.2; rw [HB.out] at this; omega)]; rfl, rfl⟩
      · have hk' : k = ys.length := by omega
        subst hk'
        go_wp2
        go_ret
        exact ⟨by rw [ordB_iff.2 ⟨HL.out, HT.out⟩]; rfl, rfl⟩
  · have h0 : ((ys.length : Int) != (n : Int)) = true := by simp; omega
    have HNO := Lib.hid (ordB_no (n := n) (ys := ys) (fun h => hl h.1))
    clear hl
    go_enter Try.func55, Try.ntmps55
    go_wp2
    go_ret
    exact ⟨by rw [HNO.out]; rfl, rfl⟩

end Go.Proofs.Ytoeojopjdeclnaa

namespace Go.Proofs.Ytoeojopjdeclnaa
open Go.RowKit
open Nt (stB ordB)

set_option maxHeartbeats 2000000 in
theorem iNamedSt_any (kinds : Int) (xs ys : List Int) (w : World) (v u : Value) (base base' : Nat) (hs : Sl w base v xs) (ht : Sl w base' u ys) :
    Calls Try.prog 30 #[.int .i64 kinds, v, u] w fun e w' => ∃ z, e = .returned (.tuple #[z, .bool (Nt.canNameSt kinds xs ys)]) ∧ Sl w' w.heap.size z (Nt.namedStOf kinds xs ys) ∧ Kept [] w w' := by
  have HS := Lib.hid hs
  have HT := Lib.hid ht
  by_cases ho : stB kinds xs = true
  · have h6x : xs.length ≤ 6 := (Nt.stB_iff.1 ho).2.1.2
    by_cases ho2 : ordB xs.length ys = true
    · obtain ⟨c, ks, rfl, rfl, hst⟩ := Nt.stB_st ho
      obtain ⟨os, rfl, hord⟩ := Nt.ordB_ord ho2
      rw [Nt.nats_length] at hord h6x ho2
      have hlo := hord.len
      have hpos := hst.some
      have HF := Lib.hid (Nt.namedStOf_ok hst hord)
      have HY := Lib.hid (Nt.canNameSt_yes hst hord)
      have HO := Lib.hid hord
      obtain ⟨n, hn⟩ : ∃ n, n = ks.length := ⟨_, rfl⟩
      rw [← hn] at hlo hpos h6x ho2
      obtain ⟨g, cap, rfl, hg, hc⟩ := hs.row hn.symm hpos
      obtain ⟨g2, cap2, rfl, hg2, hd⟩ := ht.row hlo hpos
      have HC := Lib.hid hc
      have HD := Lib.hid hd
      have HN := Lib.hid hn
      clear hs ht hc hd hst hord hlo hn
      go_enter Try.func30, Try.ntmps30
      go_wp2_with fail
      refine (iStateOk_any (c : Int) (Nt.nats ks) _ _ base HS.out).mono ?_
      rintro e w' ⟨rfl, rfl⟩
      rw [ho]
      go_wp2_with fail
      refine (orderOk_any n h6x (Nt.nats os) _ _ base' HT.out).mono ?_
      rintro e w' ⟨rfl, rfl⟩
      rw [ho2]
      clear ho ho2
      go_wp2_with (at_make; refine make_int w n rfl _ _ rfl rfl rfl ?_ ?_)
      · omega
      · intro w1 hs1 hk1 _
        rw [← put_zero n os (fun k => ks.getD k 0)] at hs1
        have HS1 := Lib.hid hs1
        have HK1 := Lib.hid hk1
        clear hs1 hk1
        go_wp2
        go_loopw [27] (fun i wr => ∃ k : Nat, k ≤ n ∧ i = .int .i64 k ∧ Sl wr w.heap.size (.slice (some ⟨w.heap.size, 0, none⟩) n n) (Nt.nats (Nt.putTo n os (fun k => ks.getD k 0) k)) ∧ Kept [] w wr) (fun i _ => n - (intOf i).toNat)
        case atStart => exact ⟨0, Nat.zero_le _, rfl, HS1.out, HK1.out⟩
        case round =>
          clear HS1 HK1
          obtain ⟨k, hk, rfl, hsl, hkept⟩ := hrel
          have HSL := Lib.hid hsl
          have HK := Lib.hid hkept
          by_cases hlt : k < n
          · have hlk : os.getD k 0 < n := by have := HO.out.lt k (by rw [← HN.out]; exact hlt); rw [← HN.out] at this; exact this
            have hck := (hkept.cell (p := ⟨g, k, none⟩) hg (by simp)).trans (HC.out k hlt)
            have hdk := (hkept.cell (p := ⟨g2, k, none⟩) hg2 (by simp)).trans (HD.out k hlt)
            obtain ⟨hcell, hfr⟩ := hsl.at (os.getD k 0) (by rw [Nt.nats_length, Nt.putTo_length]; exact hlk)
            have HSET : Hid (Nt.putTo n os (fun k => ks.getD k 0) (k + 1) = (Nt.putTo n os (fun k => ks.getD k 0) k).set (os.getD k 0) (ks.getD k 0)) := Lib.hid rfl
            clear hsl hkept
            generalize (Nt.nats (Nt.putTo n os (fun k => ks.getD k 0) k)).getD (os.getD k 0) 0 = z at *
            generalize hx : ks.getD k 0 = x at *
            generalize hy : os.getD k 0 = y at *
            clear hx hy
            go_wp2
            go_roundw
            case rel => exact ⟨k + 1, by omega, by go_num, by rw [HSET.out, Nt.nats_set]; exact HSL.out.set (by rw [Nt.nats_length, Nt.putTo_length]) _ _, HK.out.setCell (.inr (Nat.le_refl _)) _⟩
            case measure => simp [intOf]; omega
          · have hk' : k = n := by omega
            subst hk'
            clear hsl hkept
            go_wp2
            go_ret2
            exact ⟨_, by rw [HY.out]; rfl, by rw [HF.out]; unfold Nt.namedSt Nt.put; rw [← HN.out]; exact HSL.out, HK.out⟩
    · have ho2' : ordB xs.length ys = false := by simpa using ho2
      have HNO := Lib.hid (Nt.canNameSt_no2 (kinds := kinds) ho2')
      obtain ⟨a, cap, rfl, _, hm, _⟩ := hs.any
      obtain ⟨b, cap2, rfl, _, hm2, _⟩ := ht.any
      clear hs ht ho2
      go_enter Try.func30, Try.ntmps30
      go_wp2_with fail
      refine (iStateOk_any kinds xs _ _ base HS.out).mono ?_
      rintro e w' ⟨rfl, rfl⟩
      rw [ho]
      go_wp2_with fail
      refine (orderOk_any xs.length h6x ys _ _ base' HT.out).mono ?_
      rintro e w' ⟨rfl, rfl⟩
      rw [ho2']
      clear ho ho2'
      go_wp2
      go_ret2
      exact ⟨_, by rw [HNO.out]; rfl, by rw [Nt.namedStOf_no HNO.out]; exact Sl.nil _ _, Kept.refl _ _⟩
  · have ho' : stB kinds xs = false := by simpa using ho
    have HNO := Lib.hid (Nt.canNameSt_no1 (ys := ys) ho')
    obtain ⟨a, cap, rfl, _, hm, _⟩ := hs.any
    obtain ⟨b, cap2, rfl, _, hm2, _⟩ := ht.any
    clear hs ht ho
    go_enter Try.func30, Try.ntmps30
    go_wp2_with fail
    refine (iStateOk_any kinds xs _ _ base HS.out).mono ?_
    rintro e w' ⟨rfl, rfl⟩
    rw [ho']
    clear ho'
    go_wp2
    go_ret2
    exact ⟨_, by rw [HNO.out]; rfl, by rw [Nt.namedStOf_no HNO.out]; exact Sl.nil _ _, Kept.refl _ _⟩

end Go.Proofs.Ytoeojopjdeclnaa

namespace Go.Proofs.Ytoeojopjdeclnaa
open Go.RowKit
open Nt (okB ordB)

theorem nset_small {n : Nat} {os : List Nat} (h : Nt.Ord n os) (h6 : n ≤ 6) (s k : Nat) (hk : k ≤ n) : Nt.nsetTo os s k < 64 :=
  Nat.lt_of_lt_of_le (Nt.nsetTo_lt h s k hk) (Nt.pow_le h6)

set_option maxHeartbeats 1000000 in
theorem namedSet_any (n : Nat) (h6 : n ≤ 6) (hp : 0 < n) (os : List Nat) (ho : Nt.Ord n os) (s : Nat) (w : World) (v : Value) (base : Nat) (hs : Sl w base v (Nt.nats os)) :
    Calls Try.prog 56 #[.int .i64 (s : Int), v] w fun e w' => e = .returned (.int .i64 ((Nt.nset os s : Nat) : Int)) ∧ w' = w := by
  obtain ⟨g, cap, rfl, hg, hc⟩ := hs.row ho.len hp
  have HC := Lib.hid hc
  have HO := Lib.hid ho
  have HE : Hid (Nt.nset os s = Nt.nsetTo os s n) := Lib.hid (by unfold Nt.nset; rw [ho.len])
  clear hs hc ho
  go_enter Try.func56, Try.ntmps56
  go_wp2
  go_loop [5, 10] (fun q i => ∃ k : Nat, k ≤ n ∧ i = .int .i64 k ∧ q = .int .i64 ((Nt.nsetTo os s k : Nat) : Int)) (fun _ i => n - (intOf i).toNat)
  case atStart => exact ⟨0, Nat.zero_le _, rfl, rfl⟩
  case round =>
    obtain ⟨k, hk, rfl, rfl⟩ := hrel
    by_cases hlt : k < n
    · have hck := HC.out k hlt
      have hlo := HO.out.lt k hlt
      have hsm := nset_small HO.out h6 s k hk
      have HS : Hid (Nt.nsetTo os s (k + 1) = if s.testBit k then Nt.nsetTo os s k ||| 2 ^ os.getD k 0 else Nt.nsetTo os s k) := Lib.hid rfl
      generalize Nt.nsetTo os s k = q at *
      generalize os.getD k 0 = x at *
      have HX := Lib.hid (or_shl q x hsm (by omega))
      cases hb : s.testBit k
      · go_wp2_with (go_at_call 70; refine (hasNode_nat s k _ (by omega)).mono ?_; rintro e w' ⟨rfl, rfl⟩; rw [hb])
        go_round
        case rel => exact ⟨k + 1, by omega, by go_num, by rw [HS.out, hb]; rfl⟩
        case measure => simp [intOf]; omega
      · go_wp2_with (go_at_call 70; refine (hasNode_nat s k _ (by omega)).mono ?_; rintro e w' ⟨rfl, rfl⟩; rw [hb])
        go_round
        case rel => exact ⟨k + 1, by omega, by go_num, by rw [HS.out, hb, HX.out]; rfl⟩
        case measure => simp [intOf]; omega
    · have hk' : k = n := by omega
      subst hk'
      go_wp2
      go_ret
      exact ⟨by rw [HE.out]; rfl, rfl⟩

end Go.Proofs.Ytoeojopjdeclnaa

namespace Go.Proofs.Ytoeojopjdeclnaa
open Go.RowKit
open Nt (okB ordB)

theorem okB_len {xs : List Int} (h : okB xs = true) : 1 ≤ xs.length ∧ xs.length ≤ 6 := by
  obtain ⟨ns, rfl, ok⟩ := Nt.okB_ok h
  rw [Nt.nats_length]
  exact ⟨ok.some, ok.few⟩

set_option maxHeartbeats 2000000 in
theorem iNamed_any (xs ys : List Int) (w : World) (v u : Value) (base base' : Nat) (hs : Sl w base v xs) (ht : Sl w base' u ys) :
    Calls Try.prog 29 #[v, u] w fun e w' => ∃ z, e = .returned (.tuple #[z, .bool (Nt.canName xs ys)]) ∧ Sl w' w.heap.size z (Nt.namedL xs ys) ∧ Kept [] w w' := by
  have HS := Lib.hid hs
  have HT := Lib.hid ht
  by_cases ho : okB xs = true
  · have h6x : xs.length ≤ 6 := (okB_len ho).2
    by_cases ho2 : ordB xs.length ys = true
    · obtain ⟨ks, rfl, hst⟩ := Nt.okB_ok ho
      obtain ⟨os, rfl, hord⟩ := Nt.ordB_ord ho2
      rw [Nt.nats_length] at hord h6x ho2
      have hlo := hord.len
      have hpos := hst.some
      have HF := Lib.hid (Nt.namedL_ok hst hord)
      have HY := Lib.hid (Nt.canName_yes hst hord)
      have HO := Lib.hid hord
      obtain ⟨n, hn⟩ : ∃ n, n = ks.length := ⟨_, rfl⟩
      rw [← hn] at hlo hpos h6x ho2
      obtain ⟨g, cap, rfl, hg, hc⟩ := hs.row hn.symm hpos
      obtain ⟨g2, cap2, rfl, hg2, hd⟩ := ht.row hlo hpos
      have HC := Lib.hid hc
      have HD := Lib.hid hd
      have HN := Lib.hid hn
      have HOn : Hid (Nt.Ord n os) := Lib.hid (by rw [hn]; exact hord)
      clear hs ht hc hd hst hord hlo hn
      go_enter Try.func29, Try.ntmps29
      go_wp2_with fail
      refine (iNetOk_any (Nt.nats ks) _ _ base HS.out).mono ?_
      rintro e w' ⟨rfl, rfl⟩
      rw [ho]
      go_wp2_with fail
      refine (orderOk_any n h6x (Nt.nats os) _ _ base' HT.out).mono ?_
      rintro e w' ⟨rfl, rfl⟩
      rw [ho2]
      clear ho ho2
      go_wp2_with (at_make; refine make_int w n rfl _ _ rfl rfl rfl ?_ ?_)
      · omega
      · intro w1 hs1 hk1 _
        rw [← put_zero n os (fun k => Nt.nset os (ks.getD k 0))] at hs1
        have HS1 := Lib.hid hs1
        have HK1 := Lib.hid hk1
        clear hs1 hk1
        go_wp2
        go_loopw [24] (fun i wr => ∃ k : Nat, k ≤ n ∧ i = .int .i64 k ∧ Sl wr w.heap.size (.slice (some ⟨w.heap.size, 0, none⟩) n n) (Nt.nats (Nt.putTo n os (fun k => Nt.nset os (ks.getD k 0)) k)) ∧ Kept [] w wr) (fun i _ => n - (intOf i).toNat)
        case atStart => exact ⟨0, Nat.zero_le _, rfl, HS1.out, HK1.out⟩
        case round =>
          clear HS1 HK1
          obtain ⟨k, hk, rfl, hsl, hkept⟩ := hrel
          have HSL := Lib.hid hsl
          have HK := Lib.hid hkept
          by_cases hlt : k < n
          · have hlk : os.getD k 0 < n := by have := HO.out.lt k (by rw [← HN.out]; exact hlt); rw [← HN.out] at this; exact this
            have hck := (hkept.cell (p := ⟨g, k, none⟩) hg (by simp)).trans (HC.out k hlt)
            have hdk := (hkept.cell (p := ⟨g2, k, none⟩) hg2 (by simp)).trans (HD.out k hlt)
            obtain ⟨hcell, hfr⟩ := hsl.at (os.getD k 0) (by rw [Nt.nats_length, Nt.putTo_length]; exact hlk)
            have HSET : Hid (Nt.putTo n os (fun k => Nt.nset os (ks.getD k 0)) (k + 1) = (Nt.putTo n os (fun k => Nt.nset os (ks.getD k 0)) k).set (os.getD k 0) (Nt.nset os (ks.getD k 0))) := Lib.hid rfl
            have HTX : Hid (Sl wr.drew base' (.slice (some ⟨g2, 0, none⟩) n cap2) (Nt.nats os)) := Lib.hid (HT.out.stay hkept.drew)
            clear hsl hkept
            generalize (Nt.nats (Nt.putTo n os (fun k => Nt.nset os (ks.getD k 0)) k)).getD (os.getD k 0) 0 = z at *
            generalize hx : ks.getD k 0 = x at *
            generalize hy : os.getD k 0 = y at *
            clear hx hy
            have HSLd : Hid (Sl wr.drew w.heap.size (.slice (some ⟨w.heap.size, 0, none⟩) n n) (Nt.nats (Nt.putTo n os (fun k => Nt.nset os (ks.getD k 0)) k))) := HSL
            have HKd := Lib.hid HK.out.drew
            have hcell2 : wr.drew.cell? ⟨w.heap.size, y, none⟩ = some (.int .i64 z) := hcell
            have hfr2 : wr.drew.frozen? ⟨w.heap.size, y, none⟩ = false := hfr
            go_wp2_with fail
            go_still_tail 9, (by kernel_rfl)
            still_call (namedSet_any n h6x hpos os HOn.out x _ _ base' HTX.out)
            repeat still_step
            refine wpStill_nil ?_
            change wpList _ _ _ _ _ wr.drew
            clear hcell hfr HSL HK hck hdk HTX
            generalize wr.drew = w2 at *
            go_wp2
            go_roundw
            case rel => exact ⟨k + 1, by omega, by go_num, by rw [HSET.out, Nt.nats_set]; exact HSLd.out.set (by rw [Nt.nats_length, Nt.putTo_length]) _ _, HKd.out.setCell (.inr (Nat.le_refl _)) _⟩
            case measure => simp [intOf]; omega
          · have hk' : k = n := by omega
            subst hk'
            clear hsl hkept
            go_wp2
            go_ret2
            exact ⟨_, by rw [HY.out]; rfl, by rw [HF.out]; unfold Nt.named Nt.put; rw [← HN.out]; exact HSL.out, HK.out⟩
    · have ho2' : ordB xs.length ys = false := by simpa using ho2
      have HNO := Lib.hid (Nt.canName_no2 ho2')
      obtain ⟨a, cap, rfl, _, hm, _⟩ := hs.any
      obtain ⟨b, cap2, rfl, _, hm2, _⟩ := ht.any
      clear hs ht ho2
      go_enter Try.func29, Try.ntmps29
      go_wp2_with fail
      refine (iNetOk_any xs _ _ base HS.out).mono ?_
      rintro e w' ⟨rfl, rfl⟩
      rw [ho]
      go_wp2_with fail
      refine (orderOk_any xs.length h6x ys _ _ base' HT.out).mono ?_
      rintro e w' ⟨rfl, rfl⟩
      rw [ho2']
      clear ho ho2'
      go_wp2
      go_ret2
      exact ⟨_, by rw [HNO.out]; rfl, by rw [Nt.namedL_no HNO.out]; exact Sl.nil _ _, Kept.refl _ _⟩
  · have ho' : okB xs = false := by simpa using ho
    have HNO := Lib.hid (Nt.canName_no1 (ys := ys) ho')
    obtain ⟨a, cap, rfl, _, hm, _⟩ := hs.any
    obtain ⟨b, cap2, rfl, _, hm2, _⟩ := ht.any
    clear hs ht ho
    go_enter Try.func29, Try.ntmps29
    go_wp2_with fail
    refine (iNetOk_any xs _ _ base HS.out).mono ?_
    rintro e w' ⟨rfl, rfl⟩
    rw [ho']
    clear ho'
    go_wp2
    go_ret2
    exact ⟨_, by rw [HNO.out]; rfl, by rw [Nt.namedL_no HNO.out]; exact Sl.nil _ _, Kept.refl _ _⟩

end Go.Proofs.Ytoeojopjdeclnaa

namespace Go.Proofs.Ytoeojopjdeclnaa
open Go.RowKit
open Nt (okB)

/-- Each node its own label, up to a place. -/
def ownTo (n k : Nat) : List Nat := List.range k ++ List.replicate (n - k) 0
theorem ownTo_zero (n : Nat) : ownTo n 0 = List.replicate n 0 := by simp [ownTo]
theorem ownTo_end (n : Nat) : ownTo n n = List.range n := by simp [ownTo]
theorem ownTo_length (n k : Nat) (h : k ≤ n) : (ownTo n k).length = n := by simp [ownTo]; omega
theorem ownTo_set (n k : Nat) (h : k < n) : (ownTo n k).set k k = ownTo n (k + 1) := by
  have e : n - k = (n - (k + 1)) + 1 := by omega
  unfold ownTo
  rw [List.set_append_right _ _ (by simp), List.length_range, Nat.sub_self, e, List.replicate_succ, List.set_cons_zero, List.range_succ, List.append_assoc]
  rfl

theorem labIn_length {ns : List Nat} (ok : Nt.Ok ns) {k : Nat} (hk : k < ns.length) (j : Nat) (hj : j ≤ k) : (Nt.labIn ns k (Nt.labOut ns k) j).length = ns.length :=
  (Nt.lab_in ok hk (Nt.lab_out ok k (by omega)) j hj).len

end Go.Proofs.Ytoeojopjdeclnaa

namespace Go.Proofs.Ytoeojopjdeclnaa
open Go.RowKit
open Nt (okB)

theorem pow_wrap {k : Nat} (h : k ≤ 6) : wrap64 (2 ^ k) = ((2 ^ k : Nat) : Int) := by
  have h := wrap_pow k (by omega) (by omega)
  rw [Int.toNat_natCast] at h
  rw [h]
  exact (Int.natCast_pow 2 k).symm

theorem dist_self {ns : List Nat} (k : Nat) : Nt.dist ns (2 ^ k) 64 k = 0 := Nt.dist_zero.2 ((Nt.bit_pow k k).2 rfl)

end Go.Proofs.Ytoeojopjdeclnaa
