/-
  Walks: what an order is, by the program and by the model.
  Walks: states with other names, by the program and by the model.
  Walks: nets with other names, by the program and by the model.
  Walks: nets with other names, by the program and by the model.
  Walks: parts of nets, by the program and by the model.
  Walks: parts of nets, by the model.
-/
import Derived.Test.YtllbdhfckdljgaaKA
import Derived.Test.YtllbdhfckdljgaaPA
import Derived.Test.YtllbdhfckdljgaaNA
import Derived.StillTailTactics
import Derived.Deep.RegionWith
import Derived.Test.YtllbdhfckdljgaaNB
namespace Go.Proofs.Ytllbdhfckdljgaa
open Go.RowKit
open Nt (ordB ordB_iff ordB_no ordTo ordTo_succ)

theorem toNat_get (ys : List Int) (k : Nat) : (ys.map Int.toNat).getD k 0 = (ys.getD k 0).toNat := by
  simp only [List.getD_eq_getElem?_getD, List.getElem?_map]
  cases ys[k]? <;> rfl

theorem seen_some {n k m : Nat} {ys : List Int} (h : ordTo n ys k) (hb : (Nt.seenTo (ys.map Int.toNat) k).testBit m = true) : ∃ i, i < k ∧ ys.getD i 0 = (m : Int) := by
  obtain ⟨i, hi, e⟩ := (Nt.testBit_seenTo _ m k).1 hb
  rw [toNat_get] at e
  have := (h i hi).1.1
  exact ⟨i, hi, by omega⟩

theorem seen_none {k m : Nat} {ys : List Int} (hb : (Nt.seenTo (ys.map Int.toNat) k).testBit m = false) (i : Nat) (hi : i < k) : ys.getD i 0 ≠ (m : Int) := by
  intro e
  have := (Nt.testBit_seenTo (ys.map Int.toNat) m k).2 ⟨i, hi, by rw [toNat_get, e, Int.toNat_natCast]⟩
  rw [hb] at this
  cases this

theorem seen_lt {n : Nat} {ys : List Int} (h6 : n ≤ 6) : ∀ k, ordTo n ys k → Nt.seenTo (ys.map Int.toNat) k < 64
  | 0, _ => by simp [Nt.seenTo]
  | k + 1, h => by
    have ih := seen_lt h6 k fun i hi => h i (by omega)
    have h1 := (h k (by omega)).1
    rw [Nt.seenTo, toNat_get]
    exact or_small ih (by omega)

theorem seen_succ {k m : Nat} {ys : List Int} (e : ys.getD k 0 = (m : Int)) : Nt.seenTo (ys.map Int.toNat) (k + 1) = Nt.seenTo (ys.map Int.toNat) k ||| 2 ^ m := by
  rw [Nt.seenTo, toNat_get, e, Int.toNat_natCast]

end Go.Proofs.Ytllbdhfckdljgaa

namespace Go.Proofs.Ytllbdhfckdljgaa
open Go.RowKit
open Nt (stB ordB)

end Go.Proofs.Ytllbdhfckdljgaa

namespace Go.Proofs.Ytllbdhfckdljgaa
open Go.RowKit
open Nt (okB ordB)

theorem nset_small {n : Nat} {os : List Nat} (h : Nt.Ord n os) (h6 : n ≤ 6) (s k : Nat) (hk : k ≤ n) : Nt.nsetTo os s k < 64 :=
  Nat.lt_of_lt_of_le (Nt.nsetTo_lt h s k hk) (Nt.pow_le h6)

end Go.Proofs.Ytllbdhfckdljgaa

namespace Go.Proofs.Ytllbdhfckdljgaa
open Go.RowKit
open Nt (okB ordB)

theorem okB_len {xs : List Int} (h : okB xs = true) : 1 ≤ xs.length ∧ xs.length ≤ 6 := by
  obtain ⟨ns, rfl, ok⟩ := Nt.okB_ok h
  rw [Nt.nats_length]
  exact ⟨ok.some, ok.few⟩

end Go.Proofs.Ytllbdhfckdljgaa

namespace Go.Proofs.Ytllbdhfckdljgaa
open Go.RowKit
open Nt (okB)

set_option maxHeartbeats 1000000 in
set_option maxRecDepth 100000 in
theorem mergeLabels_any (n : Nat) (hp : 0 < n) (h6 : n ≤ 6) (ls : List Nat) (hl : ls.length = n) (x y : Nat) (w : World) (g cap : Nat) (base : Nat) (hs : Sl w base (.slice (some ⟨g, 0, none⟩) n cap) (Nt.nats ls)) :
    Calls Try.prog 80 #[.slice (some ⟨g, 0, none⟩) n cap, .int .i64 (x : Int), .int .i64 (y : Int)] w fun e w' => e = .returned (.tuple #[]) ∧ Sl w' base (.slice (some ⟨g, 0, none⟩) n cap) (Nt.nats (Nt.merge ls x y)) ∧ Kept [g] w w' := by
  have HS := Lib.hid hs
  have HL := Lib.hid hl
  clear hs hl
  have hcase : ((x : Int) ≤ (y : Int) ∧ min x y = x) ∨ ((y : Int) < (x : Int) ∧ min x y = y) := by omega
  rcases hcase with ⟨hxy, hmm⟩ | ⟨hxy, hmm⟩
  all_goals
    have HMM := Lib.hid hmm
    clear hmm
    go_enter Try.func80, Try.ntmps80
    go_wp2
    go_loopw [14] (fun i wr => ∃ k : Nat, k ≤ n ∧ i = .int .i64 k ∧ Sl wr base (.slice (some ⟨g, 0, none⟩) n cap) (Nt.nats (Nt.mergeTo ls x y k)) ∧ Kept [g] w wr) (fun i _ => n - (intOf i).toNat)
    case atStart => exact ⟨0, Nat.zero_le _, rfl, by rw [Nt.mergeTo_zero]; exact HS.out, Kept.refl _ _⟩
    case round =>
      obtain ⟨k, hk, rfl, hsl, hkept⟩ := hrel
      have HSL := Lib.hid hsl
      have HK := Lib.hid hkept
      clear hkept
      by_cases hlt : k < n
      · have hkl : k < ls.length := by rw [HL.out]; exact hlt
        obtain ⟨hcell, hfr⟩ := hsl.at k (by rw [Nt.nats_length, Nt.mergeTo_length]; exact hkl)
        rw [Nt.nats_get, Nt.mergeTo_get _ _ _ _ hkl] at hcell
        have HSET := Lib.hid (Nt.mergeTo_set ls x y k hkl)
        have HKEEP := Lib.hid (fun h => Nt.mergeTo_keep ls x y k hkl h)
        have HLN : Hid (n = (Nt.nats (Nt.mergeTo ls x y k)).length) := Lib.hid (by rw [Nt.nats_length, Nt.mergeTo_length]; exact HL.out.symm)
        clear hsl hkl
        generalize ls.getD k 0 = l at *
        by_cases h1 : l = x
        · have HMR : Hid (Nt.mrg x y l = min x y) := Lib.hid (by unfold Nt.mrg; rw [if_pos (.inl h1)])
          have b1 : ((l : Int) == (x : Int)) = true := by simp [h1]
          clear h1
          go_wp2
          go_roundw
          case rel => exact ⟨k + 1, by omega, by go_num, by rw [← HSET.out, Nt.nats_set, HMR.out, HMM.out]; exact HSL.out.set HLN.out k _, HK.out.setCell (.inl (by simp)) _⟩
          case measure => simp [intOf]; omega
        · have b1 : ((l : Int) == (x : Int)) = false := by simp; omega
          by_cases h2 : l = y
          · have HMR : Hid (Nt.mrg x y l = min x y) := Lib.hid (by unfold Nt.mrg; rw [if_pos (.inr h2)])
            have b2 : ((l : Int) == (y : Int)) = true := by simp [h2]
            clear h1 h2
            go_wp2
            go_roundw
            case rel => exact ⟨k + 1, by omega, by go_num, by rw [← HSET.out, Nt.nats_set, HMR.out, HMM.out]; exact HSL.out.set HLN.out k _, HK.out.setCell (.inl (by simp)) _⟩
            case measure => simp [intOf]; omega
          · have b2 : ((l : Int) == (y : Int)) = false := by simp; omega
            have HKE := Lib.hid (HKEEP.out (by rintro (h | h); exact h1 h; exact h2 h))
            clear h1 h2
            go_wp2
            go_roundw
            case rel => exact ⟨k + 1, by omega, by go_num, by rw [← HKE.out]; exact HSL.out, HK.out⟩
            case measure => simp [intOf]; omega
      · have hk' : k = n := by omega
        subst hk'
        clear hsl
        go_wp2
        go_end0
        exact ⟨rfl, by have h := HSL.out; rw [← HL.out, Nt.mergeTo_end] at h; rw [← HL.out]; exact h, HK.out⟩

/-- Each node its own label, up to a place. -/
def ownTo (n k : Nat) : List Nat := List.range k ++ List.replicate (n - k) 0
theorem ownTo_zero (n : Nat) : ownTo n 0 = List.replicate n 0 := by simp [ownTo]
theorem ownTo_end (n : Nat) : ownTo n n = List.range n := by simp [ownTo]
theorem ownTo_length (n k : Nat) (h : k ≤ n) : (ownTo n k).length = n := by simp [ownTo]; omega
theorem ownTo_set (n k : Nat) (h : k < n) : (ownTo n k).set k k = ownTo n (k + 1) := by
  have e : n - k = (n - (k + 1)) + 1 := by omega
  unfold ownTo
  rw [List.set_append_right _ _ (by simp), List.length_range, Nat.sub_self, e, List.replicate_succ, List.set_cons_zero, List.range_succ, List.append_assoc]
  rfl

theorem labIn_length {ns : List Nat} (ok : Nt.Ok ns) {k : Nat} (hk : k < ns.length) (j : Nat) (hj : j ≤ k) : (Nt.labIn ns k (Nt.labOut ns k) j).length = ns.length :=
  (Nt.lab_in ok hk (Nt.lab_out ok k (by omega)) j hj).len

set_option maxHeartbeats 4000000 in
set_option maxRecDepth 100000 in
theorem iParts_any (xs : List Int) (w : World) (v : Value) (base : Nat) (hs : Sl w base v xs) :
    Calls Try.prog 75 #[v] w fun e w' => ∃ u, e = .returned u ∧ Sl w' w.heap.size u (Nt.partsOf xs) ∧ Kept [] w w' := by
  have HS := Lib.hid hs
  by_cases ho : okB xs = true
  · obtain ⟨ns, rfl, hok⟩ := Nt.okB_ok ho
    have HF := Lib.hid (Nt.partsOf_ok hok)
    have HOK := Lib.hid hok
    obtain ⟨n, hn⟩ : ∃ n, n = ns.length := ⟨_, rfl⟩
    have hp := hok.some
    have h6 := hok.few
    rw [← hn] at hp h6
    obtain ⟨g, cap, rfl, hg, hc⟩ := hs.row hn.symm hp
    have HC := Lib.hid hc
    have HN := Lib.hid hn
    clear hs hok hc hn
    go_enter Try.func75, Try.ntmps75
    go_wp2_with fail
    refine (iNetOk_any (Nt.nats ns) _ _ base HS.out).mono ?_
    rintro e w' ⟨rfl, rfl⟩
    rw [ho]
    clear ho
    go_wp2_with (at_make; refine make_int w n rfl _ _ rfl rfl rfl ?_ ?_)
    · omega
    · intro w1 hs1 hk1 _
      have hs2 : Sl w1 w.heap.size (.slice (some ⟨w.heap.size, 0, none⟩) n n) (Nt.nats (ownTo n 0)) := by
        rw [ownTo_zero, nats_zeros]; exact hs1
      have HS1 := Lib.hid hs2
      have HK1 := Lib.hid hk1
      clear hs1 hk1 hs2
      go_wp2
      go_loopw [16] (fun i wr => ∃ k : Nat, k ≤ n ∧ i = .int .i64 k ∧ Sl wr w.heap.size (.slice (some ⟨w.heap.size, 0, none⟩) n n) (Nt.nats (ownTo n k)) ∧ Kept [] w wr) (fun i _ => n - (intOf i).toNat)
      case atStart => exact ⟨0, Nat.zero_le _, rfl, HS1.out, HK1.out⟩
      case round =>
        clear HS1 HK1
        obtain ⟨k, hk, rfl, hsl, hkept⟩ := hrel
        have HSL := Lib.hid hsl
        have HK := Lib.hid hkept
        by_cases hlt : k < n
        · obtain ⟨hcell, hfr⟩ := hsl.at k (by rw [Nt.nats_length, ownTo_length _ _ hk]; exact hlt)
          have HSET := Lib.hid (ownTo_set n k hlt)
          have HLN : Hid (n = (Nt.nats (ownTo n k)).length) := Lib.hid (by rw [Nt.nats_length, ownTo_length _ _ hk])
          clear hsl hkept
          generalize (Nt.nats (ownTo n k)).getD k 0 = z at *
          go_wp2
          go_roundw
          case rel => exact ⟨k + 1, by omega, by go_num, by rw [← HSET.out, Nt.nats_set]; exact HSL.out.set HLN.out k _, HK.out.setCell (.inr (Nat.le_refl _)) _⟩
          case measure => simp [intOf]; omega
        · have hk' : k = n := by omega
          subst hk'
          have HSL2 : Hid (Sl wr w.heap.size (.slice (some ⟨w.heap.size, 0, none⟩) k k) (Nt.nats (Nt.labOut ns 0))) := Lib.hid (by
            rw [ownTo_end] at hsl
            unfold Nt.labOut
            rw [← HN.out]
            exact hsl)
          clear hsl hkept HSL hlt hk
          obtain ⟨n, rfl⟩ : ∃ n, n = k := ⟨_, rfl⟩
          go_wp2
          go_loopw [26] (fun i wr => ∃ k : Nat, k ≤ n ∧ i = .int .i64 k ∧ Sl wr w.heap.size (.slice (some ⟨w.heap.size, 0, none⟩) n n) (Nt.nats (Nt.labOut ns k)) ∧ Kept [] w wr) (fun i _ => n - (intOf i).toNat)
          case atStart => exact ⟨0, Nat.zero_le _, rfl, HSL2.out, HK.out⟩
          case round =>
            clear HSL2 HK
            obtain ⟨k, hk, rfl, hsl, hkept⟩ := hrel
            have HSL := Lib.hid hsl
            have HK := Lib.hid hkept
            by_cases hlt : k < n
            · have hck := (hkept.cell (p := ⟨g, k, none⟩) hg (by simp)).trans (HC.out k hlt)
              have HKN : Hid (k < ns.length) := Lib.hid (by rw [← HN.out]; exact hlt)
              clear hsl hkept
              generalize hx : ns.getD k 0 = x at *
              have HX := Lib.hid hx
              clear hx
              go_wp2
              go_loopw [32] (fun i wr => ∃ j : Nat, j ≤ k ∧ i = .int .i64 j ∧ Sl wr w.heap.size (.slice (some ⟨w.heap.size, 0, none⟩) n n) (Nt.nats (Nt.labIn ns k (Nt.labOut ns k) j)) ∧ Kept [] w wr) (fun i _ => k - (intOf i).toNat)
              case atStart => exact ⟨0, Nat.zero_le _, rfl, HSL.out, HK.out⟩
              case round =>
                clear HSL HK hck
                obtain ⟨j, hj, rfl, hsl, hkept⟩ := hrel
                have HSL := Lib.hid hsl
                have HK := Lib.hid hkept
                by_cases hjlt : j < k
                · have hjn : j < n := by omega
                  have HLEN := Lib.hid (labIn_length HOK.out HKN.out j (by omega))
                  obtain ⟨ck, _⟩ := hsl.at k (by rw [Nt.nats_length, HLEN.out]; exact HKN.out)
                  obtain ⟨cj, _⟩ := hsl.at j (by rw [Nt.nats_length, HLEN.out, ← HN.out]; exact hjn)
                  rw [Nt.nats_get] at ck cj
                  have HSUC : Hid (Nt.labIn ns k (Nt.labOut ns k) (j + 1) = if (ns.getD k 0).testBit j then Nt.merge (Nt.labIn ns k (Nt.labOut ns k) j) ((Nt.labIn ns k (Nt.labOut ns k) j).getD k 0) ((Nt.labIn ns k (Nt.labOut ns k) j).getD j 0) else Nt.labIn ns k (Nt.labOut ns k) j) := Lib.hid rfl
                  have HSLd : Hid (Sl wr.drew w.heap.size (.slice (some ⟨w.heap.size, 0, none⟩) n n) (Nt.nats (Nt.labIn ns k (Nt.labOut ns k) j))) := HSL
                  have HKd := Lib.hid HK.out.drew
                  clear hsl hkept
                  generalize (Nt.labIn ns k (Nt.labOut ns k) j).getD k 0 = p at *
                  generalize (Nt.labIn ns k (Nt.labOut ns k) j).getD j 0 = q at *
                  cases hb : x.testBit j
                  · have HBB : Hid ((ns.getD k 0).testBit j = false) := Lib.hid (by rw [HX.out]; exact hb)
                    go_wp2_with (go_at_call 45; refine (hasNode_nat x j _ (by omega)).mono ?_; rintro e w' ⟨rfl, rfl⟩; rw [hb])
                    go_roundw
                    case rel => exact ⟨j + 1, by omega, by go_num, by rw [HSUC.out, HBB.out]; exact HSL.out, HK.out⟩
                    case measure => simp [intOf]; omega
                  · have HBB : Hid ((ns.getD k 0).testBit j = true) := Lib.hid (by rw [HX.out]; exact hb)
                    go_wp2_with (go_at_call 45; refine (hasNode_nat x j _ (by omega)).mono ?_; rintro e w' ⟨rfl, rfl⟩; rw [hb])
                    go_still_tail 9, (by kernel_rfl)
                    change wpList _ _ _ _ _ wr.drew
                    clear ck cj HSL HK
                    generalize wr.drew = w2 at *
                    go_wp2_with (go_at_call 80; refine (mergeLabels_any n hp h6 _ (by rw [HLEN.out]; exact HN.out.symm) p q _ _ _ _ HSLd.out).mono ?_; rintro e w3 ⟨rfl, hs3, hk3⟩; have HS3 := Lib.hid hs3; have HK3 := Lib.hid hk3; clear hs3 hk3)
                    go_roundw
                    case rel => exact ⟨j + 1, by omega, by go_num, by rw [HSUC.out, HBB.out]; exact HS3.out, HKd.out.trans HK3.out (fun x hx => by right; simp at hx; omega)⟩
                    case measure => simp [intOf]; omega
                · have hj' : j = k := by omega
                  subst hj'
                  clear hsl hkept
                  go_wp2
                  go_roundw
                  case rel => exact ⟨j + 1, by omega, by go_num, HSL.out, HK.out⟩
                  case measure => simp [intOf]; omega
            · have hk' : k = n := by omega
              subst hk'
              clear hsl hkept
              go_wp2
              go_ret
              exact ⟨_, rfl, by rw [HF.out]; unfold Nt.parts; rw [← HN.out]; exact HSL.out, HK.out⟩
  · have ho' : okB xs = false := by simpa using ho
    have HF := Lib.hid (Nt.partsOf_no ho')
    obtain ⟨a, cap, rfl, _, hm, _⟩ := hs.any
    clear ho hs
    go_enter Try.func75, Try.ntmps75
    go_wp2_with fail
    refine (iNetOk_any xs _ _ base HS.out).mono ?_
    rintro e w' ⟨rfl, rfl⟩
    rw [ho']
    clear ho'
    go_wp2
    go_ret
    exact ⟨_, rfl, by rw [HF.out]; exact Sl.nil _ _, Kept.refl _ _⟩
end Go.Proofs.Ytllbdhfckdljgaa

namespace Go.Proofs.Ytllbdhfckdljgaa
open Go.RowKit
open Nt (okB)

theorem pow_wrap {k : Nat} (h : k ≤ 6) : wrap64 (2 ^ k) = ((2 ^ k : Nat) : Int) := by
  have h := wrap_pow k (by omega) (by omega)
  rw [Int.toNat_natCast] at h
  rw [h]
  exact (Int.natCast_pow 2 k).symm

theorem dist_self {ns : List Nat} (k : Nat) : Nt.dist ns (2 ^ k) 64 k = 0 := Nt.dist_zero.2 ((Nt.bit_pow k k).2 rfl)

end Go.Proofs.Ytllbdhfckdljgaa
