/-
  Walks: the neighbours of a set, by the program and by the model.
  Walks: distances, by the model.
  Walks: distances, by the program; and both for all numbers.
  Walks: distances, for all numbers.
  Walks: paths and rings.
  Walks: paths and rings, by the program and by the model.
  Walks: paths and rings, by the model.
  Walks: rings, by the model.
-/
import Derived.Test.YtnajdbnacdnnlaaGreatDoorNA
import Derived.Test.YtnajdbnacdnnlaaGreatDoorKA
import Derived.RegionTactic
import Derived.ChangeAlike
namespace Go.Proofs.YtnajdbnacdnnlaaGreatDoor
open Go.RowKit
open Nt (okB)

set_option maxHeartbeats 1000000 in
set_option maxRecDepth 100000 in
theorem l1Near_any (ns : List Nat) (hok : Nt.Ok ns) (set : Nat) (w : World) (v : Value) (base : Nat) (hs : Sl w base v (Nt.nats ns)) :
    Calls Tryz.prog 210 #[v, .int .i64 set] w fun e w' => e = .returned (.int .i64 ((Nt.near ns set : Nat) : Int)) ∧ w = w' := by
  have hfew := hok.few
  obtain ⟨g, cap, rfl, _, _, _, hc⟩ := hs.net (by have := hok.some; omega)
  have HOK := Lib.hid hok
  have HC := Lib.hid hc
  clear hok hc hs
  go_enter Tryz.func210, Tryz.ntmps210
  go_wp2
  go_loop [5, 6] (fun a i => ∃ k : Nat, k ≤ ns.length ∧ i = .int .i64 k ∧ a = .int .i64 ((Nt.nearTo ns set k : Nat) : Int)) (fun _ i => ns.length - (intOf i).toNat)
  case atStart => exact ⟨0, Nat.zero_le _, rfl, rfl⟩
  case round =>
    obtain ⟨k, hk, rfl, rfl⟩ := hrel
    by_cases hlt : k < ns.length
    · have hcell := HC.out k hlt
      have hb1 := Nt.nearTo_small HOK.out set k hk
      have hb2 := HOK.out.get_lt k
      have HN : Hid (Nt.nearTo ns set (k + 1) = if set.testBit k then Nt.nearTo ns set k ||| ns.getD k 0 else Nt.nearTo ns set k) := rfl
      have HOR := Lib.hid (bits_or_nat (Nt.nearTo ns set k) (ns.getD k 0) (by omega) (by omega))
      have p1 := shr_nonneg set k
      have e1 := shr_bit set k
      generalize Nt.nearTo ns set k = x at *
      generalize ns.getD k 0 = y at *
      by_cases hb : set.testBit k = true
      · rw [if_pos hb] at e1
        have HB := Lib.hid hb
        clear hb
        go_wp2
        go_round
        case rel => exact ⟨k + 1, by omega, by go_num, by rw [HN.out, if_pos HB.out, HOR.out]⟩
        case measure => simp [intOf]; omega
      · rw [if_neg hb] at e1
        have HB := Lib.hid hb
        clear hb
        go_wp2
        go_round
        case rel => exact ⟨k + 1, by omega, by go_num, by rw [HN.out, if_neg HB.out]⟩
        case measure => simp [intOf]; omega
    · have hk' : k = ns.length := by omega
      subst hk'
      go_wp2
      go_ret
      exact ⟨rfl, rfl⟩


end Go.Proofs.YtnajdbnacdnnlaaGreatDoor

namespace Go.Proofs.YtnajdbnacdnnlaaGreatDoor
open Go.RowKit

set_option maxHeartbeats 2000000 in
set_option maxRecDepth 100000 in
theorem l1Far_any (ns : List Nat) (hok : Nt.Ok ns) (set : Nat) (hset : set < 2 ^ ns.length) (w : World) (v : Value) (base : Nat) (hs : Sl w base v (Nt.nats ns)) :
    Calls Tryz.prog 174 #[v, .int .i64 set] w fun e w' => ∃ u, e = .returned u ∧ Sl w' w.heap.size u (Nt.far ns set) ∧ Kept [] w w' := by
  have hfew := hok.few
  have hpos := hok.some
  have HS := Lib.hid hs
  obtain ⟨g, cap, rfl, _, _, _, hc⟩ := hs.net (by omega)
  have HOK := Lib.hid hok
  have HSET := Lib.hid hset
  clear hok hc hs hset
  go_enter Tryz.func174, Tryz.ntmps174
  go_wp2
  go_loopw [5, 6] (fun u i wr => ∃ k : Nat, k ≤ ns.length ∧ i = .int .i64 k ∧ Sl wr w.heap.size u (List.replicate k (-1)) ∧ Kept [] w wr) (fun _ i _ => ns.length - (intOf i).toNat)
  case atStart =>
    exact ⟨0, Nat.zero_le _, rfl, Sl.lit w [] (by simp), (Kept.refl _ _).alloc _⟩
  case round =>
    obtain ⟨k, hk, rfl, hsl, hkept⟩ := hrel
    have HSL := Lib.hid hsl
    have HK := Lib.hid hkept
    clear hsl hkept
    by_cases hlt : k < ns.length
    · have hsz := HK.out.size
      go_wp2_with (at_builtin; refine app_int (-1) rfl _ _ rfl w.heap.size _ (List.replicate k (-1)) HSL.out rfl rfl ?_ ?_ ?_)
      · simp; omega
      · omega
      · intro u' w1 hs1 hk1
        have HS1 := Lib.hid hs1
        have HK1 := Lib.hid hk1
        clear hs1 hk1
        go_wp2
        go_roundw
        case rel => exact ⟨k + 1, by omega, by go_num, by rw [List.replicate_succ']; exact HS1.out, HK.out.own HK1.out (fun g hg => (HSL.out.block hg).1)⟩
        case measure => simp [intOf]; omega
    · have hk' : k = ns.length := by omega
      subst hk'
      clear hlt hk
      have hs0 := HSL.out
      rw [← Nt.rowAt_zero ns set] at hs0
      have HS0 := Lib.hid hs0
      obtain ⟨g', cap', hu, hg', _⟩ := hs0.shape (Nt.rowAt_length ns set 0) (by omega)
      subst hu
      clear hs0 HSL
      go_wp2
      go_loopw [7, 8, 9, 10] (fun c f t _ wr => ∃ k : Nat, k ≤ Nt.come ns set k ∧ c = .int .i64 ((Nt.come ns set k : Nat) : Int) ∧ f = .int .i64 ((Nt.front ns set k : Nat) : Int) ∧ t = .int .i64 k ∧
          Sl wr w.heap.size (.slice (some ⟨g', 0, none⟩) ns.length cap') (Nt.rowAt ns set k) ∧ Kept [] w wr) (fun _ _ t _ _ => 64 - (intOf t).toNat)
      case atStart => exact ⟨0, Nat.zero_le _, rfl, rfl, rfl, HS0.out, HK.out⟩
      case round =>
        clear HS0 HK
        obtain ⟨t, htc, rfl, rfl, rfl, hsl, hkept⟩ := hrel
        have HSL := Lib.hid hsl
        have HK := Lib.hid hkept
        clear hsl hkept
        have hb1 := (Nt.come_lt HOK.out HSET.out t).1
        have hb2 := (Nt.come_lt HOK.out HSET.out t).2
        have hb3 := (Nt.come_lt HOK.out HSET.out (t + 1)).1
        have hb4 := Nt.near_lt HOK.out (Nt.front ns set t)
        have h64 := Nt.pow_le HOK.out.few
        have eor := bits_or_nat (Nt.come ns set t) (Nt.front ns set t) (by omega) (by omega)
        rw [← Nt.come_succ] at eor
        have enot := bits_andNot_nat (Nt.near ns (Nt.front ns set t)) (Nt.come ns set (t + 1)) (by omega) (by omega)
        rw [← Nt.front_succ] at enot
        have hle : t < 64 := by omega
        by_cases hf : Nt.front ns set t = 0
        · have hf0 : ((Nt.front ns set t : Int) != 0) = false := by simp [hf]
          have HF := Lib.hid hf
          have ht64 : t ≤ 64 := by omega
          clear hf eor enot hb1 hb2 hb3 hb4 h64
          generalize Nt.come ns set t = c at *
          go_wp2
          go_ret
          exact ⟨_, rfl, by rw [← Nt.far_end HF.out ht64]; exact HSL.out, HK.out⟩
        · have hf0 : ((Nt.front ns set t : Int) != 0) = true := by simp [hf]
          have HMORE := Lib.hid (Nt.come_more hf)
          have HTC := Lib.hid htc
          have hs0 := HSL.out
          rw [← Nt.midRow_zero] at hs0
          have HS0 := Lib.hid hs0
          have HBIT := Lib.hid (fun k => shr_bit (Nt.front ns set t) k)
          have HPOS := Lib.hid (fun k => shr_nonneg (Nt.front ns set t) k)
          have HH := Lib.hid (fun k (h : (Nt.front ns set t).testBit k = true) => Nt.midRow_hit h)
          have HM := Lib.hid (fun k (h : (Nt.front ns set t).testBit k = false) => Nt.midRow_miss h)
          clear hf hs0 HSL htc
          generalize Nt.come ns set t = c at *
          generalize hce1 : Nt.come ns set (t + 1) = c1 at *
          generalize hfe : Nt.front ns set t = f at *
          generalize hfe1 : Nt.front ns set (t + 1) = f1 at *
          have HFE := Lib.hid hfe
          have HFE1 := Lib.hid hfe1
          have HCE1 := Lib.hid hce1
          clear hfe hfe1 hce1
          have EOR := Lib.hid eor
          have ENOT := Lib.hid enot
          clear eor enot
          go_wp2
          go_loopw [10] (fun i wr => ∃ k : Nat, k ≤ ns.length ∧ i = .int .i64 k ∧ Sl wr w.heap.size (.slice (some ⟨g', 0, none⟩) ns.length cap') (Nt.midRow ns set t k) ∧ Kept [] w wr) (fun i _ => ns.length - (intOf i).toNat)
          case atStart => exact ⟨0, Nat.zero_le _, rfl, HS0.out, HK.out⟩
          case round =>
            clear HS0 HK
            obtain ⟨k, hk, rfl, hsl, hkept⟩ := hrel
            have HSL := Lib.hid hsl
            have HK := Lib.hid hkept
            clear hkept
            by_cases hlt : k < ns.length
            · have p1 := HPOS.out k
              have e1 := HBIT.out k
              obtain ⟨hcell, hfr⟩ := hsl.at k (by rw [Nt.midRow_length]; exact hlt)
              clear hsl
              cases hb : f.testBit k
              · rw [hb] at e1
                simp only [Bool.false_eq_true, if_false] at e1
                have HB := Lib.hid hb
                clear hb
                go_wp2
                go_roundw
                case rel => exact ⟨k + 1, by omega, by go_num, by rw [← HM.out k HB.out]; exact HSL.out, HK.out⟩
                case measure => simp [intOf]; omega
              · rw [hb] at e1
                simp only [if_true] at e1
                have HB := Lib.hid hb
                clear hb
                go_wp2
                go_roundw
                case rel => exact ⟨k + 1, by omega, by go_num, by rw [← HH.out k HB.out]; exact HSL.out.set (Nt.midRow_length ns set t k).symm k t, HK.out.setCell (.inr hg') _⟩
                case measure => simp [intOf]; omega
            · have hk' : k = ns.length := by omega
              subst hk'
              have hs1 := HSL.out
              rw [Nt.midRow_end] at hs1
              have HS1 := Lib.hid hs1
              clear hs1 hsl HSL
              have eor := EOR.out
              have enot := ENOT.out
              go_wp2_with (go_at_call 210; refine (l1Near_any ns HOK.out f _ _ base (HS.out.stay HK.out)).mono ?_; rintro e w' ⟨rfl, rfl⟩)
              go_roundw
              case rel => exact ⟨t + 1, by have h1 := HMORE.out; have h2 := HTC.out; rw [HCE1.out]; omega, by rw [HCE1.out], by rw [HFE1.out], by go_num, HS1.out, HK.out⟩
              case measure => simp [intOf]; omega
end Go.Proofs.YtnajdbnacdnnlaaGreatDoor

namespace Go.Proofs.YtnajdbnacdnnlaaGreatDoor
open Go.RowKit

/-- Filled up to k. -/
def fillTo (n k : Nat) : List Int := List.replicate k (-1) ++ List.replicate (n - k) 0
theorem fillTo_length (n k : Nat) (h : k ≤ n) : (fillTo n k).length = n := by simp [fillTo]; omega
theorem fillTo_set (n k : Nat) (h : k < n) : (fillTo n k).set k (-1) = fillTo n (k + 1) := by
  unfold fillTo
  rw [List.set_append_right _ _ (by simp)]
  have e : n - k = (n - (k + 1)) + 1 := by omega
  rw [e, List.length_replicate, Nat.sub_self, List.replicate_succ, List.set_cons_zero, List.replicate_succ', List.append_assoc]
  rfl

set_option maxHeartbeats 2000000 in
set_option maxRecDepth 100000 in
theorem iFar_ok (ns : List Nat) (hok : Nt.Ok ns) (set : Nat) (hset : set < 2 ^ ns.length) (w : World) (v : Value) (base : Nat) (hs : Sl w base v (Nt.nats ns)) :
    Calls Tryz.prog 235 #[v, .int .i64 set] w fun e w' => ∃ u, e = .returned u ∧ Sl w' w.heap.size u (Nt.far ns set) ∧ Kept [] w w' := by
  have hfew := hok.few
  have hpos := hok.some
  have HS := Lib.hid hs
  obtain ⟨g, cap, rfl, _, _, _, hc⟩ := hs.net (by omega)
  have HOK := Lib.hid hok
  have HSET := Lib.hid hset
  have ho : Nt.okB (Nt.nats ns) = true := Nt.ok_okB hok
  have hd : decide ((0 : Int) ≤ (set : Int) ∧ (set : Int) < 2 ^ (ns.length : Int).toNat) = true := dec_of ⟨by omega, by rw [Int.toNat_natCast]; exact_mod_cast hset⟩
  clear hok hc hs hset
  go_enter Tryz.func235, Tryz.ntmps235
  go_wp2_with (first | (go_at_call 73; refine (iNetOk_any _ _ _ base HS.out).mono ?_; rintro e w' ⟨rfl, rfl⟩; rw [ho]) | (go_at_call 121; refine (setOk_any _ _ _ (by omega) (by omega)).mono ?_; rintro e w' ⟨rfl, rfl⟩; rw [hd]) | (at_make; refine make_int w ns.length rfl _ _ rfl rfl rfl ?_ ?_))
  · omega
  · intro w1 hs1 hk1 _
    have HS1 := Lib.hid hs1
    have HK1 := Lib.hid hk1
    clear hs1 hk1
    go_wp2
    go_loopw [26] (fun i wr => ∃ k : Nat, k ≤ ns.length ∧ i = .int .i64 k ∧ Sl wr w.heap.size (.slice (some ⟨w.heap.size, 0, none⟩) ns.length ns.length) (fillTo ns.length k) ∧ Kept [] w wr) (fun i _ => ns.length - (intOf i).toNat)
    case atStart => exact ⟨0, Nat.zero_le _, rfl, by simpa [fillTo] using HS1.out, HK1.out⟩
    case round =>
      clear HS1 HK1
      obtain ⟨k, hk, rfl, hsl, hkept⟩ := hrel
      have HSL := Lib.hid hsl
      have HK := Lib.hid hkept
      clear hkept
      by_cases hlt : k < ns.length
      · obtain ⟨hcell, hfr⟩ := hsl.at k (by rw [fillTo_length _ _ hk]; exact hlt)
        clear hsl
        go_wp2
        go_roundw
        case rel => exact ⟨k + 1, by omega, by go_num, by rw [← fillTo_set _ _ hlt]; exact HSL.out.set (fillTo_length _ _ hk).symm k (-1), HK.out.setCell (.inr (Nat.le_refl _)) _⟩
        case measure => simp [intOf]; omega
      · have hk' : k = ns.length := by omega
        subst hk'
        clear hlt hk hsl
        have hs0 := HSL.out
        have ef : fillTo ns.length ns.length = Nt.rowAt ns set 0 := by rw [Nt.rowAt_zero]; simp [fillTo]
        rw [ef] at hs0
        have HS0 := Lib.hid hs0
        clear hs0 HSL ef
        go_wp2
        go_loopw [7, 8, 9, 10] (fun c f t _ wr => ∃ k : Nat, k ≤ Nt.come ns set k ∧ c = .int .i64 ((Nt.come ns set k : Nat) : Int) ∧ f = .int .i64 ((Nt.front ns set k : Nat) : Int) ∧ t = .int .i64 k ∧
            Sl wr w.heap.size (.slice (some ⟨w.heap.size, 0, none⟩) ns.length ns.length) (Nt.rowAt ns set k) ∧ Kept [] w wr) (fun _ _ t _ _ => 64 - (intOf t).toNat)
        case atStart => exact ⟨0, Nat.zero_le _, rfl, rfl, rfl, HS0.out, HK.out⟩
        case round =>
          clear HS0 HK
          obtain ⟨t, htc, rfl, rfl, rfl, hsl, hkept⟩ := hrel
          have HSL := Lib.hid hsl
          have HK := Lib.hid hkept
          clear hsl hkept
          have hb1 := (Nt.come_lt HOK.out HSET.out t).1
          have hb2 := (Nt.come_lt HOK.out HSET.out t).2
          have hb3 := (Nt.come_lt HOK.out HSET.out (t + 1)).1
          have hb4 := Nt.near_lt HOK.out (Nt.front ns set t)
          have h64 := Nt.pow_le HOK.out.few
          have eor := bits_or_nat (Nt.come ns set t) (Nt.front ns set t) (by omega) (by omega)
          rw [← Nt.come_succ] at eor
          have enot := bits_andNot_nat (Nt.near ns (Nt.front ns set t)) (Nt.come ns set (t + 1)) (by omega) (by omega)
          rw [← Nt.front_succ] at enot
          have hle : t < 64 := by omega
          by_cases hf : Nt.front ns set t = 0
          · have hf0 : ((Nt.front ns set t : Int) != 0) = false := by simp [hf]
            have HF := Lib.hid hf
            have ht64 : t ≤ 64 := by omega
            clear hf eor enot hb1 hb2 hb3 hb4 h64
            generalize Nt.come ns set t = c at *
            go_wp2
            go_ret
            exact ⟨_, rfl, by rw [← Nt.far_end HF.out ht64]; exact HSL.out, HK.out⟩
          · have hf0 : ((Nt.front ns set t : Int) != 0) = true := by simp [hf]
            have HMORE := Lib.hid (Nt.come_more hf)
            have HTC := Lib.hid htc
            have hs0 := HSL.out
            rw [← Nt.midRow_zero] at hs0
            have HS0 := Lib.hid hs0
            have HH := Lib.hid (fun k (h : (Nt.front ns set t).testBit k = true) => Nt.midRow_hit h)
            have HM := Lib.hid (fun k (h : (Nt.front ns set t).testBit k = false) => Nt.midRow_miss h)
            clear hf hs0 HSL htc
            generalize Nt.come ns set t = c at *
            generalize hce1 : Nt.come ns set (t + 1) = c1 at *
            generalize hfe : Nt.front ns set t = f at *
            generalize hfe1 : Nt.front ns set (t + 1) = f1 at *
            have HFE := Lib.hid hfe
            have HFE1 := Lib.hid hfe1
            have HCE1 := Lib.hid hce1
            clear hfe hfe1 hce1
            have EOR := Lib.hid eor
            have ENOT := Lib.hid enot
            clear enot
            go_wp2
            clear eor
            go_loopw [43] (fun i wr => ∃ k : Nat, k ≤ ns.length ∧ i = .int .i64 k ∧ Sl wr w.heap.size (.slice (some ⟨w.heap.size, 0, none⟩) ns.length ns.length) (Nt.midRow ns set t k) ∧ Kept [] w wr) (fun i _ => ns.length - (intOf i).toNat)
            case atStart => exact ⟨0, Nat.zero_le _, rfl, HS0.out, HK.out⟩
            case round =>
              clear HS0 HK
              obtain ⟨k, hk, rfl, hsl, hkept⟩ := hrel
              have HSL := Lib.hid hsl
              have HK := Lib.hid hkept
              clear hkept
              by_cases hlt : k < ns.length
              · obtain ⟨hcell, hfr⟩ := hsl.at k (by rw [Nt.midRow_length]; exact hlt)
                clear hsl
                cases hb : f.testBit k
                · have HB := Lib.hid hb
                  go_wp2_with (go_at_call 171; refine (hasNode_nat f k _ (by omega)).mono ?_; rintro e w' ⟨rfl, rfl⟩)
                  go_roundw
                  case rel => exact ⟨k + 1, by omega, by go_num, by rw [← HM.out k HB.out]; exact HSL.out, HK.out⟩
                  case measure => simp [intOf]; omega
                · have HB := Lib.hid hb
                  go_wp2_with (go_at_call 171; refine (hasNode_nat f k _ (by omega)).mono ?_; rintro e w' ⟨rfl, rfl⟩)
                  go_roundw
                  case rel => exact ⟨k + 1, by omega, by go_num, by rw [← HH.out k HB.out]; exact HSL.out.set (Nt.midRow_length ns set t k).symm k t, HK.out.setCell (.inr (Nat.le_refl _)) _⟩
                  case measure => simp [intOf]; omega
              · have hk' : k = ns.length := by omega
                subst hk'
                have hs1 := HSL.out
                rw [Nt.midRow_end] at hs1
                have HS1 := Lib.hid hs1
                clear hs1 hsl HSL
                have enot := ENOT.out
                go_wp2_with (go_at_call 221; refine (nearSet_any ns HOK.out f _ _ base (HS.out.stay HK.out)).mono ?_; rintro e w' ⟨rfl, rfl⟩)
                go_roundw
                case rel => exact ⟨t + 1, by have h1 := HMORE.out; have h2 := HTC.out; rw [HCE1.out]; omega, by rw [HCE1.out], by rw [HFE1.out], by go_num, HS1.out, HK.out⟩
                case measure => simp [intOf]; omega
end Go.Proofs.YtnajdbnacdnnlaaGreatDoor

namespace Go.Proofs.YtnajdbnacdnnlaaGreatDoor
open Go.RowKit

theorem Nt.farOf_small (xs : List Int) (set : Int) : (Nt.farOf xs set).length ≤ 2000000 := by
  unfold Nt.farOf
  split
  · rename_i h
    obtain ⟨ns, rfl, hok⟩ := Nt.okB_ok h.1
    rw [Nt.far_length, Nt.nats_toNat]
    have := hok.few
    omega
  · simp

set_option maxHeartbeats 1000000 in
set_option maxRecDepth 100000 in
theorem iFar_any (xs : List Int) (set : Int) (w : World) (v : Value) (base : Nat) (hs : Sl w base v xs) :
    Calls Tryz.prog 235 #[v, .int .i64 set] w fun e w' => ∃ u, e = .returned u ∧ Sl w' w.heap.size u (Nt.farOf xs set) ∧ Kept [] w w' := by
  by_cases ho : Nt.okB xs = true
  · obtain ⟨ns, rfl, hok⟩ := Nt.okB_ok ho
    have hfew := hok.few
    by_cases h1 : 0 ≤ set ∧ set < 2 ^ (Nt.nats ns).length
    · obtain ⟨m, rfl⟩ := Int.eq_ofNat_of_zero_le h1.1
      have hm : m < 2 ^ ns.length := by rw [Nt.nats_length] at h1; exact_mod_cast h1.2
      rw [Nt.farOf_ok hok hm]
      exact iFar_ok ns hok m hm w v base hs
    · have hd : decide (0 ≤ set ∧ set < 2 ^ ((Nt.nats ns).length : Int).toNat) = false := dec_not (by simpa using h1)
      have HF := Lib.hid (Nt.farOf_no (xs := Nt.nats ns) (set := set) (fun h => h1 ⟨h.2.1, h.2.2⟩))
      have h6 : (Nt.nats ns).length ≤ 6 := by rw [Nt.nats_length]; exact hfew
      have HS := Lib.hid hs
      obtain ⟨a, cap, rfl, _, _, _⟩ := hs.any
      clear h1 hok hs hfew
      go_enter Tryz.func235, Tryz.ntmps235
      go_wp2_with (first | (go_at_call 73; refine (iNetOk_any (Nt.nats ns) _ _ base HS.out).mono ?_; rintro e w' ⟨rfl, rfl⟩) | (go_at_call 121; refine (setOk_any _ _ _ (by omega) (by omega)).mono ?_; rintro e w' ⟨rfl, rfl⟩; rw [hd]))
      go_ret
      exact ⟨_, rfl, by rw [HF.out]; exact Sl.nil _ _, Kept.refl _ _⟩
  · have ho' : Nt.okB xs = false := by simpa using ho
    have HF := Lib.hid (Nt.farOf_no (xs := xs) (set := set) (fun h => ho h.1))
    have HS := Lib.hid hs
    obtain ⟨a, cap, rfl, _, _, _⟩ := hs.any
    clear ho hs
    go_enter Tryz.func235, Tryz.ntmps235
    go_wp2_with (go_at_call 73; refine (iNetOk_any xs _ _ base HS.out).mono ?_; rintro e w' ⟨rfl, rfl⟩)
    go_ret
    exact ⟨_, rfl, by rw [HF.out]; exact Sl.nil _ _, Kept.refl _ _⟩

theorem Sl.empty (w : World) : Sl (w.alloc (.cells #[] 3)) w.heap.size (.slice (some ⟨w.heap.size, 0, none⟩) 0 0) [] := Sl.lit w [] (by simp)

theorem Sl.rebase {w w0 : World} {u : Value} {xs : List Int} (h : Sl w w0.heap.size u xs) {w1 : World} (hs : w1.heap.size ≤ w0.heap.size) : Sl w w1.heap.size u xs := h.mono hs

set_option maxHeartbeats 1000000 in
set_option maxRecDepth 100000 in
theorem sFar_any (xs : List Int) (set : Int) (w : World) (v : Value) (base : Nat) (hs : Sl w base v xs) :
    Calls Tryz.prog 135 #[v, .int .i64 set] w fun e w' => ∃ u, e = .returned u ∧ Sl w' w.heap.size u (Nt.farOf xs set) ∧ Kept [] w w' := by
  obtain ⟨a, cap, rfl, _, _, _⟩ := hs.any
  have HS := Lib.hid hs
  clear hs
  by_cases ho : Nt.okB xs = true
  · obtain ⟨ns, hns, hok⟩ := Nt.okB_ok ho
    have hfew : xs.length ≤ 6 := by rw [hns, Nt.nats_length]; exact hok.few
    have e1 := wrap_pow_nat xs.length (by omega)
    have e2 := wrap_pow_pred xs.length (by omega)
    rw [IntWalk.i64_left] at e1 e2
    by_cases h1 : 0 ≤ set ∧ set < 2 ^ xs.length
    · have hd : decide (0 ≤ set ∧ set ≤ 2 ^ xs.length - 1) = true := dec_of (by omega)
      obtain ⟨m, rfl⟩ := Int.eq_ofNat_of_zero_le h1.1
      have hm : m < 2 ^ ns.length := by rw [hns, Nt.nats_length] at h1; exact_mod_cast h1.2
      have HF := Lib.hid (Nt.farOf_ok hok hm)
      rw [← hns] at HF
      have HNS := Lib.hid hns
      have HOK := Lib.hid hok
      have HM := Lib.hid hm
      clear h1 hm hns hok
      go_enter Tryz.func135, Tryz.ntmps135
      go_wp2_with (first | (go_at_call 162; refine (sNetOk_any xs _ _ base HS.out).mono ?_; rintro e w1 ⟨rfl, hq⟩; have HQ := Lib.hid hq; clear hq) | (go_at_call 151; refine (l1In_any _ _ _ _).mono ?_; rintro e w' ⟨rfl, rfl⟩; rw [hd]) | (go_at_call 174; refine (l1Far_any ns HOK.out m HM.out _ _ base (by rw [← HNS.out]; exact HQ.out.sl HS.out)).mono ?_; rintro e w2 ⟨u, rfl, hs2, hk2⟩; have HS2 := Lib.hid hs2; have HK2 := Lib.hid hk2; clear hs2 hk2))
      go_ret
      exact ⟨_, rfl, by rw [HF.out]; exact HS2.out.mono (by rw [HQ.out.heap]; exact Nat.le_refl _), HQ.out.kept.trans HK2.out (by simp)⟩
    · have hd : decide (0 ≤ set ∧ set ≤ 2 ^ xs.length - 1) = false := dec_not (by omega)
      have HF := Lib.hid (Nt.farOf_no (xs := xs) (set := set) (fun h => h1 ⟨h.2.1, h.2.2⟩))
      clear h1 hns hok
      go_enter Tryz.func135, Tryz.ntmps135
      go_wp2_with (first | (go_at_call 162; refine (sNetOk_any xs _ _ base HS.out).mono ?_; rintro e w1 ⟨rfl, hq⟩; have HQ := Lib.hid hq; clear hq) | (go_at_call 151; refine (l1In_any _ _ _ _).mono ?_; rintro e w' ⟨rfl, rfl⟩; rw [hd]))
      go_ret
      exact ⟨_, rfl, by rw [HF.out]; exact (Sl.empty w1).mono (by rw [HQ.out.heap]; exact Nat.le_refl _), HQ.out.kept.alloc _⟩
  · have ho' : Nt.okB xs = false := by simpa using ho
    have HF := Lib.hid (Nt.farOf_no (xs := xs) (set := set) (fun h => ho h.1))
    clear ho
    go_enter Tryz.func135, Tryz.ntmps135
    go_wp2_with (go_at_call 162; refine (sNetOk_any xs _ _ base HS.out).mono ?_; rintro e w1 ⟨rfl, hq⟩; have HQ := Lib.hid hq; clear hq)
    go_ret
    exact ⟨_, rfl, by rw [HF.out]; exact (Sl.empty w1).mono (by rw [HQ.out.heap]; exact Nat.le_refl _), HQ.out.kept.alloc _⟩
end Go.Proofs.YtnajdbnacdnnlaaGreatDoor

namespace Go.Proofs.YtnajdbnacdnnlaaGreatDoor
open Go.RowKit

set_option maxHeartbeats 1000000 in
set_option maxRecDepth 100000 in
theorem addWire_any (ns : List Nat) (a b : Nat) (ha : a < ns.length) (hb : b < ns.length) (h6 : ns.length ≤ 6) (hne : a ≠ b) (hx : ns.getD a 0 < 64) (hy : ns.getD b 0 < 64) (w : World) (v : Value) (base : Nat) (hs : Sl w base v (Nt.nats ns)) :
    Calls Tryz.prog 141 #[v, .int .i64 a, .int .i64 b] w fun e w' => e = .returned (.tuple #[]) ∧ Sl w' base v (Nt.nats (Nt.wire ns a b)) ∧ Kept v.ownBlock.toList w w' := by
  obtain ⟨g, cap, rfl, hg, hgs⟩ := hs.shape (Nt.nats_length ns) (by omega)
  obtain ⟨ca, fa⟩ := hs.at a (by rw [Nt.nats_length]; exact ha)
  obtain ⟨cb, fb⟩ := hs.at b (by rw [Nt.nats_length]; exact hb)
  rw [Nt.nats_get] at ca cb
  have HS := Lib.hid hs
  generalize hxe : ns.getD a 0 = x at *
  generalize hye : ns.getD b 0 = y at *
  have HX := Lib.hid hxe
  have HY := Lib.hid hye
  have HNE := Lib.hid hne
  clear hs hxe hye hne
  have e1 := or_shl x b hx (by omega)
  have e2 := or_shl y a hy (by omega)
  have hs1 : Sl (w.setCell ⟨g, a, none⟩ (.int .i64 ((x ||| 2 ^ b : Nat) : Int))).drew base (.slice (some ⟨g, 0, none⟩) ns.length cap) (Nt.nats (ns.set a (x ||| 2 ^ b))) := by
    have h := HS.out.set (Nt.nats_length ns).symm a ((x ||| 2 ^ b : Nat) : Int)
    rw [Nt.nats_set]
    exact h
  have hk1 : Kept [g] w (w.setCell ⟨g, a, none⟩ (.int .i64 ((x ||| 2 ^ b : Nat) : Int))).drew := ((Kept.refl _ _).setCell (.inl (by simp)) _).drew
  have hyb : (ns.set a (x ||| 2 ^ b)).getD b 0 = y := by
    rw [← HY.out, List.getD_eq_getElem?_getD, List.getD_eq_getElem?_getD, List.getElem?_set_ne HNE.out]
  have HS1 := Lib.hid hs1
  have HK1 := Lib.hid hk1
  have HYB := Lib.hid hyb
  clear hs1 hk1 hyb
  go_enter Tryz.func141, Tryz.ntmps141
  go_wp2
  go_region
  clear e1
  generalize (w.setCell ⟨g, a, none⟩ (.int .i64 ((x ||| 2 ^ b : Nat) : Int))).drew = w1 at *
  obtain ⟨cb1, fb1⟩ := HS1.out.at b (by rw [Nt.nats_length]; simpa using hb)
  rw [Nt.nats_get, HYB.out] at cb1
  clear ca fa cb fb
  go_wp2
  go_region
  go_end0
  refine ⟨rfl, ?_, (HK1.out.setCell (.inl (by simp)) _).drew⟩
  have h := HS1.out.set (by rw [Nt.nats_length, List.length_set]) b ((y ||| 2 ^ a : Nat) : Int)
  unfold Nt.wire
  rw [HX.out, HYB.out, Nt.nats_set]
  exact h
end Go.Proofs.YtnajdbnacdnnlaaGreatDoor

namespace Go.Proofs.YtnajdbnacdnnlaaGreatDoor
open Go.RowKit

theorem pathOf_yes (n : Nat) (h : 1 ≤ n ∧ n ≤ 6) : Nt.pathOf (n : Int) = Nt.nats (Nt.pathN n) := by
  unfold Nt.pathOf
  rw [if_pos (by omega), Int.toNat_natCast]
theorem pathOf_no (n : Int) (h : ¬ (1 ≤ n ∧ n ≤ 6)) : Nt.pathOf n = [] := by
  unfold Nt.pathOf
  rw [if_neg h]
theorem ringOf_yes (n : Nat) (h : 3 ≤ n ∧ n ≤ 6) : Nt.ringOf (n : Int) = Nt.nats (Nt.ringN n) := by
  unfold Nt.ringOf
  rw [if_pos (by omega), Int.toNat_natCast]
theorem ringOf_no (n : Int) (h : ¬ (3 ≤ n ∧ n ≤ 6)) : Nt.ringOf n = [] := by
  unfold Nt.ringOf
  rw [if_neg h]

end Go.Proofs.YtnajdbnacdnnlaaGreatDoor

namespace Go.Proofs.YtnajdbnacdnnlaaGreatDoor
open Go.RowKit

theorem Sl.empty' (w : World) : Sl (w.alloc (.cells #[] 3)) w.heap.size (.slice (some ⟨w.heap.size, 0, none⟩) 0 0) [] := Sl.lit w [] (by simp)

theorem pow_lt64 {b : Nat} (h : b < 6) : 2 ^ b < 64 := Nat.pow_lt_pow_right (n := 6) (by omega) h

set_option maxHeartbeats 2000000 in
set_option maxRecDepth 100000 in
theorem sPath_any (n : Int) (w : World) :
    Calls Tryz.prog 188 #[.int .i64 n] w fun e w' => ∃ u, e = .returned u ∧ Sl w' w.heap.size u (Nt.pathOf n) ∧ Kept [] w w' := by
  by_cases h1 : 1 ≤ n ∧ n ≤ 6
  · obtain ⟨m, rfl⟩ := Int.eq_ofNat_of_zero_le (show 0 ≤ n by omega)
    have m1 : 1 ≤ m := by omega
    have m6 : m ≤ 6 := by omega
    have HF := Lib.hid (pathOf_yes m ⟨m1, m6⟩)
    have hd : decide ((1 : Int) ≤ (m : Int) ∧ (m : Int) ≤ 6) = true := dec_of h1
    clear h1
    go_enter Tryz.func188, Tryz.ntmps188
    go_wp2
    go_loopw [3, 4] (fun u i wr => ∃ k : Nat, k ≤ m ∧ i = .int .i64 k ∧ Sl wr w.heap.size u (Nt.nats ((Nt.pathN m).take k)) ∧ Kept [] w wr) (fun _ i _ => m - (intOf i).toNat)
    case atStart => exact ⟨0, Nat.zero_le _, rfl, Sl.empty' w, (Kept.refl _ _).alloc _⟩
    case round =>
      obtain ⟨k, hk, rfl, hsl, hkept⟩ := hrel
      have HSL := Lib.hid hsl
      have HK := Lib.hid hkept
      have hsz := hkept.size
      clear hsl hkept
      by_cases hlt : k < m
      · have HT := Lib.hid (Nt.take_more (Nt.pathN m) k (by rw [Nt.pathN_length]; exact hlt))
        have HG := Lib.hid (Nt.pathN_get m k hlt)
        have hl : (Nt.nats ((Nt.pathN m).take k)).length ≤ 1000000 := by rw [Nt.nats_length, List.length_take]; omega
        have HL := Lib.hid hl
        clear hl
        by_cases c1 : 0 < k <;> by_cases c2 : k + 1 < m
        all_goals
          go_wp2_with (first | (go_at_call 151; refine (l1In_any _ _ _ _).mono ?_; rintro e w' ⟨rfl, rfl⟩; rw [hd]) | (at_builtin; refine app_int _ rfl _ _ rfl w.heap.size _ _ HSL.out rfl rfl HL.out (by omega) ?_; intro u' w1 hs1 hk1; have HS1 := Lib.hid hs1; have HK1 := Lib.hid hk1; clear hs1 hk1))
          go_roundw
          case rel =>
            refine ⟨k + 1, by omega, by go_num, HS1.out.val ?_ HT.out, HK.out.own HK1.out (fun g hg => (HSL.out.block hg).1)⟩
            rw [HG.out]
            clear HG HT HL HSL HK HS1 HK1
            first
            | (rw [if_pos c1, if_pos c2, or_zero_shl _ (by omega)]; exact or_shl _ _ (pow_lt64 (by omega)) (by omega))
            | (rw [if_pos c1, if_neg c2, or_zero_shl _ (by omega), Nat.or_zero])
            | (rw [if_neg c1, if_pos c2, or_zero_shl _ (by omega), Nat.zero_or])
            | (rw [if_neg c1, if_neg c2]; rfl)
          case measure => simp [intOf]; omega
      · have hk' : k = m := by omega
        subst hk'
        go_wp2_with (go_at_call 151; refine (l1In_any _ _ _ _).mono ?_; rintro e w' ⟨rfl, rfl⟩; rw [hd])
        go_ret
        refine ⟨_, rfl, ?_, HK.out⟩
        have h := HSL.out
        rw [List.take_of_length_le (by rw [Nt.pathN_length]; exact Nat.le_refl _)] at h
        rw [HF.out]
        exact h
  · have HF := Lib.hid (pathOf_no n h1)
    have hd : decide ((1 : Int) ≤ n ∧ n ≤ 6) = false := dec_not h1
    clear h1
    by_cases h0 : 0 < n
    all_goals
      go_enter Tryz.func188, Tryz.ntmps188
      go_wp2
      refine wp_loop_rounds 1 ?_
      rw [rounds_succ]
      go_wp2_with (go_at_call 151; refine (l1In_any _ _ _ _).mono ?_; rintro e w' ⟨rfl, rfl⟩; rw [hd])
      go_ret
      exact ⟨_, rfl, by rw [HF.out]; exact Sl.empty' w, (Kept.refl _ _).alloc _⟩
end Go.Proofs.YtnajdbnacdnnlaaGreatDoor

namespace Go.Proofs.YtnajdbnacdnnlaaGreatDoor
open Go.RowKit

theorem ring_bits {p q : Nat} (hp : p ≤ 5) (hq : q ≤ 5) : bits .or .i64 (IntKind.i64.wrap (2 ^ p)) (IntKind.i64.wrap (2 ^ q)) = ((2 ^ p ||| 2 ^ q : Nat) : Int) := by
  have h := or_shl (2 ^ p) q (pow_lt64 (by omega)) (by omega)
  rw [wrap_pow_nat p (by omega), IntWalk.i64_left]
  have e : (2 : Int) ^ p = ((2 ^ p : Nat) : Int) := (Int.natCast_pow 2 p).symm
  rw [e]
  exact h

set_option maxHeartbeats 2000000 in
set_option maxRecDepth 100000 in
theorem sRing_any (n : Int) (w : World) :
    Calls Tryz.prog 189 #[.int .i64 n] w fun e w' => ∃ u, e = .returned u ∧ Sl w' w.heap.size u (Nt.ringOf n) ∧ Kept [] w w' := by
  by_cases h1 : 3 ≤ n ∧ n ≤ 6
  · obtain ⟨m, rfl⟩ := Int.eq_ofNat_of_zero_le (show 0 ≤ n by omega)
    have m1 : 3 ≤ m := by omega
    have m6 : m ≤ 6 := by omega
    have HF := Lib.hid (ringOf_yes m ⟨m1, m6⟩)
    have hd : decide ((3 : Int) ≤ (m : Int) ∧ (m : Int) ≤ 6) = true := dec_of h1
    clear h1
    go_enter Tryz.func189, Tryz.ntmps189
    go_wp2
    go_loopw [3, 4] (fun u i wr => ∃ k : Nat, k ≤ m ∧ i = .int .i64 k ∧ Sl wr w.heap.size u (Nt.nats ((Nt.ringN m).take k)) ∧ Kept [] w wr) (fun _ i _ => m - (intOf i).toNat)
    case atStart => exact ⟨0, Nat.zero_le _, rfl, Sl.empty' w, (Kept.refl _ _).alloc _⟩
    case round =>
      obtain ⟨k, hk, rfl, hsl, hkept⟩ := hrel
      have HSL := Lib.hid hsl
      have HK := Lib.hid hkept
      have hsz := hkept.size
      clear hsl hkept
      by_cases hlt : k < m
      · have HT := Lib.hid (Nt.take_more (Nt.ringN m) k (by rw [Nt.ringN_length]; exact hlt))
        have HG := Lib.hid (Nt.ringN_get m k hlt)
        have hl : (Nt.nats ((Nt.ringN m).take k)).length ≤ 1000000 := by rw [Nt.nats_length, List.length_take]; omega
        have HL := Lib.hid hl
        clear hl
        go_wp2_with (go_at_call 151; refine (l1In_any _ _ _ _).mono ?_; rintro e w' ⟨rfl, rfl⟩; rw [hd])
        obtain ⟨p, hp⟩ : ∃ p : Nat, p = (k + 1) % m := ⟨_, rfl⟩
        obtain ⟨q, hq⟩ : ∃ q : Nat, q = (k + m - 1) % m := ⟨_, rfl⟩
        have b1 : ((k : Int) + 1).tmod (m : Int) = (p : Int) := by
          rw [hp, Int.tmod_eq_emod_of_nonneg (by omega)]; simp
        have b2 : ((k : Int) + (m : Int) - 1).tmod (m : Int) = (q : Int) := by
          have e : ((k : Int) + (m : Int) - 1) = ((k + m - 1 : Nat) : Int) := by omega
          rw [hq, e, Int.tmod_eq_emod_of_nonneg (by omega)]; simp
        have p5 : p ≤ 5 := by have := Nat.mod_lt (k + 1) (show 0 < m by omega); omega
        have q5 : q ≤ 5 := by have := Nat.mod_lt (k + m - 1) (show 0 < m by omega); omega
        have HP := Lib.hid hp
        have HQ := Lib.hid hq
        clear hp hq
        have a1 : IntKind.i64.wrap ((k : Int) + 1) = (k : Int) + 1 := IntWalk.i64_in _ (by omega)
        have a2 : IntKind.i64.wrap ((k : Int) + (m : Int)) = (k : Int) + (m : Int) := IntWalk.i64_in _ (by omega)
        have a3 : IntKind.i64.wrap ((k : Int) + (m : Int) - 1) = (k : Int) + (m : Int) - 1 := IntWalk.i64_in _ (by omega)
        have hm0 : ¬ m = 0 := by omega
        have hcell : ∀ x : Int, ((wr.alloc (.cells #[.int .i64 x] 3)).drew).cell? ⟨wr.heap.size, 0, none⟩ = some (.int .i64 x) := by
          intro x
          simp
        have hS : ∀ o : Obj, Sl ((wr.alloc o).drew) w.heap.size _ _ := fun o => HSL.out.stay (((Kept.refl [] wr).alloc o).drew)
        have hZ : ∀ o : Obj, w.heap.size ≤ ((wr.alloc o).drew).heap.size := fun o => Nat.le_trans hsz (((Kept.refl [] wr).alloc o).drew).size
        have HC := Lib.hid hcell
        have HS := Lib.hid hS
        have HZ := Lib.hid hZ
        clear hcell hS hZ
        go_region_law ((refine step_app_int _ rfl _ _ rfl w.heap.size _ _ (HS.out _) rfl wr.heap.size rfl (HC.out _) HL.out (HZ.out _) ?_; intro u' w1 hs1 hk1))
        all_goals
          have HS1 := Lib.hid hs1
          have HK1 := Lib.hid hk1
          clear hs1 hk1 a1 a2 a3 b1 b2
          go_wp2
          go_roundw
          case rel =>
            refine ⟨k + 1, by omega, by go_num, HS1.out.val ?_ HT.out, (((HK.out.alloc _).drew).own HK1.out (fun g hg => (HSL.out.block hg).1))⟩
            rw [HG.out, ← HP.out, ← HQ.out]
            exact ring_bits p5 q5
          case measure => simp [intOf]; omega
      · have hk' : k = m := by omega
        subst hk'
        go_wp2_with (go_at_call 151; refine (l1In_any _ _ _ _).mono ?_; rintro e w' ⟨rfl, rfl⟩; rw [hd])
        go_ret
        refine ⟨_, rfl, ?_, HK.out⟩
        have h := HSL.out
        rw [List.take_of_length_le (by rw [Nt.ringN_length]; exact Nat.le_refl _)] at h
        rw [HF.out]
        exact h
  · have HF := Lib.hid (ringOf_no n h1)
    have hd : decide ((3 : Int) ≤ n ∧ n ≤ 6) = false := dec_not h1
    clear h1
    by_cases h0 : 0 < n
    all_goals
      go_enter Tryz.func189, Tryz.ntmps189
      go_wp2
      refine wp_loop_rounds 1 ?_
      rw [rounds_succ]
      go_wp2_with (go_at_call 151; refine (l1In_any _ _ _ _).mono ?_; rintro e w' ⟨rfl, rfl⟩; rw [hd])
      go_ret
      exact ⟨_, rfl, by rw [HF.out]; exact Sl.empty' w, (Kept.refl _ _).alloc _⟩
end Go.Proofs.YtnajdbnacdnnlaaGreatDoor
