/-
  Walks: distances, by the program; and both for all numbers.
-/
import Derived.Test.YtjogkppgmomggacW8
namespace Go.Proofs.Ytjogkppgmomggac
open Go.RowKit

/-- Filled up to k. -/
def fillTo (n k : Nat) : List Int := List.replicate k (-1) ++ List.replicate (n - k) 0
theorem fillTo_length (n k : Nat) (h : k ≤ n) : (fillTo n k).length = n := by simp [fillTo]; omega
theorem fillTo_set (n k : Nat) (h : k < n) : (fillTo n k).set k (-1) = fillTo n (k + 1) := by
  unfold fillTo
  rw [List.set_append_right _ _ (by simp)]
  have e : n - k = (n - (k + 1)) + 1 := by omega
  rw [e, List.length_replicate, Nat.sub_self, List.replicate_succ, List.set_cons_zero, List.replicate_succ', List.append_assoc]
  rfl

set_option maxHeartbeats 2000000 in
theorem iFar_ok (ns : List Nat) (hok : Nt.Ok ns) (set : Nat) (hset : set < 2 ^ ns.length) (w : World) (v : Value) (base : Nat) (hs : Sl w base v (Nt.nats ns)) :
    Calls Try.prog 16 #[v, .int .i64 set] w fun e w' => ∃ u, e = .returned u ∧ Sl w' w.heap.size u (Nt.far ns set) ∧ Kept [] w w' := by
  have hfew := hok.few
  have hpos := hok.some
  have HS := Lib.hid hs
  obtain ⟨g, cap, rfl, _, _, _, hc⟩ := hs.net (by omega)
  have HOK := Lib.hid hok
  have HSET := Lib.hid hset
  have ho : Nt.okB (Nt.nats ns) = true := Nt.ok_okB hok
  have hd : decide ((0 : Int) ≤ (set : Int) ∧ (set : Int) < 2 ^ (ns.length : Int).toNat) = true := dec_of ⟨by omega, by rw [Int.toNat_natCast]; exact_mod_cast hset⟩
  clear hok hc hs hset
  go_enter Try.func16, Try.ntmps16
  go_wp2_with (first | (go_at_call 14; refine (iNetOk_any _ _ _ base HS.out).mono ?_; rintro e w' ⟨rfl, rfl⟩; rw [ho]) | (go_at_call 40; refine (setOk_any _ _ _ (by omega) (by omega)).mono ?_; rintro e w' ⟨rfl, rfl⟩; rw [hd]) | (at_make; refine make_int w ns.length rfl _ _ rfl rfl rfl ?_ ?_))
  · omega
  · intro w1 hs1 hk1 _
    have HS1 := Lib.hid hs1
    have HK1 := Lib.hid hk1
    clear hs1 hk1
    go_wp2
    go_loopw [26] (fun i wr => ∃ k : Nat, k ≤ ns.length ∧ i = .int .i64 k ∧ Sl wr w.heap.size (.slice (some ⟨w.heap.size, 0, none⟩) ns.length ns.length) (fillTo ns.length k) ∧ Kept [] w wr) (fun i _ => ns.length - (intOf i).toNat)
    case atStart => exact ⟨0, Nat.zero_le _, rfl, by simpa [fillTo] using HS1.out, HK1.out⟩
    case round =>
      clear HS1 HK1
      obtain ⟨k, hk, rfl, hsl, hkept⟩ := hrel
      have HSL := Lib.hid hsl
      have HK := Lib.hid hkept
      clear hkept
      by_cases hlt : k < ns.length
      · obtain ⟨hcell, hfr⟩ := hsl.at k (by rw [fillTo_length _ _ hk]; exact hlt)
        clear hsl
        go_wp2
        go_roundw
        case rel => exact ⟨k + 1, by omega, by go_num, by rw [← fillTo_set _ _ hlt]; exact HSL.out.set (fillTo_length _ _ hk).symm k (-1), HK.out.setCell (.inr (Nat.le_refl _)) _⟩
        case measure => simp [intOf]; omega
      · have hk' : k = ns.length := by omega
        subst hk'
        clear hlt hk hsl
        have hs0 := HSL.out
        have ef : fillTo ns.length ns.length = Nt.rowAt ns set 0 := by rw [Nt.rowAt_zero]; simp [fillTo]
        rw [ef] at hs0
        have HS0 := Lib.hid hs0
        clear hs0 HSL ef
        go_wp2
        go_loopw [7, 8, 9, 10] (fun c f t _ wr => ∃ k : Nat, k ≤ Nt.come ns set k ∧ c = .int .i64 ((Nt.come ns set k : Nat) : Int) ∧ f = .int .i64 ((Nt.front ns set k : Nat) : Int) ∧ t = .int .i64 k ∧
            Sl wr w.heap.size (.slice (some ⟨w.heap.size, 0, none⟩) ns.length ns.length) (Nt.rowAt ns set k) ∧ Kept [] w wr) (fun _ _ t _ _ => 64 - (intOf t).toNat)
        case atStart => exact ⟨0, Nat.zero_le _, rfl, rfl, rfl, HS0.out, HK.out⟩
        case round =>
          clear HS0 HK
          obtain ⟨t, htc, rfl, rfl, rfl, hsl, hkept⟩ := hrel
          have HSL := Lib.hid hsl
          have HK := Lib.hid hkept
          clear hsl hkept
          have hb1 := (Nt.come_lt HOK.out HSET.out t).1
          have hb2 := (Nt.come_lt HOK.out HSET.out t).2
          have hb3 := (Nt.come_lt HOK.out HSET.out (t + 1)).1
          have hb4 := Nt.near_lt HOK.out (Nt.front ns set t)
          have h64 := Nt.pow_le HOK.out.few
          have eor := bits_or_nat (Nt.come ns set t) (Nt.front ns set t) (by omega) (by omega)
          rw [← Nt.come_succ] at eor
          have enot := bits_andNot_nat (Nt.near ns (Nt.front ns set t)) (Nt.come ns set (t + 1)) (by omega) (by omega)
          rw [← Nt.front_succ] at enot
          have hle : t < 64 := by omega
          by_cases hf : Nt.front ns set t = 0
          · have hf0 : ((Nt.front ns set t : Int) != 0) = false := by simp [hf]
            have HF := Lib.hid hf
            have ht64 : t ≤ 64 := by omega
            clear hf eor enot hb1 hb2 hb3 hb4 h64
            generalize Nt.come ns set t = c at *
            go_wp2
            go_ret
            exact ⟨_, rfl, by rw [← Nt.far_end HF.out ht64]; exact HSL.out, HK.out⟩
          · have hf0 : ((Nt.front ns set t : Int) != 0) = true := by simp [hf]
            have HMORE := Lib.hid (Nt.come_more hf)
            have HTC := Lib.hid htc
            have hs0 := HSL.out
            rw [← Nt.midRow_zero] at hs0
            have HS0 := Lib.hid hs0
            have HH := Lib.hid (fun k (h : (Nt.front ns set t).testBit k = true) => Nt.midRow_hit h)
            have HM := Lib.hid (fun k (h : (Nt.front ns set t).testBit k = false) => Nt.midRow_miss h)
            clear hf hs0 HSL htc
            generalize Nt.come ns set t = c at *
            generalize hce1 : Nt.come ns set (t + 1) = c1 at *
            generalize hfe : Nt.front ns set t = f at *
            generalize hfe1 : Nt.front ns set (t + 1) = f1 at *
            have HFE := Lib.hid hfe
            have HFE1 := Lib.hid hfe1
            have HCE1 := Lib.hid hce1
            clear hfe hfe1 hce1
            have EOR := Lib.hid eor
            have ENOT := Lib.hid enot
            clear enot
            go_wp2
            clear eor
            go_loopw [43] (fun i wr => ∃ k : Nat, k ≤ ns.length ∧ i = .int .i64 k ∧ Sl wr w.heap.size (.slice (some ⟨w.heap.size, 0, none⟩) ns.length ns.length) (Nt.midRow ns set t k) ∧ Kept [] w wr) (fun i _ => ns.length - (intOf i).toNat)
            case atStart => exact ⟨0, Nat.zero_le _, rfl, HS0.out, HK.out⟩
            case round =>
              clear HS0 HK
              obtain ⟨k, hk, rfl, hsl, hkept⟩ := hrel
              have HSL := Lib.hid hsl
              have HK := Lib.hid hkept
              clear hkept
              by_cases hlt : k < ns.length
              · obtain ⟨hcell, hfr⟩ := hsl.at k (by rw [Nt.midRow_length]; exact hlt)
                clear hsl
                cases hb : f.testBit k
                · have HB := Lib.hid hb
                  go_wp2_with (go_at_call 36; refine (hasNode_nat f k _ (by omega)).mono ?_; rintro e w' ⟨rfl, rfl⟩)
                  go_roundw
                  case rel => exact ⟨k + 1, by omega, by go_num, by rw [← HM.out k HB.out]; exact HSL.out, HK.out⟩
                  case measure => simp [intOf]; omega
                · have HB := Lib.hid hb
                  go_wp2_with (go_at_call 36; refine (hasNode_nat f k _ (by omega)).mono ?_; rintro e w' ⟨rfl, rfl⟩)
                  go_roundw
                  case rel => exact ⟨k + 1, by omega, by go_num, by rw [← HH.out k HB.out]; exact HSL.out.set (Nt.midRow_length ns set t k).symm k t, HK.out.setCell (.inr (Nat.le_refl _)) _⟩
                  case measure => simp [intOf]; omega
              · have hk' : k = ns.length := by omega
                subst hk'
                have hs1 := HSL.out
                rw [Nt.midRow_end] at hs1
                have HS1 := Lib.hid hs1
                clear hs1 hsl HSL
                have enot := ENOT.out
                go_wp2_with (go_at_call 42; refine (nearSet_any ns HOK.out f _ _ base (HS.out.stay HK.out)).mono ?_; rintro e w' ⟨rfl, rfl⟩)
                go_roundw
                case rel => exact ⟨t + 1, by have h1 := HMORE.out; have h2 := HTC.out; rw [HCE1.out]; omega, by rw [HCE1.out], by rw [HFE1.out], by go_num, HS1.out, HK.out⟩
                case measure => simp [intOf]; omega
end Go.Proofs.Ytjogkppgmomggac
