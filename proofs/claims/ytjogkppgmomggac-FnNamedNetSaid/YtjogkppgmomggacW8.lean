/-
  Walks: distances, by the model.
-/
import Derived.Test.YtjogkppgmomggacW6
import Derived.Test.YtjogkppgmomggacOps
namespace Go.Proofs.Ytjogkppgmomggac
open Go.RowKit

set_option maxHeartbeats 2000000 in
theorem l1Far_any (ns : List Nat) (hok : Nt.Ok ns) (set : Nat) (hset : set < 2 ^ ns.length) (w : World) (v : Value) (base : Nat) (hs : Sl w base v (Nt.nats ns)) :
    Calls Try.prog 39 #[v, .int .i64 set] w fun e w' => ∃ u, e = .returned u ∧ Sl w' w.heap.size u (Nt.far ns set) ∧ Kept [] w w' := by
  have hfew := hok.few
  have hpos := hok.some
  have HS := Lib.hid hs
  obtain ⟨g, cap, rfl, _, _, _, hc⟩ := hs.net (by omega)
  have HOK := Lib.hid hok
  have HSET := Lib.hid hset
  clear hok hc hs hset
  go_enter Try.func39, Try.ntmps39
  go_wp2
  go_loopw [5, 6] (fun u i wr => ∃ k : Nat, k ≤ ns.length ∧ i = .int .i64 k ∧ Sl wr w.heap.size u (List.replicate k (-1)) ∧ Kept [] w wr) (fun _ i _ => ns.length - (intOf i).toNat)
  case atStart =>
    exact ⟨0, Nat.zero_le _, rfl, Sl.lit w [] (by simp), (Kept.refl _ _).alloc _⟩
  case round =>
    obtain ⟨k, hk, rfl, hsl, hkept⟩ := hrel
    have HSL := Lib.hid hsl
    have HK := Lib.hid hkept
    clear hsl hkept
    by_cases hlt : k < ns.length
    · have hsz := HK.out.size
      go_wp2_with (at_builtin; refine app_int (-1) rfl _ _ rfl w.heap.size _ (List.replicate k (-1)) HSL.out rfl rfl ?_ ?_ ?_)
      · simp; omega
      · omega
      · intro u' w1 hs1 hk1
        have HS1 := Lib.hid hs1
        have HK1 := Lib.hid hk1
        clear hs1 hk1
        go_wp2
        go_roundw
        case rel => exact ⟨k + 1, by omega, by go_num, by rw [List.replicate_succ']; exact HS1.out, HK.out.own HK1.out (fun g hg => (HSL.out.block hg).1)⟩
        case measure => simp [intOf]; omega
    · have hk' : k = ns.length := by omega
      subst hk'
      clear hlt hk
      have hs0 := HSL.out
      rw [← Nt.rowAt_zero ns set] at hs0
      have HS0 := Lib.hid hs0
      obtain ⟨g', cap', hu, hg', _⟩ := hs0.shape (Nt.rowAt_length ns set 0) (by omega)
      subst hu
      clear hs0 HSL
      go_wp2
      go_loopw [7, 8, 9, 10] (fun c f t _ wr => ∃ k : Nat, k ≤ Nt.come ns set k ∧ c = .int .i64 ((Nt.come ns set k : Nat) : Int) ∧ f = .int .i64 ((Nt.front ns set k : Nat) : Int) ∧ t = .int .i64 k ∧
          Sl wr w.heap.size (.slice (some ⟨g', 0, none⟩) ns.length cap') (Nt.rowAt ns set k) ∧ Kept [] w wr) (fun _ _ t _ _ => 64 - (intOf t).toNat)
      case atStart => exact ⟨0, Nat.zero_le _, rfl, rfl, rfl, HS0.out, HK.out⟩
      case round =>
        clear HS0 HK
        obtain ⟨t, htc, rfl, rfl, rfl, hsl, hkept⟩ := hrel
        have HSL := Lib.hid hsl
        have HK := Lib.hid hkept
        clear hsl hkept
        have hb1 := (Nt.come_lt HOK.out HSET.out t).1
        have hb2 := (Nt.come_lt HOK.out HSET.out t).2
        have hb3 := (Nt.come_lt HOK.out HSET.out (t + 1)).1
        have hb4 := Nt.near_lt HOK.out (Nt.front ns set t)
        have h64 := Nt.pow_le HOK.out.few
        have eor := bits_or_nat (Nt.come ns set t) (Nt.front ns set t) (by omega) (by omega)
        rw [← Nt.come_succ] at eor
        have enot := bits_andNot_nat (Nt.near ns (Nt.front ns set t)) (Nt.come ns set (t + 1)) (by omega) (by omega)
        rw [← Nt.front_succ] at enot
        have hle : t < 64 := by omega
        by_cases hf : Nt.front ns set t = 0
        · have hf0 : ((Nt.front ns set t : Int) != 0) = false := by simp [hf]
          have HF := Lib.hid hf
          have ht64 : t ≤ 64 := by omega
          clear hf eor enot hb1 hb2 hb3 hb4 h64
          generalize Nt.come ns set t = c at *
          go_wp2
          go_ret
          exact ⟨_, rfl, by rw [← Nt.far_end HF.out ht64]; exact HSL.out, HK.out⟩
        · have hf0 : ((Nt.front ns set t : Int) != 0) = true := by simp [hf]
          have HMORE := Lib.hid (Nt.come_more hf)
          have HTC := Lib.hid htc
          have hs0 := HSL.out
          rw [← Nt.midRow_zero] at hs0
          have HS0 := Lib.hid hs0
          have HBIT := Lib.hid (fun k => shr_bit (Nt.front ns set t) k)
          have HPOS := Lib.hid (fun k => shr_nonneg (Nt.front ns set t) k)
          have HH := Lib.hid (fun k (h : (Nt.front ns set t).testBit k = true) => Nt.midRow_hit h)
          have HM := Lib.hid (fun k (h : (Nt.front ns set t).testBit k = false) => Nt.midRow_miss h)
          clear hf hs0 HSL htc
          generalize Nt.come ns set t = c at *
          generalize hce1 : Nt.come ns set (t + 1) = c1 at *
          generalize hfe : Nt.front ns set t = f at *
          generalize hfe1 : Nt.front ns set (t + 1) = f1 at *
          have HFE := Lib.hid hfe
          have HFE1 := Lib.hid hfe1
          have HCE1 := Lib.hid hce1
          clear hfe hfe1 hce1
          have EOR := Lib.hid eor
          have ENOT := Lib.hid enot
          clear eor enot
          go_wp2
          go_loopw [10] (fun i wr => ∃ k : Nat, k ≤ ns.length ∧ i = .int .i64 k ∧ Sl wr w.heap.size (.slice (some ⟨g', 0, none⟩) ns.length cap') (Nt.midRow ns set t k) ∧ Kept [] w wr) (fun i _ => ns.length - (intOf i).toNat)
          case atStart => exact ⟨0, Nat.zero_le _, rfl, HS0.out, HK.out⟩
          case round =>
            clear HS0 HK
            obtain ⟨k, hk, rfl, hsl, hkept⟩ := hrel
            have HSL := Lib.hid hsl
            have HK := Lib.hid hkept
            clear hkept
            by_cases hlt : k < ns.length
            · have p1 := HPOS.out k
              have e1 := HBIT.out k
              obtain ⟨hcell, hfr⟩ := hsl.at k (by rw [Nt.midRow_length]; exact hlt)
              clear hsl
              cases hb : f.testBit k
              · rw [hb] at e1
                simp only [Bool.false_eq_true, if_false] at e1
                have HB := Lib.hid hb
                clear hb
                go_wp2
                go_roundw
                case rel => exact ⟨k + 1, by omega, by go_num, by rw [← HM.out k HB.out]; exact HSL.out, HK.out⟩
                case measure => simp [intOf]; omega
              · rw [hb] at e1
                simp only [if_true] at e1
                have HB := Lib.hid hb
                clear hb
                go_wp2
                go_roundw
                case rel => exact ⟨k + 1, by omega, by go_num, by rw [← HH.out k HB.out]; exact HSL.out.set (Nt.midRow_length ns set t k).symm k t, HK.out.setCell (.inr hg') _⟩
                case measure => simp [intOf]; omega
            · have hk' : k = ns.length := by omega
              subst hk'
              have hs1 := HSL.out
              rw [Nt.midRow_end] at hs1
              have HS1 := Lib.hid hs1
              clear hs1 hsl HSL
              have eor := EOR.out
              have enot := ENOT.out
              go_wp2_with (go_at_call 55; refine (l1Near_any ns HOK.out f _ _ base (HS.out.stay HK.out)).mono ?_; rintro e w' ⟨rfl, rfl⟩)
              go_roundw
              case rel => exact ⟨t + 1, by have h1 := HMORE.out; have h2 := HTC.out; rw [HCE1.out]; omega, by rw [HCE1.out], by rw [HFE1.out], by go_num, HS1.out, HK.out⟩
              case measure => simp [intOf]; omega
end Go.Proofs.Ytjogkppgmomggac
