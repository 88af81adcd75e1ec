/-
  Walks: counts of kinds, by the program and by the model.
-/
import Derived.Test.YtahjplaidkibpaaS1
import Derived.Test.YtahjplaidkibpaaB2
import Derived.StillTailTactics
namespace Go.Proofs.Ytahjplaidkibpaa
open Go.RowKit
open Nt (stB)

set_option maxHeartbeats 1000000 in
theorem iCounts_any (kinds : Int) (xs : List Int) (w : World) (v : Value) (base : Nat) (hs : Sl w base v xs) :
    Calls Try.prog 33 #[.int .i64 kinds, v] w fun e w' => ∃ u, e = .returned u ∧ Sl w' w.heap.size u (Nt.countsOf kinds xs) ∧ Kept [] w w' := by
  have HS := Lib.hid hs
  obtain ⟨a, cap, rfl, _, hm, _⟩ := hs.any
  by_cases ho : stB kinds xs = true
  · obtain ⟨c, ks, rfl, rfl, hst⟩ := Nt.stB_st ho
    have hl : (Nt.nats ks).length = ks.length := Nt.nats_length ks
    obtain ⟨g, cap', hg1, hg2, hg3⟩ := hs.shape hl (by have := hst.some; omega)
    simp only [Value.slice.injEq] at hg1
    obtain ⟨rfl, hln, rfl⟩ := hg1
    have HC := Lib.hid (fun k (hk : k < ks.length) => ((hs.at k (by rw [hl]; exact hk)).1).trans (by rw [Nt.nats_get]))
    have HL := Lib.hid hl
    have HF := Lib.hid (Nt.countsOf_ok hst)
    have HST := Lib.hid hst
    have hc5 := hst.c5
    have h6 := hst.few
    clear hs hl hst hln hm
    go_enter Try.func33, Try.ntmps33
    go_wp2_with fail
    refine (iStateOk_any (c : Int) (Nt.nats ks) _ _ base HS.out).mono ?_
    rintro e w' ⟨rfl, rfl⟩
    rw [ho]
    clear ho
    go_wp2_with (at_make; refine make_int w c rfl _ _ rfl rfl rfl ?_ ?_)
    · omega
    · intro w1 hs1 hk1 _
      have hs2 : Sl w1 w.heap.size (.slice (some ⟨w.heap.size, 0, none⟩) c c) (Nt.nats (Nt.countsTo c ks 0)) := by
        rw [Nt.countsTo_zero, nats_zeros]; exact hs1
      have HS1 := Lib.hid hs2
      have HK1 := Lib.hid hk1
      clear hs1 hk1 hs2
      go_wp2
      go_loopw [16] (fun i wr => ∃ k : Nat, k ≤ ks.length ∧ i = .int .i64 k ∧ Sl wr w.heap.size (.slice (some ⟨w.heap.size, 0, none⟩) c c) (Nt.nats (Nt.countsTo c ks k)) ∧ Kept [] w wr) (fun i _ => ks.length - (intOf i).toNat)
      case atStart => exact ⟨0, Nat.zero_le _, rfl, HS1.out, HK1.out⟩
      case round =>
        clear HS1 HK1
        obtain ⟨k, hk, rfl, hsl, hkept⟩ := hrel
        have HSL := Lib.hid hsl
        have HK := Lib.hid hkept
        by_cases hlt : k < ks.length
        · have hck := (hkept.cell (p := ⟨g, k, none⟩) hg3 (by simp)).trans (HC.out k hlt)
          have hltc := HST.out.lt k hlt
          obtain ⟨hcell, hfr⟩ := hsl.at (ks.getD k 0) (by rw [Nt.nats_length, Nt.countsTo_length]; exact hltc)
          rw [Nt.nats_get, Nt.countsTo_get _ _ _ _ hltc] at hcell
          have hle := Nt.cntTo_le ks (ks.getD k 0) k
          have HSET := Lib.hid (Nt.countsTo_set c ks k)
          have hLlt : k < (Nt.nats ks).length := by rw [HL.out]; exact hlt
          clear hsl hkept
          generalize ks.getD k 0 = x at *
          generalize Nt.cntTo ks x k = y at *
          have HEQ : Hid (((y + 1 : Nat) : Int) = (y : Int) + 1) := Lib.hid (by omega)
          go_wp2
          go_roundw
          case rel => exact ⟨k + 1, by omega, by go_num, by rw [← HSET.out, Nt.nats_set, HEQ.out]; exact HSL.out.set (by rw [Nt.nats_length, Nt.countsTo_length]) x _, HK.out.setCell (.inr (Nat.le_refl _)) _⟩
          case measure => simp [intOf]; omega
        · have hk' : k = ks.length := by omega
          subst hk'
          have hLn : ¬ ks.length < (Nt.nats ks).length := by rw [HL.out]; omega
          clear hsl hkept
          go_wp2
          go_ret
          exact ⟨_, rfl, by rw [HF.out]; exact HSL.out, HK.out⟩
  · have ho' : stB kinds xs = false := by simpa using ho
    have HF := Lib.hid (Nt.countsOf_no ho')
    clear ho hs
    go_enter Try.func33, Try.ntmps33
    go_wp2_with fail
    refine (iStateOk_any kinds xs _ _ base HS.out).mono ?_
    rintro e w' ⟨rfl, rfl⟩
    rw [ho']
    clear ho'
    go_wp2
    go_ret
    exact ⟨_, rfl, by rw [HF.out]; exact Sl.nil _ _, Kept.refl _ _⟩

end Go.Proofs.Ytahjplaidkibpaa
