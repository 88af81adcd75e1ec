/-
  Walks: copies of lists, lists compared, marked, and looked over.
-/
import Derived.Test.YtaacehdfpoiljaaDoorKA
namespace Go.Proofs.YtaacehdfpoiljaaDoor
open Go.RowKit

set_option maxHeartbeats 1000000 in
set_option maxRecDepth 100000 in
theorem toIntS_any (xs : List Int) (h20 : xs.length ≤ 1048576) (w : World) (v : Value) (ha : Arg w v xs) :
    Calls Tryd.prog 76 #[v] w fun e w' => ∃ u, e = .returned u ∧ Sl w' w.heap.size u xs ∧ Kept [] w w' := by
  obtain ⟨a, cap, rfl, _, hc⟩ := ha
  have HC := Lib.hid hc
  clear hc
  go_enter Tryd.func76, Tryd.ntmps76
  go_wp2_with (at_make; refine make_int w xs.length rfl _ _ rfl rfl rfl ?_ ?_)
  · omega
  · intro w1 hs1 hk1 _
    have HS1 := Lib.hid hs1
    have HK1 := Lib.hid hk1
    clear hs1 hk1
    go_wp2
    go_loopw [4] (fun i wr => ∃ k : Nat, k ≤ xs.length ∧ i = .int .i64 k ∧ Sl wr w.heap.size (.slice (some ⟨w.heap.size, 0, none⟩) xs.length xs.length) (copyTo xs k) ∧ Kept [] w wr) (fun i _ => xs.length - (intOf i).toNat)
    case atStart => exact ⟨0, Nat.zero_le _, rfl, by simpa [copyTo] using HS1.out, HK1.out⟩
    case round =>
      clear HS1 HK1
      obtain ⟨k, hk, rfl, hsl, hkept⟩ := hrel
      have HSL := Lib.hid hsl
      have HK := Lib.hid hkept
      by_cases hlt : k < xs.length
      · obtain ⟨hcell, hfr⟩ := hsl.at k (by rw [copyTo_length _ _ hk]; exact hlt)
        obtain ⟨b, off, rfl, hb, hca⟩ := HC.out k hlt
        have hcw := (hkept.cell (p := ⟨b, off + k, none⟩) hb (by simp)).trans hca
        have HSET := Lib.hid (copyTo_set xs k hlt)
        clear hsl hkept hca
        generalize xs.getD k 0 = x at *
        go_wp2
        go_roundw
        case rel => exact ⟨k + 1, by omega, by go_num, by rw [← HSET.out]; exact HSL.out.set (copyTo_length _ _ hk).symm k x, HK.out.setCell (.inr (Nat.le_refl _)) _⟩
        case measure => simp [intOf]; omega
      · have hk' : k = xs.length := by omega
        subst hk'
        clear hsl hkept
        go_wp2
        go_ret
        exact ⟨_, rfl, by have h := HSL.out; rw [copyTo_end] at h; exact h, HK.out⟩

set_option maxHeartbeats 1000000 in
set_option maxRecDepth 100000 in
theorem eqIntS_any (xs ys : List Int) (w : World) (v u : Value) (base base' : Nat) (hs : Sl w base v xs) (ht : Sl w base' u ys) :
    Calls Tryd.prog 77 #[v, u] w fun e w' => e = .returned (.bool (decide (xs = ys))) ∧ Qt w w' := by
  obtain ⟨a, cap, rfl, _, hm, hc⟩ := hs.any
  obtain ⟨b, cap', rfl, _, hm', hc'⟩ := ht.any
  have HC := Lib.hid hc
  have HD := Lib.hid hc'
  clear hc hc' hs ht
  by_cases hl : xs.length = ys.length
  · have h0 : ((xs.length : Int) != (ys.length : Int)) = false := by simp [hl]
    have HL := Lib.hid hl
    clear hl
    go_enter Tryd.func77, Tryd.ntmps77
    go_wp2
    go_loopw [5] (fun n wr => ∃ k : Nat, k ≤ xs.length ∧ n = .int .i64 k ∧ sameTo xs ys k ∧ Qt w wr) (fun n _ => xs.length - (intOf n).toNat)
    case atStart => exact ⟨0, Nat.zero_le _, rfl, fun j hj => absurd hj (by omega), Qt.refl _⟩
    case round =>
      obtain ⟨k, hk, rfl, hsame, hq⟩ := hrel
      have HQ := Lib.hid hq
      have HS := Lib.hid hsame
      clear hsame
      by_cases hlt : k < xs.length
      · have hlt' : k < ys.length := by have := HL.out; omega
        obtain ⟨g, rfl, _, _, h1, _⟩ := HC.out k hlt
        obtain ⟨g', rfl, _, _, h2, _⟩ := HD.out k hlt'
        have c1 := (hq.cell _).trans h1
        have c2 := (hq.cell _).trans h2
        clear hq h1 h2
        generalize hx : xs.getD k 0 = x at *
        generalize hy : ys.getD k 0 = y at *
        have HX := Lib.hid hx
        have HY := Lib.hid hy
        clear hx hy
        by_cases e : x = y
        · have he : (x != y) = false := by simp [e]
          have HE := Lib.hid e
          clear e
          go_wp2_with fail
          go_quiet (fail)
          go_wp2
          go_roundw
          case rel => exact ⟨k + 1, by omega, by go_num, sameTo_succ HS.out (by rw [HX.out, HY.out, HE.out]), HQ.out.draw _⟩
          case measure => simp [intOf]; omega
        · have he : (x != y) = true := by simp [e]
          have HE := Lib.hid e
          clear e
          go_wp2_with fail
          go_quiet (fail)
          go_wp2
          go_ret
          exact ⟨by rw [dec_not (fun h => HE.out (by rw [← HX.out, ← HY.out, h]))]; rfl, HQ.out.draw _⟩
      · have hk' : k = xs.length := by omega
        subst hk'
        clear hq
        go_wp2
        go_ret
        exact ⟨by rw [dec_of (sameTo_all HS.out HL.out)]; rfl, HQ.out⟩
  · have h0 : ((xs.length : Int) != (ys.length : Int)) = true := by simp; omega
    have HL := Lib.hid hl
    clear hl
    go_enter Tryd.func77, Tryd.ntmps77
    go_wp2
    go_ret
    exact ⟨by rw [dec_not (fun h => HL.out (by rw [h]))]; rfl, Qt.refl _⟩

set_option maxHeartbeats 1000000 in
set_option maxRecDepth 100000 in
theorem markIntS_any (m : Int) (h0 : 0 ≤ m) (hm9 : m ≤ 1000000000) (xs : List Int) (h20 : xs.length ≤ 2000000) (w : World) (v : Value) (base : Nat) (hs : Sl w base v xs) :
    Calls Tryd.prog 78 #[v, .int .i64 m] w fun e w' => e = .returned (.int .i64 (m + (xs.length : Nat))) ∧ Sl w' base v (marks m xs.length) ∧ Kept v.ownBlock.toList w w' := by
  have HS := Lib.hid hs
  obtain ⟨a, cap, rfl, _, hm, hc⟩ := hs.any
  have HC := Lib.hid hc
  clear hc hs
  go_enter Tryd.func78, Tryd.ntmps78
  go_wp2
  go_loopw [1, 5] (fun q i wr => ∃ k : Nat, k ≤ xs.length ∧ i = .int .i64 k ∧ q = .int .i64 (m + (k : Int)) ∧ Sl wr base (.slice a xs.length cap) (markTo m xs k) ∧ Kept (Value.slice a xs.length cap).ownBlock.toList w wr) (fun _ i _ => xs.length - (intOf i).toNat)
  case atStart => exact ⟨0, Nat.zero_le _, rfl, by simp, by simpa [markTo, marks] using HS.out, Kept.refl _ _⟩
  case round =>
    obtain ⟨k, hk, rfl, rfl, hsl, hkept⟩ := hrel
    have HSL := Lib.hid hsl
    have HK := Lib.hid hkept
    clear hkept
    by_cases hlt : k < xs.length
    · obtain ⟨g, rfl, _, _, _, _⟩ := HC.out k hlt
      obtain ⟨hcell, hfr⟩ := hsl.at k (by rw [markTo_length _ _ _ hk]; exact hlt)
      clear hsl
      go_wp2
      go_roundw
      case rel => exact ⟨k + 1, by omega, by go_num, by go_num, by rw [← markTo_set _ _ _ hlt]; exact HSL.out.set (markTo_length _ _ _ hk).symm k _, HK.out.setCell (.inl (by simp [Value.ownBlock])) _⟩
      case measure => simp [intOf]; omega
    · have hk' : k = xs.length := by omega
      subst hk'
      clear hsl
      go_wp2
      go_ret
      exact ⟨rfl, by have h := HSL.out; rw [markTo_end] at h; exact h, HK.out⟩

set_option maxHeartbeats 1000000 in
set_option maxRecDepth 100000 in
theorem heldIntS_any (n : Nat) (h20 : n ≤ 2000000) (w : World) (v : Value) (base : Nat) (hs : Sl w base v (marks 1 n)) :
    Calls Tryd.prog 79 #[v, .int .i64 1] w fun e w' => e = .returned (.int .i64 (1 + (n : Nat))) ∧ w = w' := by
  obtain ⟨a, cap, rfl, _, hm, hc⟩ := hs.any
  rw [marks_length] at *
  have HC := Lib.hid hc
  clear hc hs
  go_enter Tryd.func79, Tryd.ntmps79
  go_wp2
  go_loop [1, 5] (fun m i => ∃ k : Nat, k ≤ n ∧ i = .int .i64 k ∧ m = .int .i64 (1 + (k : Int))) (fun _ i => n - (intOf i).toNat)
  case atStart => exact ⟨0, Nat.zero_le _, rfl, by simp⟩
  case round =>
    obtain ⟨k, hk, rfl, rfl⟩ := hrel
    by_cases hlt : k < n
    · obtain ⟨g, rfl, _, _, hcell, _⟩ := HC.out k hlt
      rw [marks_get _ _ _ hlt] at hcell
      have hne : ((1 + (k : Int)) != (1 + (k : Int))) = false := by simp
      go_wp2
      go_round
      case rel => exact ⟨k + 1, by omega, by go_num, by go_num⟩
      case measure => simp [intOf]; omega
    · have hk' : k = n := by omega
      subst hk'
      go_wp2
      go_ret
      exact ⟨rfl, rfl⟩
end Go.Proofs.YtaacehdfpoiljaaDoor
