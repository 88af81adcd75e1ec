/-
  Walks: copies of lists, lists compared, marked, and looked over.
  Walks: places of exact laws: copied, compared, marked, looked over.
  Places of exact laws in one form; what stays but for some blocks.
  Walks: deeds of exact laws, and lists of them: copied, compared, marked, looked over.
  Walks: stores of exact laws: measured, copied, compared.
-/
import Derived.Test.YtnajdbnacdnnlaaGreatDoorKA
import Derived.Test.YtnajdbnacdnnlaaGreatDoorQD
import Derived.Test.YtnajdbnacdnnlaaGreatDoorQC
import Derived.Test.YtnajdbnacdnnlaaGreatDoorQA
namespace Go.Proofs.YtnajdbnacdnnlaaGreatDoor
open Go.RowKit

set_option maxHeartbeats 1000000 in
set_option maxRecDepth 100000 in
theorem toIntS_any (xs : List Int) (h20 : xs.length ≤ 1048576) (w : World) (v : Value) (ha : Arg w v xs) :
    Calls Tryz.prog 146 #[v] w fun e w' => ∃ u, e = .returned u ∧ Sl w' w.heap.size u xs ∧ Kept [] w w' := by
  obtain ⟨a, cap, rfl, _, hc⟩ := ha
  have HC := Lib.hid hc
  clear hc
  go_enter Tryz.func146, Tryz.ntmps146
  go_wp2_with (at_make; refine make_int w xs.length rfl _ _ rfl rfl rfl ?_ ?_)
  · omega
  · intro w1 hs1 hk1 _
    have HS1 := Lib.hid hs1
    have HK1 := Lib.hid hk1
    clear hs1 hk1
    go_wp2
    go_loopw [4] (fun i wr => ∃ k : Nat, k ≤ xs.length ∧ i = .int .i64 k ∧ Sl wr w.heap.size (.slice (some ⟨w.heap.size, 0, none⟩) xs.length xs.length) (copyTo xs k) ∧ Kept [] w wr) (fun i _ => xs.length - (intOf i).toNat)
    case atStart => exact ⟨0, Nat.zero_le _, rfl, by simpa [copyTo] using HS1.out, HK1.out⟩
    case round =>
      clear HS1 HK1
      obtain ⟨k, hk, rfl, hsl, hkept⟩ := hrel
      have HSL := Lib.hid hsl
      have HK := Lib.hid hkept
      by_cases hlt : k < xs.length
      · obtain ⟨hcell, hfr⟩ := hsl.at k (by rw [copyTo_length _ _ hk]; exact hlt)
        obtain ⟨b, off, rfl, hb, hca⟩ := HC.out k hlt
        have hcw := (hkept.cell (p := ⟨b, off + k, none⟩) hb (by simp)).trans hca
        have HSET := Lib.hid (copyTo_set xs k hlt)
        clear hsl hkept hca
        generalize xs.getD k 0 = x at *
        go_wp2
        go_roundw
        case rel => exact ⟨k + 1, by omega, by go_num, by rw [← HSET.out]; exact HSL.out.set (copyTo_length _ _ hk).symm k x, HK.out.setCell (.inr (Nat.le_refl _)) _⟩
        case measure => simp [intOf]; omega
      · have hk' : k = xs.length := by omega
        subst hk'
        clear hsl hkept
        go_wp2
        go_ret
        exact ⟨_, rfl, by have h := HSL.out; rw [copyTo_end] at h; exact h, HK.out⟩

set_option maxHeartbeats 1000000 in
set_option maxRecDepth 100000 in
theorem eqIntS_any (xs ys : List Int) (w : World) (v u : Value) (base base' : Nat) (hs : Sl w base v xs) (ht : Sl w base' u ys) :
    Calls Tryz.prog 147 #[v, u] w fun e w' => e = .returned (.bool (decide (xs = ys))) ∧ Qt w w' := by
  obtain ⟨a, cap, rfl, _, hm, hc⟩ := hs.any
  obtain ⟨b, cap', rfl, _, hm', hc'⟩ := ht.any
  have HC := Lib.hid hc
  have HD := Lib.hid hc'
  clear hc hc' hs ht
  by_cases hl : xs.length = ys.length
  · have h0 : ((xs.length : Int) != (ys.length : Int)) = false := by simp [hl]
    have HL := Lib.hid hl
    clear hl
    go_enter Tryz.func147, Tryz.ntmps147
    go_wp2
    go_loopw [5] (fun n wr => ∃ k : Nat, k ≤ xs.length ∧ n = .int .i64 k ∧ sameTo xs ys k ∧ Qt w wr) (fun n _ => xs.length - (intOf n).toNat)
    case atStart => exact ⟨0, Nat.zero_le _, rfl, fun j hj => absurd hj (by omega), Qt.refl _⟩
    case round =>
      obtain ⟨k, hk, rfl, hsame, hq⟩ := hrel
      have HQ := Lib.hid hq
      have HS := Lib.hid hsame
      clear hsame
      by_cases hlt : k < xs.length
      · have hlt' : k < ys.length := by have := HL.out; omega
        obtain ⟨g, rfl, _, _, h1, _⟩ := HC.out k hlt
        obtain ⟨g', rfl, _, _, h2, _⟩ := HD.out k hlt'
        have c1 := (hq.cell _).trans h1
        have c2 := (hq.cell _).trans h2
        clear hq h1 h2
        generalize hx : xs.getD k 0 = x at *
        generalize hy : ys.getD k 0 = y at *
        have HX := Lib.hid hx
        have HY := Lib.hid hy
        clear hx hy
        by_cases e : x = y
        · have he : (x != y) = false := by simp [e]
          have HE := Lib.hid e
          clear e
          go_wp2_with fail
          go_quiet (fail)
          go_wp2
          go_roundw
          case rel => exact ⟨k + 1, by omega, by go_num, sameTo_succ HS.out (by rw [HX.out, HY.out, HE.out]), HQ.out.draw _⟩
          case measure => simp [intOf]; omega
        · have he : (x != y) = true := by simp [e]
          have HE := Lib.hid e
          clear e
          go_wp2_with fail
          go_quiet (fail)
          go_wp2
          go_ret
          exact ⟨by rw [dec_not (fun h => HE.out (by rw [← HX.out, ← HY.out, h]))]; rfl, HQ.out.draw _⟩
      · have hk' : k = xs.length := by omega
        subst hk'
        clear hq
        go_wp2
        go_ret
        exact ⟨by rw [dec_of (sameTo_all HS.out HL.out)]; rfl, HQ.out⟩
  · have h0 : ((xs.length : Int) != (ys.length : Int)) = true := by simp; omega
    have HL := Lib.hid hl
    clear hl
    go_enter Tryz.func147, Tryz.ntmps147
    go_wp2
    go_ret
    exact ⟨by rw [dec_not (fun h => HL.out (by rw [h]))]; rfl, Qt.refl _⟩

set_option maxHeartbeats 1000000 in
set_option maxRecDepth 100000 in
theorem markIntS_any (m : Int) (h0 : 0 ≤ m) (hm9 : m ≤ 1000000000) (xs : List Int) (h20 : xs.length ≤ 2000000) (w : World) (v : Value) (base : Nat) (hs : Sl w base v xs) :
    Calls Tryz.prog 148 #[v, .int .i64 m] w fun e w' => e = .returned (.int .i64 (m + (xs.length : Nat))) ∧ Sl w' base v (marks m xs.length) ∧ Kept v.ownBlock.toList w w' := by
  have HS := Lib.hid hs
  obtain ⟨a, cap, rfl, _, hm, hc⟩ := hs.any
  have HC := Lib.hid hc
  clear hc hs
  go_enter Tryz.func148, Tryz.ntmps148
  go_wp2
  go_loopw [1, 5] (fun q i wr => ∃ k : Nat, k ≤ xs.length ∧ i = .int .i64 k ∧ q = .int .i64 (m + (k : Int)) ∧ Sl wr base (.slice a xs.length cap) (markTo m xs k) ∧ Kept (Value.slice a xs.length cap).ownBlock.toList w wr) (fun _ i _ => xs.length - (intOf i).toNat)
  case atStart => exact ⟨0, Nat.zero_le _, rfl, by simp, by simpa [markTo, marks] using HS.out, Kept.refl _ _⟩
  case round =>
    obtain ⟨k, hk, rfl, rfl, hsl, hkept⟩ := hrel
    have HSL := Lib.hid hsl
    have HK := Lib.hid hkept
    clear hkept
    by_cases hlt : k < xs.length
    · obtain ⟨g, rfl, _, _, _, _⟩ := HC.out k hlt
      obtain ⟨hcell, hfr⟩ := hsl.at k (by rw [markTo_length _ _ _ hk]; exact hlt)
      clear hsl
      go_wp2
      go_roundw
      case rel => exact ⟨k + 1, by omega, by go_num, by go_num, by rw [← markTo_set _ _ _ hlt]; exact HSL.out.set (markTo_length _ _ _ hk).symm k _, HK.out.setCell (.inl (by simp [Value.ownBlock])) _⟩
      case measure => simp [intOf]; omega
    · have hk' : k = xs.length := by omega
      subst hk'
      clear hsl
      go_wp2
      go_ret
      exact ⟨rfl, by have h := HSL.out; rw [markTo_end] at h; exact h, HK.out⟩

set_option maxHeartbeats 1000000 in
set_option maxRecDepth 100000 in
theorem heldIntS_any (n : Nat) (h20 : n ≤ 2000000) (w : World) (v : Value) (base : Nat) (hs : Sl w base v (marks 1 n)) :
    Calls Tryz.prog 149 #[v, .int .i64 1] w fun e w' => e = .returned (.int .i64 (1 + (n : Nat))) ∧ w = w' := by
  obtain ⟨a, cap, rfl, _, hm, hc⟩ := hs.any
  rw [marks_length] at *
  have HC := Lib.hid hc
  clear hc hs
  go_enter Tryz.func149, Tryz.ntmps149
  go_wp2
  go_loop [1, 5] (fun m i => ∃ k : Nat, k ≤ n ∧ i = .int .i64 k ∧ m = .int .i64 (1 + (k : Int))) (fun _ i => n - (intOf i).toNat)
  case atStart => exact ⟨0, Nat.zero_le _, rfl, by simp⟩
  case round =>
    obtain ⟨k, hk, rfl, rfl⟩ := hrel
    by_cases hlt : k < n
    · obtain ⟨g, rfl, _, _, hcell, _⟩ := HC.out k hlt
      rw [marks_get _ _ _ hlt] at hcell
      have hne : ((1 + (k : Int)) != (1 + (k : Int))) = false := by simp
      go_wp2
      go_round
      case rel => exact ⟨k + 1, by omega, by go_num, by go_num⟩
      case measure => simp [intOf]; omega
    · have hk' : k = n := by omega
      subst hk'
      go_wp2
      go_ret
      exact ⟨rfl, rfl⟩
end Go.Proofs.YtnajdbnacdnnlaaGreatDoor

namespace Go.Proofs.YtnajdbnacdnnlaaGreatDoor
open Go.RowKit

set_option maxHeartbeats 1000000 in
set_option maxRecDepth 100000 in
theorem toIntSG_any (xs : List Int) (h20 : xs.length ≤ 1048576) (w : World) (v : Value) (ha : Arg w v xs) :
    Calls Tryz.prog 146 #[v] w fun e w' => e = .returned (.slice (some ⟨w.heap.size, 0, none⟩) xs.length xs.length) ∧ Sl w' w.heap.size (.slice (some ⟨w.heap.size, 0, none⟩) xs.length xs.length) xs ∧ Kept [] w w' := by
  obtain ⟨a, cap, rfl, _, hc⟩ := ha
  have HC := Lib.hid hc
  clear hc
  go_enter Tryz.func146, Tryz.ntmps146
  go_wp2_with (at_make; refine make_int w xs.length rfl _ _ rfl rfl rfl ?_ ?_)
  · omega
  · intro w1 hs1 hk1 _
    have HS1 := Lib.hid hs1
    have HK1 := Lib.hid hk1
    clear hs1 hk1
    go_wp2
    go_loopw [4] (fun i wr => ∃ k : Nat, k ≤ xs.length ∧ i = .int .i64 k ∧ Sl wr w.heap.size (.slice (some ⟨w.heap.size, 0, none⟩) xs.length xs.length) (copyTo xs k) ∧ Kept [] w wr) (fun i _ => xs.length - (intOf i).toNat)
    case atStart => exact ⟨0, Nat.zero_le _, rfl, by simpa [copyTo] using HS1.out, HK1.out⟩
    case round =>
      clear HS1 HK1
      obtain ⟨k, hk, rfl, hsl, hkept⟩ := hrel
      have HSL := Lib.hid hsl
      have HK := Lib.hid hkept
      by_cases hlt : k < xs.length
      · obtain ⟨hcell, hfr⟩ := hsl.at k (by rw [copyTo_length _ _ hk]; exact hlt)
        obtain ⟨b, off, rfl, hb, hca⟩ := HC.out k hlt
        have hcw := (hkept.cell (p := ⟨b, off + k, none⟩) hb (by simp)).trans hca
        have HSET := Lib.hid (copyTo_set xs k hlt)
        clear hsl hkept hca
        generalize xs.getD k 0 = x at *
        go_wp2
        go_roundw
        case rel => exact ⟨k + 1, by omega, by go_num, by rw [← HSET.out]; exact HSL.out.set (copyTo_length _ _ hk).symm k x, HK.out.setCell (.inr (Nat.le_refl _)) _⟩
        case measure => simp [intOf]; omega
      · have hk' : k = xs.length := by omega
        subst hk'
        clear hsl hkept
        go_wp2
        go_ret
        exact ⟨rfl, by have h := HSL.out; rw [copyTo_end] at h; exact h, HK.out⟩

set_option maxHeartbeats 1000000 in
set_option maxRecDepth 100000 in
theorem heldIntSAt_any (m : Int) (h0 : 0 ≤ m) (hm9 : m ≤ 1000000000) (n : Nat) (h20 : n ≤ 2000000) (w : World) (v : Value) (base : Nat) (hs : Sl w base v (marks m n)) :
    Calls Tryz.prog 149 #[v, .int .i64 m] w fun e w' => e = .returned (.int .i64 (m + (n : Nat))) ∧ w = w' := by
  obtain ⟨a, cap, rfl, _, hm, hc⟩ := hs.any
  rw [marks_length] at *
  have HC := Lib.hid hc
  clear hc hs
  go_enter Tryz.func149, Tryz.ntmps149
  go_wp2
  go_loop [1, 5] (fun q i => ∃ k : Nat, k ≤ n ∧ i = .int .i64 k ∧ q = .int .i64 (m + (k : Int))) (fun _ i => n - (intOf i).toNat)
  case atStart => exact ⟨0, Nat.zero_le _, rfl, by simp⟩
  case round =>
    obtain ⟨k, hk, rfl, rfl⟩ := hrel
    by_cases hlt : k < n
    · obtain ⟨g, rfl, _, _, hcell, _⟩ := HC.out k hlt
      rw [marks_get _ _ _ hlt] at hcell
      have hne : ((m + (k : Int)) != (m + (k : Int))) = false := by simp
      go_wp2
      go_round
      case rel => exact ⟨k + 1, by omega, by go_num, by go_num⟩
      case measure => simp [intOf]; omega
    · have hk' : k = n := by omega
      subst hk'
      go_wp2
      go_ret
      exact ⟨rfl, rfl⟩

theorem eqIntS_same (xs : List Int) (w : World) (v u : Value) (base base' : Nat) (hs : Sl w base v xs) (ht : Sl w base' u xs) :
    Calls Tryz.prog 147 #[v, u] w fun e w' => e = .returned (.bool true) ∧ Kept [] w w' :=
  (eqIntS_any xs xs w v u base base' hs ht).mono (by rintro e w' ⟨rfl, h⟩; exact ⟨by simp, h.kept⟩)

set_option maxHeartbeats 400000 in
set_option maxRecDepth 100000 in
theorem szIntS_any (n : Nat) (left : Int) (h0 : 0 ≤ left) (h1 : left ≤ 1048576) (hm : n ≤ 9223372036854775807) (a : Option Addr) (cap : Nat) (w : World) :
    Calls Tryz.prog 145 #[.slice a n cap, .int .i64 left] w fun e w' => (∃ r : Int, e = .returned (.int .i64 r) ∧ Hid (r = -1 ∨ (0 ≤ r ∧ r = left - (n : Int)))) ∧ w = w' := by
  have s1 : IntKind.i64.wrap (left - (n : Int)) = left - (n : Int) := IntWalk.i64_in _ (by omega)
  by_cases h : left - (n : Int) < 0
  · have hd : decide (left - (n : Int) < 0) = true := dec_of h
    clear h0 h1 hm
    go_enter Tryz.func145, Tryz.ntmps145
    go_wp2
    go_ret
    exact ⟨⟨_, rfl, Lib.hid (.inl rfl)⟩, rfl⟩
  · have hd : decide (left - (n : Int) < 0) = false := dec_not h
    have HH := Lib.hid h
    clear h0 h1 hm h
    go_enter Tryz.func145, Tryz.ntmps145
    go_wp2
    go_ret
    exact ⟨⟨_, rfl, Lib.hid (.inr ⟨by have := HH.out; omega, rfl⟩)⟩, rfl⟩

theorem three_newE (w : World) (T T2 T3 : TypeId) (cs ds es : Array Value) : Kept [] w (((w.alloc (.cells cs T)).alloc (.cells ds T2)).alloc (.cells es T3)) ∧ Bk (((w.alloc (.cells cs T)).alloc (.cells ds T2)).alloc (.cells es T3)) w.heap.size T cs ∧ Bk (((w.alloc (.cells cs T)).alloc (.cells ds T2)).alloc (.cells es T3)) (w.heap.size + 1) T2 ds ∧ Bk (((w.alloc (.cells cs T)).alloc (.cells ds T2)).alloc (.cells es T3)) (w.heap.size + 1 + 1) T3 es := by
  obtain ⟨hk, h1, h2⟩ := two_new w T T2 cs ds
  have e1 : ((w.alloc (.cells cs T)).alloc (.cells ds T2)).heap.size = w.heap.size + 1 + 1 := by simp
  have hk2 : Kept [] ((w.alloc (.cells cs T)).alloc (.cells ds T2)) (((w.alloc (.cells cs T)).alloc (.cells ds T2)).alloc (.cells es T3)) := (Kept.refl _ _).alloc _
  refine ⟨hk.alloc _, h1.stay hk2, h2.stay hk2, ?_⟩
  rw [← e1]
  exact Bk.new _ _ _

/-- A place that came in from outside. -/
def ArgPl (w : World) (x : Value) (p : Nt.Pi) : Prop := ∃ v u, x = .agg #[v, .int .i64 p.c, u] ∧ Arg w v p.ns ∧ Arg w u p.ks
theorem ArgPl.stay {w w' : World} {x : Value} {p : Nt.Pi} (h : ArgPl w x p) (hk : Kept [] w w') : ArgPl w' x p := by
  obtain ⟨v, u, rfl, h1, h2⟩ := h
  exact ⟨v, u, rfl, h1.stay hk, h2.stay hk⟩
/-- A place whose two slices lie apart, one behind the other. -/
def PvA (w : World) (base : Nat) (x : Value) (p : Nt.Pi) (g1 q1 g2 q2 : Nat) : Prop :=
  x = .agg #[.slice (some ⟨g1, 0, none⟩) p.ns.length q1, .int .i64 p.c, .slice (some ⟨g2, 0, none⟩) p.ks.length q2] ∧
    Sl w base (.slice (some ⟨g1, 0, none⟩) p.ns.length q1) p.ns ∧ Sl w base (.slice (some ⟨g2, 0, none⟩) p.ks.length q2) p.ks ∧ g1 < g2
theorem PvA.pv {w : World} {base : Nat} {x : Value} {p : Nt.Pi} {g1 q1 g2 q2 : Nat} (h : PvA w base x p g1 q1 g2 q2) : Pv w base x p := ⟨_, _, h.1, h.2.1, h.2.2.1⟩
theorem PvA.stay {w w' : World} {base : Nat} {x : Value} {p : Nt.Pi} {g1 q1 g2 q2 : Nat} (h : PvA w base x p g1 q1 g2 q2) (hk : Kept [] w w') : PvA w' base x p g1 q1 g2 q2 := ⟨h.1, h.2.1.stay hk, h.2.2.1.stay hk, h.2.2.2⟩
theorem PvA.mono {w : World} {base base' : Nat} {x : Value} {p : Nt.Pi} {g1 q1 g2 q2 : Nat} (h : PvA w base x p g1 q1 g2 q2) (hb : base' ≤ base) : PvA w base' x p g1 q1 g2 q2 := ⟨h.1, h.2.1.mono hb, h.2.2.1.mono hb, h.2.2.2⟩
theorem PvA.block {w : World} {base : Nat} {x : Value} {p : Nt.Pi} {g1 q1 g2 q2 : Nat} (h : PvA w base x p g1 q1 g2 q2) : base ≤ g1 ∧ g2 < w.heap.size := ⟨(h.2.1.block rfl).1, (h.2.2.1.block rfl).2⟩

set_option maxHeartbeats 2000000 in
set_option maxRecDepth 100000 in
theorem szPlace_any (p : Nt.Pi) (left : Int) (h0 : 0 ≤ left) (h1 : left ≤ 1048576) (w : World) (x : Value) (h : ArgPl w x p) :
    Calls Tryz.prog 87 #[x, .int .i64 left] w fun e w' => (∃ r : Int, e = .returned (.int .i64 r) ∧ Hid (r = -1 ∨ (0 ≤ r ∧ r = left - (p.ns.length : Int) - (p.ks.length : Int)))) ∧ Kept [] w w' := by
  obtain ⟨v, u, rfl, ⟨a, cap, rfl, hm1, _⟩, ⟨b, cap2, rfl, hm2, _⟩⟩ := h
  have HK := Lib.hid ((Kept.refl [] w).alloc (.cells #[.slice a p.ns.length cap, .int .i64 p.c, .slice b p.ks.length cap2] 58))
  have HL := Lib.hid (And.intro h0 h1)
  clear h0 h1
  go_enter Tryz.func87, Tryz.ntmps87
  go_wp2_with fail
  refine (szIntS_any p.ns.length left HL.out.1 HL.out.2 hm1 _ _ _).mono ?_
  rintro e w1 ⟨⟨r, rfl, hr⟩, rfl⟩
  by_cases hn : r < 0
  · have hd : decide (r < 0) = true := dec_of hn
    clear hn
    go_wp2
    go_ret
    exact ⟨⟨_, rfl, Lib.hid (.inl rfl)⟩, HK.out⟩
  · have hd : decide (r < 0) = false := dec_not hn
    have HR : Hid (0 ≤ r ∧ r = left - (p.ns.length : Int)) := Lib.hid (hr.out.resolve_left (by omega))
    have HR2 : Hid (r ≤ 1048576) := Lib.hid (by have := HR.out; have := HL.out; omega)
    clear hn hr
    go_wp2_with fail
    refine (szIntS_any p.ks.length r HR.out.1 HR2.out hm2 _ _ _).mono ?_
    rintro e w1 ⟨⟨r2, rfl, hr⟩, rfl⟩
    by_cases hn : r2 < 0
    · have hd2 : decide (r2 < 0) = true := dec_of hn
      clear hn
      go_wp2
      go_ret
      exact ⟨⟨_, rfl, Lib.hid (.inl rfl)⟩, HK.out⟩
    · have hd2 : decide (r2 < 0) = false := dec_not hn
      have HN := Lib.hid hn
      clear hn
      go_wp2
      go_ret
      exact ⟨⟨_, rfl, Lib.hid (.inr (by have := hr.out; have := HR.out; have := HN.out; omega))⟩, HK.out⟩

set_option maxHeartbeats 2000000 in
set_option maxRecDepth 100000 in
theorem toPlace_any (p : Nt.Pi) (hn : p.ns.length ≤ 1048576) (hk : p.ks.length ≤ 1048576) (w : World) (x : Value) (h : ArgPl w x p) :
    Calls Tryz.prog 89 #[x] w fun e w' => ∃ y g1 q1 g2 q2, e = .returned y ∧ PvA w' w.heap.size y p g1 q1 g2 q2 ∧ Kept [] w w' := by
  obtain ⟨v, u, rfl, h1, h2⟩ := h
  obtain ⟨hk0, hb0, ho0, hr0⟩ := three_newE w 58 30 30 #[v, .int .i64 p.c, u] #[.slice none 0 0, .int .i64 0, .slice none 0 0] #[.slice none 0 0, .int .i64 0, .slice none 0 0]
  have H1 := Lib.hid (h1.stay hk0)
  have H2 := Lib.hid h2
  obtain ⟨a, cap, rfl, _, _⟩ := h1
  obtain ⟨b, cap2, rfl, _, _⟩ := h2
  have HB := Lib.hid hb0
  have HR := Lib.hid hr0
  have HK0 := Lib.hid hk0
  have HO := Lib.hid ho0
  obtain ⟨c0, c1, c2⟩ := hb0.three
  clear hb0 hr0 hk0 ho0
  go_enter Tryz.func89, Tryz.ntmps89
  go_wp2_with fail
  generalize (((w.alloc (.cells #[.slice a p.ns.length cap, .int .i64 p.c, .slice b p.ks.length cap2] 58)).alloc (.cells #[.slice none 0 0, .int .i64 0, .slice none 0 0] 30)).alloc (.cells #[.slice none 0 0, .int .i64 0, .slice none 0 0] 30)) = W0 at *
  refine (toIntSG_any p.ns hn _ _ H1.out).mono ?_
  rintro e w1 ⟨rfl, hs1, hk1⟩
  have HS1 := Lib.hid hs1
  have HK1 := Lib.hid hk1
  clear c0 c1 c2
  obtain ⟨c0, c1, c2⟩ := (HB.out.stay hk1).three
  obtain ⟨r0, r1, r2⟩ := (HR.out.stay hk1).three
  have f0 := (HR.out.stay hk1).frozen 0
  have f1 := (HR.out.stay hk1).frozen 1
  clear hs1 hk1
  generalize hg1 : W0.heap.size = g1 at *
  have HG1 := Lib.hid hg1
  have hk2 : Kept [w.heap.size + 1 + 1] w1 ((w1.setCell ⟨w.heap.size + 1 + 1, 0, none⟩ (.slice (some ⟨g1, 0, none⟩) p.ns.length p.ns.length)).setCell ⟨w.heap.size + 1 + 1, 1, none⟩ (.int .i64 p.c)) := ((Kept.refl _ _).setCell (.inl (by simp)) _).setCell (.inl (by simp)) _
  have hr2 : Bk ((w1.setCell ⟨w.heap.size + 1 + 1, 0, none⟩ (.slice (some ⟨g1, 0, none⟩) p.ns.length p.ns.length)).setCell ⟨w.heap.size + 1 + 1, 1, none⟩ (.int .i64 p.c)) (w.heap.size + 1 + 1) 30 #[.slice (some ⟨g1, 0, none⟩) p.ns.length p.ns.length, .int .i64 p.c, .slice none 0 0] := ((HR.out.stay HK1.out).set 0 _).set 1 _
  have HK2 := Lib.hid hk2
  have HR2 := Lib.hid hr2
  clear hk2 hr2 hg1
  go_wp2_with fail
  generalize ((w1.setCell ⟨w.heap.size + 1 + 1, 0, none⟩ (.slice (some ⟨g1, 0, none⟩) p.ns.length p.ns.length)).setCell ⟨w.heap.size + 1 + 1, 1, none⟩ (.int .i64 p.c)) = W2 at *
  have HB2 := Lib.hid ((HB.out.stay HK1.out).kept HK2.out (fun h => by rw [List.mem_singleton] at h; omega))
  have hold : Kept [] w W2 := (HK0.out.trans HK1.out (by simp)).trans HK2.out (fun x hx => .inr (by rw [List.mem_singleton] at hx; omega))
  have HOLD := Lib.hid hold
  have hsz : w.heap.size + 1 + 1 < g1 := by rw [← HG1.out]; exact HR.out.lt
  have HSZ := Lib.hid hsz
  have HA2 := Lib.hid (H2.out.stay hold)
  have HS2 := Lib.hid (HS1.out.kept HK2.out (fun g hg => by simp [Value.ownBlock] at hg; subst hg; simp; omega))
  clear hold hsz c0 c1 c2 r0 r1 r2 f0 f1
  obtain ⟨c0, c1, c2⟩ := HB2.out.three
  refine (toIntSG_any p.ks hk _ _ HA2.out).mono ?_
  rintro e w3 ⟨rfl, hs3, hk3⟩
  have HS3 := Lib.hid hs3
  have HK3 := Lib.hid hk3
  have HR3 := Lib.hid (HR2.out.stay hk3)
  have f2 := (HR2.out.stay hk3).frozen 2
  obtain ⟨r0, r1, r2⟩ := (HR2.out.stay hk3).three
  generalize hg2 : W2.heap.size = g2 at *
  have HG2 := Lib.hid hg2
  clear hs3 hk3 hg2 c0 c1 c2
  have HO3 := Lib.hid (((HO.out.stay HK1.out).kept HK2.out (fun h => by rw [List.mem_singleton] at h; omega)).stay HK3.out)
  have ho3 := HO3.out.lt
  have hb3 := HR3.out.lt
  have hk4 : Kept [w.heap.size + 1 + 1] w3 (w3.setCell ⟨w.heap.size + 1 + 1, 2, none⟩ (.slice (some ⟨g2, 0, none⟩) p.ks.length p.ks.length)) := (Kept.refl _ _).setCell (.inl (by simp)) _
  have HK4 := Lib.hid hk4
  have HR4 := Lib.hid (HR3.out.set 2 (.slice (some ⟨g2, 0, none⟩) p.ks.length p.ks.length))
  have HO4 := Lib.hid (HO3.out.kept hk4 (fun h => by rw [List.mem_singleton] at h; omega))
  obtain ⟨p0, p1, p2⟩ := HO4.out.three
  have o0 := HO4.out.frozen 0
  have o1 := HO4.out.frozen 1
  have o2 := HO4.out.frozen 2
  obtain ⟨q0, q1, q2⟩ := HR4.out.three
  clear hk4
  go_wp2
  (try simp only [Exit.inBlock, Exit.then])
  generalize w3.setCell ⟨w.heap.size + 1 + 1, 2, none⟩ (.slice (some ⟨g2, 0, none⟩) p.ks.length p.ks.length) = w4 at *
  refine bodyPost_ret (results_cell_row rfl _ _ (w.heap.size + 1) 30 #[.slice (some ⟨g1, 0, none⟩) p.ns.length p.ns.length, .int .i64 p.c, .slice (some ⟨g2, 0, none⟩) p.ks.length p.ks.length] (0, 0) _ rfl (HO4.out.set3 _ _ _) Tryz.underlying30 rfl (by kernel_rfl)) rfl ?_
  have hz := HSZ.out
  have h12 : g1 < g2 := by rw [← HG2.out]; exact (HS2.out.block rfl).2
  have hk5 := Kept.rows3 w4 (w.heap.size + 1) (.slice (some ⟨g1, 0, none⟩) p.ns.length p.ns.length) (.int .i64 p.c) (.slice (some ⟨g2, 0, none⟩) p.ks.length p.ks.length)
  refine ⟨_, g1, _, g2, _, rfl, ⟨rfl, (((HS2.out.stay HK3.out).kept HK4.out (fun g hg => by simp [Value.ownBlock] at hg; subst hg; simp; omega)).kept hk5 (fun g hg => by simp [Value.ownBlock] at hg; subst hg; simp; omega)).mono (by omega), ((HS3.out.kept HK4.out (fun g hg => by simp [Value.ownBlock] at hg; subst hg; simp; omega)).kept hk5 (fun g hg => by simp [Value.ownBlock] at hg; subst hg; simp; omega)).mono (by omega), h12⟩, ((HOLD.out.trans HK3.out (by simp)).trans HK4.out (fun x hx => .inr (by rw [List.mem_singleton] at hx; omega))).trans hk5 (fun x hx => .inr (by rw [List.mem_singleton] at hx; omega))⟩

set_option maxHeartbeats 2000000 in
set_option maxRecDepth 100000 in
theorem eqPlace_same (p : Nt.Pi) (w : World) (x y : Value) (base base' : Nat) (h : Pv w base x p) (h' : Pv w base' y p) :
    Calls Tryz.prog 91 #[x, y] w fun e w' => e = .returned (.bool true) ∧ Kept [] w w' := by
  obtain ⟨v, u, rfl, h1, h2⟩ := h
  obtain ⟨v', u', rfl, h3, h4⟩ := h'
  obtain ⟨hk0, hb0, hr0⟩ := two_new w 30 30 #[v, .int .i64 p.c, u] #[v', .int .i64 p.c, u']
  have H1 := Lib.hid (h1.stay hk0)
  have H2 := Lib.hid (h2.stay hk0)
  have H3 := Lib.hid (h3.stay hk0)
  have H4 := Lib.hid (h4.stay hk0)
  obtain ⟨a, cap, rfl, _, _, _⟩ := h1.any
  obtain ⟨b, cap2, rfl, _, _, _⟩ := h2.any
  obtain ⟨a', cap', rfl, _, _, _⟩ := h3.any
  obtain ⟨b', cap2', rfl, _, _, _⟩ := h4.any
  have HB := Lib.hid hb0
  have HR := Lib.hid hr0
  have HK0 := Lib.hid hk0
  obtain ⟨c0, c1, c2⟩ := hb0.three
  obtain ⟨d0, d1, d2⟩ := hr0.three
  have hne : (p.c != p.c) = false := by simp
  clear hb0 hr0 hk0 h1 h2 h3 h4
  go_enter Tryz.func91, Tryz.ntmps91
  go_wp2_with fail
  generalize ((w.alloc (.cells #[.slice a p.ns.length cap, .int .i64 p.c, .slice b p.ks.length cap2] 30)).alloc (.cells #[.slice a' p.ns.length cap', .int .i64 p.c, .slice b' p.ks.length cap2'] 30)) = W0 at *
  refine (eqIntS_same p.ns _ _ _ _ _ H1.out H3.out).mono ?_
  rintro e w1 ⟨rfl, hk1⟩
  have HK1 := Lib.hid hk1
  clear c0 c1 c2 d0 d1 d2
  obtain ⟨c0, c1, c2⟩ := (HB.out.stay hk1).three
  obtain ⟨d0, d1, d2⟩ := (HR.out.stay hk1).three
  clear hk1
  go_wp2_with fail
  refine (eqIntS_same p.ks _ _ _ _ _ (H2.out.stay HK1.out) (H4.out.stay HK1.out)).mono ?_
  rintro e w2 ⟨rfl, hk2⟩
  have HK2 := Lib.hid ((HK0.out.trans HK1.out (by simp)).trans hk2 (by simp))
  clear hk2 c0 c1 c2 d0 d1 d2
  go_wp2
  go_ret
  exact ⟨rfl, HK2.out⟩

set_option maxHeartbeats 2000000 in
set_option maxRecDepth 100000 in
theorem markPlace_any (m : Int) (h0 : 0 ≤ m) (hm9 : m ≤ 900000000) (p : Nt.Pi) (hn : p.ns.length ≤ 2000000) (hk : p.ks.length ≤ 2000000) (w : World) (x : Value) (base g1 q1 g2 q2 : Nat) (h : PvA w base x p g1 q1 g2 q2) :
    Calls Tryz.prog 93 #[x, .int .i64 m] w fun e w' => e = .returned (.int .i64 (m + (p.ns.length : Nat) + (p.ks.length : Nat))) ∧ PvA w' base x ⟨marks m p.ns.length, p.c, marks (m + (p.ns.length : Nat)) p.ks.length⟩ g1 q1 g2 q2 ∧ Kept [g1, g2] w w' := by
  obtain ⟨rfl, h1, h2, h12⟩ := h
  have hk0 : Kept [] w (w.alloc (.cells #[.slice (some ⟨g1, 0, none⟩) p.ns.length q1, .int .i64 p.c, .slice (some ⟨g2, 0, none⟩) p.ks.length q2] 30)) := (Kept.refl [] w).alloc _
  have HB := Lib.hid (Bk.new w 30 #[.slice (some ⟨g1, 0, none⟩) p.ns.length q1, .int .i64 p.c, .slice (some ⟨g2, 0, none⟩) p.ks.length q2])
  have HG := Lib.hid (And.intro h12 (And.intro (h1.block (g := g1) rfl) (h2.block (g := g2) rfl)))
  have H1 := Lib.hid (h1.stay hk0)
  have H2 := Lib.hid (h2.stay hk0)
  have HK0 := Lib.hid hk0
  have HM := Lib.hid (And.intro h0 hm9)
  have HN := Lib.hid (And.intro hn hk)
  obtain ⟨c0, c1, c2⟩ := HB.out.three
  clear h1 h2 h12 hk0 h0 hm9 hn hk
  go_enter Tryz.func93, Tryz.ntmps93
  go_wp2_with fail
  generalize w.alloc (.cells #[.slice (some ⟨g1, 0, none⟩) p.ns.length q1, .int .i64 p.c, .slice (some ⟨g2, 0, none⟩) p.ks.length q2] 30) = W0 at *
  refine (markIntS_any m HM.out.1 (by have := HM.out.2; omega) p.ns HN.out.1 _ _ _ H1.out).mono ?_
  rintro e w1 ⟨rfl, hs1, hk1⟩
  have HS1 := Lib.hid hs1
  have HK1 : Hid (Kept [g1] W0 w1) := Lib.hid hk1
  have HB1 := Lib.hid (HB.out.kept HK1.out (by have := HG.out; simp; omega))
  have HS2 := Lib.hid (H2.out.kept HK1.out (fun g hg => by have := HG.out; simp [Value.ownBlock] at hg; subst hg; simp; omega))
  clear hs1 hk1 c0 c1 c2
  obtain ⟨c0, c1, c2⟩ := HB1.out.three
  go_wp2_with fail
  refine (markIntS_any (m + (p.ns.length : Nat)) (by have := HM.out; omega) (by have := HM.out; have := HN.out; omega) p.ks HN.out.2 _ _ _ HS2.out).mono ?_
  rintro e w2 ⟨rfl, hs2, hk2⟩
  have HS3 := Lib.hid hs2
  have HK2 : Hid (Kept [g2] w1 w2) := Lib.hid hk2
  clear hs2 hk2 c0 c1 c2
  go_wp2
  go_ret
  have hg := HG.out
  refine ⟨rfl, ⟨by simp only [marks_length], ?_, ?_, hg.1⟩, ?_⟩
  · simp only [marks_length]
    exact HS1.out.kept HK2.out (fun g hg => by simp [Value.ownBlock] at hg; subst hg; simp; omega)
  · simp only [marks_length]
    exact HS3.out
  · exact ((Kept.weak _ HK0.out).trans HK1.out (by simp)).trans HK2.out (by simp)

set_option maxHeartbeats 2000000 in
set_option maxRecDepth 100000 in
theorem heldPlace_any (m : Int) (h0 : 0 ≤ m) (hm9 : m ≤ 900000000) (c : Int) (a b : Nat) (hn : a ≤ 2000000) (hk : b ≤ 2000000) (w : World) (x : Value) (base : Nat) (h : Pv w base x ⟨marks m a, c, marks (m + (a : Nat)) b⟩) :
    Calls Tryz.prog 95 #[x, .int .i64 m] w fun e w' => e = .returned (.int .i64 (m + (a : Nat) + (b : Nat))) ∧ Kept [] w w' := by
  obtain ⟨v, u, rfl, h1, h2⟩ := h
  obtain ⟨a1, cap, rfl, _, _, _⟩ := h1.any
  obtain ⟨b1, cap2, rfl, _, _, _⟩ := h2.any
  simp only [marks_length] at *
  have hk0 : Kept [] w (w.alloc (.cells #[.slice a1 a cap, .int .i64 c, .slice b1 b cap2] 30)) := (Kept.refl [] w).alloc _
  have HB := Lib.hid (Bk.new w 30 #[.slice a1 a cap, .int .i64 c, .slice b1 b cap2])
  have H1 := Lib.hid (h1.stay hk0)
  have H2 := Lib.hid (h2.stay hk0)
  have HK0 := Lib.hid hk0
  have HM := Lib.hid (And.intro h0 hm9)
  have HN := Lib.hid (And.intro hn hk)
  have d1 : decide (m + (a : Int) < 0) = false := dec_not (by omega)
  have d2 : decide (m + (a : Int) + (b : Int) < 0) = false := dec_not (by omega)
  obtain ⟨c0, c1, c2⟩ := HB.out.three
  clear h1 h2 hk0 h0 hm9 hn hk
  go_enter Tryz.func95, Tryz.ntmps95
  go_wp2_with fail
  generalize w.alloc (.cells #[.slice a1 a cap, .int .i64 c, .slice b1 b cap2] 30) = W0 at *
  refine (heldIntSAt_any m HM.out.1 (by have := HM.out.2; omega) a HN.out.1 _ _ _ H1.out).mono ?_
  rintro e w1 ⟨rfl, rfl⟩
  go_wp2_with fail
  refine (heldIntSAt_any (m + (a : Nat)) (by have := HM.out; omega) (by have := HM.out; have := HN.out; omega) b HN.out.2 _ _ _ H2.out).mono ?_
  rintro e w1 ⟨rfl, rfl⟩
  go_wp2
  go_ret
  exact ⟨rfl, HK0.out⟩

def plLen (p : Nt.Pi) : Nat := p.ns.length + p.ks.length
end Go.Proofs.YtnajdbnacdnnlaaGreatDoor

namespace Go.Proofs.YtnajdbnacdnnlaaGreatDoor
open Go.RowKit

/-- All is as it was but for some blocks between two. -/
def Kin (lo hi : Nat) (w w' : World) : Prop := ∃ rows, Kept rows w w' ∧ ∀ g, g ∈ rows → lo ≤ g ∧ g < hi

theorem Kin.of {lo hi : Nat} {w w' : World} (h : Kept [] w w') : Kin lo hi w w' := ⟨[], h, by simp⟩

theorem Kin.size {lo hi : Nat} {w w' : World} (h : Kin lo hi w w') : w.heap.size ≤ w'.heap.size := by
  obtain ⟨rows, hk, _⟩ := h
  exact hk.size

theorem Bk.kin {w w' : World} {g lo hi : Nat} {T : TypeId} {cs : Array Value} (h : Bk w g T cs) (hk : Kin lo hi w w') (hn : g < lo ∨ hi ≤ g) : Bk w' g T cs := by
  obtain ⟨rows, hk, hr⟩ := hk
  exact h.kept hk (fun hg => by have := hr g hg; omega)

theorem Sl.kin {w w' : World} {base lo hi : Nat} {v : Value} {xs : List Int} (h : Sl w base v xs) (hk : Kin lo hi w w') (hn : hi ≤ base) : Sl w' base v xs := by
  obtain ⟨rows, hk, hr⟩ := hk
  exact h.kept hk (fun g hg hm => by have h1 := hr g hm; have h2 := (h.block hg).1; omega)

/-- What lay ahead of the marked blocks is as it was. -/
theorem Kept.kin {w a b : World} {lo hi : Nat} (h : Kept [] w a) (k : Kin lo hi a b) (hl : w.heap.size ≤ lo) : Kept [] w b := by
  obtain ⟨rows, hk, hr⟩ := k
  exact h.trans hk (fun x hx => .inr (by have := hr x hx; omega))

set_option maxHeartbeats 400000 in
set_option maxRecDepth 100000 in
theorem markIntS_nil (m : Int) (w : World) : Calls Tryz.prog 148 #[.slice none 0 0, .int .i64 m] w fun e w' => e = .returned (.int .i64 m) ∧ w = w' := by
  go_enter Tryz.func148, Tryz.ntmps148
  go_wp2_with fail
  go_loop [1, 5] (fun q i => i = .int .i64 0 ∧ q = .int .i64 m) (fun _ _ => 0)
  case atStart => exact ⟨rfl, rfl⟩
  case round =>
    obtain ⟨rfl, rfl⟩ := hrel
    go_wp2
    go_ret
    exact ⟨rfl, rfl⟩

set_option maxHeartbeats 400000 in
set_option maxRecDepth 100000 in
theorem markPlace_nil (m c : Int) (w : World) : Calls Tryz.prog 93 #[.agg #[.slice none 0 0, .int .i64 c, .slice none 0 0], .int .i64 m] w fun e w' => e = .returned (.int .i64 m) ∧ Kept [] w w' := by
  have HK := Lib.hid ((Kept.refl [] w).alloc (.cells #[.slice none 0 0, .int .i64 c, .slice none 0 0] 30))
  go_enter Tryz.func93, Tryz.ntmps93
  go_wp2_with fail
  refine (markIntS_nil m _).mono ?_
  rintro e w1 ⟨rfl, rfl⟩
  go_wp2_with fail
  refine (markIntS_nil m _).mono ?_
  rintro e w1 ⟨rfl, rfl⟩
  go_wp2
  go_ret
  exact ⟨rfl, HK.out⟩

def mkPl (p : Nt.Pi) (m : Int) : Nt.Pi := ⟨marks m p.ns.length, p.c, marks (m + (p.ns.length : Nat)) p.ks.length⟩

theorem plLen_zero : plLen Nt.Pi.zero = 0 := rfl

/-- A place in memory of its own, between two blocks; or none. -/
def Pn (w : World) (lo hi : Nat) (y : Value) (p : Nt.Pi) : Prop :=
  (p = Nt.Pi.zero ∧ y = .agg #[.slice none 0 0, .int .i64 0, .slice none 0 0]) ∨ ∃ g1 q1 g2 q2, PvA w lo y p g1 q1 g2 q2 ∧ g2 < hi

theorem Pn.pv {w : World} {lo hi : Nat} {y : Value} {p : Nt.Pi} (h : Pn w lo hi y p) : Pv w lo y p := by
  rcases h with ⟨rfl, rfl⟩ | ⟨g1, q1, g2, q2, h, _⟩
  · exact Pv.zero w lo
  · exact h.pv

theorem Pn.stay {w w' : World} {lo hi : Nat} {y : Value} {p : Nt.Pi} (h : Pn w lo hi y p) (hk : Kept [] w w') : Pn w' lo hi y p := by
  rcases h with ⟨rfl, rfl⟩ | ⟨g1, q1, g2, q2, h, h2⟩
  · exact .inl ⟨rfl, rfl⟩
  · exact .inr ⟨g1, q1, g2, q2, h.stay hk, h2⟩

theorem Pn.kin {w w' : World} {lo hi lo' hi' : Nat} {y : Value} {p : Nt.Pi} (h : Pn w lo hi y p) (hk : Kin lo' hi' w w') (hn : hi' ≤ lo) : Pn w' lo hi y p := by
  rcases h with ⟨rfl, rfl⟩ | ⟨g1, q1, g2, q2, ⟨e, h1, h2, h3⟩, h4⟩
  · exact .inl ⟨rfl, rfl⟩
  · exact .inr ⟨g1, q1, g2, q2, ⟨e, h1.kin hk hn, h2.kin hk hn, h3⟩, h4⟩

theorem ArgPl.form {w : World} {x : Value} {p : Nt.Pi} (h : ArgPl w x p) : ∃ a n cap b m cap2, x = .agg #[.slice a n cap, .int .i64 p.c, .slice b m cap2] := by
  obtain ⟨v, u, rfl, ⟨a, cap, rfl, _, _⟩, ⟨b, cap2, rfl, _, _⟩⟩ := h
  exact ⟨_, _, _, _, _, _, rfl⟩

theorem toPlace_pn (p : Nt.Pi) (hp : plLen p ≤ 1048576) (w : World) (x : Value) (h : ArgPl w x p) :
    Calls Tryz.prog 89 #[x] w fun e w' => ∃ y, e = .returned y ∧ Pn w' w.heap.size w'.heap.size y p ∧ Kept [] w w' :=
  (toPlace_any p (by unfold plLen at hp; omega) (by unfold plLen at hp; omega) w x h).mono (by
    rintro e w' ⟨y, g1, q1, g2, q2, rfl, h1, h2⟩
    exact ⟨y, rfl, .inr ⟨g1, q1, g2, q2, h1, h1.block.2⟩, h2⟩)

theorem markPlace_pn (m : Int) (h0 : 0 ≤ m) (p : Nt.Pi) (hT : m + (plLen p : Nat) ≤ 2000000) (w : World) (y : Value) (lo hi : Nat) (h : Pn w lo hi y p) :
    Calls Tryz.prog 93 #[y, .int .i64 m] w fun e w' => e = .returned (.int .i64 (m + (plLen p : Nat))) ∧ Pn w' lo hi y (mkPl p m) ∧ Kin lo hi w w' := by
  rcases h with ⟨rfl, rfl⟩ | ⟨g1, q1, g2, q2, h, h2⟩
  · refine (markPlace_nil m 0 w).mono ?_
    rintro e w' ⟨rfl, hk⟩
    exact ⟨by simp [plLen_zero], .inl ⟨by simp [mkPl, Nt.Pi.zero, marks], rfl⟩, Kin.of hk⟩
  · refine (markPlace_any m h0 (by omega) p (by unfold plLen at hT; omega) (by unfold plLen at hT; omega) w y lo g1 q1 g2 q2 h).mono ?_
    rintro e w' ⟨rfl, h3, hk⟩
    have hb := h.block
    have hlt := h.2.2.2
    exact ⟨by unfold plLen; go_num, .inr ⟨g1, q1, g2, q2, h3, h2⟩, ⟨[g1, g2], hk, fun g hg => by simp at hg; omega⟩⟩

theorem heldPlace_pn (m : Int) (h0 : 0 ≤ m) (p : Nt.Pi) (hT : m + (plLen p : Nat) ≤ 2000000) (w : World) (y : Value) (lo hi : Nat) (h : Pn w lo hi y (mkPl p m)) :
    Calls Tryz.prog 95 #[y, .int .i64 m] w fun e w' => e = .returned (.int .i64 (m + (plLen p : Nat))) ∧ Kept [] w w' :=
  (heldPlace_any m h0 (by omega) p.c p.ns.length p.ks.length (by unfold plLen at hT; omega) (by unfold plLen at hT; omega) w y lo h.pv).mono (by
    rintro e w' ⟨rfl, hk⟩
    exact ⟨by unfold plLen; go_num, hk⟩)

theorem szPlace_pn (p : Nt.Pi) (w : World) (x : Value) (h : ArgPl w x p) :
    Calls Tryz.prog 87 #[x, .int .i64 1048576] w fun e w' => ∃ r : Int, e = .returned (.int .i64 r) ∧ Hid (¬ r < 0 → plLen p ≤ 1048576) ∧ Kept [] w w' :=
  (szPlace_any p 1048576 (by omega) (by omega) w x h).mono (by
    rintro e w' ⟨⟨r, rfl, hr⟩, hk⟩
    exact ⟨r, rfl, Lib.hid (fun h => by have := hr.out.resolve_left (by omega); unfold plLen; omega), hk⟩)

/-- Desks and places of whoever, compared with what they are. -/
theorem eqPlace_pv (p : Nt.Pi) (w : World) (x y : Value) (h : ∃ b, Pv w b x p) (h' : ∃ b, Pv w b y p) :
    Calls Tryz.prog 91 #[x, y] w fun e w' => e = .returned (.bool true) ∧ Kept [] w w' := by
  obtain ⟨b, h⟩ := h
  obtain ⟨b', h'⟩ := h'
  exact eqPlace_same p w x y b b' h h'
end Go.Proofs.YtnajdbnacdnnlaaGreatDoor

namespace Go.Proofs.YtnajdbnacdnnlaaGreatDoor
open Go.RowKit

/-- A deed that came in from outside. -/
def ArgDd (_ : World) (x : Value) (a : Nt.Dd) : Prop := x = .agg #[.int .i64 a.kind, .int .i64 a.a, .int .i64 a.b]

def ddAt (ds : List Nt.Dd) (k : Nat) : Nt.Dd := ds.getD k ⟨0, 0, 0⟩

/-- A slice of deeds that came in from outside. -/
def ArgDs (w : World) (v : Value) (ds : List Nt.Dd) : Prop :=
  ∃ (a : Option Addr) (cap : Nat), v = .slice a ds.length cap ∧ ds.length ≤ 9223372036854775807 ∧
    ∀ k, k < ds.length → ∃ b off, a = some ⟨b, off, none⟩ ∧ b < w.heap.size ∧ w.cell? ⟨b, off + k * 3, none⟩ = some (.int .i64 (ddAt ds k).kind) ∧ w.cell? ⟨b, off + k * 3 + 1, none⟩ = some (.int .i64 (ddAt ds k).a) ∧ w.cell? ⟨b, off + k * 3 + 2, none⟩ = some (.int .i64 (ddAt ds k).b)

theorem ArgDs.stay {w w' : World} {v : Value} {ds : List Nt.Dd} (h : ArgDs w v ds) (hk : Kept [] w w') : ArgDs w' v ds := by
  obtain ⟨a, cap, rfl, h1, h3⟩ := h
  refine ⟨a, cap, rfl, h1, fun k hkl => ?_⟩
  obtain ⟨g, off, e, hg, c0, c1, c2⟩ := h3 k hkl
  exact ⟨g, off, e, Nat.lt_of_lt_of_le hg hk.size, (hk.cell (p := ⟨g, off + k * 3, none⟩) hg (by simp)).trans c0, (hk.cell (p := ⟨g, off + k * 3 + 1, none⟩) hg (by simp)).trans c1, (hk.cell (p := ⟨g, off + k * 3 + 2, none⟩) hg (by simp)).trans c2⟩

set_option maxHeartbeats 400000 in
set_option maxRecDepth 100000 in
theorem toDeed_any (k a b : Int) (w : World) :
    Calls Tryz.prog 46 #[.agg #[.int .i64 k, .int .i64 a, .int .i64 b]] w fun e w' => e = .returned (.agg #[.int .i64 k, .int .i64 a, .int .i64 b]) ∧ Kept [] w w' := by
  have HK := Lib.hid (fun (o1 o2 o3 : Obj) => (((Kept.refl [] w).alloc o1).alloc o2).alloc o3)
  go_enter Tryz.func46, Tryz.ntmps46
  go_wp2
  (try simp only [Exit.inBlock, Exit.then])
  refine bodyPost_ret (results_cell_row rfl _ _ (w.heap.size + 1) 41 #[.int .i64 k, .int .i64 a, .int .i64 b] (0, 0) _ rfl ?_ Tryz.underlying41 rfl (by kernel_rfl)) rfl ?_
  · rw [heap_alloc_old _ _ (by simp)]
    exact heap_alloc2_new _ _ _
  · exact ⟨rfl, HK.out _ _ _⟩

def copyToD (ds : List Nt.Dd) (k : Nat) : List Nt.Dd := ds.take k ++ List.replicate (ds.length - k) ⟨0, 0, 0⟩

theorem copyToD_length (ds : List Nt.Dd) (i : Nat) (h : i ≤ ds.length) : (copyToD ds i).length = ds.length := by simp [copyToD]; omega

theorem ddAt_get {ds : List Nt.Dd} {k : Nat} (h : k < ds.length) : ddAt ds k = ds[k] := by
  unfold ddAt; rw [List.getD_eq_getElem?_getD, List.getElem?_eq_getElem h]; rfl

theorem copyToD_set (ds : List Nt.Dd) (i : Nat) (h : i < ds.length) : (copyToD ds i).set i (ddAt ds i) = copyToD ds (i + 1) := by
  unfold copyToD
  have hl : (ds.take i).length = i := by simp; omega
  have e : ds.length - i = (ds.length - (i + 1)) + 1 := by omega
  rw [List.set_append_right _ _ (by omega), hl, Nat.sub_self, e, List.replicate_succ, List.set_cons_zero, List.take_succ_eq_append_getElem h, List.append_assoc, ddAt_get h]
  rfl

theorem copyToD_end (ds : List Nt.Dd) : copyToD ds ds.length = ds := by simp [copyToD]

theorem Dg.set3 {w : World} {base g cap n : Nat} {ds : List Nt.Dd} (h : Dg w base (.slice (some ⟨g, 0, none⟩) n cap) ds) (hn : n = ds.length) (k : Nat) (hk : k < n) (a b c : Int) :
    Dg (((w.setCell ⟨g, k * 3, none⟩ (.int .i64 a)).setCell ⟨g, k * 3 + 1, none⟩ (.int .i64 b)).setCell ⟨g, k * 3 + 2, none⟩ (.int .i64 c)) base (.slice (some ⟨g, 0, none⟩) n cap) (ds.set k ⟨a, b, c⟩) := by
  have h1 := Tg.set3 h (by rw [List.length_map]; exact hn) k hk (.int .i64 a) (.int .i64 b) (.int .i64 c)
  unfold Dg
  rw [List.map_set]
  exact h1

theorem Dg.stay {w w' : World} {base : Nat} {v : Value} {ds : List Nt.Dd} (h : Dg w base v ds) (hk : Kept [] w w') : Dg w' base v ds := Tg.stay h hk

theorem Dg.mono {w : World} {base base' : Nat} {v : Value} {ds : List Nt.Dd} (h : Dg w base v ds) (hb : base' ≤ base) : Dg w base' v ds := Tg.mono h hb

theorem Dg.cells {w : World} {base : Nat} {v : Value} {ds : List Nt.Dd} (h : Dg w base v ds) : ∃ (a : Option Addr) (cap : Nat), v = .slice a ds.length cap ∧ ds.length ≤ 9223372036854775807 ∧
    ∀ k, k < ds.length → ∃ g, a = some ⟨g, 0, none⟩ ∧ base ≤ g ∧ g < w.heap.size ∧ w.cell? ⟨g, k * 3, none⟩ = some (.int .i64 (ddAt ds k).kind) ∧ w.cell? ⟨g, k * 3 + 1, none⟩ = some (.int .i64 (ddAt ds k).a) ∧ w.cell? ⟨g, k * 3 + 2, none⟩ = some (.int .i64 (ddAt ds k).b) ∧ (∀ j, w.frozen? ⟨g, j, none⟩ = false) := by
  have hl : (ds.map d3).length = ds.length := List.length_map ..
  rcases Tg.form h with ⟨rfl, e⟩ | ⟨g, cap, rfl, hb, hg, hc, hm, hcell, hfr⟩
  · have e2 : ds = [] := by simpa using e
    subst e2
    exact ⟨none, 0, rfl, by simp, fun k hk => by simp at hk⟩
  · refine ⟨_, cap, by rw [hl], by omega, fun k hk => ⟨g, rfl, hb, hg, ?_⟩⟩
    obtain ⟨c0, c1, c2⟩ := hcell k (by omega)
    rw [d3_at ds hk] at c0 c1 c2
    exact ⟨c0, c1, c2, hfr⟩

def marksD (m : Int) (n : Nat) : List Nt.Dd := (List.range n).map fun i => ⟨m + 3 * (i : Nat), m + 3 * (i : Nat) + 1, m + 3 * (i : Nat) + 2⟩

theorem marksD_length (m : Int) (n : Nat) : (marksD m n).length = n := by simp [marksD]

theorem marksD_get (m : Int) (n i : Nat) (h : i < n) : ddAt (marksD m n) i = ⟨m + 3 * (i : Nat), m + 3 * (i : Nat) + 1, m + 3 * (i : Nat) + 2⟩ := by
  simp [marksD, ddAt, List.getD_eq_getElem?_getD, h]

def markToD (m : Int) (ds : List Nt.Dd) (i : Nat) : List Nt.Dd := marksD m i ++ ds.drop i

theorem markToD_length (m : Int) (ds : List Nt.Dd) (i : Nat) (h : i ≤ ds.length) : (markToD m ds i).length = ds.length := by simp [markToD, marksD_length]; omega

theorem markToD_set (m : Int) (ds : List Nt.Dd) (i : Nat) (h : i < ds.length) : (markToD m ds i).set i ⟨m + 3 * (i : Nat), m + 3 * (i : Nat) + 1, m + 3 * (i : Nat) + 2⟩ = markToD m ds (i + 1) := by
  unfold markToD
  rw [List.set_append_right _ _ (by simp [marksD_length])]
  rw [marksD_length, Nat.sub_self, List.drop_eq_getElem_cons h, List.set_cons_zero]
  simp [marksD, List.range_succ]

theorem markToD_end (m : Int) (ds : List Nt.Dd) : markToD m ds ds.length = marksD m ds.length := by simp [markToD]

/-- A list of deeds in memory of its own, between two blocks. -/
def Dn (w : World) (lo hi : Nat) (v : Value) (ds : List Nt.Dd) : Prop := Dg w lo v ds ∧ ∀ g, v.ownBlock = some g → g < hi

theorem Dn.stay {w w' : World} {lo hi : Nat} {v : Value} {ds : List Nt.Dd} (h : Dn w lo hi v ds) (hk : Kept [] w w') : Dn w' lo hi v ds := ⟨h.1.stay hk, h.2⟩

theorem Dn.kin {w w' : World} {lo hi lo' hi' : Nat} {v : Value} {ds : List Nt.Dd} (h : Dn w lo hi v ds) (hk : Kin lo' hi' w w') (hn : hi' ≤ lo) : Dn w' lo hi v ds := by
  obtain ⟨rows, hk, hr⟩ := hk
  exact ⟨Tg.kept h.1 hk (fun g hg hm => by have h1 := hr g hm; have h2 := (Tg.block h.1 hg).1; omega), h.2⟩

end Go.Proofs.YtnajdbnacdnnlaaGreatDoor

namespace Go.Proofs.YtnajdbnacdnnlaaGreatDoor
open Go.RowKit

/-- A store that came in from outside. -/
def ArgSt (_ : World) (x : Value) (s : Nt.Si) : Prop := ∃ z1 z2 n, x = .agg #[.string z1, .string z2, .int .i64 n] ∧ si z1 z2 n = s ∧ z1.size ≤ 9223372036854775807 ∧ z2.size ≤ 9223372036854775807

set_option maxHeartbeats 400000 in
set_option maxRecDepth 100000 in
theorem szStore_any (z1 z2 : ByteArray) (n : Int) (h1 : z1.size ≤ 9223372036854775807) (h2 : z2.size ≤ 9223372036854775807) (w : World) :
    Calls Tryz.prog 43 #[.agg #[.string z1, .string z2, .int .i64 n], .int .i64 1048576] w fun e w' => ∃ r : Int, e = .returned (.int .i64 r) ∧ Hid (¬ r < 0 → z1.size ≤ 1048576 ∧ z2.size ≤ 1048576) ∧ Kept [] w w' := by
  have HK := Lib.hid ((Kept.refl [] w).alloc (.cells #[.string z1, .string z2, .int .i64 n] 70))
  have s1 : IntKind.i64.wrap (1048576 - (z1.size : Int)) = 1048576 - (z1.size : Int) := IntWalk.i64_in _ (by omega)
  have s1' : wrap64 (1048576 - (z1.size : Int)) = 1048576 - (z1.size : Int) := IntWalk.wrap64_in _ (by omega)
  by_cases h : 1048576 - (z1.size : Int) < 0
  · have hd : decide (1048576 - (z1.size : Int) < 0) = true := dec_of h
    clear h1 h2
    go_enter Tryz.func43, Tryz.ntmps43
    go_wp2
    go_ret
    exact ⟨_, rfl, Lib.hid (fun h => absurd h (by omega)), HK.out⟩
  · have hd : decide (1048576 - (z1.size : Int) < 0) = false := dec_not h
    have HH := Lib.hid h
    have s2 : IntKind.i64.wrap (1048576 - (z1.size : Int) - (z2.size : Int)) = 1048576 - (z1.size : Int) - (z2.size : Int) := IntWalk.i64_in _ (by omega)
    have s2' : wrap64 (1048576 - (z1.size : Int) - (z2.size : Int)) = 1048576 - (z1.size : Int) - (z2.size : Int) := IntWalk.wrap64_in _ (by omega)
    by_cases hb : 1048576 - (z1.size : Int) - (z2.size : Int) < 0
    · have hd2 : decide (1048576 - (z1.size : Int) - (z2.size : Int) < 0) = true := dec_of hb
      clear h1 h2 h hb
      go_enter Tryz.func43, Tryz.ntmps43
      go_wp2
      go_ret
      exact ⟨_, rfl, Lib.hid (fun h => absurd h (by omega)), HK.out⟩
    · have hd2 : decide (1048576 - (z1.size : Int) - (z2.size : Int) < 0) = false := dec_not hb
      have HB := Lib.hid hb
      clear h1 h2 h hb
      go_enter Tryz.func43, Tryz.ntmps43
      go_wp2
      go_ret
      exact ⟨_, rfl, Lib.hid (fun _ => by have := HH.out; have := HB.out; omega), HK.out⟩

set_option maxHeartbeats 400000 in
set_option maxRecDepth 100000 in
theorem toStore_any (z1 z2 : ByteArray) (n : Int) (w : World) :
    Calls Tryz.prog 45 #[.agg #[.string z1, .string z2, .int .i64 n]] w fun e w' => e = .returned (.agg #[.string z1, .string z2, .int .i64 n]) ∧ Kept [] w w' := by
  have HK := Lib.hid (fun (o1 o2 o3 : Obj) => (((Kept.refl [] w).alloc o1).alloc o2).alloc o3)
  go_enter Tryz.func45, Tryz.ntmps45
  go_wp2
  (try simp only [Exit.inBlock, Exit.then])
  refine bodyPost_ret (results_cell_row rfl _ _ (w.heap.size + 1) 73 #[.string z1, .string z2, .int .i64 n] (0, 0) _ rfl ?_ Tryz.underlying73 rfl (by kernel_rfl)) rfl ?_
  · rw [heap_alloc_old _ _ (by simp)]
    exact heap_alloc2_new _ _ _
  · exact ⟨rfl, HK.out _ _ _⟩

set_option maxHeartbeats 400000 in
set_option maxRecDepth 100000 in
theorem eqStore_same (a b a' b' : ByteArray) (n n' : Int) (h : si a b n = si a' b' n') (w : World) :
    Calls Tryz.prog 48 #[.agg #[.string a, .string b, .int .i64 n], .agg #[.string a', .string b', .int .i64 n']] w fun e w' => e = .returned (.bool true) ∧ Kept [] w w' := by
  unfold si at h
  simp only [Nt.Si.mk.injEq] at h
  obtain ⟨h1, h2, rfl⟩ := h
  obtain rfl := tx_inj h1
  obtain rfl := tx_inj h2
  clear h1 h2
  have HK := Lib.hid (fun (o1 o2 : Obj) => ((Kept.refl [] w).alloc o1).alloc o2)
  have d1 : (a.toList == a.toList) = true := by simp
  have d2 : (b.toList == b.toList) = true := by simp
  have d3 : (n != n) = false := by simp
  go_enter Tryz.func48, Tryz.ntmps48
  go_wp2
  go_ret
  exact ⟨rfl, HK.out _ _⟩
theorem eqStore_is {y y' : Value} {r : Nt.Si} (h : SvIs y r) (h' : SvIs y' r) (w : World) : Calls Tryz.prog 48 #[y, y'] w fun e w' => e = .returned (.bool true) ∧ Kept [] w w' := by
  obtain ⟨a, b, m, rfl, e1⟩ := h
  obtain ⟨a', b', m', rfl, e2⟩ := h'
  exact eqStore_same a b a' b' m m' (e1.trans e2.symm) w
end Go.Proofs.YtnajdbnacdnnlaaGreatDoor
