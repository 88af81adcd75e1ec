/-
  Walks: places drawn.
-/
import Derived.Test.YtaacehdfpoiljaaDoorDC
import Derived.Test.YtaacehdfpoiljaaDoorPV3
namespace Go.Proofs.YtaacehdfpoiljaaDoor
open Go.RowKit

set_option maxHeartbeats 1000000 in
set_option maxRecDepth 100000 in
theorem odd0_any (B R P : Nat) (w : World) (hr : Rd w B R P) :
    Calls Tryd.prog 74 #[.pointer (some ⟨R, 0, none⟩), .int .i64 0] w fun e w' => e = .returned (.bool false) ∧ Rd w' B R (P + 1) ∧ Kept [R] w w' := by
  have HR := Lib.hid hr
  clear hr
  go_enter Tryd.func74, Tryd.ntmps74
  go_wp2
  go_ret
  exact ⟨rfl, HR.out.mono (by omega), Kept.refl _ _⟩

set_option maxHeartbeats 2000000 in
set_option maxRecDepth 100000 in
theorem state0_any (B R P : Nat) (hP : P ≤ 90000) (many : Nat) (h6 : many ≤ 6) (kinds : Int) (hk0 : 0 ≤ kinds) (hk1 : kinds ≤ 100) (w : World) (hr : Rd w B R P) :
    Calls Tryd.prog 81 #[.pointer (some ⟨R, 0, none⟩), .int .i64 (many : Int), .int .i64 kinds, .int .i64 0] w (DrawsSt w B R P) := by
  have HR := Lib.hid hr
  have hlt := hr.lt
  have hBR := hr.1
  clear hr
  go_enter Tryd.func81, Tryd.ntmps81
  go_wp2_with fail
  have hbase : w.heap.size ≤ (w.alloc (.cells #[] 3)).heap.size := by simp
  refine (pick_any B R P (by omega) 3 (by omega) _ (HR.out.kept ((Kept.refl [] w).alloc _) (by simp))).mono ?_
  rintro e w1 ⟨th, rfl, hth0, hth, hr1, hk1⟩
  have hth3 : th < 3 := by omega
  have HR1 := Lib.hid hr1
  have HS1 := Lib.hid ((Sl.empty3 w).past hk1 hlt)
  have HK1 := Lib.hid (((Kept.refl [R] w).alloc (.cells #[] 3)).trans hk1 (by simp))
  clear hr1 hk1 hth HR hbase
  go_wp2
  go_loopw [9, 11] (fun u i wr => ∃ (k : Nat) (xs : List Int), k ≤ many ∧ i = .int .i64 k ∧ Sl wr w.heap.size u xs ∧ xs.length = k ∧ Rd wr B R (P + 1 + 2 * k) ∧ Kept [R] w wr) (fun _ i _ => many - (intOf i).toNat)
  case atStart => exact ⟨0, [], Nat.zero_le _, rfl, HS1.out, rfl, HR1.out.mono (by omega), HK1.out⟩
  case round =>
    clear HS1 HR1 HK1
    obtain ⟨k, xs, hk, rfl, hsl, hxl, hrd, hkept⟩ := hrel
    have HSL := Lib.hid hsl
    have HRD := Lib.hid hrd
    have HK := Lib.hid hkept
    have HXL := Lib.hid hxl
    have hsz := hkept.size
    clear hsl hrd hkept hxl
    by_cases hlk : k < many
    · by_cases ht : 0 < th
      · go_wp2_with fail
        refine (pick_any B R _ (by omega) 3 (by omega) _ HRD.out).mono ?_
        rintro e w2 ⟨y, rfl, hy0, hy, hr2, hk2⟩
        have HR2 := Lib.hid hr2
        have HS2 := Lib.hid (HSL.out.past hk2 hlt)
        have HK2 := Lib.hid (HK.out.trans hk2 (by simp))
        have hsz2 := HK2.out.size
        clear hr2 hk2 hy HRD HSL HK
        by_cases hyt : y < th
        · go_wp2_with (at_builtin; refine app_int _ rfl _ _ rfl w.heap.size _ _ HS2.out rfl rfl (by rw [HXL.out]; omega) hsz2 ?_; intro u3 w3 hs3 hk3; have HS3 := Lib.hid hs3; have HK3 := Lib.hid hk3; clear hs3 hk3)
          go_roundw
          case rel => exact ⟨k + 1, _, by omega, by go_num, HS3.out, by rw [List.length_append, HXL.out]; rfl, (HR2.out.own HK3.out (fun g hg => (HS2.out.block hg).1) hlt (by omega)).mono (by omega), HK2.out.ownR HK3.out (fun g hg => (HS2.out.block hg).1)⟩
          case measure => simp [intOf]; omega
        · go_wp2_with fail
          refine (pick_any B R _ (by omega) kinds (by omega) _ HR2.out).mono ?_
          rintro e w3 ⟨z, rfl, hz0, hz, hr3, hk3⟩
          have HR3 := Lib.hid hr3
          have HS3 := Lib.hid (HS2.out.past hk3 hlt)
          have HK3 := Lib.hid (HK2.out.trans hk3 (by simp))
          have hsz3 := HK3.out.size
          clear hr3 hk3 hz HR2 HS2 HK2
          go_wp2_with (at_builtin; refine app_int _ rfl _ _ rfl w.heap.size _ _ HS3.out rfl rfl (by rw [HXL.out]; omega) hsz3 ?_; intro u4 w4 hs4 hk4; have HS4 := Lib.hid hs4; have HK4 := Lib.hid hk4; clear hs4 hk4)
          go_roundw
          case rel => exact ⟨k + 1, _, by omega, by go_num, HS4.out, by rw [List.length_append, HXL.out]; rfl, (HR3.out.own HK4.out (fun g hg => (HS3.out.block hg).1) hlt (by omega)).mono (by omega), HK3.out.ownR HK4.out (fun g hg => (HS3.out.block hg).1)⟩
          case measure => simp [intOf]; omega
      · go_wp2_with fail
        refine (pick_any B R _ (by omega) kinds (by omega) _ HRD.out).mono ?_
        rintro e w3 ⟨z, rfl, hz0, hz, hr3, hk3⟩
        have HR3 := Lib.hid hr3
        have HS3 := Lib.hid (HSL.out.past hk3 hlt)
        have HK3 := Lib.hid (HK.out.trans hk3 (by simp))
        have hsz3 := HK3.out.size
        clear hr3 hk3 hz HRD HSL HK
        go_wp2_with (at_builtin; refine app_int _ rfl _ _ rfl w.heap.size _ _ HS3.out rfl rfl (by rw [HXL.out]; omega) hsz3 ?_; intro u4 w4 hs4 hk4; have HS4 := Lib.hid hs4; have HK4 := Lib.hid hk4; clear hs4 hk4)
        go_roundw
        case rel => exact ⟨k + 1, _, by omega, by go_num, HS4.out, by rw [List.length_append, HXL.out]; rfl, (HR3.out.own HK4.out (fun g hg => (HS3.out.block hg).1) hlt (by omega)).mono (by omega), HK3.out.ownR HK4.out (fun g hg => (HS3.out.block hg).1)⟩
        case measure => simp [intOf]; omega
    · have hk' : k = many := by omega
      subst hk'
      go_wp2_with fail
      refine (odd0_any B R _ _ HRD.out).mono ?_
      rintro e w2 ⟨rfl, hr2, hk2⟩
      have HR2 := Lib.hid hr2
      have HS2 := Lib.hid (HSL.out.past hk2 hlt)
      have HK2 := Lib.hid (HK.out.trans hk2 (by simp))
      clear hr2 hk2 HRD HSL HK
      go_wp2
      go_ret
      exact ⟨_, xs, rfl, HS2.out, by rw [HXL.out]; exact h6, HR2.out.mono (by omega), HK2.out⟩

/-- A place is drawn. -/
def DrawsPl (w : World) (B R P : Nat) (e : Ending) (w' : World) : Prop :=
  ∃ y, ∃ p : Nt.Pi, e = .returned y ∧ Pv w' w.heap.size y p ∧ p.ns.length ≤ 6 ∧ Rd w' B R (P + 60) ∧ Kept [R] w w'

set_option maxHeartbeats 4000000 in
set_option maxRecDepth 100000 in
theorem place_any (B R P : Nat) (hP : P ≤ 80000) (m : Int) (hm : m ≤ 1000) (hm0 : 0 ≤ m) (w : World) (hr : Rd w B R P) :
    Calls Tryd.prog 47 #[.pointer (some ⟨R, 0, none⟩), .int .i64 m] w (DrawsPl w B R P) := by
  have hlt := hr.lt
  have hBR := hr.1
  have hka : Kept [R] w (w.alloc (.cells #[.slice none 0 0, .int .i64 0, .slice none 0 0] 25)) := (Kept.refl _ _).alloc _
  have HB0 := Lib.hid (Bk.new w 25 #[.slice none 0 0, .int .i64 0, .slice none 0 0])
  have HR := Lib.hid (hr.kept ((Kept.refl [] w).alloc (.cells #[.slice none 0 0, .int .i64 0, .slice none 0 0] 25)) (by simp))
  have HK0 := Lib.hid hka
  clear hr hka
  go_enter Tryd.func47, Tryd.ntmps47
  go_wp2_with fail
  generalize w.alloc (.cells #[.slice none 0 0, .int .i64 0, .slice none 0 0] 25) = W0 at *
  refine (net_any B R P (by omega) 0 (by omega) (by omega) _ HR.out).mono ?_
  rintro e w1 ⟨u, xs, rfl, hs, hl, hr1, hk1⟩
  obtain ⟨b, cap1, rfl, _, _, _⟩ := hs.any
  have hsz0 : w.heap.size + 1 ≤ W0.heap.size := HB0.out.lt
  have HS1 := Lib.hid (hs.mono hsz0)
  have HR1 := Lib.hid hr1
  have HB1 := Lib.hid (HB0.out.kept hk1 (by simp; omega))
  have HK1 := Lib.hid (HK0.out.trans hk1 (by simp))
  obtain ⟨n, hn⟩ : ∃ n, n = xs.length := ⟨_, rfl⟩
  have HN := Lib.hid hn
  rw [← hn] at HS1 ⊢
  rw [← hn] at hl
  clear hs hr1 hk1 HR HB0 HK0 hn
  go_wp2_with fail
  refine (pick_any B R _ (by omega) 3 (by omega) _ HR1.out).mono ?_
  rintro e w2 ⟨x, rfl, hx0, hx, hr2, hk2⟩
  have hx3 : x < 3 := by omega
  have HR2 := Lib.hid hr2
  have HS2 := Lib.hid (HS1.out.past hk2 (Nat.lt_succ_of_lt hlt))
  have HB2 := Lib.hid (HB1.out.kept hk2 (by simp; omega))
  have HK2 := Lib.hid (HK1.out.trans hk2 (by simp))
  clear hr2 hk2 HR1 HS1 HB1 HK1 hx
  go_wp2_with fail
  refine (pick_any B R _ (by omega) 2 (by omega) _ HR2.out).mono ?_
  rintro e w3 ⟨y, rfl, hy0, hy, hr3, hk3⟩
  have hxy : 0 ≤ x * y ∧ x * y ≤ 4 := by
    rcases (show y = 0 ∨ y = 1 by omega) with rfl | rfl
    · simp
    · simp; omega
  have hxy0 := hxy.1
  have hxy4 := hxy.2
  have HS3 := Lib.hid (HS2.out.past hk3 (Nat.lt_succ_of_lt hlt))
  have HB3 := Lib.hid (HB2.out.kept hk3 (by simp; omega))
  have HK3 := Lib.hid (HK2.out.trans hk3 (by simp))
  have hka : Kept [R] w3 (w3.alloc (.cells #[.slice b n cap1, .int .i64 (3 + x * y), .slice none 0 0] 25)) := (Kept.refl _ _).alloc _
  have HR4 := Lib.hid (hr3.kept ((Kept.refl [] w3).alloc (.cells #[.slice b n cap1, .int .i64 (3 + x * y), .slice none 0 0] 25)) (by simp))
  have HT4 := Lib.hid (Bk.new w3 25 #[.slice b n cap1, .int .i64 (3 + x * y), .slice none 0 0])
  have HS4 := Lib.hid (HS3.out.past hka (Nat.lt_succ_of_lt hlt))
  have HB4 := Lib.hid (HB3.out.kept hka (by simp; omega))
  have HK4 := Lib.hid (HK3.out.trans hka (by simp))
  have hz3 : w.heap.size < w3.heap.size := HB3.out.lt
  have HLT3 := Lib.hid (fun g hg => (HS3.out.block (g := g) hg).2)
  clear hr3 hk3 HR2 HS2 HB2 HK2 hy hka hxy HB3 HS3 HK3
  go_wp2_with fail
  (with_reducible refine (state0_any B R _ (by omega) n (by omega) (3 + x * y) (by omega) (by omega) _ HR4.out).mono ?_)
  rintro e w5 ⟨v, ys, rfl, hs5, hl5, hr5, hk5⟩
  obtain ⟨b2, cap2, rfl, _, _, _⟩ := hs5.any
  have HT5 := Lib.hid (HT4.out.kept hk5 (by simp; omega))
  have HS5 := Lib.hid (HS4.out.past hk5 (Nat.lt_succ_of_lt hlt))
  have HB5 := Lib.hid (HB4.out.kept hk5 (by simp; omega))
  have HK5 := Lib.hid (HK4.out.trans hk5 (by simp))
  have HGE5 := Lib.hid (fun g hg => Nat.lt_of_lt_of_le HT4.out.lt (hs5.block (g := g) hg).1)
  have HLL := Lib.hid hl5
  have hz4 : w3.heap.size < (w3.alloc (.cells #[.slice b n cap1, .int .i64 (3 + x * y), .slice none 0 0] 25)).heap.size := HT4.out.lt
  have HU5 := Lib.hid (hs5.mono (show w3.heap.size + 1 ≤ _ from hz4))
  have HR5 := Lib.hid hr5
  have hk6 : Kept [w3.heap.size] w5 (w5.setCell ⟨w3.heap.size, 2, none⟩ (.slice b2 ys.length cap2)) := (Kept.refl _ _).setCell (.inl (by simp)) _
  have HT6 : Hid (Bk (w5.setCell ⟨w3.heap.size, 2, none⟩ (.slice b2 ys.length cap2)) w3.heap.size 25 #[.slice b n cap1, .int .i64 (3 + x * y), .slice b2 ys.length cap2]) := Lib.hid (HT5.out.set 2 _)
  have HS6 := Lib.hid (HS5.out.kept hk6 (fun g hg hm => by have := HLT3.out g hg; simp at hm; omega))
  have HU6 := Lib.hid (HU5.out.kept hk6 (fun g hg hm => by have := HGE5.out g hg; simp at hm; omega))
  have HB6 := Lib.hid (HB5.out.kept hk6 (by simp; omega))
  have HR6 := Lib.hid (HR5.out.kept hk6 (by simp; omega))
  have HK6 := Lib.hid (HK5.out.setCell (p := ⟨w3.heap.size, 2, none⟩) (.inr (by show w.heap.size ≤ w3.heap.size; omega)) (.slice b2 ys.length cap2))
  obtain ⟨t0, t1, t2⟩ := HT5.out.three
  have f0 := HT5.out.frozen 0
  have f1 := HT5.out.frozen 1
  have f2 := HT5.out.frozen 2
  have hzt := HT5.out.lt
  clear hs5 hl5 hr5 hk5 hk6 hz4 HR4 HT4 HS4 HB4 HK4
  go_wp2_with fail
  generalize w5.setCell ⟨w3.heap.size, 2, none⟩ (.slice b2 ys.length cap2) = W6 at *
  refine (odd_any B R _ (by omega) m (by omega) (by omega) _ HR6.out).mono ?_
  rintro e w7 ⟨o, rfl, hr7, hk7⟩
  have HR7 := Lib.hid hr7
  have HS7 := Lib.hid (HS6.out.past hk7 (Nat.lt_succ_of_lt hlt))
  have HU7 := Lib.hid (HU6.out.past hk7 (by omega))
  have HT7 := Lib.hid (HT6.out.kept hk7 (by simp; omega))
  have HB7 := Lib.hid (HB6.out.kept hk7 (by simp; omega))
  have HK7 := Lib.hid (HK6.out.trans hk7 (by simp))
  clear hr7 hk7 t0 t1 t2 f0 f1 f2 hzt HR5 HR6 HS5 HS6 HU5 HU6 HT5 HT6 HB5 HB6 HK5 HK6
  cases o
  · obtain ⟨t0, t1, t2⟩ := HT7.out.three
    obtain ⟨r0, r1, r2⟩ := HB7.out.three
    have p0 := HB7.out.frozen 0
    have p1 := HB7.out.frozen 1
    have p2 := HB7.out.frozen 2
    have hzt := HT7.out.lt
    have hzr := HB7.out.lt
    go_wp2
    (try simp only [Exit.inBlock, Exit.then])
    refine bodyPost_ret (results_cell_row rfl _ _ w.heap.size 25 #[.slice b n cap1, .int .i64 (3 + x * y), .slice b2 ys.length cap2] (0, 0) _ rfl (HB7.out.set3 _ _ _) Tryd.underlying25 rfl (by kernel_rfl)) rfl ?_
    exact ⟨_, ⟨xs, 3 + x * y, ys⟩, rfl, ⟨_, _, rfl, (HS7.out.kept (Kept.rows3 w7 w.heap.size _ _ _) (fun g hg hm => by have := (HS7.out.block hg).1; simp at hm; omega)).mono (Nat.le_succ _), (HU7.out.kept (Kept.rows3 w7 w.heap.size _ _ _) (fun g hg hm => by have := (HU7.out.block hg).1; simp at hm; omega)).mono (by omega)⟩, by have := HN.out; first | omega | (simp; done) | (simp; omega), (HR7.out.kept ((Kept.rows3 w7 w.heap.size _ _ _)) (by simp; omega)).mono (by omega), HK7.out.trans (Kept.rows3 _ w.heap.size _ _ _) (fun q hq => .inr (by simp at hq; omega))⟩
  · go_wp2_with fail
    refine (pick_any B R _ (by omega) 3 (by omega) _ HR7.out).mono ?_
    rintro e w8 ⟨z, rfl, hz0, hz, hr8, hk8⟩
    have HR8 := Lib.hid hr8
    have HS8 := Lib.hid (HS7.out.past hk8 (Nat.lt_succ_of_lt hlt))
    have HU8 := Lib.hid (HU7.out.past hk8 (by omega))
    have HT8 := Lib.hid (HT7.out.kept hk8 (by simp; omega))
    have HB8 := Lib.hid (HB7.out.kept hk8 (by simp; omega))
    have HK8 := Lib.hid (HK7.out.trans hk8 (by simp))
    clear hr8 hk8 hz HR7 HS7 HU7 HT7 HB7 HK7
    obtain ⟨t0, t1, t2⟩ := HT8.out.three
    obtain ⟨r0, r1, r2⟩ := HB8.out.three
    have f0 := HT8.out.frozen 0
    have f1 := HT8.out.frozen 1
    have f2 := HT8.out.frozen 2
    have p0 := HB8.out.frozen 0
    have p1 := HB8.out.frozen 1
    have p2 := HB8.out.frozen 2
    have hzt := HT8.out.lt
    have hzr := HB8.out.lt
    have HY : Hid (ys.length ≤ 6) := HLL
    by_cases z0 : z = 0
    · subst z0
      have hz8 : w3.heap.size + 1 ≤ w8.heap.size := by omega
      clear r0 r1 r2 p0 p1 p2 f0 f1 f2 hzr
      go_wp2_with (at_builtin; refine app_int _ rfl _ _ rfl (w3.heap.size + 1) _ _ HU8.out rfl rfl (by have := HY.out; omega) hz8 ?_; intro u9 w9 hs9' hk9; obtain ⟨zs, hs9⟩ : ∃ zs, Sl w9 (w3.heap.size + 1) u9 zs := ⟨_, hs9'⟩; clear hs9'; obtain ⟨b9, c9, rfl, _, _, _⟩ := hs9.any; have HU9 := Lib.hid hs9; have HK9 := Lib.hid hk9; have hT9 := HT8.out.kept hk9 (fun hm => by have := HGE5.out _ (by simpa using hm); omega); have hB9 := HB8.out.kept hk9 (fun hm => by have := HGE5.out _ (by simpa using hm); omega); have HT9 := Lib.hid hT9; have HB9 := Lib.hid hB9; clear t0 t1 t2; obtain ⟨t0, t1, t2⟩ := hT9.three; obtain ⟨r0, r1, r2⟩ := hB9.three; have f0 := hT9.frozen 0; have f1 := hT9.frozen 1; have f2 := hT9.frozen 2; have p0 := hB9.frozen 0; have p1 := hB9.frozen 1; have p2 := hB9.frozen 2; have hlt9 := hT9.lt; have hlr9 := hB9.lt; clear hs9 hk9 hT9 hB9)
      (try simp only [Exit.inBlock, Exit.then])
      have hkT : Kept [w3.heap.size] w9 (w9.setCell ⟨w3.heap.size, 2, none⟩ (.slice b9 zs.length c9)) := (Kept.refl _ _).setCell (.inl (by simp)) _
      have HLT8 := Lib.hid (fun g hg => (HU8.out.block (g := g) hg).1)
      have HR9 := Lib.hid (HR8.out.own HK9.out (fun g hg => (HU8.out.block hg).1) (by omega) (by omega))
      have HS9 := Lib.hid (HS8.out.kept HK9.out (fun g hg hm => by have h1 := HLT3.out g hg; have h2 := HGE5.out g (by simpa using hm); omega))
      have HKZ := Lib.hid (HK8.out.trans HK9.out (fun q hq => .inr (by have := HGE5.out q (by simpa using hq); omega)))
      have HR10 := Lib.hid (HR9.out.kept hkT (by simp; omega))
      have HS10 := Lib.hid (HS9.out.kept hkT (fun g hg hm => by have := HLT3.out g hg; simp at hm; omega))
      have HU10 := Lib.hid (HU9.out.kept hkT (fun g hg hm => by have := (HU9.out.block hg).1; simp at hm; omega))
      have HB10 := Lib.hid (HB9.out.kept hkT (by simp; omega))
      have HK10 := Lib.hid (HKZ.out.trans hkT (fun q hq => .inr (by simp at hq; omega)))
      generalize (w9.setCell ⟨w3.heap.size, 2, none⟩ (.slice b9 zs.length c9)) = W10 at *
      refine bodyPost_ret (results_cell_row rfl _ _ w.heap.size 25 #[.slice b n cap1, .int .i64 (3 + x * y), .slice b9 zs.length c9] (0, 0) _ rfl (HB10.out.set3 _ _ _) Tryd.underlying25 rfl (by kernel_rfl)) rfl ?_
      exact ⟨_, ⟨xs, 3 + x * y, zs⟩, rfl, ⟨_, _, rfl, (HS10.out.kept (Kept.rows3 W10 w.heap.size _ _ _) (fun g hg hm => by have := (HS10.out.block hg).1; simp at hm; omega)).mono (Nat.le_succ _), (HU10.out.kept (Kept.rows3 W10 w.heap.size _ _ _) (fun g hg hm => by have := (HU10.out.block hg).1; simp at hm; omega)).mono (by omega)⟩, by have := HN.out; show xs.length ≤ 6; omega, (HR10.out.kept ((Kept.rows3 W10 w.heap.size _ _ _)) (by simp; omega)).mono (by omega), HK10.out.trans (Kept.rows3 _ w.heap.size _ _ _) (fun q hq => .inr (by simp at hq; omega))⟩
    · have z0' : (z == 0) = false := by simpa using z0
      by_cases z1 : z = 1
      · subst z1
        clear z0 z0'
        go_wp2_with fail
        have hka9 : Kept [] w8 (w8.alloc (.cells #[.int .i64 2, .int .i64 6] 3)) := (Kept.refl _ _).alloc _
        refine (pick_any B R _ (by omega) 2 (by omega) _ (HR8.out.kept hka9 (by simp))).mono ?_
        rintro e w9 ⟨q, rfl, hq0, hq, hr9, hk9'⟩
        have hk9 : Kept [R] w8 w9 := ((Kept.refl [R] w8).alloc _).trans hk9' (by simp)
        have hl9 : Bk w9 w8.heap.size 3 #[.int .i64 2, .int .i64 6] := (Bk.new w8 3 _).kept hk9' (by simp; omega)
        have l0 : w9.cell? ⟨w8.heap.size, 0, none⟩ = some (.int .i64 2) := hl9.cell 0 rfl
        have l1 : w9.cell? ⟨w8.heap.size, 1, none⟩ = some (.int .i64 6) := hl9.cell 1 rfl
        have hq2 : q = 0 ∨ q = 1 := by omega
        have hllt := hl9.lt
        have HR9 := Lib.hid hr9
        have HS9 := Lib.hid (HS8.out.past hk9 (Nat.lt_succ_of_lt hlt))
        have HU9 := Lib.hid (HU8.out.past hk9 (by omega))
        have HT9 := Lib.hid (HT8.out.kept hk9 (by simp; omega))
        have HB9 := Lib.hid (HB8.out.kept hk9 (by simp; omega))
        have HKZ := Lib.hid (HK8.out.trans hk9 (by simp))
        clear hr9 hk9 hk9' hka9 hl9 hq hq0 t0 t1 t2 r0 r1 r2 f0 f1 f2 p0 p1 p2 hzt hzr HR8 HS8 HU8 HT8 HB8 HK8
        obtain ⟨t0, t1, t2⟩ := HT9.out.three
        obtain ⟨r0, r1, r2⟩ := HB9.out.three
        have f0 := HT9.out.frozen 0
        have f1 := HT9.out.frozen 1
        have f2 := HT9.out.frozen 2
        have p0 := HB9.out.frozen 0
        have p1 := HB9.out.frozen 1
        have p2 := HB9.out.frozen 2
        have hzt := HT9.out.lt
        have hzr := HB9.out.lt
        rcases hq2 with rfl | rfl
        · go_wp2
          (try simp only [Exit.inBlock, Exit.then])
          have hkT : Kept [w3.heap.size] w9 (w9.setCell ⟨w3.heap.size, 1, none⟩ (.int .i64 2)) := (Kept.refl _ _).setCell (.inl (by simp)) _
          have HR10 := Lib.hid (HR9.out.kept hkT (by simp; omega))
          have HS10 := Lib.hid (HS9.out.kept hkT (fun g hg hm => by have := HLT3.out g hg; simp at hm; omega))
          have HU10 := Lib.hid (HU9.out.kept hkT (fun g hg hm => by have := (HU9.out.block hg).1; simp at hm; omega))
          have HB10 := Lib.hid (HB9.out.kept hkT (by simp; omega))
          have HK10 := Lib.hid (HKZ.out.trans hkT (fun q hq => .inr (by simp at hq; omega)))
          refine bodyPost_ret (results_cell_row rfl _ _ w.heap.size 25 #[.slice b n cap1, .int .i64 2, .slice b2 ys.length cap2] (0, 0) _ rfl (HB10.out.set3 _ _ _) Tryd.underlying25 rfl (by kernel_rfl)) rfl ?_
          exact ⟨_, ⟨xs, 2, ys⟩, rfl, ⟨_, _, rfl, (HS10.out.kept (Kept.rows3 _ w.heap.size _ _ _) (fun g hg hm => by have := (HS10.out.block hg).1; simp at hm; omega)).mono (Nat.le_succ _), (HU10.out.kept (Kept.rows3 _ w.heap.size _ _ _) (fun g hg hm => by have := (HU10.out.block hg).1; simp at hm; omega)).mono (by omega)⟩, by have := HN.out; show xs.length ≤ 6; omega, (HR10.out.kept ((Kept.rows3 _ w.heap.size _ _ _)) (by simp; omega)).mono (by omega), HK10.out.trans (Kept.rows3 _ w.heap.size _ _ _) (fun q hq => .inr (by simp at hq; omega))⟩
        · go_wp2
          (try simp only [Exit.inBlock, Exit.then])
          have hkT : Kept [w3.heap.size] w9 (w9.setCell ⟨w3.heap.size, 1, none⟩ (.int .i64 6)) := (Kept.refl _ _).setCell (.inl (by simp)) _
          have HR10 := Lib.hid (HR9.out.kept hkT (by simp; omega))
          have HS10 := Lib.hid (HS9.out.kept hkT (fun g hg hm => by have := HLT3.out g hg; simp at hm; omega))
          have HU10 := Lib.hid (HU9.out.kept hkT (fun g hg hm => by have := (HU9.out.block hg).1; simp at hm; omega))
          have HB10 := Lib.hid (HB9.out.kept hkT (by simp; omega))
          have HK10 := Lib.hid (HKZ.out.trans hkT (fun q hq => .inr (by simp at hq; omega)))
          refine bodyPost_ret (results_cell_row rfl _ _ w.heap.size 25 #[.slice b n cap1, .int .i64 6, .slice b2 ys.length cap2] (0, 0) _ rfl (HB10.out.set3 _ _ _) Tryd.underlying25 rfl (by kernel_rfl)) rfl ?_
          exact ⟨_, ⟨xs, 6, ys⟩, rfl, ⟨_, _, rfl, (HS10.out.kept (Kept.rows3 _ w.heap.size _ _ _) (fun g hg hm => by have := (HS10.out.block hg).1; simp at hm; omega)).mono (Nat.le_succ _), (HU10.out.kept (Kept.rows3 _ w.heap.size _ _ _) (fun g hg hm => by have := (HU10.out.block hg).1; simp at hm; omega)).mono (by omega)⟩, by have := HN.out; show xs.length ≤ 6; omega, (HR10.out.kept ((Kept.rows3 _ w.heap.size _ _ _)) (by simp; omega)).mono (by omega), HK10.out.trans (Kept.rows3 _ w.heap.size _ _ _) (fun q hq => .inr (by simp at hq; omega))⟩
      · have z1' : (z == 1) = false := by simpa using z1
        clear z0 z1
        go_wp2
        (try simp only [Exit.inBlock, Exit.then])
        refine bodyPost_ret (results_cell_row rfl _ _ w.heap.size 25 #[.slice none 0 0, .int .i64 0, .slice none 0 0] (0, 0) _ rfl (HB8.out.set3 _ _ _) Tryd.underlying25 rfl (by kernel_rfl)) rfl ?_
        exact ⟨_, Nt.Pi.zero, rfl, ⟨_, _, rfl, Sl.nil _ _, Sl.nil _ _⟩, Nat.zero_le _, (HR8.out.kept ((Kept.rows3 w8 w.heap.size _ _ _)) (by simp; omega)).mono (by omega), HK8.out.trans (Kept.rows3 _ w.heap.size _ _ _) (fun q hq => .inr (by simp at hq; omega))⟩

/-- A place, and nothing else has turned. -/
def DrawnPl (w : World) (e : Ending) (w' : World) : Prop := ∃ y, ∃ p : Nt.Pi, e = .returned y ∧ Pv w' w.heap.size y p ∧ p.ns.length ≤ 6 ∧ Kept [] w w'

theorem ArgB.stay {w w' : World} {v : Value} (h : ArgB w v) (k : Kept [] w w') : ArgB w' v := by
  obtain ⟨a, n, cap, rfl, h1, h2, hc⟩ := h
  refine ⟨a, n, cap, rfl, h1, h2, fun j hj => ?_⟩
  obtain ⟨b, off, u, rfl, hb, hu, hcell⟩ := hc j hj
  exact ⟨b, off, u, rfl, Nat.lt_of_lt_of_le hb k.size, hu, (k.cell (p := ⟨b, off + j, none⟩) hb (by simp)).trans hcell⟩

end Go.Proofs.YtaacehdfpoiljaaDoor
