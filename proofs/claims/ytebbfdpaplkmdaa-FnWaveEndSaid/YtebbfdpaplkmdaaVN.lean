/-
  Walks: rows that repeat one number; arrivals of waves, by the program.
  Walks: arrivals of waves, by the program.
  Walks: ends of waves, sets of lights, by the program.
-/
import Derived.Test.YtebbfdpaplkmdaaFA
import Derived.Test.YtebbfdpaplkmdaaNA
import Derived.Test.YtebbfdpaplkmdaaVP
import Derived.Laws.CopyOwn
import Derived.Deep.RegionLaw
import Derived.StillTailTactics
import Derived.Test.YtebbfdpaplkmdaaFC
import Derived.Test.YtebbfdpaplkmdaaW15
import Derived.Test.YtebbfdpaplkmdaaW17
namespace Go.Proofs.Ytebbfdpaplkmdaa
open Go.RowKit

/-- A row that is full, laid anew. -/
theorem Sl.laid {w : World} {base g N : Nat} {xs : List Int} (h : Sl w base (.slice (some ⟨g, 0, none⟩) N N) xs) (zs : List Int) (hz : zs.length = xs.length) :
    Sl (w.setRow g (ints zs).toArray) base (.slice (some ⟨g, 0, none⟩) N N) zs ∧ Kept [g] w (w.setRow g (ints zs).toArray) := by
  have hN := h.same_len
  rcases h.2 with ⟨h1, _⟩ | ⟨g', cap, cur, hv, hb, hg, hc, hm, hcs, ht⟩
  · exact absurd h1 (by simp)
  · have e := hv
    simp at e
    obtain ⟨rfl, _, rfl⟩ := e
    refine ⟨⟨by simp [ints], .inr ⟨g, N, (ints zs).toArray, by rw [hz, hN], hb, setRow_heap w g _ _ _ _ hg, by omega, hm, by simp [ints]; omega, ?_⟩⟩, ?_⟩
    · rw [List.take_of_length_le (by simp [ints])]
    · exact ⟨rfl, rfl, rfl, by simp [World.setRow], fun k hk hn => setRow_other w g k _ (fun e => hn (by simp [e]))⟩
/-- What a full row holds. -/
theorem Sl.full {w : World} {base g N : Nat} {xs : List Int} (h : Sl w base (.slice (some ⟨g, 0, none⟩) N N) xs) : w.heap[g]? = some (.cells (ints xs).toArray 3 (0, 0)) := by
  have hN := h.same_len
  rcases h.2 with ⟨h1, _⟩ | ⟨g', cap, cur, hv, hb, hg, hc, hm, hcs, ht⟩
  · exact absurd h1 (by simp)
  · have e := hv
    simp at e
    obtain ⟨rfl, _, rfl⟩ := e
    rw [hg, ← ht, List.take_of_length_le (by rw [Array.length_toList]; omega)]

def over (xs ys : List Int) (off : Nat) : List Int := xs.take off ++ (ys ++ xs.drop (off + ys.length))
theorem over_length {xs ys : List Int} {off : Nat} (h : off + ys.length ≤ xs.length) : (over xs ys off).length = xs.length := by simp [over]; omega
theorem ints_over (xs ys : List Int) (off : Nat) : (ints xs).toArray.toList.take off ++ (ints ys ++ (ints xs).toArray.toList.drop (off + (ints ys).length)) = ints (over xs ys off) := by
  simp [over, ints]

theorem copy_int {ops : Array Oper} {rest : List Oper} {o : Oper} {a : Act} {Q : Exit → Act → World → Prop} {w : World} (hgd : o.guard = none) (d s : Operand)
    (ho : o.op = .call { callee := .builtin .copy, args := #[d, s], argTypes := #[23, 23] })
    (base g N : Nat) (xs ys : List Int) (hown : Sl w base (.slice (some ⟨g, 0, none⟩) N N) xs) (off dLen dCap : Nat) (ad : Addr) (sLen sCap : Nat)
    (hd : a.eval d = .slice (some ⟨g, off, none⟩) dLen dCap) (hs : a.eval s = .slice (some ad) sLen sCap)
    (hn : ys.length = Nat.min sLen dLen) (hsrc : ∀ j, j < ys.length → w.cell? (ad.add j) = some (.int .i64 (ys.getD j 0))) (hfit : off + ys.length ≤ xs.length)
    (h : ∀ w', Sl w' base (.slice (some ⟨g, 0, none⟩) N N) (over xs ys off) → Kept [g] w w' → wpList Try.prog ops Q rest (a.put o.dst (goInt ys.length)) w') :
    wpList Try.prog ops Q (o :: rest) a w := by
  obtain ⟨i0, hi, hz0, hz1, hz2⟩ := info_parts info_int
  refine wpList_copy_own hgd d s 23 23 ho 3 Try.underlying23 (by rw [hi]; simp [hz1]) g off dLen dCap ad sLen sCap hd hs (ints xs).toArray 3 hown.full (ints ys) (by rw [ints_length]; exact hn)
    (fun j v hj => ?_) (by simp only [List.size_toArray, ints_length]; exact hfit) (ints_oneCell _ _) ?_
  · have hjl : j < ys.length := by
      have := (List.getElem?_eq_some_iff.1 hj).1
      simpa [ints] using this
    rw [ints_get ys j hjl] at hj
    rw [hsrc j hjl, hj]
  · rw [ints_over, ints_length]
    obtain ⟨h1, h2⟩ := hown.laid (over xs ys off) (over_length hfit)
    exact h _ h1 h2
theorem step_copy_int {ops : Array Oper} {o : Oper} {a : Act} {K : Act → World → Prop} {Q : Exit → Act → World → Prop} {E : Prop} {w : World} (hgd : o.guard = none) (d s : Operand)
    (ho : o.op = .call { callee := .builtin .copy, args := #[d, s], argTypes := #[23, 23] })
    (base g N : Nat) (xs ys : List Int) (hown : Sl w base (.slice (some ⟨g, 0, none⟩) N N) xs) (off dLen dCap : Nat) (ad : Addr) (sLen sCap : Nat)
    (hd : a.eval d = .slice (some ⟨g, off, none⟩) dLen dCap) (hs : a.eval s = .slice (some ad) sLen sCap)
    (hn : ys.length = Nat.min sLen dLen) (hsrc : ∀ j, j < ys.length → w.cell? (ad.add j) = some (.int .i64 (ys.getD j 0))) (hfit : off + ys.length ≤ xs.length)
    (h : ∀ w', Sl w' base (.slice (some ⟨g, 0, none⟩) N N) (over xs ys off) → Kept [g] w w' → K (a.put o.dst (goInt ys.length)) w') :
    if Region.wanted o (yielded ops a.tmps) = true then Oper.wp Try.prog o a w K Q else E := by
  have hw : Region.wanted o (yielded ops a.tmps) = true := by simp [Region.wanted, hgd]
  rw [if_pos hw]
  obtain ⟨i0, hi, hz0, hz1, hz2⟩ := info_parts info_int
  have hrun := run_copy_row (P := Try.prog) w 23 23 o.type 3 g off dLen dCap ad sLen sCap (ints xs).toArray 3 (ints ys) Try.underlying23 (by rw [hi]; simp [hz1]) hown.full (by rw [ints_length]; exact hn)
    (fun j v hj => by
      have hjl : j < ys.length := by
        have := (List.getElem?_eq_some_iff.1 hj).1
        simpa [ints] using this
      rw [ints_get ys j hjl] at hj
      rw [hsrc j hjl, hj]) (by simp only [List.size_toArray, ints_length]; exact hfit) (ints_oneCell _ _)
  rw [List.append_assoc, ints_over, ints_length] at hrun
  obtain ⟨h1, h2⟩ := hown.laid (over xs ys off) (over_length hfit)
  unfold Oper.wp
  simp [execOp, ho, resolve, invoke, builtin, hd, hs, hrun, Result.andThen]
  exact h _ h1 h2

set_option maxHeartbeats 1000000 in
theorem mul_any (n : Nat) (hp : 0 < n) (h6 : n ≤ 6) (w : World) :
    Calls Try.prog 75 #[.int .u64 1, .int .u64 (n : Int)] w fun e w' => e = .returned (.tuple #[.int .u64 0, .int .u64 (n : Int)]) ∧ w = w' := by
  rcases (show n = 1 ∨ n = 2 ∨ n = 3 ∨ n = 4 ∨ n = 5 ∨ n = 6 from by omega) with rfl | rfl | rfl | rfl | rfl | rfl
  all_goals
    go_enter Try.func75, Try.ntmps75
    go_wp2
    go_ret2
    refine ⟨?_, rfl⟩
    kernel_rfl

theorem addr_zero (g j : Nat) : (⟨g, 0, none⟩ : Addr).add j = ⟨g, j, none⟩ := by unfold Addr.add; split <;> simp_all

/-- So many places of n hold x, and the others 0. -/
def repTo (x : Int) (n m : Nat) : List Int := List.replicate m x ++ List.replicate (n - m) 0
theorem repTo_length (x : Int) {n m : Nat} (h : m ≤ n) : (repTo x n m).length = n := by simp [repTo]; omega
theorem repTo_get (x : Int) {n m j : Nat} (_h : j < m) : (repTo x n m).getD j 0 = x := by
  unfold repTo
  rw [List.getD_eq_getElem?_getD, List.getElem?_append_left (by simpa using _h), List.getElem?_replicate, if_pos _h]
  rfl
theorem repTo_zero (x : Int) (n : Nat) : repTo x n 0 = List.replicate n 0 := by simp [repTo]
theorem repTo_all (x : Int) (n : Nat) : repTo x n n = List.replicate n x := by simp [repTo]
theorem repTo_over (x : Int) (n m k : Nat) : over (repTo x n m) (List.replicate k x) m = repTo x n (m + k) := by
  unfold over repTo
  have e1 : (List.replicate m x ++ List.replicate (n - m) (0 : Int)).take m = List.replicate m x := by
    rw [List.take_append_of_le_length (by simp)]; simp
  have e2 : (List.replicate m x ++ List.replicate (n - m) (0 : Int)).drop (m + (List.replicate k x).length) = List.replicate (n - (m + k)) 0 := by
    rw [List.drop_append]
    simp
    omega
  rw [e1, e2, ← List.append_assoc, List.replicate_append_replicate]

set_option maxHeartbeats 2000000 in
theorem repeat_any (x : Int) (n : Nat) (hp : 0 < n) (h6 : n ≤ 6) (w : World) (v : Value) (base : Nat) (hs : Sl w base v [x]) :
    Calls Try.prog 60 #[v, .int .i64 (n : Int)] w fun e w' => ∃ z, e = .returned z ∧ Sl w' w.heap.size z (List.replicate n x) ∧ Kept [] w w' := by
  obtain ⟨g, cap, rfl, hg0, hg⟩ := hs.shape (n := 1) rfl (by omega)
  have HX := Lib.hid (hs.at 0 (by simp)).1
  have u1 : IntKind.u64.wrap (n : Int) = (n : Int) := by rcases (show n = 1 ∨ n = 2 ∨ n = 3 ∨ n = 4 ∨ n = 5 ∨ n = 6 from by omega) with rfl | rfl | rfl | rfl | rfl | rfl <;> rfl
  have hc0 := HX.out
  clear hs
  go_enter Try.func60, Try.ntmps60
  go_wp2_with fail
  refine (mul_any n hp h6 _).mono ?_
  rintro e w' ⟨rfl, rfl⟩
  go_wp2_with (at_make; refine make_int _ n rfl _ _ rfl rfl rfl ?_ ?_)
  · omega
  · intro w1 hs1 hk1 hz1
    have HS1 := Lib.hid hs1
    have HK1 := Lib.hid hk1
    have HX1 := Lib.hid ((hk1.cell (p := ⟨g, 0, none⟩) hg (by simp)).trans HX.out)
    have HF := Lib.hid (repTo_zero x n)
    clear hs1 hk1 hc0
    go_wp2_with (refine copy_int rfl _ _ rfl w.heap.size w.heap.size n _ [x] HS1.out 0 n n ⟨g, 0, none⟩ 1 cap rfl rfl (show 1 = min 1 n by omega) (fun j hj => by have e : j = 0 := (by simpa using hj); subst e; exact HX1.out) (by rw [List.length_replicate]; exact hp) ?_; intro w2 hs2 hk2; have HS2 := Lib.hid hs2; have HK2 := Lib.hid hk2; clear hs2 hk2)
    have HS3 : Hid (Sl w2 w.heap.size (.slice (some ⟨w.heap.size, 0, none⟩) n n) (repTo x n 1)) := Lib.hid (by
      have h := HS2.out
      rw [← HF.out] at h
      rw [show ([x] : List Int) = List.replicate 1 x from rfl, repTo_over x n 0 1] at h
      exact h)
    have HK3 := Lib.hid (HK1.out.trans HK2.out (fun y hy => .inr (by simp at hy; omega)))
    clear HS1 HS2 HK1 HK2 HX1 HF hz1
    go_wp2_with fail
    go_loopw [8] (fun i wr => ∃ m : Nat, 1 ≤ m ∧ m ≤ n ∧ i = .int .i64 m ∧ Sl wr w.heap.size (.slice (some ⟨w.heap.size, 0, none⟩) n n) (repTo x n m) ∧ Kept [] w wr) (fun i _ => n - (intOf i).toNat)
    case atStart => exact ⟨1, Nat.le_refl _, hp, rfl, HS3.out, HK3.out⟩
    case round =>
      clear HS3 HK3
      obtain ⟨m, hm1, hm, rfl, hsl, hkept⟩ := hrel
      have HSL := Lib.hid hsl
      have HK := Lib.hid hkept
      have hcap := HSL.out
      clear hsl hkept hcap
      by_cases hlt : m < n
      · obtain ⟨k, hk⟩ : ∃ k, k = min m (n - m) := ⟨_, rfl⟩
        have HKK := Lib.hid hk
        have HMK := Lib.hid (repTo_over x n m k)
        have HC := Lib.hid (fun j (hj : j < k) => ((HSL.out.at j (by rw [repTo_length x hm]; omega)).1).trans (by rw [repTo_get x (show j < m by omega)]))
        clear hk
        go_wp2_with fail
        have hnm : ¬ n = m := by omega
        have HSLd : Hid (Sl wr.drew w.heap.size (.slice (some ⟨w.heap.size, 0, none⟩) n n) (repTo x n m)) := Lib.hid HSL.out
        have HCd : Hid (∀ j, j < k → wr.drew.cell? ⟨w.heap.size, j, none⟩ = some (.int .i64 x)) := Lib.hid HC.out
        have HKd : Hid (Kept [] w wr.drew) := Lib.hid HK.out.drew
        clear HSL HC HK
        have HSRC : Hid (∀ j, j < (List.replicate k x).length → wr.drew.cell? ((⟨w.heap.size, 0, none⟩ : Addr).add j) = some (.int .i64 ((List.replicate k x).getD j 0))) := Lib.hid (fun j hj => by
          rw [List.length_replicate] at hj
          rw [addr_zero, HCd.out j hj, List.getD_eq_getElem?_getD, List.getElem?_replicate, if_pos hj]
          rfl)
        have HLK : Hid ((List.replicate k x).length = Nat.min m (n - m)) := Lib.hid (by rw [List.length_replicate, HKK.out])
        have HFI : Hid (m + (List.replicate k x).length ≤ (repTo x n m).length) := Lib.hid (by rw [List.length_replicate, repTo_length x hm]; have := HKK.out; omega)
        have HGK : Hid (goInt (List.replicate k x).length = .int .i64 (k : Int)) := Lib.hid (by rw [List.length_replicate]; rfl)
        have hkn : m + k ≤ n := by have := HKK.out; omega
        have hk1 : 1 ≤ k := by have := HKK.out; omega
        have hw : IntKind.i64.wrap ((m : Int) + (k : Int)) = ((m + k : Nat) : Int) := by rw [show (m : Int) + (k : Int) = ((m + k : Nat) : Int) by omega]; exact wrap_nat (m + k) (by omega)
        have HW := Lib.hid hw
        clear hw
        go_region_law (refine step_copy_int rfl _ _ rfl w.heap.size w.heap.size n _ (List.replicate k x) HSLd.out m (n - m) (n - m) ⟨w.heap.size, 0, none⟩ m n (by go_simp) (by go_simp) HLK.out HSRC.out HFI.out ?_; rw [HGK.out, HMK.out]; intro w4 hs4 hk4; have HS4 := Lib.hid hs4; have HK4 := Lib.hid hk4; clear hs4 hk4)
        all_goals
          go_simp
          have hw := HW.out
          go_roundw
          case rel =>
            refine ⟨_, _, _, _, _, _, _, _, _, _, _, _, _, _, ?_, rfl⟩
            exact ⟨m + k, by omega, by omega, by rw [hw], HS4.out, HKd.out.trans HK4.out (fun y hy => .inr (by simp at hy; omega))⟩
          case measure =>
            simp only [Array.getD_eq_getD_getElem?]
            simp [intOf, hw]
            omega
      · have hm' : m = n := by omega
        subst hm'
        go_wp2
        go_ret
        exact ⟨_, rfl, by rw [← repTo_all x m]; exact HSL.out, HK.out⟩
end Go.Proofs.Ytebbfdpaplkmdaa

namespace Go.Proofs.Ytebbfdpaplkmdaa
open Go.RowKit

set_option maxHeartbeats 1000000 in
theorem markFirst_any (xs ys : List Int) (n set t : Nat) (hx : xs.length = n) (hy : ys.length = n) (hp : 0 < n) (h6 : n ≤ 6)
    (hxy : ∀ k, k < n → ys.getD k 0 = if xs.getD k 0 < 0 ∧ set.testBit k = true then (t : Int) else xs.getD k 0)
    (w : World) (v : Value) (base : Nat) (hs : Sl w base v xs) :
    Calls Try.prog 61 #[v, .int .i64 (set : Int), .int .i64 (t : Int)] w fun e w' => e = .returned (.tuple #[]) ∧ Sl w' base v ys ∧ Kept v.ownBlock.toList w w' := by
  obtain ⟨g, cap, rfl, _, hg⟩ := hs.shape hx hp
  have HLN := Lib.hid (hy.trans hx.symm)
  have HX := Lib.hid hx
  have HXY := Lib.hid hxy
  have HS : Hid (Sl w base (.slice (some ⟨g, 0, none⟩) n cap) (mixI ys xs 0)) := Lib.hid (by rw [mixI_zero]; exact hs)
  clear hs hx hy hxy
  go_enter Try.func61, Try.ntmps61
  go_wp2_with fail
  go_loopw [10] (fun i wr => ∃ k : Nat, k ≤ n ∧ i = .int .i64 k ∧ Sl wr base (.slice (some ⟨g, 0, none⟩) n cap) (mixI ys xs k) ∧ Kept [g] w wr) (fun i _ => n - (intOf i).toNat)
  case atStart => exact ⟨0, Nat.zero_le _, rfl, HS.out, Kept.refl _ _⟩
  case round =>
    clear HS
    obtain ⟨k, hk, rfl, hsl, hkept⟩ := hrel
    have HSL := Lib.hid hsl
    have HK := Lib.hid hkept
    by_cases hlt : k < n
    · have hkl : k < xs.length := by rw [HX.out]; exact hlt
      have HML : Hid ((mixI ys xs k).length = n) := Lib.hid (by rw [mixI_length HLN.out, HX.out])
      obtain ⟨hcell, hfr⟩ := hsl.at k (by rw [HML.out]; exact hlt)
      rw [mixI_get HLN.out hkl] at hcell
      have HSET := Lib.hid (mixI_set HLN.out hkl)
      have HKEEP := Lib.hid (mixI_keep HLN.out hkl)
      have HG := Lib.hid (HXY.out k hlt)
      clear hsl hkept hkl
      generalize ys.getD k 0 = y at *
      generalize xs.getD k 0 = x at *
      by_cases h1 : x < 0
      · cases hb : set.testBit k
        · have HY : Hid (y = x) := Lib.hid (by rw [HG.out, if_neg (by rw [hb]; simp)])
          have HBT := Lib.hid hb
          clear HG HSET hb
          go_wp2_with fail
          refine (hasNode_nat set k _ (by omega)).mono ?_
          rintro e w' ⟨rfl, rfl⟩
          rw [HBT.out]
          go_wp2_with fail
          go_roundw
          case rel => exact ⟨k + 1, by omega, by go_num, by rw [← HKEEP.out HY.out]; exact HSL.out, HK.out⟩
          case measure => simp [intOf]; omega
        · have HY : Hid (y = (t : Int)) := Lib.hid (by rw [HG.out, if_pos ⟨h1, hb⟩])
          have HBT := Lib.hid hb
          clear HG HKEEP hb
          go_wp2_with fail
          refine (hasNode_nat set k _ (by omega)).mono ?_
          rintro e w' ⟨rfl, rfl⟩
          rw [HBT.out]
          go_wp2_with fail
          go_roundw
          case rel => exact ⟨k + 1, by omega, by go_num, by rw [← HSET.out, HY.out]; exact HSL.out.set HML.out.symm k _, HK.out.setCell (.inl (by simp)) _⟩
          case measure => simp [intOf]; omega
      · have HY : Hid (y = x) := Lib.hid (by rw [HG.out, if_neg (fun h => h1 h.1)])
        clear HG HSET
        go_wp2_with fail
        go_roundw
        case rel => exact ⟨k + 1, by omega, by go_num, by rw [← HKEEP.out HY.out]; exact HSL.out, HK.out⟩
        case measure => simp [intOf]; omega
    · have hk' : k = n := by omega
      subst hk'
      clear hsl hkept
      go_wp2
      go_end0
      exact ⟨rfl, by have h := HSL.out; rw [← HX.out, mixI_end HLN.out] at h; rw [HX.out] at h; exact h, HK.out⟩

set_option maxHeartbeats 2000000 in
theorem arrivals_any (ns : List Nat) (c s : Nat) (ok : Nt.Ok ns) (h3 : 3 ≤ c) (h5 : c ≤ 5) (hs2 : s < 2 ^ ns.length) (w : World) (v : Value) (base : Nat) (hs : Sl w base v (Nt.nats ns)) :
    Calls Try.prog 33 #[v, .int .i64 (c : Int), .int .i64 (s : Int)] w fun e w' => ∃ u, e = .returned u ∧ Sl w' w.heap.size u (Nt.far ns s) ∧ Kept [] w w' := by
  obtain ⟨n, hn⟩ : ∃ n, n = ns.length := ⟨_, rfl⟩
  have hp := ok.some
  have h6 := ok.few
  have HOK := Lib.hid ok
  have HLO := Lib.hid (Nt.litOf_ok hp h6 hs2)
  have HRS : Hid (∀ t, Nt.St c (Nt.run ns c (Nt.lit ns.length s) t)) := Lib.hid (fun t => Nt.run_st ns (lit_stc h3 h5 hp h6) t)
  have HRL : Hid (∀ t, (Nt.run ns c (Nt.lit ns.length s) t).length = n) := Lib.hid (fun t => by rw [Nt.run_length, Nt.lit_length, hn])
  have HAL := Lib.hid (fun t => (Nt.arrBef_length ns s t).trans hn.symm)
  have HAN := Lib.hid (fun t k (hk : k < n) => Nt.arrBef_next ok h3 hs2 t (k := k) (by omega))
  have HEND := Lib.hid (Nt.arrBef_end ok hs2)
  have HZ := Lib.hid (Nt.arrBef_zero ns s)
  have HN := Lib.hid hn
  rw [← hn] at hp h6 HLO HEND HZ
  have hk1 : Kept [] w (w.alloc (.cells #[.int .i64 (-1)] 3)) := (Kept.refl _ _).alloc _
  have HL1 : Hid (Sl (w.alloc (.cells #[.int .i64 (-1)] 3)) w.heap.size (.slice (some ⟨w.heap.size, 0, none⟩) 1 1) [-1]) := Lib.hid (Sl.lit w [-1] (by simp))
  obtain ⟨g, cap, rfl, hg, _⟩ := hs.row hn.symm hp
  have HS0 := Lib.hid hs
  have HS1 := Lib.hid (hs.stay hk1)
  have HK1 := Lib.hid hk1
  have hsz : (w.alloc (.cells #[.int .i64 (-1)] 3)).heap.size = w.heap.size + 1 := by simp
  have HSZ := Lib.hid hsz
  clear hs ok hs2 hn hk1 hsz
  go_enter Try.func33, Try.ntmps33
  go_wp2_with fail
  refine (repeat_any (-1) n hp h6 _ _ _ HL1.out).mono ?_
  rintro e w2 ⟨u2, rfl, hs2, hk2⟩
  rw [← HZ.out] at hs2
  obtain ⟨go, capo, rfl, hgo1, hgo⟩ := hs2.shape (HAL.out 0) hp
  have HR2 := Lib.hid (hs2.mono HK1.out.size)
  have HGO1 : Hid (w.heap.size ≤ go) := Lib.hid (Nat.le_trans HK1.out.size hgo1)
  have HGO := Lib.hid hgo
  have HS2 := Lib.hid (HS1.out.stay hk2)
  have HK2 := Lib.hid (HK1.out.trans hk2 (by simp))
  clear hs2 hk2 hgo1 hgo HS1 HK1 HL1 HZ HSZ
  go_wp2_with fail
  refine (iLit_any _ _ _).mono ?_
  rintro e w3 ⟨u3, rfl, hs3, hk3⟩
  rw [HLO.out, HN.out] at hs3
  have hs3' : Sl w3 w2.heap.size u3 (Nt.nats (Nt.run ns c (Nt.lit ns.length s) 0)) := hs3
  have HNE : Hid (∀ g, u3.ownBlock = some g → ¬ go = g) := Lib.hid (fun g hg e => by
    have h1 := (hs3'.block hg).1
    have h2 := HGO.out
    omega)
  have HNW := Lib.hid (hs3'.mono HK2.out.size)
  have HR3 := Lib.hid (HR2.out.stay hk3)
  have HS3 := Lib.hid (HS2.out.stay hk3)
  have HK3 := Lib.hid (HK2.out.trans hk3 (by simp))
  have HGW : Hid (go < w3.heap.size) := Lib.hid (Nat.lt_of_lt_of_le HGO.out hk3.size)
  clear hs3 hs3' hk3 HR2 HS2 HK2 HGO
  go_wp2_with fail
  go_loopw [8, 20] (fun z i wx => ∃ t : Nat, t ≤ n ∧ i = .int .i64 t ∧ Sl wx w.heap.size z (Nt.nats (Nt.run ns c (Nt.lit ns.length s) t)) ∧ (∀ g, z.ownBlock = some g → ¬ go = g) ∧ Sl wx w.heap.size (.slice (some ⟨go, 0, none⟩) n capo) (Nt.arrBef ns s t) ∧ Kept [] w wx ∧ w3.heap.size ≤ wx.heap.size) (fun _ i _ => n - (intOf i).toNat)
  case atStart => exact ⟨0, Nat.zero_le _, rfl, HNW.out, HNE.out, HR3.out, HK3.out, Nat.le_refl _⟩
  case round =>
    clear HNW HNE HR3 HS3 HK3
    obtain ⟨t, ht, rfl, hnow, hneg, hrow, hkept, hsize⟩ := hrel
    have HNOW := Lib.hid hnow
    have HNEG := Lib.hid hneg
    have HROW := Lib.hid hrow
    have HKT := Lib.hid hkept
    have HSIZ := Lib.hid hsize
    by_cases hlt : t < n
    · obtain ⟨gz, capz, rfl, _, _⟩ := hnow.row (HRL.out t) hp
      clear hnow hneg hrow hkept hsize
      go_wp2_with fail
      refine (firingSet_any c _ (HRS.out t) _ _ _ HNOW.out).mono ?_
      rintro e w' ⟨rfl, rfl⟩
      go_wp2_with fail
      refine (markFirst_any (Nt.arrBef ns s t) (Nt.arrBef ns s (t + 1)) n _ t (HAL.out t) (HAL.out (t + 1)) hp h6 (HAN.out t) _ _ _ HROW.out).mono ?_
      rintro e w4 ⟨rfl, hs4, hk4⟩
      have HR4 := Lib.hid hs4
      have HN4 := Lib.hid (HNOW.out.kept hk4 (fun g hg hm => by
        simp [Value.ownBlock] at hg hm
        exact HNEG.out gz rfl (by omega)))
      have HK4 : Hid (Kept [] w w4) := Lib.hid (HKT.out.own hk4 (fun g hg => by simp [Value.ownBlock] at hg; have := HGO1.out; omega))
      have HSZ4 := Lib.hid (Nat.le_trans HSIZ.out hk4.size)
      have HS4 := Lib.hid (HS0.out.stay HK4.out)
      clear hs4 hk4 HNOW HNEG HROW HKT HSIZ
      go_wp2_with fail
      refine (firedState_any ns c _ HOK.out (HRS.out t) (by rw [HRL.out]; exact HN.out) _ _ _ _ _ HS4.out HN4.out).mono ?_
      rintro e w5 ⟨z5, rfl, hs5, hk5⟩
      have hs5' : Sl w5 w4.heap.size z5 (Nt.nats (Nt.run ns c (Nt.lit ns.length s) (t + 1))) := hs5
      have HN5 := Lib.hid (hs5'.mono HK4.out.size)
      have HNE5 : Hid (∀ g, z5.ownBlock = some g → ¬ go = g) := Lib.hid (fun g hg e => by
        have h1 := (hs5'.block hg).1
        have h2 := HGW.out
        have h3 := HSZ4.out
        omega)
      have HR5 := Lib.hid (HR4.out.stay hk5)
      have HK5 := Lib.hid (HK4.out.trans hk5 (by simp))
      have HSZ5 := Lib.hid (Nat.le_trans HSZ4.out hk5.size)
      clear hs5 hs5' hk5 HS4 HN4 HR4 HK4 HSZ4
      go_wp2_with fail
      go_roundw
      case rel => exact ⟨t + 1, by omega, by go_num, HN5.out, HNE5.out, HR5.out, HK5.out, HSZ5.out⟩
      case measure => simp [intOf]; omega
    · have ht' : t = n := by omega
      subst ht'
      clear hnow hneg hrow hkept hsize
      go_wp2
      go_ret
      exact ⟨_, rfl, by rw [← HEND.out]; exact HROW.out, HKT.out⟩

set_option maxHeartbeats 1000000 in
theorem iArr_any (xs : List Int) (kinds set : Int) (w : World) (v : Value) (base : Nat) (hs : Sl w base v xs) :
    Calls Try.prog 10 #[v, .int .i64 kinds, .int .i64 set] w fun e w' => ∃ u, e = .returned u ∧ Sl w' w.heap.size u (Nt.arrOf xs kinds set) ∧ Kept [] w w' := by
  have HS := Lib.hid hs
  obtain ⟨a, cap, rfl, _, hm, _⟩ := hs.any
  cases ho : Nt.waveB xs kinds set
  · have HF := Lib.hid (Nt.arrOf_no ho)
    cases h1 : Nt.okB xs
    · clear ho hs
      go_enter Try.func10, Try.ntmps10
      go_wp2_with fail
      refine (iNetOk_any xs _ _ base HS.out).mono ?_
      rintro e w' ⟨rfl, rfl⟩
      rw [h1]
      go_wp2_with fail
      go_ret
      exact ⟨_, rfl, by rw [HF.out]; exact Sl.nil _ _, Kept.refl _ _⟩
    · have h6 : xs.length ≤ 6 := by
        obtain ⟨ns, rfl, ok⟩ := Nt.okB_ok h1
        rw [Nt.nats_length]; exact ok.few
      by_cases h2 : 3 ≤ kinds ∧ kinds ≤ 5
      · have h3 : ¬ (0 ≤ set ∧ set < 2 ^ xs.length) := fun h3 => by rw [Nt.waveB_all h1 h2 h3] at ho; exact absurd ho (by simp)
        have D2 := Lib.hid (dec_of h2)
        have D3 := Lib.hid (dec_not h3)
        clear ho hs h2 h3
        go_enter Try.func10, Try.ntmps10
        go_wp2_with fail
        refine (iNetOk_any xs _ _ base HS.out).mono ?_
        rintro e w' ⟨rfl, rfl⟩
        rw [h1]
        go_wp2_with fail
        refine (kindsOk_any _ _).mono ?_
        rintro e w' ⟨rfl, rfl⟩
        rw [D2.out]
        go_wp2_with fail
        refine (setOk_any _ _ _ (by omega) (by omega)).mono ?_
        rintro e w' ⟨rfl, rfl⟩
        rw [Int.toNat_natCast, D3.out]
        go_wp2_with fail
        go_ret
        exact ⟨_, rfl, by rw [HF.out]; exact Sl.nil _ _, Kept.refl _ _⟩
      · have D2 := Lib.hid (dec_not h2)
        clear ho hs h2
        go_enter Try.func10, Try.ntmps10
        go_wp2_with fail
        refine (iNetOk_any xs _ _ base HS.out).mono ?_
        rintro e w' ⟨rfl, rfl⟩
        rw [h1]
        go_wp2_with fail
        refine (kindsOk_any _ _).mono ?_
        rintro e w' ⟨rfl, rfl⟩
        rw [D2.out]
        go_wp2_with fail
        go_ret
        exact ⟨_, rfl, by rw [HF.out]; exact Sl.nil _ _, Kept.refl _ _⟩
  · obtain ⟨ns, c, s, rfl, rfl, rfl, ok, h3, h5, hset⟩ := Nt.waveB_ok ho
    have HF := Lib.hid (Nt.arrOf_ok ok h3 h5 hset)
    have HOK := Lib.hid ok
    have HOKB := Lib.hid (Nt.ok_okB ok)
    have HSET := Lib.hid hset
    have D2 : Hid (decide ((3 : Int) ≤ (c : Int) ∧ (c : Int) ≤ 5) = true) := Lib.hid (dec_of (by omega))
    have D3 : Hid (decide ((0 : Int) ≤ (s : Int) ∧ (s : Int) < 2 ^ (Nt.nats ns).length) = true) := Lib.hid (dec_of (by
      rw [Nt.nats_length]
      have e : ((2 ^ ns.length : Nat) : Int) = (2 : Int) ^ ns.length := Int.natCast_pow 2 _
      omega))
    have h6 : (Nt.nats ns).length ≤ 6 := by rw [Nt.nats_length]; exact ok.few
    clear ho hs ok hset
    go_enter Try.func10, Try.ntmps10
    go_wp2_with fail
    refine (iNetOk_any _ _ _ base HS.out).mono ?_
    rintro e w' ⟨rfl, rfl⟩
    rw [HOKB.out]
    go_wp2_with fail
    refine (kindsOk_any _ _).mono ?_
    rintro e w' ⟨rfl, rfl⟩
    rw [D2.out]
    go_wp2_with fail
    refine (setOk_any _ _ _ (by omega) (by omega)).mono ?_
    rintro e w' ⟨rfl, rfl⟩
    rw [Int.toNat_natCast, D3.out]
    go_wp2_with fail
    refine (arrivals_any ns c s HOK.out h3 h5 HSET.out _ _ _ HS.out).mono ?_
    rintro e w1 ⟨u, rfl, hs1, hk1⟩
    have HS1 := Lib.hid hs1
    have HK1 := Lib.hid hk1
    clear hs1 hk1
    go_wp2_with fail
    go_ret
    exact ⟨_, rfl, by rw [HF.out]; exact HS1.out, HK1.out⟩
end Go.Proofs.Ytebbfdpaplkmdaa

namespace Go.Proofs.Ytebbfdpaplkmdaa
open Go.RowKit

theorem waveEnd_of {xs : List Int} {kinds set : Int} {a b : Int} (hL : Nt.LoopIs xs kinds (Nt.litOf (xs.length : Int) set) a b) : Nt.endsOf a b = Nt.waveEndOf xs kinds set := by
  rcases hL with ⟨ns, c, ks, m, l, rfl, rfl, hks, ok, st, hl, hloop, hb, rfl, rfl⟩ | ⟨hno, rfl, rfl⟩
  · rw [Nt.nats_length] at hks
    have hset : (1 ≤ ns.length ∧ ns.length ≤ 6) ∧ 0 ≤ set ∧ set < 2 ^ ns.length := by
      apply Classical.byContradiction
      intro h
      rw [Nt.litOf_no (fun h2 => h ⟨⟨by omega, by omega⟩, by rw [Int.toNat_natCast] at h2; exact h2.2⟩)] at hks
      have h3 : (Nt.nats ks).length = 0 := by rw [← hks]; rfl
      rw [Nt.nats_length] at h3
      have := st.some
      omega
    obtain ⟨s, rfl⟩ := Int.eq_ofNat_of_zero_le hset.2.1
    have hs2 : s < 2 ^ ns.length := by have := hset.2.2; exact_mod_cast this
    rw [Nt.litOf_ok ok.some ok.few hs2] at hks
    have hks2 : Nt.lit ns.length s = ks := by
      have h := congrArg (List.map Int.toNat) hks
      rwa [Nt.nats_toNat, Nt.nats_toNat] at h
    subst hks2
    obtain ⟨hl1, hm⟩ := Nt.wave_loop ok st.c3 hs2 hloop
    unfold Nt.endsOf
    rw [if_pos (by omega), hm]
    by_cases h0 : s = 0
    · subst h0
      rw [if_pos rfl]
      exact (Nt.waveEndOf_zero ok st.c3 st.c5).symm
    · rw [if_neg h0, Nt.waveEndOf_ok ok st.c3 st.c5 hs2 h0]
  · have hw : Nt.waveB xs kinds set = false := by
      cases h : Nt.waveB xs kinds set
      · rfl
      · obtain ⟨ns, c, s, rfl, rfl, rfl, ok, h3, h5, hs2⟩ := Nt.waveB_ok h
        rw [Nt.nats_length, Nt.litOf_ok ok.some ok.few hs2] at hno
        rw [Nt.fireB_yes ok (lit_stc h3 h5 ok.some ok.few) (by rw [Nt.lit_length])] at hno
        cases hno
    rw [Nt.waveEndOf_no hw]
    rfl

set_option maxHeartbeats 1000000 in
theorem iWaveEnd_any (xs : List Int) (kinds set : Int) (w : World) (v : Value) (base : Nat) (hs : Sl w base v xs) :
    Calls Try.prog 18 #[v, .int .i64 kinds, .int .i64 set] w fun e w' => e = .returned (.int .i64 (Nt.waveEndOf xs kinds set)) ∧ Kept [] w w' := by
  obtain ⟨ra, rb, hL⟩ := Nt.loopIs_ex xs kinds (Nt.litOf (xs.length : Int) set)
  have HV := Lib.hid (waveEnd_of hL)
  have HLL := Lib.hid hL
  have HS := Lib.hid hs
  obtain ⟨a, cap, rfl, _, hm, _⟩ := hs.any
  clear hs hL
  go_enter Try.func18, Try.ntmps18
  go_wp2_with fail
  refine (iLit_any _ _ _).mono ?_
  rintro e w1 ⟨u1, rfl, hs1, hk1⟩
  have HT1 := Lib.hid hs1
  have HS1 := Lib.hid (HS.out.stay hk1)
  have HK1 := Lib.hid hk1
  clear hs1 hk1
  go_wp2_with fail
  refine (iEnds_any xs kinds _ HLL.out _ _ _ _ _ HS1.out HT1.out).mono ?_
  rintro e w2 ⟨rfl, hk2⟩
  have HK2 := Lib.hid (HK1.out.trans hk2 (by simp))
  clear hk2
  go_wp2_with fail
  go_ret
  exact ⟨by rw [← HV.out]; rfl, HK2.out⟩

set_option maxHeartbeats 1000000 in
theorem min_any (xs : List Int) (n : Nat) (hn : xs.length = n + 1) (w : World) (v : Value) (base : Nat) (hs : Sl w base v xs) :
    Calls Try.prog 73 #[v] w fun e w' => e = .returned (.int .i64 (Nt.lowTo xs n)) ∧ w = w' := by
  obtain ⟨g, cap, rfl, _, _⟩ := hs.shape hn (by omega)
  have hc0 := (hs.at 0 (by omega)).1
  have HC := Lib.hid (fun k (hk : k < xs.length) => (hs.at k hk).1)
  have hlen := hs.len
  clear hs
  have h1 : ¬ ((n + 1 : Nat) : Int) < 1 := by omega
  generalize hx0 : xs.getD 0 0 = x0 at *
  have HX0 := Lib.hid hx0
  clear hx0
  have hmax : n ≤ 9223372036854775806 := by omega
  have HN := Lib.hid hn
  clear hlen hn
  go_enter Try.func73, Try.ntmps73
  go_wp2
  go_loop [3, 4] (fun a i => ∃ k : Nat, k ≤ n ∧ i = .int .i64 ((k : Int) + 1) ∧ a = .int .i64 (Nt.lowTo xs k)) (fun _ i => n + 1 - (intOf i).toNat)
  case atStart => exact ⟨0, Nat.zero_le _, rfl, by rw [Nt.lowTo, HX0.out]⟩
  case round =>
    obtain ⟨k, hk, rfl, rfl⟩ := hrel
    by_cases hlt : k < n
    · have hcell := HC.out (k + 1) (by have := HN.out; omega)
      have HT : Hid (Nt.lowTo xs (k + 1) = min (Nt.lowTo xs k) (xs.getD (k + 1) 0)) := Lib.hid rfl
      generalize Nt.lowTo xs k = a at *
      generalize xs.getD (k + 1) 0 = b at *
      go_wp2
      go_round
      case rel => exact ⟨k + 1, by omega, by go_num, by rw [HT.out]; first | rfl | go_num⟩
      case measure => simp [intOf]; omega
    · have hk' : k = n := by omega
      subst hk'
      go_wp2
      go_ret
      exact ⟨rfl, rfl⟩

set_option maxHeartbeats 1000000 in
theorem allFire_any (ns : List Nat) (s t : Nat) (ok : Nt.Ok ns) (hs2 : s < 2 ^ ns.length) (w : World) (v : Value) (base : Nat) (hs : Sl w base v (Nt.nats ns)) :
    Calls Try.prog 57 #[v, .int .i64 (s : Int), .int .i64 (t : Int)] w fun e w' => e = .returned (.bool (Nt.covers ns s t)) ∧ Kept [] w w' := by
  obtain ⟨n, hn⟩ : ∃ n, ns.length = n + 1 := ⟨ns.length - 1, by have := ok.some; omega⟩
  have HCV := Lib.hid (Nt.covers_low (set := s) t hn)
  have HFL : Hid ((Nt.far ns s).length = n + 1) := Lib.hid (by rw [Nt.far_length, hn])
  have HOK := Lib.hid ok
  have HSS := Lib.hid hs2
  have HS := Lib.hid hs
  obtain ⟨g, cap, rfl, hg, _⟩ := hs.row hn (by omega)
  clear hs ok hs2 hn
  go_enter Try.func57, Try.ntmps57
  go_wp2_with fail
  refine (arrivals_any ns 3 s HOK.out (by omega) (by omega) HSS.out _ _ _ HS.out).mono ?_
  rintro e w1 ⟨u, rfl, hs1, hk1⟩
  have HS1 := Lib.hid hs1
  have HK1 := Lib.hid hk1
  obtain ⟨g1, cap1, rfl, _, _⟩ := hs1.shape HFL.out (by omega)
  clear hs1 hk1
  go_wp2_with fail
  refine (min_any (Nt.far ns s) n HFL.out _ _ _ HS1.out).mono ?_
  rintro e w' ⟨rfl, rfl⟩
  have HM := Lib.hid (max_any (Nt.far ns s) n HFL.out w1 _ _ HS1.out)
  generalize Nt.lowTo (Nt.far ns s) n = lo at *
  generalize Nt.topTo (Nt.far ns s) n = hi at *
  by_cases h1 : 0 ≤ lo
  · by_cases h2 : hi ≤ (t : Int)
    · have HV : Hid (Nt.covers ns s t = true) := Lib.hid (by rw [HCV.out, dec_of h1, dec_of h2]; rfl)
      go_wp2_with fail
      refine HM.out.mono ?_
      rintro e w' ⟨rfl, rfl⟩
      go_wp2_with fail
      go_ret
      exact ⟨by rw [HV.out]; rfl, HK1.out⟩
    · have HV : Hid (Nt.covers ns s t = false) := Lib.hid (by rw [HCV.out, dec_of h1, dec_not h2]; rfl)
      have HD2 := Lib.hid (dec_not h2)
      go_wp2_with fail
      refine HM.out.mono ?_
      rintro e w' ⟨rfl, rfl⟩
      go_wp2_with fail
      go_ret
      exact ⟨by rw [HV.out, ← HD2.out]; rfl, HK1.out⟩
  · have HV : Hid (Nt.covers ns s t = false) := Lib.hid (by rw [HCV.out, dec_not h1]; rfl)
    go_wp2_with fail
    go_ret
    exact ⟨by rw [HV.out]; rfl, HK1.out⟩

set_option maxHeartbeats 2000000 in
theorem smallestSet_any (F : Nat) (caps : Array Value) (P : Nat → Bool) (n a b : Nat) (hp : 0 < n) (h6 : n ≤ 6)
    (hent : ∀ (args : Array Value) (w : World), Sem.run Try.prog (callFunc F args) w = .ok (.enter F args) w)
    (w0 : World) (hP : ∀ s, s < 2 ^ n → ∀ w, Kept [] w0 w → Calls Try.prog F (#[.int .i64 (s : Int)] ++ caps) w fun e w' => e = .returned (.bool (P s)) ∧ Kept [] w w')
    (ha : a < 2 ^ n) (hPa : P a = true) (hpa : Nt.popTo a n = b) (hbn : b ≤ n) (hfew : ∀ r, r < 2 ^ n → P r = true → b ≤ Nt.popTo r n) (hlea : ∀ r, r < a → ¬ (P r = true ∧ Nt.popTo r n = b)) :
    Calls Try.prog 55 #[.int .i64 (n : Int), .func (.func F) #[] caps] w0 fun e w' => e = .returned (.int .i64 (a : Int)) ∧ Kept [] w0 w' := by
  have HENT := Lib.hid hent
  have HP := Lib.hid hP
  have HPA := Lib.hid hPa
  have HFEW := Lib.hid hfew
  have HLEA := Lib.hid hlea
  have HPOP := Lib.hid hpa
  have EP : Hid (wrap64 (2 ^ n) = ((2 ^ n : Nat) : Int)) := Lib.hid (by
    have h := wrap_pow n (by omega) (by omega)
    rw [Int.toNat_natCast] at h
    rw [h]; exact (Int.natCast_pow 2 n).symm)
  have h64 : 2 ^ n ≤ 64 := Nt.pow_le h6
  have HPP : Hid (∀ r, r < 2 ^ n → Nt.pop r = Nt.popTo r n) := Lib.hid (fun r hr => Nt.popTo_more hr 6 h6)
  clear hent hP hPa hfew hlea hpa
  go_enter Try.func55, Try.ntmps55
  go_wp2_with fail
  go_loopw [9] (fun i wr => ∃ z : Nat, z ≤ b ∧ i = .int .i64 z ∧ Kept [] w0 wr) (fun i _ => n + 1 - (intOf i).toNat)
  case atStart => exact ⟨0, Nat.zero_le _, rfl, Kept.refl _ _⟩
  case round =>
    obtain ⟨z, hz, rfl, hkz⟩ := hrel
    have HKZ := Lib.hid hkz
    have ep := EP.out
    clear hkz
    have hzn : z < n + 1 := by omega
    generalize htop : 2 ^ n = top at *
    have HTOP := Lib.hid htop
    clear htop
    have hdz : decide ((z : Int) < (n : Int) + 1) = true := dec_of (by omega)
    go_wp2_with fail
    rw [ep]
    clear hdz
    go_loopw [14] (fun i wx => ∃ r : Nat, r ≤ top ∧ i = .int .i64 r ∧ (z = b → r ≤ a) ∧ Kept [] w0 wx) (fun i _ => top - (intOf i).toNat)
    case atStart => exact ⟨0, Nat.zero_le _, rfl, fun _ => Nat.zero_le _, HKZ.out⟩
    case round =>
      clear HKZ
      obtain ⟨r, hr, rfl, hza, hkx⟩ := hrel
      have HKX := Lib.hid hkx
      have HZA := Lib.hid hza
      clear hkx hza
      by_cases hlt : r < top
      · have hpp := HPP.out r hlt
        go_wp2_with fail
        refine (sizeOf_any r (by omega) _).mono ?_
        rintro e w' ⟨rfl, rfl⟩
        rw [hpp]
        by_cases hpz : Nt.popTo r n = z
        · rw [hpz]
          have hq := HFEW.out r hlt
          have hl := HLEA.out r
          rw [hpz] at hq hl
          have hbeq : ((z : Int) == (z : Int)) = true := by simp
          go_wp2_with fail
          rw [HENT.out, Oper.upon_enter]
          refine (HP.out r hlt _ HKX.out).mono ?_
          rintro e w2 ⟨rfl, hk2⟩
          have HK2 := Lib.hid (HKX.out.trans hk2 (by simp))
          clear hk2
          cases hPr : P r
          · have HNX : Hid (z = b → r + 1 ≤ a) := Lib.hid (fun hzb => by
              have h1 := HZA.out hzb
              by_cases e : r = a
              · subst e; rw [HPA.out] at hPr; cases hPr
              · omega)
            clear hq hl hPr hpp hpz
            go_wp2_with fail
            go_roundw
            case rel =>
              exact ⟨r + 1, by omega, by go_num, HNX.out, HK2.out⟩
            case measure => simp [intOf]; omega
          · have hzb : z = b := by have := hq hPr; omega
            have hra : r = a := by
              have h1 := HZA.out hzb
              by_cases e : r < a
              · exact absurd ⟨hPr, hzb⟩ (hl e)
              · omega
            clear hq hl hPr hpp hpz
            subst hra
            go_wp2_with fail
            go_ret
            exact ⟨rfl, HK2.out⟩
        · have hbeq : (((Nt.popTo r n : Nat) : Int) == (z : Int)) = false := by simp; omega
          have HNX : Hid (z = b → r + 1 ≤ a) := Lib.hid (fun hzb => by
            have h1 := HZA.out hzb
            by_cases e : r = a
            · subst e; exact absurd (HPOP.out.trans hzb.symm) hpz
            · omega)
          clear hpp hpz
          generalize Nt.popTo r n = q at *
          go_wp2_with fail
          go_roundw
          case rel => exact ⟨r + 1, by omega, by go_num, HNX.out, HKX.out⟩
          case measure => simp [intOf]; omega
      · have hzb : z < b := by
          apply Classical.byContradiction
          intro h
          have := HZA.out (by omega)
          omega
        go_wp2_with fail
        go_roundw
        case rel => exact ⟨z + 1, by omega, by go_num, HKX.out⟩
        case measure => simp [intOf]; omega

set_option maxHeartbeats 400000 in
theorem lightsFor1_any (ns : List Nat) (s t : Nat) (ok : Nt.Ok ns) (hs2 : s < 2 ^ ns.length) (w : World) (v : Value) (base : Nat) (b1 b2 : Nat)
    (hA : w.cell? ⟨b1, 0, none⟩ = some v) (hK : w.cell? ⟨b2, 0, none⟩ = some (.int .i64 (t : Int))) (hs : Sl w base v (Nt.nats ns)) :
    Calls Try.prog 56 #[.int .i64 (s : Int), .pointer (some ⟨b1, 0, none⟩), .pointer (some ⟨b2, 0, none⟩)] w fun e w' => e = .returned (.bool (Nt.covers ns s t)) ∧ Kept [] w w' := by
  have HS := Lib.hid hs
  have HOK := Lib.hid ok
  have HSS := Lib.hid hs2
  obtain ⟨n, hn⟩ : ∃ n, n = ns.length := ⟨_, rfl⟩
  obtain ⟨g, cap, rfl, _, _⟩ := hs.row (n := n) (by omega) (by have := ok.some; omega)
  clear hs ok hs2 hn
  go_enter Try.func56, Try.ntmps56
  go_wp2_with fail
  refine (allFire_any ns s t HOK.out HSS.out _ _ _ HS.out).mono ?_
  rintro e w1 ⟨rfl, hk1⟩
  have HK1 := Lib.hid hk1
  clear hk1
  go_wp2_with fail
  go_ret
  exact ⟨rfl, HK1.out⟩

theorem enter_lights1 (args : Array Value) (w : World) : Sem.run Try.prog (callFunc 56 args) w = .ok (.enter 56 args) w := by kernel_rfl

set_option maxHeartbeats 1000000 in
theorem iLights_any {a b : Int} (xs : List Int) (steps : Int) (hL : Nt.LightsIs xs steps a b) (w : World) (v : Value) (base : Nat) (hs : Sl w base v xs) :
    Calls Try.prog 25 #[v, .int .i64 steps] w fun e w' => e = .returned (.int .i64 a) ∧ Kept [] w w' := by
  have hmf : ∀ (fn : Fn) (first cap : Array Value) (w : World), (Instr.makeFunc fn first cap).run Try.prog w = .ok (.func fn first cap) w := fun _ _ _ _ => rfl
  obtain ⟨hk1, ha, hb, hsz⟩ := two_boxes w 23 v steps
  have HK1 := Lib.hid hk1
  have HA := Lib.hid ha
  have HB := Lib.hid hb
  have HSZ := Lib.hid hsz
  have HS1 := Lib.hid (hs.stay hk1)
  obtain ⟨pa, cap, rfl, _, hm, _⟩ := hs.any
  clear hs hk1 ha hb hsz
  rcases hL with ⟨ns, t, r, m, rfl, rfl, ok, hl, rfl, rfl⟩ | ⟨hno, rfl, rfl⟩
  · have HOK := Lib.hid ok
    have HOKB := Lib.hid (Nt.ok_okB ok)
    have hp := ok.some
    have h6 := ok.few
    have HLT := Lib.hid hl.lt
    have HCOV := Lib.hid hl.cov
    have HPOP := Lib.hid hl.pop
    have HLEA := Lib.hid hl.least
    have HFEW := Lib.hid hl.few.least
    have HMN := Lib.hid hl.few.le_all
    have HNL := Lib.hid (Nt.nats_length ns)
    clear ok hl
    go_enter Try.func25, Try.ntmps25
    go_wp2_with (go_at_call 30; refine (iNetOk_any _ _ _ base HS1.out).mono ?_; rintro e w' ⟨rfl, rfl⟩; rw [HOKB.out])
    generalize hw1 : (w.alloc (.cells #[Value.slice pa (Nt.nats ns).length cap] 23)).alloc (.cells #[.int .i64 (t : Int)] 3) = w1 at *
    rw [HNL.out] at *
    refine (smallestSet_any 56 #[.pointer (some ⟨w.heap.size, 0, none⟩), .pointer (some ⟨w.heap.size + 1, 0, none⟩)] (fun s => Nt.covers ns s t) ns.length r m hp h6 enter_lights1 w1 ?_ HLT.out HCOV.out HPOP.out HMN.out HFEW.out HLEA.out).mono ?_
    · intro s hs2 w2 hj
      have hz := HSZ.out
      have h := lightsFor1_any ns s t HOK.out hs2 w2 _ base w.heap.size (w.heap.size + 1)
        ((hj.cell (p := ⟨w.heap.size, 0, none⟩) (by show w.heap.size < w1.heap.size; omega) (by simp)).trans HA.out) ((hj.cell (p := ⟨w.heap.size + 1, 0, none⟩) (by show w.heap.size + 1 < w1.heap.size; omega) (by simp)).trans HB.out) (HS1.out.stay hj)
      exact Calls.mono (by simpa using h) (fun _ _ h => h)
    · rintro e w2 ⟨rfl, hk2⟩
      have HK2 := Lib.hid (HK1.out.trans hk2 (by simp))
      clear hk2
      go_wp2_with fail
      go_ret
      exact ⟨rfl, HK2.out⟩
  · cases h1 : Nt.okB xs
    · clear hno
      go_enter Try.func25, Try.ntmps25
      go_wp2_with (go_at_call 30; refine (iNetOk_any _ _ _ base HS1.out).mono ?_; rintro e w' ⟨rfl, rfl⟩; rw [h1])
      go_ret
      exact ⟨rfl, HK1.out⟩
    · have h2 : steps < 0 := by
        apply Classical.byContradiction
        intro h
        exact hno ⟨h1, by omega⟩
      clear hno
      go_enter Try.func25, Try.ntmps25
      go_wp2_with (go_at_call 30; refine (iNetOk_any _ _ _ base HS1.out).mono ?_; rintro e w' ⟨rfl, rfl⟩; rw [h1])
      go_ret
      exact ⟨rfl, HK1.out⟩

set_option maxHeartbeats 1000000 in
theorem iFewest_any {a b : Int} (xs : List Int) (steps : Int) (hL : Nt.LightsIs xs steps a b) (w : World) (v : Value) (base : Nat) (hs : Sl w base v xs) :
    Calls Try.prog 21 #[v, .int .i64 steps] w fun e w' => e = .returned (.int .i64 b) ∧ Kept [] w w' := by
  have HS := Lib.hid hs
  have HL := Lib.hid hL
  obtain ⟨pa, cap, rfl, _, hm, _⟩ := hs.any
  clear hs
  rcases hL with ⟨ns, t, r, m, rfl, rfl, ok, hl, rfl, rfl⟩ | ⟨hno, rfl, rfl⟩
  · have h64 : r < 64 := Nat.lt_of_lt_of_le hl.lt (Nt.pow_le ok.few)
    have HPOP : Hid (Nt.pop r = m) := Lib.hid (by rw [← hl.pop]; exact Nt.popTo_more hl.lt 6 ok.few)
    clear ok hl
    go_enter Try.func21, Try.ntmps21
    go_wp2_with fail
    refine (iLights_any _ _ HL.out _ _ _ HS.out).mono ?_
    rintro e w1 ⟨rfl, hk1⟩
    have HK1 := Lib.hid hk1
    clear hk1
    go_wp2_with fail
    refine (sizeOf_any r h64 _).mono ?_
    rintro e w' ⟨rfl, rfl⟩
    rw [HPOP.out]
    go_wp2_with fail
    go_ret
    exact ⟨rfl, HK1.out⟩
  · clear hno
    go_enter Try.func21, Try.ntmps21
    go_wp2_with fail
    refine (iLights_any _ _ HL.out _ _ _ HS.out).mono ?_
    rintro e w1 ⟨rfl, hk1⟩
    have HK1 := Lib.hid hk1
    clear hk1
    go_wp2_with fail
    go_ret
    exact ⟨rfl, HK1.out⟩
end Go.Proofs.Ytebbfdpaplkmdaa
