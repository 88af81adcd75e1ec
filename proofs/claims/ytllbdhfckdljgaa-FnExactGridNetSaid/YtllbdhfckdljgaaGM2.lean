/-
  Walks: squares, their windings and borders, by the model.
-/
import Derived.Test.YtllbdhfckdljgaaGM
import Derived.Test.YtllbdhfckdljgaaW15
import Derived.Test.YtllbdhfckdljgaaOpsZ
namespace Go.Proofs.Ytllbdhfckdljgaa
open Go.RowKit

/-- No two of these lie in one block. -/
def Apart (vs : List Value) : Prop := ∀ i j, i < j → j < vs.length → ∀ g, (vs.getD i undef).ownBlock = some g → ¬ (vs.getD j undef).ownBlock = some g
theorem Apart.nil : Apart [] := fun i j _ hj => by simp at hj
theorem Apart.snoc {vs : List Value} {u : Value} (h : Apart vs) (hu : ∀ i, i < vs.length → ∀ g, (vs.getD i undef).ownBlock = some g → ¬ u.ownBlock = some g) : Apart (vs ++ [u]) := by
  intro i j hij hj g hg
  rw [List.length_append] at hj
  simp at hj
  have hi : (vs ++ [u]).getD i undef = vs.getD i undef := by rw [List.getD_eq_getElem?_getD, List.getElem?_append_left (by omega), ← List.getD_eq_getElem?_getD]
  rw [hi] at hg
  by_cases e : j < vs.length
  · have ej : (vs ++ [u]).getD j undef = vs.getD j undef := by rw [List.getD_eq_getElem?_getD, List.getElem?_append_left e, ← List.getD_eq_getElem?_getD]
    rw [ej]
    exact h i j hij e g hg
  · have : j = vs.length := by omega
    subst this
    have ej : (vs ++ [u]).getD vs.length undef = u := by simp [List.getD_eq_getElem?_getD]
    rw [ej]
    exact hu i (by omega) g hg
theorem Rw.nil (w : World) (base : Nat) (s : Nat → List Nat) : Rw w base (.slice none 0 0) [] s := ⟨World.ownsRow_nil w base 25 1, fun i hi => by simp at hi⟩
/-- No rows, written out in the text. -/
theorem Rw.empty (w : World) (s : Nat → List Nat) : Rw (w.alloc (.cells #[] 25)) w.heap.size (.slice (some ⟨w.heap.size, 0, none⟩) 0 0) [] s :=
  ⟨World.ownsRow_lit (base := w.heap.size) (e := 25) (size := 1) w #[] 0 (Nat.le_refl _) (by simp only [maxLen]; omega) (by simp), fun i hi => by simp at hi⟩
/-- Rows that are written out, told by lists of numbers. -/
theorem Rw.congr {w : World} {base : Nat} {v : Value} {vs : List Value} {s s' : Nat → List Nat} (h : Rw w base v vs s) (e : ∀ i, i < vs.length → s i = s' i) : Rw w base v vs s' :=
  ⟨h.1, fun i hi => by rw [← e i hi]; exact h.2 i hi⟩

/-- Where rows lie. -/
theorem rowsBlock {w : World} {base g : Nat} {v : Value} {vs : List Value} {s : Nat → List Nat} (h : Rw w base v vs s) (hg : v.ownBlock = some g) : base ≤ g ∧ g < w.heap.size := World.ownsRow.lt h.1 g hg

/-- The next square. -/
theorem squares_next {r c k : Nat} (h : k % c + 1 < c ∧ k + c < r * c) : Nt.squaresTo r c (k + 1) = Nt.squaresTo r c k ++ [[k, k + 1, k + c + 1, k + c, k]] := by rw [Nt.squaresTo, if_pos h]
theorem squares_same {r c k : Nat} (h : ¬ (k % c + 1 < c ∧ k + c < r * c)) : Nt.squaresTo r c (k + 1) = Nt.squaresTo r c k := by rw [Nt.squaresTo, if_neg h]

set_option maxHeartbeats 2000000 in
set_option maxRecDepth 100000 in
theorem sSquares_any (r c : Int) (w : World) :
    Calls Try.prog 21 #[.int .i64 r, .int .i64 c] w fun e w' => ∃ u vs, e = .returned u ∧ vs.length = (Nt.sqsOf r c).length ∧ Rw w' w.heap.size u vs (fun i => (Nt.sqsOf r c).getD i []) ∧ Apart vs ∧ Kept [] w w' := by
  cases ho : Nt.grB r c
  · have HF := Lib.hid (Nt.sqsOf_no ho)
    go_enter Try.func21, Try.ntmps21
    go_wp2
    refine wp_loop_rounds 1 ?_
    rw [rounds_succ]
    go_wp2_with (go_at_call 43; refine (l12Ok_any _ _ _).mono ?_; rintro e w' ⟨rfl, rfl⟩; rw [ho])
    go_ret
    exact ⟨_, [], rfl, by rw [HF.out]; rfl, Rw.empty w _, Apart.nil, (Kept.refl _ _).alloc _⟩
  · obtain ⟨a, b, rfl, rfl, ha, hb, ha6, hb6, hab⟩ := Nt.grB_ok ho
    have HF := Lib.hid (Nt.sqsOf_ok ha hb hab)
    have HEND : Hid (Nt.squares a b = Nt.squaresTo a b (a * b)) := Lib.hid rfl
    have H0 : Hid (Nt.squaresTo a b 0 = []) := Lib.hid rfl
    have HNX := Lib.hid (fun k (h : k % b + 1 < b ∧ k + b < a * b) => squares_next h)
    have HSM := Lib.hid (fun k (h : ¬ (k % b + 1 < b ∧ k + b < a * b)) => squares_same h)
    have HLE := Lib.hid (Nt.squaresTo_le a b)
    obtain ⟨m1, m2, m3⟩ := grid_nums ha hb hab
    generalize Nt.squaresTo a b = S at *
    generalize a * b = n at *
    go_enter Try.func21, Try.ntmps21
    go_wp2
    go_loopw [5, 6] (fun u i wr => ∃ (k : Nat) (vs : List Value), k ≤ n ∧ i = .int .i64 k ∧ vs.length = (S k).length ∧ Rw wr w.heap.size u vs (fun i => (S k).getD i []) ∧ Apart vs ∧ Kept [] w wr) (fun _ i _ => n - (intOf i).toNat)
    case atStart => exact ⟨0, [], Nat.zero_le _, rfl, by rw [H0.out]; rfl, Rw.empty w _, Apart.nil, (Kept.refl _ _).alloc _⟩
    case round =>
      obtain ⟨k, vs, hk, rfl, hvl, hrw, hap, hkept⟩ := hrel
      have HRW := Lib.hid hrw
      have HAP := Lib.hid hap
      have HK := Lib.hid hkept
      have HVL := Lib.hid hvl
      have hsz := hkept.size
      clear hrw hap hkept hvl
      by_cases hlt : k < n
      · have ht : (k : Int).tmod (b : Int) = ((k % b : Nat) : Int) := tmod_nat k b
        have hmb : k % b < b := Nat.mod_lt _ (by omega)
        have hmk : k % b ≤ k := Nat.mod_le _ _
        have HN1 := Lib.hid (HNX.out k)
        have HS1 := Lib.hid (HSM.out k)
        generalize k % b = m at *
        by_cases c2 : m + 1 < b
        · have d2 : decide ((m : Int) < (b : Int) - 1) = true := dec_of (by omega)
          by_cases c4 : k + b < n
          · have d4 : decide ((k : Int) < ((n - b : Nat) : Int)) = true := dec_of (by omega)
            have HE := Lib.hid (HN1.out ⟨c2, c4⟩)
            have hlit := Sl.lit wr [(k : Int), (k : Int) + 1, (k : Int) + (b : Int) + 1, (k : Int) + (b : Int), (k : Int)] (by simp)
            have hrow : Sl (wr.alloc (.cells #[.int .i64 (k : Int), .int .i64 ((k : Int) + 1), .int .i64 ((k : Int) + (b : Int) + 1), .int .i64 ((k : Int) + (b : Int)), .int .i64 (k : Int)] 3)) w.heap.size (.slice (some ⟨wr.heap.size, 0, none⟩) 5 5) (Nt.nats ((fun i => (S (k + 1)).getD i []) vs.length)) := by
              have e : (fun i => (S (k + 1)).getD i []) vs.length = [k, k + 1, k + b + 1, k + b, k] := by
                show (S (k + 1)).getD vs.length [] = _
                rw [HE.out, HVL.out]; simp [List.getD_eq_getElem?_getD]
              rw [e]
              have h := hlit.mono hsz
              simpa [Nt.nats, ints] using h
            have hk2 : Kept [] wr (wr.alloc (.cells #[.int .i64 (k : Int), .int .i64 ((k : Int) + 1), .int .i64 ((k : Int) + (b : Int) + 1), .int .i64 ((k : Int) + (b : Int)), .int .i64 (k : Int)] 3)) := (Kept.refl _ _).alloc _
            have hsz2 : (wr.alloc (.cells #[.int .i64 (k : Int), .int .i64 ((k : Int) + 1), .int .i64 ((k : Int) + (b : Int) + 1), .int .i64 ((k : Int) + (b : Int)), .int .i64 (k : Int)] 3)).heap.size = wr.heap.size + 1 := by simp
            have HRW2 := Lib.hid ((HRW.out.stay hk2).congr (s' := fun i => (S (k + 1)).getD i []) fun i hi => by
              show (S k).getD i [] = (S (k + 1)).getD i []
              rw [HE.out]
              have : i < (S k).length := by rw [← HVL.out]; exact hi
              simp [List.getD_eq_getElem?_getD, List.getElem?_append_left this])
            have HROW := Lib.hid hrow
            have HK2 := Lib.hid (HK.out.trans hk2 (by simp))
            have HAP2 := Lib.hid (HAP.out.snoc (u := .slice (some ⟨wr.heap.size, 0, none⟩) 5 5) fun i hi g hg e => by
              have h1 := ((HRW.out.2 i hi).block hg).2
              simp [Value.ownBlock] at e
              omega)
            have hv6 : vs.length ≤ 1000000 := by have := HLE.out k; rw [HVL.out]; omega
            have HV6 := Lib.hid hv6
            have HSZ2 : Hid (w.heap.size ≤ wr.heap.size + 1) := Lib.hid (by omega)
            clear hlit hrow hk2 hv6
            go_wp2_with (first | (go_at_call 43; refine (l12Ok_any _ _ _).mono ?_; rintro e w' ⟨rfl, rfl⟩; rw [ho]) | (at_builtin; refine app_row (.slice (some ⟨wr.heap.size, 0, none⟩) 5 5) rfl _ _ rfl w.heap.size _ vs _ HRW2.out rfl (by rw [hsz2]; rfl) HROW.out HV6.out (by rw [hsz2]; exact HSZ2.out) ?_; intro u' w1 hs1 hk1; have HS1 := Lib.hid hs1; have HK1 := Lib.hid hk1; clear hs1 hk1))
            go_roundw
            case rel => exact ⟨k + 1, _, by omega, by go_num, by rw [List.length_append, HE.out, List.length_append, HVL.out]; rfl, HS1.out, HAP2.out, HK2.out.own HK1.out (fun g hg => ((rowsBlock HRW2.out hg).1))⟩
            case measure => simp [intOf]; omega
          · have d4 : decide ((k : Int) < ((n - b : Nat) : Int)) = false := dec_not (by omega)
            have HE := Lib.hid (HS1.out (fun h => c4 h.2))
            go_wp2_with (go_at_call 43; refine (l12Ok_any _ _ _).mono ?_; rintro e w' ⟨rfl, rfl⟩; rw [ho])
            go_roundw
            case rel => exact ⟨k + 1, vs, by omega, by go_num, by rw [HE.out]; exact HVL.out, by rw [HE.out]; exact HRW.out, HAP.out, HK.out⟩
            case measure => simp [intOf]; omega
        · have d2 : decide ((m : Int) < (b : Int) - 1) = false := dec_not (by omega)
          have HE := Lib.hid (HS1.out (fun h => c2 h.1))
          go_wp2_with (go_at_call 43; refine (l12Ok_any _ _ _).mono ?_; rintro e w' ⟨rfl, rfl⟩; rw [ho])
          go_roundw
          case rel => exact ⟨k + 1, vs, by omega, by go_num, by rw [HE.out]; exact HVL.out, by rw [HE.out]; exact HRW.out, HAP.out, HK.out⟩
          case measure => simp [intOf]; omega
      · have hk' : k = n := by omega
        subst hk'
        go_wp2_with (go_at_call 43; refine (l12Ok_any _ _ _).mono ?_; rintro e w' ⟨rfl, rfl⟩; rw [ho])
        go_ret
        rw [HF.out, HEND.out]
        exact ⟨_, vs, rfl, HVL.out, HRW.out, HAP.out, HK.out⟩

set_option maxHeartbeats 2000000 in
set_option maxRecDepth 100000 in
theorem sSqW_any (r c : Int) (xs : List Int) (w : World) (v : Value) (base : Nat) (hs : Sl w base v xs) :
    Calls Try.prog 25 #[.int .i64 r, .int .i64 c, v] w fun e w' => ∃ u, e = .returned u ∧ Sl w' w.heap.size u (Nt.sqwOf r c xs) ∧ Kept [] w w' := by
  have HS := Lib.hid hs
  obtain ⟨xa, xcap, rfl, _, _, _⟩ := hs.any
  clear hs
  go_enter Try.func25, Try.ntmps25
  go_wp2_with fail
  have hk1 : Kept [] w (w.alloc (.cells #[] 3)) := (Kept.refl _ _).alloc _
  have hsz1 : (w.alloc (.cells #[] 3)).heap.size = w.heap.size + 1 := by simp
  have HO1 := Lib.hid (Sl.empty' w)
  have HS1 := Lib.hid (HS.out.stay hk1)
  have HK1 := Lib.hid hk1
  clear hk1 HS
  generalize w.alloc (.cells #[] 3) = w1 at *
  refine (sGrid_any r c _).mono ?_
  rintro e w2 ⟨u2, rfl, hs2, hk2⟩
  have HG2 := Lib.hid (hs2.mono HK1.out.size)
  have HO2 := Lib.hid (HO1.out.stay hk2)
  have HS2 := Lib.hid (HS1.out.stay hk2)
  have HK2 := Lib.hid (HK1.out.trans hk2 (by simp))
  obtain ⟨ga, gcap, rfl, _, _, _⟩ := hs2.any
  clear hs2 hk2 HO1 HS1 HK1 hsz1
  go_wp2_with fail
  refine (sSquares_any r c _).mono ?_
  rintro e w3 ⟨u3, vs, rfl, hvl, hrw, hap, hk3⟩
  have HR3 := Lib.hid (hrw.mono HK2.out.size)
  have HG3 := Lib.hid (HG2.out.stay hk3)
  have HO3 := Lib.hid (HO2.out.stay hk3)
  have HS3 := Lib.hid (HS2.out.stay hk3)
  have HK3 := Lib.hid (HK2.out.trans hk3 (by simp))
  have HVL := Lib.hid hvl
  clear hrw hap hk3 HO2 HS2 HK2 HG2
  have hv6 : vs.length ≤ 6 := by rw [hvl]; exact Nt.sqsOf_small r c
  clear hvl
  cases hf : Nt.fireB (Nt.gridOf r c) 3 xs
  · have HF := Lib.hid (Nt.sqwOf_no2 hf)
    obtain ⟨ra, rcap, hr, _⟩ : ∃ (ra : Option Addr) (rcap : Nat), u3 = .slice ra vs.length rcap ∧ True := by
      by_cases h0 : 0 < vs.length
      · obtain ⟨g, cap, rfl, _⟩ := HR3.out.form rfl h0
        exact ⟨_, _, rfl, trivial⟩
      · rcases HR3.out.1.2 with ⟨rfl, hn⟩ | ⟨g, cap, cur, rfl, _⟩
        · exact ⟨none, 0, by rw [hn], trivial⟩
        · exact ⟨_, _, rfl, trivial⟩
    subst hr
    by_cases h0 : 0 < vs.length
    all_goals
      go_wp2
      refine wp_loop_rounds 1 ?_
      rw [rounds_succ]
      go_wp2_with (go_at_call 52; refine (l3Ok_any (Nt.gridOf r c) 3 xs _ _ _ _ _ HG3.out HS3.out).mono ?_; rintro e w4 ⟨rfl, hq⟩; rw [hf]; have HK4 := Lib.hid (HK3.out.trans hq.kept (by simp)); have HO4 := Lib.hid (hq.sl HO3.out); clear hq)
      go_ret
      exact ⟨_, rfl, by rw [HF.out]; first | exact HO4.out | exact HO3.out, by first | exact HK4.out | exact HK3.out⟩
  · cases hg : Nt.grB r c
    · have HF := Lib.hid (Nt.sqwOf_no1 (xs := xs) hg)
      have hn := HVL.out
      rw [Nt.sqsOf_no hg] at hn
      have h0 : vs = [] := List.eq_nil_of_length_eq_zero hn
      subst h0
      obtain ⟨ra, rcap, rfl⟩ : ∃ (ra : Option Addr) (rcap : Nat), u3 = .slice ra 0 rcap := by
        rcases HR3.out.1.2 with ⟨rfl, _⟩ | ⟨g, cap, cur, rfl, _⟩
        · exact ⟨none, 0, rfl⟩
        · exact ⟨_, _, rfl⟩
      clear hn hv6
      go_wp2
      refine wp_loop_rounds 1 ?_
      rw [rounds_succ]
      go_wp2
      go_ret
      exact ⟨_, rfl, by rw [HF.out]; exact HO3.out, HK3.out⟩
    · have HF := Lib.hid (Nt.sqwOf_yes hg hf)
      have HWB := Lib.hid (fun i (hi : i < vs.length) => HR3.out.2 i hi)
      obtain ⟨n, hn⟩ : ∃ n, n = vs.length := ⟨_, rfl⟩
      have HN := Lib.hid hn
      obtain ⟨ra, rcap, hr⟩ : ∃ (ra : Option Addr) (rcap : Nat), u3 = .slice ra vs.length rcap := by
        by_cases h0 : 0 < vs.length
        · obtain ⟨g, cap, rfl, _⟩ := HR3.out.form rfl h0
          exact ⟨_, _, rfl⟩
        · rcases HR3.out.1.2 with ⟨rfl, hn⟩ | ⟨g, cap, cur, rfl, _⟩
          · exact ⟨none, 0, by rw [hn]⟩
          · exact ⟨_, _, rfl⟩
      subst hr
      rw [← hn] at hv6 ⊢
      have HML : Hid ((Nt.sqwOf r c xs).length = n) := Lib.hid (by rw [HF.out, List.length_map, ← HVL.out, HN.out])
      have HMG := Lib.hid (fun i (hi : i < n) => show (Nt.sqwOf r c xs).getD i 0 = Nt.windOf (Nt.gridOf r c) xs (Nt.nats ((Nt.sqsOf r c).getD i [])) from by
        have hi2 : i < (Nt.sqsOf r c).length := by rw [← HVL.out, ← HN.out]; exact hi
        rw [HF.out]; simp [List.getD_eq_getElem?_getD, hi2])
      have HTK := Lib.hid (fun k (h : k < (Nt.sqwOf r c xs).length) => List.take_succ_eq_append_getElem h)
      generalize hLq : Nt.sqwOf r c xs = L at *
      have HLQ := Lib.hid hLq
      clear hn hLq
      go_wp2
      go_loopw [7, 10, 11, 12] (fun u i a b wr => ∃ k : Nat, k ≤ n ∧ i = .int .i64 k ∧ Sl wr w.heap.size u (L.take k) ∧ Sz wr w3.heap.size u (L.take k) ∧ Kept [] w3 wr) (fun _ i _ _ _ => n - (intOf i).toNat)
      case atStart => exact ⟨0, Nat.zero_le _, rfl, HO3.out, .inr ⟨rfl, _, rfl⟩, Kept.refl _ _⟩
      case round =>
        obtain ⟨k, hk, rfl, hsl, hsz, hkept⟩ := hrel
        have HSL := Lib.hid hsl
        have HSZ := Lib.hid hsz
        have HK := Lib.hid hkept
        have HGW := Lib.hid (HG3.out.stay hkept)
        have HSW := Lib.hid (HS3.out.stay hkept)
        by_cases hlt : k < n
        · obtain ⟨g, cap, hform, _, hgl, _, _, hcell⟩ := HR3.out.form HN.out.symm (by omega)
          have hra : ra = some ⟨g, 0, none⟩ := by simp [HN.out] at hform; exact hform.1
          subst hra
          have hck := (hkept.cell (p := ⟨g, k, none⟩) hgl (by simp)).trans (hcell k hlt)
          have HT := Lib.hid ((HWB.out k (by rw [← HN.out]; exact hlt)).stay hkept)
          have HM := Lib.hid (HMG.out k hlt)
          have hll : (L.take k).length ≤ 1000000 := by rw [List.length_take]; omega
          have HLL := Lib.hid hll
          have HNX : Hid (L.take (k + 1) = L.take k ++ [L.getD k 0]) := Lib.hid (by
            rw [HTK.out k (by rw [HML.out]; exact hlt), List.getD_eq_getElem?_getD, List.getElem?_eq_getElem (by rw [HML.out]; exact hlt)]; rfl)
          have hbw : w.heap.size ≤ wr.heap.size := Nat.le_trans HK3.out.size hkept.size
          have HBW := Lib.hid hbw
          clear hform hcell hsl hsz hkept hll hbw
          generalize vs.getD k undef = t at *
          go_wp2_with (go_at_call 52; refine (l3Ok_any (Nt.gridOf r c) 3 xs _ _ _ _ _ HGW.out HSW.out).mono ?_; rintro e w4 ⟨rfl, hq⟩; rw [hf]; have HQ4 := Lib.hid hq; have hck4 := (hq.cell _).trans hck; clear hq)
          refine (sWind_any (Nt.gridOf r c) xs (Nt.nats ((Nt.sqsOf r c).getD k [])) _ _ _ _ _ _ _ (HQ4.out.sl HGW.out) (HQ4.out.sl HSW.out) (HQ4.out.sl HT.out)).mono ?_
          rintro e w5 ⟨rfl, hq5⟩
          have HQ5 := Lib.hid (HQ4.out.trans hq5)
          have HSL5 := Lib.hid (HSZ.out.stay (HQ4.out.trans hq5).kept)
          have HK5 := Lib.hid (HK.out.trans (HQ4.out.trans hq5).kept (by simp))
          rw [← HM.out]
          clear hck hck4 hq5
          generalize L.getD k 0 = x at *
          go_wp2_with (at_builtin; refine app_int_z _ rfl _ _ rfl w3 HK5.out _ _ HSL5.out rfl rfl HLL.out ?_; intro u' w6 hs6 hk6; have HS6 := Lib.hid hs6; have HK6 := Lib.hid hk6; clear hs6 hk6)
          go_roundw
          case rel => exact ⟨k + 1, by omega, by go_num, by rw [HNX.out]; exact HS6.out.mono HK3.out.size, by rw [HNX.out]; exact .inl HS6.out, HK6.out⟩
          case measure => simp [intOf]; omega
        · have hk' : k = n := by omega
          subst hk'
          clear hsl hsz hkept
          have hE := HSL.out
          rw [List.take_of_length_le (by rw [HML.out]; exact Nat.le_refl _)] at hE
          have HE := Lib.hid hE
          clear hE
          go_wp2
          go_ret
          exact ⟨_, rfl, by rw [HLQ.out]; exact HE.out, HK3.out.trans HK.out (by simp)⟩

/-- The border, node by node. -/
theorem border_at {a b : Nat} (ha : 2 ≤ a) (hb : 2 ≤ b) (h : a * b ≤ 6) :
    (∀ k, k < b → (Nt.border a b).getD k 0 = k) ∧ (∀ k, 1 ≤ k → k < a → (Nt.border a b).getD (b + (k - 1)) 0 = k * b + b - 1) ∧
    (∀ k, k + 1 < b → (Nt.border a b).getD (b + (a - 1) + (b - 2 - k)) 0 = (a - 1) * b + k) ∧ (∀ k, k + 1 < a → (Nt.border a b).getD (b + (a - 1) + (b - 1) + (a - 2 - k)) 0 = k * b) := by
  rcases Nt.big_grids ha hb h with ⟨rfl, rfl⟩ | ⟨rfl, rfl⟩ | ⟨rfl, rfl⟩
  all_goals
    refine ⟨fun k hk => ?_, fun k h1 hk => ?_, fun k hk => ?_, fun k hk => ?_⟩
    all_goals
      have hk3 : k = 0 ∨ k = 1 ∨ k = 2 := by omega
      rcases hk3 with rfl | rfl | rfl
      all_goals first | omega | decide

set_option maxHeartbeats 4000000 in
set_option maxRecDepth 100000 in
theorem sBorder_any (r c : Int) (w : World) :
    Calls Try.prog 30 #[.int .i64 r, .int .i64 c] w fun e w' => ∃ u, e = .returned u ∧ Sl w' w.heap.size u (Nt.bordOf r c) ∧ Kept [] w w' := by
  have HL12 := Lib.hid (fun w => l12Ok_any r c w)
  cases ho : Nt.grB r c
  · have HF := Lib.hid (Nt.bordOf_no (Nt.bordB_no1 ho))
    go_enter Try.func30, Try.ntmps30
    go_wp2_with (go_at_call 43; refine (HL12.out _).mono ?_; rintro e w' ⟨rfl, rfl⟩; rw [ho])
    go_ret
    exact ⟨_, rfl, by rw [HF.out]; exact Sl.empty' w, (Kept.refl _ _).alloc _⟩
  · by_cases h2 : 2 ≤ r
    · by_cases h3 : 2 ≤ c
      · have hB : Nt.bordB r c = true := by unfold Nt.bordB; rw [ho, decide_eq_true h2, decide_eq_true h3]; rfl
        obtain ⟨a, b, rfl, rfl, ha, hb, ha3, hb3, hab⟩ := Nt.bordB_ok hB
        have HF := Lib.hid (Nt.bordOf_ok ha hb hab)
        have HBL := Lib.hid (Nt.border_length ha hb hab)
        obtain ⟨e1, e2, e3, e4⟩ := border_at ha hb hab
        have HE1 := Lib.hid e1
        have HE2 := Lib.hid e2
        have HE3 := Lib.hid e3
        have HE4 := Lib.hid e4
        have HTK := Lib.hid (Nt.take_more (Nt.border a b))
        have d2 : decide ((a : Int) < 2) = false := dec_not (by omega)
        have d3 : decide ((b : Int) < 2) = false := dec_not (by omega)
        clear e1 e2 e3 e4 hB h2 h3
        generalize Nt.border a b = L at *
        go_enter Try.func30, Try.ntmps30
        go_wp2_with (go_at_call 43; refine (HL12.out _).mono ?_; rintro e w' ⟨rfl, rfl⟩; rw [ho])
        go_loopw [5, 6] (fun u i wr => ∃ k : Nat, k ≤ b ∧ i = .int .i64 k ∧ Sl wr w.heap.size u (Nt.nats (L.take k)) ∧ Kept [] w wr) (fun _ i _ => b - (intOf i).toNat)
        case atStart => exact ⟨0, Nat.zero_le _, rfl, Sl.empty' w, (Kept.refl _ _).alloc _⟩
        case round =>
          obtain ⟨k, hk, rfl, hsl, hkept⟩ := hrel
          have HSL := Lib.hid hsl
          have HK := Lib.hid hkept
          have hsz := hkept.size
          clear hsl hkept
          by_cases hlt : k < b
          · have HT := Lib.hid (HTK.out k (by rw [HBL.out]; omega))
            have HV := Lib.hid (HE1.out k hlt)
            have HL : Hid ((Nt.nats (L.take k)).length ≤ 1000000) := Lib.hid (by rw [Nt.nats_length, List.length_take]; omega)
            go_wp2_with (at_builtin; refine app_int _ rfl _ _ rfl w.heap.size _ _ HSL.out rfl rfl HL.out (by omega) ?_; intro u' w1 hs1 hk1; have HS1 := Lib.hid hs1; have HK1 := Lib.hid hk1; clear hs1 hk1)
            go_roundw
            case rel => exact ⟨k + 1, by omega, by go_num, HS1.out.val (by rw [HV.out]) HT.out, HK.out.own HK1.out (fun g hg => (HSL.out.block hg).1)⟩
            case measure => simp [intOf]; omega
          · have hk' : k = b := by omega
            subst hk'
            go_wp2
            clear hlt hk
            go_loopw [5, 7] (fun u i w2 => ∃ j : Nat, 1 ≤ j ∧ j ≤ a ∧ i = .int .i64 j ∧ Sl w2 w.heap.size u (Nt.nats (L.take (k + (j - 1)))) ∧ Kept [] w w2) (fun _ i _ => a - (intOf i).toNat)
            case atStart => exact ⟨1, Nat.le_refl _, by omega, rfl, HSL.out, HK.out⟩
            case round =>
              clear HSL HK hsz
              obtain ⟨j, hj1, hj, rfl, hsl, hkept⟩ := hrel
              have HSL := Lib.hid hsl
              have HK := Lib.hid hkept
              have hsz := hkept.size
              clear hsl hkept
              by_cases hlt : j < a
              · have HT := Lib.hid (HTK.out (k + (j - 1)) (by rw [HBL.out]; omega))
                have HV := Lib.hid (HE2.out j hj1 hlt)
                have HL : Hid ((Nt.nats (L.take (k + (j - 1)))).length ≤ 1000000) := Lib.hid (by rw [Nt.nats_length, List.length_take]; omega)
                obtain ⟨q, hq⟩ : ∃ q, q = j * k := ⟨_, rfl⟩
                have hq6 : q ≤ 6 := by rw [hq]; exact Nat.le_trans (Nat.mul_le_mul_right k hj) hab
                have hqi : (j : Int) * (k : Int) = (q : Int) := by rw [hq]; simp
                have hw : wrap64 ((j : Int) * (k : Int)) = (q : Int) := by rw [hqi]; exact IntWalk.wrap64_in _ (by omega)
                have HQ := Lib.hid hq
                have HEX : Hid (k + (j + 1 - 1) = k + (j - 1) + 1) := Lib.hid (by omega)
                clear hqi hq
                go_wp2_with (at_builtin; refine app_int _ rfl _ _ rfl w.heap.size _ _ HSL.out rfl rfl HL.out (by omega) ?_; intro u' w3 hs3 hk3; have HS3 := Lib.hid hs3; have HK3 := Lib.hid hk3; clear hs3 hk3)
                go_roundw
                case rel => exact ⟨j + 1, by omega, by omega, by go_num, by rw [HEX.out]; exact HS3.out.val (by rw [HV.out, ← HQ.out]; omega) HT.out, HK.out.own HK3.out (fun g hg => (HSL.out.block hg).1)⟩
                case measure => simp [intOf]; omega
              · have hj' : j = a := by omega
                subst hj'
                clear hlt hj
                go_wp2
                go_loopw [5, 8] (fun u i w2 => ∃ (m : Nat) (mi : Int), m ≤ k - 1 ∧ mi = (k : Int) - 2 - (m : Int) ∧ i = .int .i64 mi ∧ Sl w2 w.heap.size u (Nt.nats (L.take (k + (j - 1) + m))) ∧ Kept [] w w2) (fun _ i _ => (intOf i + 1).toNat)
                case atStart => exact ⟨0, (k : Int) - 2, by omega, by omega, rfl, HSL.out, HK.out⟩
                case round =>
                  clear HSL HK hsz
                  obtain ⟨m, mi, hm, hmi, rfl, hsl, hkept⟩ := hrel
                  have HSL := Lib.hid hsl
                  have HK := Lib.hid hkept
                  have hsz := hkept.size
                  have HMI := Lib.hid hmi
                  clear hsl hkept
                  by_cases hlt : 0 ≤ mi
                  · have HT := Lib.hid (HTK.out (k + (j - 1) + m) (by rw [HBL.out]; omega))
                    have hmk : k - 2 - (k - 2 - m) = m := by omega
                    have hv := HE3.out (k - 2 - m) (by omega)
                    rw [hmk] at hv
                    have HV := Lib.hid hv
                    have HL : Hid ((Nt.nats (L.take (k + (j - 1) + m))).length ≤ 1000000) := Lib.hid (by rw [Nt.nats_length, List.length_take]; omega)
                    obtain ⟨q, hq⟩ : ∃ q, q = (j - 1) * k := ⟨_, rfl⟩
                    have hq6 : q ≤ 6 := by rw [hq]; exact Nat.le_trans (Nat.mul_le_mul_right k (by omega)) hab
                    have hqi : ((j : Int) - 1) * (k : Int) = (q : Int) := by rw [hq, Int.natCast_mul]; congr 1; omega
                    have hw : wrap64 (((j : Int) - 1) * (k : Int)) = (q : Int) := by rw [hqi]; exact IntWalk.wrap64_in _ (by omega)
                    have hw2 : wrap64 ((q : Int) + mi) = (q : Int) + mi := IntWalk.wrap64_in _ (by omega)
                    have hw3 : wrap64 (mi - 1) = mi - 1 := IntWalk.wrap64_in _ (by omega)
                    have HNEG := Lib.hid hlt
                    have HVL : Hid ((q : Int) + mi = ((L.getD (k + (j - 1) + m) 0 : Nat) : Int)) := Lib.hid (by rw [hv, ← hq]; omega)
                    clear hqi hq hv hmk hmi
                    go_wp2_with (at_builtin; refine app_int _ rfl _ _ rfl w.heap.size _ _ HSL.out rfl rfl HL.out (by omega) ?_; intro u' w3 hs3 hk3; have HS3 := Lib.hid hs3; have HK3 := Lib.hid hk3; clear hs3 hk3)
                    go_roundw
                    case rel => exact ⟨m + 1, mi - 1, by have := HMI.out; have := HNEG.out; omega, by have := HMI.out; omega, by go_num, HS3.out.val HVL.out HT.out, HK.out.own HK3.out (fun g hg => (HSL.out.block hg).1)⟩
                    case measure => simp [intOf]; omega
                  · have hm' : m = k - 1 := by omega
                    subst hm'
                    clear hm
                    go_wp2
                    go_loopw [5, 9] (fun u i w2 => ∃ (m : Nat) (ni : Int), m ≤ j - 1 ∧ ni = (j : Int) - 2 - (m : Int) ∧ i = .int .i64 ni ∧ Sl w2 w.heap.size u (Nt.nats (L.take (k + (j - 1) + (k - 1) + m))) ∧ Kept [] w w2) (fun _ i _ => (intOf i + 1).toNat)
                    case atStart => exact ⟨0, (j : Int) - 2, by omega, by omega, rfl, HSL.out, HK.out⟩
                    case round =>
                      clear HSL HK hsz HMI hmi
                      obtain ⟨m, ni, hm, hni, rfl, hsl, hkept⟩ := hrel
                      have HSL := Lib.hid hsl
                      have HK := Lib.hid hkept
                      have hsz := hkept.size
                      have HMI := Lib.hid hni
                      clear hsl hkept
                      by_cases hlt : 0 ≤ ni
                      · have HT := Lib.hid (HTK.out (k + (j - 1) + (k - 1) + m) (by rw [HBL.out]; omega))
                        obtain ⟨p, hp⟩ : ∃ p, p = j - 2 - m := ⟨_, rfl⟩
                        have hpn : ni = (p : Int) := by omega
                        have hmk : j - 2 - p = m := by omega
                        have hv := HE4.out p (by omega)
                        rw [hmk] at hv
                        have HL : Hid ((Nt.nats (L.take (k + (j - 1) + (k - 1) + m))).length ≤ 1000000) := Lib.hid (by rw [Nt.nats_length, List.length_take]; omega)
                        obtain ⟨q, hq⟩ : ∃ q, q = p * k := ⟨_, rfl⟩
                        have hq6 : q ≤ 6 := by rw [hq]; exact Nat.le_trans (Nat.mul_le_mul_right k (by omega)) hab
                        have hqi : ni * (k : Int) = (q : Int) := by rw [hq, Int.natCast_mul, hpn]
                        have hw : wrap64 (ni * (k : Int)) = (q : Int) := by rw [hqi]; exact IntWalk.wrap64_in _ (by omega)
                        have hw3 : wrap64 (ni - 1) = ni - 1 := IntWalk.wrap64_in _ (by omega)
                        have HNEG := Lib.hid hlt
                        have HVL : Hid ((q : Int) = ((L.getD (k + (j - 1) + (k - 1) + m) 0 : Nat) : Int)) := Lib.hid (by rw [hv, ← hq])
                        clear hqi hq hv hmk hni hp hpn
                        go_wp2_with (at_builtin; refine app_int _ rfl _ _ rfl w.heap.size _ _ HSL.out rfl rfl HL.out (by omega) ?_; intro u' w3 hs3 hk3; have HS3 := Lib.hid hs3; have HK3 := Lib.hid hk3; clear hs3 hk3)
                        go_roundw
                        case rel => exact ⟨m + 1, ni - 1, by have := HMI.out; have := HNEG.out; omega, by have := HMI.out; omega, by go_num, HS3.out.val HVL.out HT.out, HK.out.own HK3.out (fun g hg => (HSL.out.block hg).1)⟩
                        case measure => simp [intOf]; omega
                      · have hm' : m = j - 1 := by omega
                        subst hm'
                        have hE := HSL.out
                        rw [List.take_of_length_le (by rw [HBL.out]; omega)] at hE
                        have HE := Lib.hid hE
                        clear hE hm hni
                        go_wp2
                        go_ret
                        exact ⟨_, rfl, by rw [HF.out]; exact HE.out, HK.out⟩
      · have HF := Lib.hid (Nt.bordOf_no (Nt.bordB_no3 (r := r) h3))
        go_enter Try.func30, Try.ntmps30
        go_wp2_with (go_at_call 43; refine (HL12.out _).mono ?_; rintro e w' ⟨rfl, rfl⟩; rw [ho])
        go_ret
        exact ⟨_, rfl, by rw [HF.out]; exact Sl.empty' w, (Kept.refl _ _).alloc _⟩
    · have HF := Lib.hid (Nt.bordOf_no (Nt.bordB_no2 (c := c) h2))
      go_enter Try.func30, Try.ntmps30
      go_wp2_with (go_at_call 43; refine (HL12.out _).mono ?_; rintro e w' ⟨rfl, rfl⟩; rw [ho])
      go_ret
      exact ⟨_, rfl, by rw [HF.out]; exact Sl.empty' w, (Kept.refl _ _).alloc _⟩
end Go.Proofs.Ytllbdhfckdljgaa
