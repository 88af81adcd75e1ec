/-
  Walks: rows of numbers compared, marked, and looked over.
-/
import Derived.Test.YtllbdhfckdljgaaE1
import Derived.Test.YtllbdhfckdljgaaGM2
namespace Go.Proofs.Ytllbdhfckdljgaa
open Go.RowKit

/-- Rows, each of which holds the numbers that a function tells. -/
def Rf (w : World) (base : Nat) (v : Value) (vs : List Value) (f : Nat → List Int) : Prop :=
  w.ownsRow base 25 1 v vs.length vs ∧ ∀ i, i < vs.length → Sl w base (vs.getD i undef) (f i)
theorem Rf.of {w : World} {base : Nat} {v : Value} {vs : List Value} {s : Nat → List Nat} (h : Rw w base v vs s) : Rf w base v vs (fun i => Nt.nats (s i)) := h
theorem Rf.stay {w w' : World} {base : Nat} {v : Value} {vs : List Value} {f : Nat → List Int} (h : Rf w base v vs f) (hk : Kept [] w w') : Rf w' base v vs f :=
  ⟨ownsRow_stay h.1 hk (by simp), fun i hi => (h.2 i hi).stay hk⟩
/-- All blocks of rows. -/
def rowBlocks (v : Value) (vs : List Value) : List Nat := v.ownBlock.toList ++ vs.flatMap fun u => u.ownBlock.toList
theorem rowBlocks_in {v : Value} {vs : List Value} {i g : Nat} (hi : i < vs.length) (hg : (vs.getD i undef).ownBlock = some g) : g ∈ rowBlocks v vs := by
  unfold rowBlocks
  refine List.mem_append.2 (.inr (List.mem_flatMap.2 ⟨vs.getD i undef, ?_, by rw [hg]; simp⟩))
  rw [List.getD_eq_getElem?_getD, List.getElem?_eq_getElem hi]
  exact List.getElem_mem hi
theorem rowBlocks_out {w : World} {base g : Nat} {v : Value} {vs : List Value} {f : Nat → List Int} (h : Rf w base v vs f) (hg : g ∈ rowBlocks v vs) : base ≤ g ∧ g < w.heap.size := by
  unfold rowBlocks at hg
  rcases List.mem_append.1 hg with h1 | h1
  · exact World.ownsRow.lt h.1 g (by simpa using h1)
  · obtain ⟨u, hu, h2⟩ := List.mem_flatMap.1 h1
    obtain ⟨i, hi, rfl⟩ := List.mem_iff_getElem.1 hu
    have e : vs.getD i undef = vs[i] := by rw [List.getD_eq_getElem?_getD, List.getElem?_eq_getElem hi]; rfl
    exact (h.2 i hi).block (by rw [e]; simpa using h2)
/-- Rows stay where none of their blocks is written. -/
theorem Rf.kept {w w' : World} {base : Nat} {v : Value} {vs : List Value} {f : Nat → List Int} {rows : List Nat} (h : Rf w base v vs f) (hk : Kept rows w w') (hn : ∀ g, g ∈ rowBlocks v vs → ¬ g ∈ rows) : Rf w' base v vs f :=
  ⟨ownsRow_stay h.1 hk fun g hg => hn g (List.mem_append.2 (.inl (by rw [hg]; simp))), fun i hi => (h.2 i hi).kept hk fun g hg => hn g (rowBlocks_in hi hg)⟩
theorem Rf.form {w : World} {base n : Nat} {v : Value} {vs : List Value} {f : Nat → List Int} (h : Rf w base v vs f) (hn : vs.length = n) :
    ∃ (a : Option Addr) (cap : Nat), v = .slice a n cap ∧ ∀ k, k < n → ∃ g, a = some ⟨g, 0, none⟩ ∧ w.cell? ⟨g, k, none⟩ = some (vs.getD k undef) ∧ g < w.heap.size := by
  subst hn
  rcases h.1.2 with ⟨rfl, he⟩ | ⟨g, cap, cur, rfl, hb, hg, hc, hm, hs, ht⟩
  · exact ⟨none, 0, by rw [he], fun k hk => by omega⟩
  · refine ⟨_, cap, rfl, fun k hk => ⟨g, rfl, ?_, (Array.getElem?_eq_some_iff.1 hg).1⟩⟩
    rw [World.ownsRow.cellAt h.1 k (by omega)]
    simp [List.getD_eq_getElem?_getD, hk]

set_option maxHeartbeats 1000000 in
set_option maxRecDepth 100000 in
theorem eqIntSS_yes (vs us : List Value) (f g : Nat → List Int) (hl : vs.length = us.length) (h6 : vs.length ≤ 1000000) (hfg : ∀ i, i < vs.length → f i = g i) (w : World) (v u : Value) (base base' : Nat) (hs : Rf w base v vs f) (ht : Rf w base' u us g) :
    Calls Try.prog 35 #[v, u] w fun e w' => e = .returned (.bool true) ∧ Qt w w' := by
  obtain ⟨n, hn⟩ : ∃ n, n = vs.length := ⟨_, rfl⟩
  have hn6 : n ≤ 1000000 := by omega
  have HF := Lib.hid hfg
  have HS := Lib.hid hs.2
  have HT := Lib.hid ht.2
  have HL := Lib.hid (And.intro hn hl)
  obtain ⟨a, cap, rfl, hca⟩ := hs.form hn.symm
  obtain ⟨b, cap', rfl, hcb⟩ := ht.form (n := n) (by omega)
  have HCA := Lib.hid hca
  have HCB := Lib.hid hcb
  have h0 : ((n : Int) != (n : Int)) = false := by simp
  clear hca hcb hfg hs ht hn hl h6
  go_enter Try.func35, Try.ntmps35
  go_wp2
  go_loopw [5] (fun i wr => ∃ k : Nat, k ≤ n ∧ i = .int .i64 k ∧ Qt w wr) (fun i _ => n - (intOf i).toNat)
  case atStart => exact ⟨0, Nat.zero_le _, rfl, Qt.refl _⟩
  case round =>
    obtain ⟨k, hk, rfl, hq⟩ := hrel
    have HQ := Lib.hid hq
    clear hq
    by_cases hlt : k < n
    · obtain ⟨g1, rfl, c1, _⟩ := HCA.out k hlt
      obtain ⟨g2, rfl, c2, _⟩ := HCB.out k hlt
      have d1 := (HQ.out.cell _).trans c1
      have d2 := (HQ.out.cell _).trans c2
      have hsv := HQ.out.sl (HS.out k (by rw [← HL.out.1]; exact hlt))
      have htv := HQ.out.sl (HT.out k (by rw [← HL.out.2, ← HL.out.1]; exact hlt))
      rw [← HF.out k (by rw [← HL.out.1]; exact hlt)] at htv
      have HSV := Lib.hid (fun d => eqIntS_any (f k) (f k) (wr.drewN d) _ _ _ _ (((Qt.refl wr).draw d).sl hsv) (((Qt.refl wr).draw d).sl htv))
      rw [dec_of (rfl : f k = f k)] at HSV
      clear c1 c2 hsv htv
      generalize vs.getD k undef = p at *
      generalize us.getD k undef = q at *
      have n0 : (0 : Int) ≤ (k : Int) := by omega
      have n1 : (k : Int) < (n : Int) := by omega
      go_wp2_with fail
      go_quiet ((go_at_call 32; exact quietQ (HSV.out _)))
      go_wp2
      go_roundw
      case rel => exact ⟨k + 1, by omega, by go_num, HQ.out.draw _⟩
      case measure => simp [intOf]; omega
    · have hk' : k = n := by omega
      subst hk'
      go_wp2
      go_ret
      exact ⟨rfl, HQ.out⟩

/-- How many numbers the first rows hold. -/
def offs (f : Nat → List Int) : Nat → Nat
  | 0 => 0
  | k + 1 => offs f k + (f k).length
/-- Rows marked: each one's numbers go on from those before it. -/
def markF (m : Int) (f : Nat → List Int) (i : Nat) : List Int := marks (m + (offs f i : Int)) (f i).length
def markUp (m : Int) (f : Nat → List Int) (k i : Nat) : List Int := if i < k then markF m f i else f i

set_option maxHeartbeats 1000000 in
set_option maxRecDepth 100000 in
theorem markIntSS_any (m : Int) (h0 : 0 ≤ m) (hm9 : m ≤ 1000) (vs : List Value) (f : Nat → List Int) (hap : Apart vs) (h6 : vs.length ≤ 6) (h5 : ∀ i, (f i).length ≤ 12) (w : World) (v : Value) (base : Nat) (hs : Rf w base v vs f) :
    Calls Try.prog 36 #[v, .int .i64 m] w fun e w' => e = .returned (.int .i64 (m + (offs f vs.length : Nat))) ∧ Rf w' base v vs (markF m f) ∧ Kept (rowBlocks v vs) w w' := by
  obtain ⟨n, hn⟩ : ∃ n, n = vs.length := ⟨_, rfl⟩
  have HN := Lib.hid hn
  have HAP := Lib.hid hap
  have H5 := Lib.hid h5
  have HS0 : Hid (Rf w base v vs (markUp m f 0)) := Lib.hid ⟨hs.1, fun i hi => by
    show Sl w base _ (if i < 0 then _ else f i)
    rw [if_neg (by omega)]; exact hs.2 i hi⟩
  have HOF : Hid (∀ k, offs f (k + 1) = offs f k + (f k).length) := Lib.hid (fun k => rfl)
  have HO0 : Hid (offs f 0 = 0) := Lib.hid rfl
  have hbnd : ∀ k, offs f k ≤ 12 * k := fun k => by
    induction k with
    | zero => exact Nat.le_refl _
    | succ k ih => rw [offs]; have := h5 k; omega
  have HBN := Lib.hid hbnd
  obtain ⟨a, cap, rfl, _⟩ := hs.form hn.symm
  rw [← hn]
  clear hs hap h5 hbnd
  rw [← hn] at h6
  clear hn
  go_enter Try.func36, Try.ntmps36
  go_wp2
  go_loopw [1, 5] (fun q i wr => ∃ k : Nat, k ≤ n ∧ i = .int .i64 k ∧ q = .int .i64 (m + (offs f k : Nat)) ∧ Rf wr base (.slice a n cap) vs (markUp m f k) ∧ Kept (rowBlocks (.slice a n cap) vs) w wr) (fun _ i _ => n - (intOf i).toNat)
  case atStart => exact ⟨0, Nat.zero_le _, rfl, by rw [HO0.out]; simp, HS0.out, Kept.refl _ _⟩
  case round =>
    obtain ⟨k, hk, rfl, rfl, hrf, hkept⟩ := hrel
    have HRF := Lib.hid hrf
    have HK := Lib.hid hkept
    by_cases hlt : k < n
    · obtain ⟨a', cap', ee, hc⟩ := hrf.form HN.out.symm
      obtain ⟨g, hg, hcell, _⟩ := hc k hlt
      have ea : a = some ⟨g, 0, none⟩ := by simp at ee; rw [ee.1]; exact hg
      subst ea
      have hsv := hrf.2 k (by rw [← HN.out]; exact hlt)
      have hmk : markUp m f k k = f k := by unfold markUp; rw [if_neg (by omega)]
      rw [hmk] at hsv
      have HSV := Lib.hid hsv
      have HO1 := Lib.hid (HOF.out k)
      have ho := HBN.out k
      have hl := H5.out k
      have HVB := Lib.hid (fun g2 (hg2 : (vs.getD k undef).ownBlock = some g2) => rowBlocks_in (v := .slice (some ⟨g, 0, none⟩) n cap) (by rw [← HN.out]; exact hlt) hg2)
      have HVK : Hid (∀ w2, Sl w2 base (vs.getD k undef) (marks (m + (offs f k : Int)) (f k).length) → Kept (vs.getD k undef).ownBlock.toList wr w2 → Rf w2 base (.slice (some ⟨g, 0, none⟩) n cap) vs (markUp m f (k + 1))) := Lib.hid (fun w2 h2 hk2 => by
        refine ⟨ownsRow_stay HRF.out.1 hk2 (fun x hx hm => hsv.other HRF.out.1 x (by simpa using hm) (by rw [hx]; simp)), fun i hi => ?_⟩
        unfold markUp
        by_cases e : i = k
        · subst e
          rw [if_pos (by omega)]
          exact h2
        · have e2 : (if i < k + 1 then markF m f i else f i) = markUp m f k i := by
            unfold markUp
            by_cases h : i < k
            · rw [if_pos (by omega), if_pos h]
            · rw [if_neg (by omega), if_neg h]
          rw [e2]
          refine (HRF.out.2 i hi).kept hk2 fun x hx hm => ?_
          have hm' : (vs.getD k undef).ownBlock = some x := by simpa using hm
          by_cases h : i < k
          · exact HAP.out i k h (by rw [← HN.out]; exact hlt) x hx hm'
          · exact HAP.out k i (by omega) hi x hm' hx)
      clear hrf hkept hsv hc ee hg hmk
      generalize vs.getD k undef = p at *
      go_wp2_with fail
      refine (markIntS_any (m + (offs f k : Nat)) (by omega) (by omega) (f k) (by omega) _ _ _ HSV.out).mono ?_
      rintro e w2 ⟨rfl, hs2, hk2⟩
      have HR2 := Lib.hid (HVK.out w2 hs2 hk2)
      have HK2 := Lib.hid (HK.out.trans hk2 (fun x hx => .inl (HVB.out x (by simpa using hx))))
      clear hs2 hk2
      go_wp2
      go_roundw
      case rel => exact ⟨k + 1, by omega, by go_num, by rw [HO1.out]; congr 1; omega, HR2.out, HK2.out⟩
      case measure => simp [intOf]; omega
    · have hk' : k = n := by omega
      subst hk'
      have HE : Hid (Rf wr base (.slice a k cap) vs (markF m f)) := Lib.hid ⟨hrf.1, fun i hi => by
        have h := hrf.2 i hi
        unfold markUp at h
        rw [if_pos (by rw [HN.out]; exact hi)] at h
        exact h⟩
      clear hrf hkept
      go_wp2
      go_ret
      exact ⟨rfl, HE.out, HK.out⟩

set_option maxHeartbeats 1000000 in
set_option maxRecDepth 100000 in
theorem heldIntS_from (m : Int) (h0 : 0 ≤ m) (hm9 : m ≤ 1000000) (n : Nat) (h20 : n ≤ 2000000) (w : World) (v : Value) (base : Nat) (hs : Sl w base v (marks m n)) :
    Calls Try.prog 34 #[v, .int .i64 m] w fun e w' => e = .returned (.int .i64 (m + (n : Nat))) ∧ w = w' := by
  obtain ⟨a, cap, rfl, _, hm, hc⟩ := hs.any
  rw [marks_length] at *
  have HC := Lib.hid hc
  clear hc hs
  go_enter Try.func34, Try.ntmps34
  go_wp2
  go_loop [1, 5] (fun q i => ∃ k : Nat, k ≤ n ∧ i = .int .i64 k ∧ q = .int .i64 (m + (k : Int))) (fun _ i => n - (intOf i).toNat)
  case atStart => exact ⟨0, Nat.zero_le _, rfl, by simp⟩
  case round =>
    obtain ⟨k, hk, rfl, rfl⟩ := hrel
    by_cases hlt : k < n
    · obtain ⟨g, rfl, _, _, hcell, _⟩ := HC.out k hlt
      rw [marks_get _ _ _ hlt] at hcell
      have hne : ((m + (k : Int)) != (m + (k : Int))) = false := by simp
      go_wp2
      go_round
      case rel => exact ⟨k + 1, by omega, by go_num, by go_num⟩
      case measure => simp [intOf]; omega
    · have hk' : k = n := by omega
      subst hk'
      go_wp2
      go_ret
      exact ⟨rfl, rfl⟩

set_option maxHeartbeats 1000000 in
set_option maxRecDepth 100000 in
theorem heldIntSS_any (m : Int) (h0 : 0 ≤ m) (hm9 : m ≤ 1000) (vs : List Value) (f : Nat → List Int) (h6 : vs.length ≤ 6) (h5 : ∀ i, (f i).length ≤ 12) (w : World) (v : Value) (base : Nat) (hs : Rf w base v vs (markF m f)) :
    Calls Try.prog 37 #[v, .int .i64 m] w fun e w' => e = .returned (.int .i64 (m + (offs f vs.length : Nat))) ∧ w = w' := by
  obtain ⟨n, hn⟩ : ∃ n, n = vs.length := ⟨_, rfl⟩
  have HN := Lib.hid hn
  have H5 := Lib.hid h5
  have HOF : Hid (∀ k, offs f (k + 1) = offs f k + (f k).length) := Lib.hid (fun k => rfl)
  have HO0 : Hid (offs f 0 = 0) := Lib.hid rfl
  have hbnd : ∀ k, offs f k ≤ 12 * k := fun k => by
    induction k with
    | zero => exact Nat.le_refl _
    | succ k ih => rw [offs]; have := h5 k; omega
  have HBN := Lib.hid hbnd
  have HS := Lib.hid hs.2
  obtain ⟨a, cap, rfl, hc⟩ := hs.form hn.symm
  have HC := Lib.hid hc
  rw [← hn]
  clear hs h5 hbnd hc
  rw [← hn] at h6
  clear hn
  go_enter Try.func37, Try.ntmps37
  go_wp2
  go_loop [1, 5] (fun q i => ∃ k : Nat, k ≤ n ∧ i = .int .i64 k ∧ q = .int .i64 (m + (offs f k : Nat))) (fun _ i => n - (intOf i).toNat)
  case atStart => exact ⟨0, Nat.zero_le _, rfl, by rw [HO0.out]; simp⟩
  case round =>
    obtain ⟨k, hk, rfl, rfl⟩ := hrel
    by_cases hlt : k < n
    · obtain ⟨g, rfl, hcell, _⟩ := HC.out k hlt
      have HSV : Hid (Sl w base (vs.getD k undef) (marks (m + (offs f k : Int)) (f k).length)) := Lib.hid (HS.out k (by rw [← HN.out]; exact hlt))
      have HO1 := Lib.hid (HOF.out k)
      have ho := HBN.out k
      have hl := H5.out k
      generalize vs.getD k undef = p at *
      generalize offs f k = q at *
      generalize (f k).length = l at *
      go_wp2_with fail
      refine (heldIntS_from (m + (q : Nat)) (by omega) (by omega) l (by omega) _ _ _ HSV.out).mono ?_
      rintro e w2 ⟨rfl, rfl⟩
      have hneg : decide (m + (q : Int) + (l : Int) < 0) = false := dec_not (by omega)
      go_wp2
      go_round
      case rel => exact ⟨k + 1, by omega, by go_num, by rw [HO1.out]; congr 1; omega⟩
      case measure => simp [intOf]; omega
    · have hk' : k = n := by omega
      subst hk'
      go_wp2
      go_ret
      exact ⟨rfl, rfl⟩
end Go.Proofs.Ytllbdhfckdljgaa
