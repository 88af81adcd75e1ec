/-
  Plain mathematics: what the program makes of a place by a deed, and when a deed is one.
-/
import Derived.Test.YtnajdbnacdnnlaaGreatDoorPureMD
namespace Go.Proofs.YtnajdbnacdnnlaaGreatDoor
namespace Nt

/-- How many numbers a kind of deeds names. -/
def dnum (k : Int) : Int := if k = 0 then 2 else if k = 1 ∨ k = 3 then 1 else 0
def dokB (d : Dd) : Bool := decide (0 ≤ d.kind ∧ d.kind < 5) && (decide (0 < dnum d.kind) || decide (d.a = 0)) && (decide (1 < dnum d.kind) || decide (d.b = 0))
theorem dokB_cases {d : Dd} (h : dokB d = true) : d.kind = 0 ∨ (d.kind = 1 ∧ d.b = 0) ∨ (d.kind = 2 ∧ d.a = 0 ∧ d.b = 0) ∨ (d.kind = 3 ∧ d.b = 0) ∨ (d.kind = 4 ∧ d.a = 0 ∧ d.b = 0) := by
  unfold dokB at h
  simp only [Bool.and_eq_true, Bool.or_eq_true, decide_eq_true_eq] at h
  obtain ⟨⟨h1, h2⟩, h3⟩ := h
  obtain ⟨k, a, b⟩ := d
  simp only at h1 h2 h3 ⊢
  have hk : k = 0 ∨ k = 1 ∨ k = 2 ∨ k = 3 ∨ k = 4 := by omega
  rcases hk with rfl | rfl | rfl | rfl | rfl <;> simp [dnum] at h2 h3 ⊢ <;> first | exact h3 | exact ⟨h2, h3⟩
theorem dokB_no {d : Dd} (h : dokB d = false) : ¬ d.kind = 0 ∧ ¬ (d.kind = 1 ∧ d.b = 0) ∧ ¬ (d.kind = 2 ∧ d.a = 0 ∧ d.b = 0) ∧ ¬ (d.kind = 3 ∧ d.b = 0) ∧ ¬ (d.kind = 4 ∧ d.a = 0 ∧ d.b = 0) := by
  obtain ⟨k, a, b⟩ := d
  refine ⟨?_, ?_, ?_, ?_, ?_⟩
  · rintro rfl; simp [dokB, dnum] at h
  · rintro ⟨rfl, rfl⟩; simp [dokB, dnum] at h
  · rintro ⟨rfl, rfl, rfl⟩; simp [dokB, dnum] at h
  · rintro ⟨rfl, rfl⟩; simp [dokB, dnum] at h
  · rintro ⟨rfl, rfl, rfl⟩; simp [dokB, dnum] at h
theorem doD_bad {x : Dk} {d : Dd} (h : dokB d = false) : doD x d = none := by
  obtain ⟨h0, h1, h2, h3, h4⟩ := dokB_no h
  unfold doD made
  rw [if_neg h4, if_neg h0, if_neg h1, if_neg h2, if_neg h3]
theorem dokB_kind {d : Dd} (h : dokB d = true) : 0 ≤ d.kind ∧ d.kind < 5 := by
  unfold dokB at h
  simp only [Bool.and_eq_true, decide_eq_true_eq] at h
  exact h.1.1
/-- A deed has a text exactly if it is one, and its numbers are small. -/
theorem DOk_is (d : Dd) : DOk d ↔ dokB d = true ∧ (0 ≤ d.a ∧ d.a ≤ 99) ∧ (0 ≤ d.b ∧ d.b ≤ 99) := by
  constructor
  · intro h
    rcases h.cases with ⟨a, b, ha, hb, rfl⟩ | ⟨a, ha, rfl⟩ | ⟨a, ha, rfl⟩ | rfl | rfl
    · exact ⟨by simp [dokB, dnum], by simp only; omega, by simp only; omega⟩
    · exact ⟨by simp [dokB, dnum], by simp only; omega, by simp only; omega⟩
    · exact ⟨by simp [dokB, dnum], by simp only; omega, by simp only; omega⟩
    · decide
    · decide
  · rintro ⟨h, ha, hb⟩
    have e := dokB_cases h
    obtain ⟨k, a, b⟩ := d
    simp only at e ha hb
    obtain ⟨x, rfl⟩ := Int.eq_ofNat_of_zero_le ha.1
    obtain ⟨y, rfl⟩ := Int.eq_ofNat_of_zero_le hb.1
    unfold DOk
    rcases e with rfl | ⟨rfl, h3⟩ | ⟨rfl, h2, h3⟩ | ⟨rfl, h3⟩ | ⟨rfl, h2, h3⟩
    · rw [deedW_join (by omega) (by omega)]; simp
    · rw [h3, deedW_light (by omega)]; simp
    · rw [h2, h3, deedW_step]; simp
    · rw [h3, deedW_kinds (by omega)]; simp
    · rw [h2, h3, deedW_back]; simp

def afterI (q : Pl) (d : Dd) : Pi :=
  if d.kind = 0 then (if (0 ≤ d.a ∧ d.a < q.ns.length) ∧ (0 ≤ d.b ∧ d.b < q.ns.length) ∧ d.a ≠ d.b then ⟨nats (tog q.ns d.a.toNat d.b.toNat), q.c, nats q.ks⟩ else q.i)
  else if d.kind = 1 then (if (0 ≤ d.a ∧ d.a < q.ns.length) ∧ q.ks.getD d.a.toNat 0 = 0 then ⟨nats q.ns, q.c, nats (q.ks.set d.a.toNat 1)⟩ else q.i)
  else if d.kind = 2 then ⟨nats q.ns, q.c, nats (step q.ns q.c q.ks)⟩
  else if d.kind = 3 then ⟨nats q.ns, d.a, nats q.ks⟩
  else q.i
theorem afterI_made {q : Pl} {d : Dd} (h : dokB d = true) (h4 : d.kind ≠ 4) : madeI q d = afterI q d ∨ (madeI q d = Pi.zero ∧ afterI q d = q.i) := by
  have e := dokB_cases h
  obtain ⟨k, a, b⟩ := d
  simp only at e h4
  rcases e with rfl | ⟨rfl, rfl⟩ | ⟨rfl, rfl, rfl⟩ | ⟨rfl, rfl⟩ | ⟨rfl, _⟩
  · by_cases hc : (0 ≤ a ∧ a < q.ns.length) ∧ (0 ≤ b ∧ b < q.ns.length) ∧ a ≠ b
    · left
      unfold madeI afterI
      rw [if_pos ⟨rfl, hc⟩, if_pos rfl, if_pos hc]
    · right
      refine ⟨madeI_no (fun hh => hc hh.2) (by simp) (by simp) (by simp), ?_⟩
      unfold afterI
      rw [if_pos rfl, if_neg hc]
  · by_cases hc : (0 ≤ a ∧ a < q.ns.length) ∧ q.ks.getD a.toNat 0 = 0
    · left
      unfold madeI afterI
      rw [if_neg (by simp), if_pos ⟨rfl, rfl, hc⟩, if_neg (by simp), if_pos rfl, if_pos hc]
    · right
      refine ⟨madeI_no (by simp) (fun hh => hc hh.2.2) (by simp) (by simp), ?_⟩
      unfold afterI
      rw [if_neg (by simp), if_pos rfl, if_neg hc]
  · left
    rw [madeI_step]
    unfold afterI
    rw [if_neg (by simp), if_neg (by simp), if_pos rfl]
  · left
    rw [madeI_kinds]
    unfold afterI
    rw [if_neg (by simp), if_neg (by simp), if_neg (by simp), if_pos rfl]
  · exact absurd rfl h4
theorem made_after {q : Pl} (hq : POk q) {d : Dd} (h : dokB d = true) (h4 : d.kind ≠ 4) : made q d = if afterI q d ≠ q.i ∧ plB (afterI q d) = true then some (afterI q d).n else none := by
  rw [made_is hq d]
  rcases afterI_made (q := q) h h4 with e | ⟨e1, e2⟩
  · rw [e]
    have key : (plB (afterI q d) = true ∧ ptxt (afterI q d) ≠ q.t) ↔ (afterI q d ≠ q.i ∧ plB (afterI q d) = true) := by
      constructor
      · rintro ⟨h1, h2⟩
        exact ⟨fun e => h2 (by rw [e]; exact ptxt_ok hq), h1⟩
      · rintro ⟨h1, h2⟩
        refine ⟨h2, fun e => h1 ?_⟩
        obtain ⟨p, hp, ok⟩ := plB_ok h2
        rw [hp] at e ⊢
        rw [ptxt_ok ok] at e
        rw [Pl.t_inj ok hq e]
    by_cases hh : plB (afterI q d) = true ∧ ptxt (afterI q d) ≠ q.t
    · rw [if_pos hh, if_pos (key.1 hh)]
    · rw [if_neg hh, if_neg (fun k => hh (key.2 k))]
  · rw [e1, e2, if_neg (fun k => by rw [plB_zero] at k; simp at k), if_neg (fun k => k.1 rfl)]
/-- The deed that takes back. -/
theorem doD_four (x : Dk) : doD x ⟨4, 0, 0⟩ = match x.past.getLast? with | some p => some ⟨p, x.past.dropLast⟩ | none => none := by
  unfold doD; rw [if_pos ⟨rfl, rfl, rfl⟩]; cases x.past.getLast? <;> rfl
theorem doD_none {x : Dk} {d : Dd} (h4 : d.kind ≠ 4) (h : made x.now d = none) : doD x d = none := by
  unfold doD
  rw [if_neg (fun h => h4 h.1), h]
theorem doD_some {x : Dk} (hf : x.past.length ≤ 8) {d : Dd} (h4 : d.kind ≠ 4) {p : Pl} (h : made x.now d = some p) : doD x d = some ⟨p, (x.past ++ [x.now]).drop ((x.past ++ [x.now]).length - 8)⟩ := by
  unfold doD
  rw [if_neg (fun h => h4 h.1), h]
  have hl : (x.past ++ [x.now]).length = x.past.length + 1 := by simp
  simp only [hl]
  by_cases h : x.past.length < 8
  · rw [if_pos h, show x.past.length + 1 - 8 = 0 by omega, List.drop_zero]
  · rw [if_neg h, show x.past.length + 1 - 8 = 1 by omega]
end Nt
end Go.Proofs.YtnajdbnacdnnlaaGreatDoor
