/-
  Plain mathematics: what a deed makes of a place, before it is looked at.
-/
import Derived.Test.YtnajdbnacdnnlaaGreatDoorWA
namespace Go.Proofs.YtnajdbnacdnnlaaGreatDoor
namespace Nt

def madeI (q : Pl) (d : Dd) : Pi :=
  if d.kind = 0 ∧ (0 ≤ d.a ∧ d.a < q.ns.length) ∧ (0 ≤ d.b ∧ d.b < q.ns.length) ∧ d.a ≠ d.b then ⟨nats (tog q.ns d.a.toNat d.b.toNat), q.c, nats q.ks⟩
  else if d.kind = 1 ∧ d.b = 0 ∧ (0 ≤ d.a ∧ d.a < q.ns.length) ∧ q.ks.getD d.a.toNat 0 = 0 then ⟨nats q.ns, q.c, nats (q.ks.set d.a.toNat 1)⟩
  else if d.kind = 2 ∧ d.a = 0 ∧ d.b = 0 then ⟨nats q.ns, q.c, nats (step q.ns q.c q.ks)⟩
  else if d.kind = 3 ∧ d.b = 0 then ⟨nats q.ns, d.a, nats q.ks⟩
  else Pi.zero
theorem madeI_join {q : Pl} {a b : Nat} (ha : a < q.ns.length) (hb : b < q.ns.length) (hab : a ≠ b) : madeI q ⟨0, a, b⟩ = ⟨nats (tog q.ns a b), q.c, nats q.ks⟩ := by
  unfold madeI
  rw [if_pos ⟨rfl, by simp only; omega, by simp only; omega, by simp only; omega⟩]
  simp only [Int.toNat_natCast]
theorem madeI_light {q : Pl} {a : Nat} (ha : a < q.ns.length) (h0 : q.ks.getD a 0 = 0) : madeI q ⟨1, a, 0⟩ = ⟨nats q.ns, q.c, nats (q.ks.set a 1)⟩ := by
  unfold madeI
  rw [if_neg (by simp), if_pos ⟨rfl, rfl, by simp only; omega, by simp only [Int.toNat_natCast]; exact h0⟩]
  simp only [Int.toNat_natCast]
theorem madeI_step (q : Pl) : madeI q ⟨2, 0, 0⟩ = ⟨nats q.ns, q.c, nats (step q.ns q.c q.ks)⟩ := by
  unfold madeI
  rw [if_neg (by simp), if_neg (by simp), if_pos ⟨rfl, rfl, rfl⟩]
theorem madeI_kinds (q : Pl) (a : Int) : madeI q ⟨3, a, 0⟩ = ⟨nats q.ns, a, nats q.ks⟩ := by
  unfold madeI
  rw [if_neg (by simp), if_neg (by simp), if_neg (by simp), if_pos ⟨rfl, rfl⟩]
theorem madeI_no {q : Pl} {k a b : Int} (h0 : ¬ (k = 0 ∧ (0 ≤ a ∧ a < q.ns.length) ∧ (0 ≤ b ∧ b < q.ns.length) ∧ a ≠ b)) (h1 : ¬ (k = 1 ∧ b = 0 ∧ (0 ≤ a ∧ a < q.ns.length) ∧ q.ks.getD a.toNat 0 = 0)) (h2 : ¬ (k = 2 ∧ a = 0 ∧ b = 0)) (h3 : ¬ (k = 3 ∧ b = 0)) : madeI q ⟨k, a, b⟩ = Pi.zero := by
  unfold madeI
  rw [if_neg h0, if_neg h1, if_neg h2, if_neg h3]
/-- What comes of it is a place, and another one: or nothing. -/
theorem made_is {q : Pl} (hq : POk q) (d : Dd) : made q d = if plB (madeI q d) = true ∧ ptxt (madeI q d) ≠ q.t then some (madeI q d).n else none := by
  have key : ∀ p : Pl, POk p → p ≠ q → (plB p.i = true ∧ ptxt p.i ≠ q.t) := fun p hp hne => ⟨plB_yes hp, by rw [ptxt_ok hp]; exact fun e => hne (Pl.t_inj hp hq e)⟩
  have fin : ∀ p : Pl, POk p → p ≠ q → ∀ x : Pi, x = p.i → some p = if plB x = true ∧ ptxt x ≠ q.t then some x.n else none := by
    rintro p hp hne x rfl
    rw [if_pos (key p hp hne), Pl.i_n]
  have zero : ¬ (plB Pi.zero = true ∧ ptxt Pi.zero ≠ q.t) := fun h => by rw [plB_zero] at h; simp at h
  obtain ⟨k, a, b⟩ := d
  by_cases k0 : k = 0
  · subst k0
    by_cases h : (0 ≤ a ∧ a < q.ns.length) ∧ (0 ≤ b ∧ b < q.ns.length) ∧ a ≠ b
    · obtain ⟨x, rfl⟩ := Int.eq_ofNat_of_zero_le h.1.1
      obtain ⟨y, rfl⟩ := Int.eq_ofNat_of_zero_le h.2.1.1
      have hx : x < q.ns.length := by omega
      have hy : y < q.ns.length := by omega
      have hxy : x ≠ y := by omega
      have em : made q ⟨0, x, y⟩ = some ⟨tog q.ns x y, q.c, q.ks⟩ := by
        unfold made
        rw [if_pos rfl, if_pos (by simp only; omega)]
        simp only [Int.toNat_natCast]
      obtain ⟨h1, h2⟩ := made_ok hq em
      rw [em, madeI_join hx hy hxy]
      exact fin ⟨tog q.ns x y, q.c, q.ks⟩ h1 h2 _ rfl
    · rw [madeI_no (by intro hh; exact h hh.2) (by simp) (by simp) (by simp), if_neg zero]
      unfold made
      rw [if_pos rfl, if_neg (by simp only; intro hh; exact h ⟨⟨hh.1, hh.2.1⟩, ⟨hh.2.2.1, hh.2.2.2.1⟩, hh.2.2.2.2⟩)]
  · by_cases k1 : k = 1 ∧ b = 0
    · obtain ⟨rfl, rfl⟩ := k1
      by_cases h : 0 ≤ a ∧ a < q.ns.length ∧ q.ks.getD a.toNat 0 = 0
      · obtain ⟨x, rfl⟩ := Int.eq_ofNat_of_zero_le h.1
        have hx : x < q.ns.length := by omega
        have h0 : q.ks.getD x 0 = 0 := by have := h.2.2; rwa [Int.toNat_natCast] at this
        have em : made q ⟨1, x, 0⟩ = some ⟨q.ns, q.c, q.ks.set x 1⟩ := by
          unfold made
          rw [if_neg (by simp), if_pos ⟨rfl, rfl⟩, if_pos h]
          simp only [Int.toNat_natCast]
        obtain ⟨h1, h2⟩ := made_ok hq em
        rw [em, madeI_light hx h0]
        exact fin ⟨q.ns, q.c, q.ks.set x 1⟩ h1 h2 _ rfl
      · rw [madeI_no (by simp) (by intro hh; exact h ⟨hh.2.2.1.1, hh.2.2.1.2, hh.2.2.2⟩) (by simp) (by simp), if_neg zero]
        unfold made
        rw [if_neg (by simp), if_pos ⟨rfl, rfl⟩, if_neg h]
    · by_cases k2 : k = 2 ∧ a = 0 ∧ b = 0
      · obtain ⟨rfl, rfl, rfl⟩ := k2
        have hs : POk ⟨q.ns, q.c, step q.ns q.c q.ks⟩ := ⟨hq.ok, step_st q.ns hq.st, by show (step q.ns q.c q.ks).length = q.ns.length; rw [step_length]; exact hq.len⟩
        rw [madeI_step]
        unfold made
        rw [if_neg (by simp), if_neg (by simp), if_pos ⟨rfl, rfl, rfl⟩]
        by_cases e : step q.ns q.c q.ks ≠ q.ks
        · rw [if_pos e]
          exact fin ⟨q.ns, q.c, step q.ns q.c q.ks⟩ hs (fun h => e (congrArg Pl.ks h)) _ rfl
        · have e' := Classical.not_not.1 e
          rw [if_neg e, if_neg]
          rintro ⟨_, h2⟩
          apply h2
          rw [e']
          exact ptxt_ok hq
      · by_cases k3 : k = 3 ∧ b = 0
        · obtain ⟨rfl, rfl⟩ := k3
          rw [madeI_kinds]
          unfold made
          rw [if_neg (by simp), if_neg (by simp), if_neg (by simp), if_pos ⟨rfl, rfl⟩]
          by_cases h : 0 ≤ a ∧ a ≠ (q.c : Int) ∧ stBn a.toNat q.ks = true
          · obtain ⟨x, rfl⟩ := Int.eq_ofNat_of_zero_le h.1
            have em : made q ⟨3, x, 0⟩ = some ⟨q.ns, x, q.ks⟩ := by
              unfold made
              rw [if_neg (by simp), if_neg (by simp), if_neg (by simp), if_pos ⟨rfl, rfl⟩, if_pos h]
              simp only [Int.toNat_natCast]
            obtain ⟨h1, h2⟩ := made_ok hq em
            rw [if_pos h]
            simp only [Int.toNat_natCast]
            exact fin ⟨q.ns, x, q.ks⟩ h1 h2 _ rfl
          · rw [if_neg h, if_neg]
            rintro ⟨h1, h2⟩
            apply h
            obtain ⟨p, hp, ok⟩ := plB_ok h1
            obtain ⟨pn, pc, pk⟩ := p
            have e1 := congrArg Pi.ns hp
            have e2 := congrArg Pi.c hp
            have e3 := congrArg Pi.ks hp
            simp only [Pl.i] at e1 e2 e3
            have e3' := nats_inj e3
            subst e3'
            have e1' := nats_inj e1
            subst e1'
            subst e2
            refine ⟨by omega, fun e => h2 ?_, ?_⟩
            · have e4 : pc = q.c := by omega
              subst e4
              exact ptxt_ok hq
            · rw [Int.toNat_natCast]
              unfold stBn
              have h5 := ok.st
              rw [Bool.and_eq_true, decide_eq_true_eq, List.all_eq_true]
              refine ⟨⟨h5.c3, h5.c5⟩, fun y hy => ?_⟩
              obtain ⟨j, hj, rfl⟩ := List.getElem_of_mem hy
              have := h5.lt j hj
              rw [List.getD_eq_getElem?_getD, List.getElem?_eq_getElem hj] at this
              exact decide_eq_true this
        · rw [madeI_no (by intro hh; exact k0 hh.1) (by intro hh; exact k1 ⟨hh.1, hh.2.1⟩) k2 k3, if_neg zero]
          unfold made
          rw [if_neg k0, if_neg k1, if_neg k2, if_neg k3]
end Nt
end Go.Proofs.YtnajdbnacdnnlaaGreatDoor
