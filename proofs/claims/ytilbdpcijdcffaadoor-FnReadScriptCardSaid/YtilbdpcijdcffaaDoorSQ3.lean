/-
  Walks: texts of scripts read as scripts, by the program.
-/
import Derived.Test.YtilbdpcijdcffaaDoorSQ2
namespace Go.Proofs.YtilbdpcijdcffaaDoor
open Go.RowKit

/-- What reading all lights of a text answers. -/
def LightsRead (s : ByteArray) (w : World) (e : Ending) (w' : World) : Prop :=
  ∃ (u : Value) (xs : List (Int × Int)) (ok : Bool), e = .returned (.tuple #[u, .bool ok]) ∧ Sg w' w.heap.size u xs ∧ (∀ n : Int, Nt.readB n (tx s) = true → ok = true ∧ xs = Nt.lightsOf (tx s)) ∧ (ok = true → tx s ≠ []) ∧ Kept [] w w'
/-- The lights up to k are as the text says, if it is one. -/
def LRel (t : List Nat) (k : Nat) (xs : List (Int × Int)) : Prop := (∀ nn : Int, Nt.readB nn t = true → ∀ j, j < k → Nt.at2 xs j = Nt.light2 ((Nt.cut 44 t).getD j [])) ∧ (0 < k → t ≠ [])

set_option maxHeartbeats 2000000 in
set_option maxRecDepth 100000 in
theorem readLights_any (s : ByteArray) (hs : s.size ≤ 1100000) (w : World) (he : ErrW w) :
    Calls Tryd.prog 25 #[.string s] w (LightsRead s w) := by
  have HE := Lib.hid he
  clear he
  by_cases hd : tx s = [46]
  · have es : s = ⟨#[46]⟩ := tx_inj (by rw [hd]; rfl)
    subst es
    clear hd
    go_enter Tryd.func25, Tryd.ntmps25
    go_wp2
    go_ret2
    exact ⟨_, [], true, rfl, Sg.nil _ _, (fun n _ => ⟨rfl, by rw [show tx ⟨#[46]⟩ = [46] from rfl]; unfold Nt.lightsOf; rw [if_pos rfl]⟩), (fun _ h => by simp [tx] at h), Kept.refl _ _⟩
  · have d1 : (s.toList == [46]) = false := by rw [str_beq, decide_eq_false (by simpa using hd)]
    have HD := Lib.hid hd
    have HS := Lib.hid hs
    clear hd hs
    go_enter Tryd.func25, Tryd.ntmps25
    go_wp2_with fail
    refine (split_any s (by have := HS.out; omega) _ HE.out).mono ?_
    rintro e w1 ⟨g, n, ps, rfl, hps, hpl, hpm, hk1⟩
    have HPL := Lib.hid hpl
    have HPM := Lib.hid hpm
    have HK1 := Lib.hid hk1
    have HG := Lib.hid (hps.block (g := g) rfl).2
    have HCELL : Hid (∀ k, k < n → w1.cell? ⟨g, k, none⟩ = some (.string (atT ps k))) := Lib.hid (fun k hk => (hps.at k (by rw [hpl]; exact hk)).1)
    have HCL : Hid ((Nt.cut 44 (tx s)).length = n) := Lib.hid (by rw [← hpm, List.length_map, hpl])
    have HPART : Hid (∀ k, k < n → tx (atT ps k) = (Nt.cut 44 (tx s)).getD k [] ∧ tx (atT ps k) ∈ Nt.cut 44 (tx s)) := Lib.hid (fun k hk => by
      have hk' : k < ps.length := by rw [hpl]; exact hk
      have e : (Nt.cut 44 (tx s)).getD k [] = tx (atT ps k) := by
        rw [← hpm, List.getD_eq_getElem?_getD, List.getElem?_map, List.getElem?_eq_getElem hk', atT_get hk']; rfl
      refine ⟨e.symm, ?_⟩
      rw [← hpm, atT_get hk']
      exact List.mem_map.2 ⟨_, List.getElem_mem hk', rfl⟩)
    have hn : n ≤ 1100001 := by
      have h1 := Nt.cut_length 44 (tx s)
      rw [HCL.out, tx_length] at h1
      have := HS.out
      omega
    have HN0 : Hid (0 < n) := Lib.hid (by
      rw [← HCL.out]
      cases h : Nt.cut 44 (tx s) with
      | nil => exact absurd h (Nt.cut_ne 44 (tx s))
      | cons a b => simp)
    clear hps hpl hpm hk1
    go_wp2_with (at_make; refine make_light _ n rfl _ _ rfl rfl rfl (by omega) ?_; intro w2 hs2 hk2 _; have HS2 := Lib.hid hs2; have HK2 := Lib.hid hk2; clear hs2 hk2)
    go_loopw [19] (fun i wr => ∃ (k : Nat) (xs : List (Int × Int)), k ≤ n ∧ i = .int .i64 k ∧ Sg wr w1.heap.size (.slice (some ⟨w1.heap.size, 0, none⟩) n n) xs ∧ xs.length = n ∧ LRel (tx s) k xs ∧ Kept [] w1 wr) (fun i _ => n - (intOf i).toNat)
    case atStart => exact ⟨0, _, Nat.zero_le _, rfl, HS2.out, by simp, ⟨fun _ _ j hj => absurd hj (by omega), fun h => absurd h (by omega)⟩, HK2.out⟩
    case round =>
      clear HS2 HK2
      obtain ⟨k, xs, hk, rfl, hsl, hxl, hrl, hkept⟩ := hrel
      have HSL := Lib.hid hsl
      have HXL := Lib.hid hxl
      have HRL := Lib.hid hrl
      have HK := Lib.hid hkept
      by_cases hlt : k < n
      · have k1 := (hkept.cell (p := ⟨g, k, none⟩) HG.out (by simp)).trans (HCELL.out k hlt)
        have HSZ : Hid ((atT ps k).size ≤ 2000000) := Lib.hid (by
          have h1 := Nt.cut_length 44 (tx s)
          have h2 := cut_part 44 (tx s) _ (HPART.out k hlt).2
          rw [tx_length, tx_length] at h2
          have := HS.out
          omega)
        have HP := Lib.hid (HPART.out k hlt)
        clear hsl hxl hrl hkept
        generalize atT ps k = part at *
        go_wp2_with fail
        refine (readLight_any part HSZ.out _ (HE.out.stay (HK1.out.trans HK.out (by simp)))).mono ?_
        rintro e w5 ⟨x, y, ok, rfl, hx, h0, hk5⟩
        have HX := Lib.hid hx
        have H0 := Lib.hid h0
        have hka : Kept [] w5 (w5.alloc (.cells #[.int .i64 x, .int .i64 y] 41)) := (Kept.refl [] w5).alloc _
        have HS6 := Lib.hid ((HSL.out.stay hk5).stay hka)
        have HK6 := Lib.hid ((HK.out.trans hk5 (by simp)).trans hka (by simp))
        clear hx h0 hk5 hka HSL HK
        cases ok
        · have HNO : Hid (∀ nn : Int, Nt.readB nn (tx s) = true → false = true ∧ ([] : List (Int × Int)) = Nt.lightsOf (tx s)) := Lib.hid (fun nn hr => by
            obtain ⟨a, b, ha, hb, hp, _⟩ := Nt.readB_parts hr HD.out _ HP.out.2
            have := (HX.out a b ha hb hp).1
            cases this)
          go_wp2
          go_ret2
          exact ⟨_, [], false, rfl, Sg.nil _ _, HNO.out, (fun h => by cases h), HK1.out.trans HK6.out (by simp)⟩
        · have hsp := HS6.out.at k (by rw [HXL.out]; exact hlt)
          obtain ⟨q1, q2, r1, r2⟩ := hsp
          have HNX : Hid (LRel (tx s) (k + 1) (xs.set k (x, y))) := Lib.hid (⟨fun nn hr j hj => by
            by_cases e : j = k
            · subst e
              obtain ⟨a, b, ha, hb, hp, hl2⟩ := Nt.readB_parts hr HD.out _ HP.out.2
              obtain ⟨_, rfl, rfl⟩ := HX.out a b ha hb hp
              rw [← HP.out.1, hl2]
              simp [Nt.at2, List.getD_eq_getElem?_getD, HXL.out, hlt]
            · have h1 := HRL.out.1 nn hr j (by omega)
              rw [← h1]
              simp [Nt.at2, List.getD_eq_getElem?_getD, List.getElem?_set_ne (fun h => e h.symm)], fun _ h => by
            have h2 := HP.out
            rw [h] at h2
            have h3 : tx part = [] := by
              have := h2.2
              rw [show Nt.cut 44 [] = [[]] by decide] at this
              simpa using this
            have := H0.out h3
            cases this⟩)
          go_wp2
          go_roundw
          case rel => exact ⟨k + 1, xs.set k (x, y), by omega, by go_num, HS6.out.set HXL.out.symm k hlt x y, by rw [List.length_set]; exact HXL.out, HNX.out, (HK6.out.setCell (.inr (Nat.le_refl _)) _).setCell (.inr (Nat.le_refl _)) _⟩
          case measure => simp [intOf]; omega
      · have hk' : n = k := by omega
        subst hk'
        have HALL : Hid (∀ nn : Int, Nt.readB nn (tx s) = true → true = true ∧ xs = Nt.lightsOf (tx s)) := Lib.hid (fun nn hr => ⟨rfl, by
          have h1 := hrl.1 nn hr
          unfold Nt.lightsOf
          rw [if_neg HD.out]
          apply List.ext_getElem (by rw [List.length_map, HCL.out, hxl])
          intro i hi1 hi2
          have h2 := h1 i (by omega)
          rw [Nt.at2_get hi1] at h2
          rw [h2, List.getElem_map, List.getD_eq_getElem?_getD, List.getElem?_eq_getElem (by rw [HCL.out]; omega), Option.getD_some]⟩)
        have HNE : Hid (tx s ≠ []) := Lib.hid (hrl.2 HN0.out)
        clear hsl hxl hrl hkept
        go_wp2
        go_ret2
        exact ⟨_, xs, true, rfl, HSL.out.mono HK1.out.size, (fun nn h => by simpa using HALL.out nn h), (fun _ => HNE.out), HK1.out.trans HK.out (by simp)⟩

set_option maxHeartbeats 2000000 in
set_option maxRecDepth 100000 in
theorem iReadScript_any (n : Int) (s : ByteArray) (hs : s.size ≤ 1100000) (w : World) (he : ErrW w) :
    Calls Tryd.prog 10 #[.int .i64 n, .string s] w fun e w' => ∃ u, e = .returned (.tuple #[u, .bool (Nt.readB n (tx s))]) ∧ Sg w' w.heap.size u (Nt.readOf n (tx s)) ∧ Kept [] w w' := by
  have HE := Lib.hid he
  have HS := Lib.hid hs
  clear he hs
  go_enter Tryd.func10, Tryd.ntmps10
  go_wp2_with fail
  refine (readLights_any s HS.out _ HE.out).mono ?_
  rintro e w1 ⟨u, xs, ok, rfl, hsg, hall, hne, hk1⟩
  have HALL := Lib.hid hall
  have HNE := Lib.hid hne
  have HK1 := Lib.hid hk1
  have HG := Lib.hid hsg
  obtain ⟨a1, c1, rfl, _, _, _⟩ := hsg.any
  clear hall hne hk1 hsg
  cases ok
  · have HF : Hid (Nt.readB n (tx s) = false) := Lib.hid (by
      cases e : Nt.readB n (tx s)
      · rfl
      · have := (HALL.out n e).1
        cases this)
    go_wp2_with fail
    go_ret2
    exact ⟨_, by rw [HF.out]; rfl, by rw [Nt.readOf_no HF.out]; exact Sg.nil _ _, HK1.out⟩
  · go_wp2_with fail
    refine (iScriptText_any n xs _ _ _ HG.out).mono ?_
    rintro e w2 ⟨z, rfl, hz, hk2⟩
    have HZ := Lib.hid hz
    have HG2 := Lib.hid (HG.out.stay hk2)
    have HK2 := Lib.hid (HK1.out.trans hk2 (by simp))
    clear hz hk2
    by_cases hzs : z = s
    · subst hzs
      have HR := Lib.hid (Nt.read_of HZ.out.symm (by simpa using HNE.out))
      go_wp2_with fail
      go_ret2
      exact ⟨_, by rw [HR.out.1]; rfl, by rw [HR.out.2.1]; exact HG2.out, HK2.out⟩
    · have d1 : (z.toList == s.toList) = false := str_no (fun e => hzs (tx_inj e))
      have HF : Hid (Nt.readB n (tx s) = false) := Lib.hid (by
        cases e : Nt.readB n (tx s)
        · rfl
        · exfalso
          obtain ⟨m, sc, rfl, so, ht, hl, _⟩ := Nt.readB_ok e
          have hx := (HALL.out _ e).2
          rw [hl] at hx
          subst hx
          have h1 := HZ.out
          rw [Nt.textOf_ok so, ← ht] at h1
          exact hzs (tx_inj h1))
      clear hzs
      go_wp2_with fail
      go_ret2
      exact ⟨_, by rw [HF.out]; rfl, by rw [Nt.readOf_no HF.out]; exact Sg.nil _ _, HK2.out⟩
end Go.Proofs.YtilbdpcijdcffaaDoor
