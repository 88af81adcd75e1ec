/-
  Walks: two lists of deeds that hold the same.
-/
import Derived.Test.YtaacehdfpoiljaaDoorPD4
namespace Go.Proofs.YtaacehdfpoiljaaDoor
open Go.RowKit

theorem jtxt_small (ds : List Nt.Dd) : (Nt.jtxt ds).length ≤ 12 * ds.length := by
  unfold Nt.jtxt
  split
  · exact jrn_small ds
  · simp
theorem jtxt_read {ds : List Nt.Dd} (h : Nt.jtxt ds ≠ []) : Nt.jgo [] (Nt.jtxt ds) = ds ∧ Nt.jlen [] (Nt.jtxt ds) = (Nt.jtxt ds).length := by
  by_cases ha : ∀ j, j < ds.length → Nt.deedT (jdAt ds j) ≠ []
  · have h1 : ∀ d ∈ ds, Nt.DOk d := fun d hd => by
      obtain ⟨j, hj, e⟩ := List.getElem_of_mem hd
      have h2 := ha j hj
      have h3 : jdAt ds j = d := by unfold jdAt; rw [List.getD_eq_getElem?_getD, List.getElem?_eq_getElem hj]; exact e
      rw [h3] at h2
      exact Classical.byContradiction fun hn => h2 (Nt.deedT_none hn)
    rw [jtxt_all ha]
    exact Nt.jrn_read h1
  · exfalso
    obtain ⟨j, hj⟩ := Classical.not_forall.1 ha
    obtain ⟨hj1, hj2⟩ := Classical.not_imp.1 hj
    exact h (jtxt_no hj1 (Classical.not_not.1 hj2))

set_option maxHeartbeats 4000000 in
set_option maxRecDepth 100000 in
theorem sameDeeds_eq (ds : List Nt.Dd) (hl : ds.length ≤ 1100000) (w : World) (v u : Value) (base base' : Nat) (hs : Dg w base v ds) (ht : Dg w base' u ds) :
    Calls Tryd.prog 33 #[v, u] w fun e w' => e = .returned (.bool true) ∧ Kept [] w w' := by
  obtain ⟨a, cap, rfl, hc⟩ := hs.rows
  obtain ⟨b, cap', rfl, hc'⟩ := ht.rows
  have HC := Lib.hid hc
  have HD := Lib.hid hc'
  clear hc hc' hs ht
  obtain ⟨n, hn⟩ : ∃ n, n = ds.length := ⟨_, rfl⟩
  rw [← hn] at HC HD hl ⊢
  clear hn
  have h0 : ((n : Int) != (n : Int)) = false := by simp
  go_enter Tryd.func33, Tryd.ntmps33
  go_wp2
  go_loopw [5] (fun i wr => ∃ k : Nat, k ≤ n ∧ i = .int .i64 k ∧ Kept [] w wr) (fun i _ => n - (intOf i).toNat)
  case atStart => exact ⟨0, Nat.zero_le _, rfl, Kept.refl _ _⟩
  case round =>
    obtain ⟨k, hk, rfl, hkept⟩ := hrel
    have HK := Lib.hid hkept
    by_cases hlt : k < n
    · obtain ⟨g, rfl, hg, c0, c1, c2⟩ := HC.out k hlt
      obtain ⟨g', rfl, hg', e0, e1, e2⟩ := HD.out k hlt
      have k0 := (hkept.cell (p := ⟨g, k * 3, none⟩) hg (by simp)).trans c0
      have k1 := (hkept.cell (p := ⟨g, k * 3 + 1, none⟩) hg (by simp)).trans c1
      have k2 := (hkept.cell (p := ⟨g, k * 3 + 2, none⟩) hg (by simp)).trans c2
      have j0 := (hkept.cell (p := ⟨g', k * 3, none⟩) hg' (by simp)).trans e0
      have j1 := (hkept.cell (p := ⟨g', k * 3 + 1, none⟩) hg' (by simp)).trans e1
      have j2 := (hkept.cell (p := ⟨g', k * 3 + 2, none⟩) hg' (by simp)).trans e2
      generalize jdAt ds k = d at *
      obtain ⟨dk, da, db⟩ := d
      simp only at k0 k1 k2 j0 j1 j2
      have d5 : (dk == dk) = true := by simp
      have d6 : (da == da) = true := by simp
      have d7 : (db == db) = true := by simp
      have d8 : (dk != dk) = false := by simp
      have d9 : (da != da) = false := by simp
      have d10 : (db != db) = false := by simp
      clear c0 c1 c2 e0 e1 e2 hkept
      go_wp2_with fail
      go_quiet (fail)
      go_wp2
      go_roundw
      case rel => exact ⟨k + 1, by omega, by go_num, HK.out.trans (Qt.kept ⟨_, rfl⟩) (by simp)⟩
      case measure => simp [intOf]; omega
    · clear hkept
      go_wp2
      go_ret
      exact ⟨rfl, HK.out⟩
end Go.Proofs.YtaacehdfpoiljaaDoor
