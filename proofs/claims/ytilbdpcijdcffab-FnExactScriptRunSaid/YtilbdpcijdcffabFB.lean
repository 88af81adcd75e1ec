/-
  Walks: how often nodes fire, by the program and by the model.
  Walks: how often nodes fire, by the program and by the model.
  Walks: how often nodes fire, by the model.
-/
import Derived.Test.YtilbdpcijdcffabFA
namespace Go.Proofs.Ytilbdpcijdcffab
open Go.RowKit

set_option maxHeartbeats 1000000 in
set_option maxRecDepth 100000 in
theorem countFiring_any (cs ks : List Nat) (n : Nat) (hc : cs.length = n) (hk : ks.length = n) (hp : 0 < n) (h6 : n ≤ 6) (hcs : ∀ k, k < n → cs.getD k 0 ≤ 1000) (w : World) (v : Value) (base : Nat) (u : Value) (base' : Nat)
    (hs : Sl w base v (Nt.nats cs)) (ht : Sl w base' u (Nt.nats ks)) (hne : ∀ g, u.ownBlock = some g → ¬ g ∈ v.ownBlock.toList) :
    Calls Try.prog 39 #[v, u] w fun e w' => e = .returned (.tuple #[]) ∧ Sl w' base v (Nt.nats (Nt.counted cs ks)) ∧ Kept v.ownBlock.toList w w' := by
  obtain ⟨g, cap, rfl, hg, _⟩ := hs.row hc hp
  obtain ⟨g2, cap2, rfl, hg2, hd⟩ := ht.row hk hp
  have hne2 : ¬ g2 = g := by have := hne g2 rfl; simpa [Value.ownBlock] using this
  have HLN := Lib.hid (Nt.counted_length cs ks)
  have HC := Lib.hid hc
  have HD := Lib.hid hd
  have HCS := Lib.hid hcs
  have HS : Hid (Sl w base (.slice (some ⟨g, 0, none⟩) n cap) (Nt.nats (Nt.mix (Nt.counted cs ks) cs 0))) := Lib.hid (by rw [Nt.mix_zero]; exact hs)
  have HNE := Lib.hid hne2
  have HKL := Lib.hid hk
  clear hs ht hc hk hd hcs hne hne2
  go_enter Try.func39, Try.ntmps39
  go_wp2
  go_loopw [8] (fun i wr => ∃ k : Nat, k ≤ n ∧ i = .int .i64 k ∧ Sl wr base (.slice (some ⟨g, 0, none⟩) n cap) (Nt.nats (Nt.mix (Nt.counted cs ks) cs k)) ∧ Kept [g] w wr) (fun i _ => n - (intOf i).toNat)
  case atStart => exact ⟨0, Nat.zero_le _, rfl, HS.out, Kept.refl _ _⟩
  case round =>
    clear HS
    obtain ⟨k, hk, rfl, hsl, hkept⟩ := hrel
    have HSL := Lib.hid hsl
    have HK := Lib.hid hkept
    by_cases hlt : k < n
    · have hkl : k < cs.length := by rw [HC.out]; exact hlt
      have hck := (hkept.cell (p := ⟨g2, k, none⟩) hg2 (by simp; exact HNE.out)).trans (HD.out k hlt)
      have HML : Hid ((Nt.nats (Nt.mix (Nt.counted cs ks) cs k)).length = n) := Lib.hid (by rw [Nt.nats_length, Nt.mix_length HLN.out, HC.out])
      obtain ⟨hcell, hfr⟩ := hsl.at k (by rw [HML.out]; exact hlt)
      rw [Nt.nats_get, Nt.mix_get HLN.out hkl] at hcell
      have HSET := Lib.hid (Nt.mix_set HLN.out hkl)
      have HKEEP := Lib.hid (Nt.mix_keep HLN.out hkl)
      have HG := Lib.hid (Nt.counted_get cs ks hkl)
      have hcs := HCS.out k hlt
      clear hsl hkept hkl
      generalize (Nt.counted cs ks).getD k 0 = y at *
      generalize ks.getD k 0 = x at *
      generalize cs.getD k 0 = z at *
      by_cases h1 : x = 1
      · subst h1
        have HY : Hid (((y : Nat) : Int) = (z : Int) + 1) := Lib.hid (by rw [HG.out]; rfl)
        clear HG HKEEP
        go_wp2
        go_roundw
        case rel => exact ⟨k + 1, by omega, by go_num, by rw [← HSET.out, Nt.nats_set, HY.out]; exact HSL.out.set HML.out.symm k _, HK.out.setCell (.inl (by simp)) _⟩
        case measure => simp [intOf]; omega
      · have h1' : ((x : Int) == 1) = false := by simp; omega
        have HY : Hid (y = z) := Lib.hid (by rw [HG.out, if_neg h1]; rfl)
        clear h1 HG HSET
        go_wp2
        go_roundw
        case rel => exact ⟨k + 1, by omega, by go_num, by rw [← HKEEP.out HY.out]; exact HSL.out, HK.out⟩
        case measure => simp [intOf]; omega
    · have hk' : k = n := by omega
      subst hk'
      clear hsl hkept
      go_wp2
      go_end0
      exact ⟨rfl, by have h := HSL.out; rw [← HC.out, Nt.mix_end HLN.out, HC.out] at h; exact h, HK.out⟩
end Go.Proofs.Ytilbdpcijdcffab

namespace Go.Proofs.Ytilbdpcijdcffab
open Go.RowKit

theorem firedL_small (ns : List Nat) (c : Nat) (ks : List Nat) (t : Nat) (ht : t ≤ 60) (k : Nat) (hk : k < ks.length) : (Nt.firedL ns c ks t).getD k 0 ≤ 1000 := by
  rw [Nt.firedL_get _ _ _ _ hk]
  have := Nt.fired_le ns c ks k t
  omega

end Go.Proofs.Ytilbdpcijdcffab

namespace Go.Proofs.Ytilbdpcijdcffab
open Go.RowKit

end Go.Proofs.Ytilbdpcijdcffab
