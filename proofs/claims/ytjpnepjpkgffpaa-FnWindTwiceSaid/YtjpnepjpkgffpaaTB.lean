/-
  Walks: turns of a state, and runs of turns, by the model.
  Walks: how often nodes turn, by the model.
  Walks: loops of turns, by the model.
-/
import Derived.Test.YtjpnepjpkgffpaaFC
import Derived.Test.YtjpnepjpkgffpaaTA
namespace Go.Proofs.Ytjpnepjpkgffpaa
open Go.RowKit

/-- Whether a neighbour among the first ones pulls. -/
def pullTo (net ks : List Nat) (k j : Nat) : Bool := (List.range j).any fun i => (net.getD k 0).testBit i && decide (ks.getD i 0 = (ks.getD k 0 + 1) % 3)
theorem pullTo_succ (net ks : List Nat) (k j : Nat) : pullTo net ks k (j + 1) = (pullTo net ks k j || ((net.getD k 0).testBit j && decide (ks.getD j 0 = (ks.getD k 0 + 1) % 3))) := by
  unfold pullTo
  rw [List.range_succ, List.any_append]
  simp
theorem turn_take (ns ks : List Nat) (k : Nat) (h : k < ks.length) : Nt.nats ((Nt.turn ns ks).take (k + 1)) = Nt.nats ((Nt.turn ns ks).take k) ++ [(((Nt.turn ns ks).getD k 0 : Nat) : Int)] :=
  Nt.take_more _ _ (by rw [Nt.turn_length]; exact h)
theorem succ_mod3 (x : Nat) : ((x : Int) + 1).tmod 3 = (((x + 1) % 3 : Nat) : Int) := succ_mod x 3

set_option maxHeartbeats 2000000 in
set_option maxRecDepth 100000 in
theorem l5Step_any (ns : List Nat) (ks : List Nat) (ok : Nt.Ok ns) (st : Nt.St 3 ks) (hl : ks.length = ns.length) (w : World) (v : Value) (base : Nat) (u : Value) (base' : Nat)
    (hs : Sl w base v (Nt.nats ns)) (ht : Sl w base' u (Nt.nats ks)) :
    Calls Try.prog 67 #[v, u] w fun e w' => ∃ z, e = .returned z ∧ Sl w' w.heap.size z (Nt.nats (Nt.turn ns ks)) ∧ Kept [] w w' := by
  obtain ⟨n, hn⟩ : ∃ n, n = ks.length := ⟨_, rfl⟩
  have hp := st.some
  have h6 := st.few
  have HLT := Lib.hid (fun k (hk : k < n) => st.lt k (by omega))
  have HGL := Lib.hid (fun k => ok.get_lt k)
  have HSG := Lib.hid (fun k (hk : k < n) => Nt.turn_get ns ks (k := k) (by omega))
  have HTK := Lib.hid (fun k (hk : k < n) => turn_take ns ks k (by omega))
  have HLN := Lib.hid (Nt.turn_length ns ks)
  have HPE : Hid (∀ k, pullTo ns ks k n = Nt.pullB ns ks k) := Lib.hid (fun k => by rw [hn]; rfl)
  rw [← hn] at hp h6
  obtain ⟨g1, cap1, rfl, hg1, hc1⟩ := hs.row (n := n) (by omega) hp
  obtain ⟨g, cap, rfl, hg, hc⟩ := ht.row hn.symm hp
  have HC1 := Lib.hid hc1
  have HC := Lib.hid hc
  have HN := Lib.hid hn
  clear hs ht ok st hl hc hc1 hn
  go_enter Try.func67, Try.ntmps67
  go_wp2
  go_loopw [5, 6] (fun u i wr => ∃ k : Nat, k ≤ n ∧ i = .int .i64 k ∧ Sl wr w.heap.size u (Nt.nats ((Nt.turn ns ks).take k)) ∧ Kept [] w wr) (fun _ i _ => n - (intOf i).toNat)
  case atStart => exact ⟨0, Nat.zero_le _, rfl, Sl.empty3 w, (Kept.refl _ _).alloc _⟩
  case round =>
    obtain ⟨k, hk, rfl, hsl, hkept⟩ := hrel
    have HSL := Lib.hid hsl
    have HK := Lib.hid hkept
    have hsz := hkept.size
    by_cases hlt : k < n
    · have hck := (hkept.cell (p := ⟨g, k, none⟩) hg (by simp)).trans (HC.out k hlt)
      have HCK := Lib.hid (fun j (hj : j < n) => (hkept.cell (p := ⟨g, j, none⟩) hg (by simp)).trans (HC.out j hj))
      have hck1 := (hkept.cell (p := ⟨g1, k, none⟩) hg1 (by simp)).trans (HC1.out k hlt)
      have HT := Lib.hid (HTK.out k hlt)
      have HG := Lib.hid (HSG.out k hlt)
      have hx := HLT.out k hlt
      have hgl := HGL.out k
      have HL : Hid ((Nt.nats ((Nt.turn ns ks).take k)).length ≤ 1000000) := Lib.hid (by rw [Nt.nats_length, List.length_take]; omega)
      have HPS := Lib.hid (fun j => pullTo_succ ns ks k j)
      have HP0 : Hid (pullTo ns ks k 0 = false) := Lib.hid rfl
      have HPN := Lib.hid (HPE.out k)
      clear hsl hkept
      generalize (Nt.turn ns ks).getD k 0 = y at *
      generalize hxx : ks.getD k 0 = x at *
      generalize ns.getD k 0 = r at *
      have HXX := Lib.hid hxx
      clear hxx
      have f1 := succ_mod3 x
      obtain ⟨q, hq⟩ : ∃ q, q = (x + 1) % 3 := ⟨_, rfl⟩
      have hq3 : q < 3 := by omega
      rw [← hq] at f1
      have HQ : Hid ((x + 1) % 3 = q) := Lib.hid hq.symm
      clear hq
      go_wp2_with fail
      go_loop [8, 9] (fun m i => ∃ j : Nat, j ≤ n ∧ i = .int .i64 j ∧ m = .int .i64 (((if pullTo ns ks k j then q else x : Nat) : Nat) : Int)) (fun _ i => n - (intOf i).toNat)
      case atStart => exact ⟨0, Nat.zero_le _, rfl, by rw [HP0.out]; rfl⟩
      case round =>
        obtain ⟨j, hj, rfl, rfl⟩ := hrel
        by_cases hlj : j < n
        · have hcj := HCK.out j hlj
          have hpj := HPS.out j
          have hxj := HLT.out j hlj
          rw [HQ.out] at hpj
          generalize pullTo ns ks k j = b at *
          generalize hb' : pullTo ns ks k (j + 1) = b' at *
          have HBB := Lib.hid hb'
          clear hb'
          have p1 := shr_nonneg r j
          have e1 := shr_bit r j
          cases hbit : r.testBit j
          · rw [hbit] at e1 hpj
            simp only [Bool.false_eq_true, if_false] at e1
            have HB : Hid (b' = b) := Lib.hid (by rw [hpj]; simp)
            clear hpj
            generalize hm : (if b = true then q else x) = m at *
            have HM := Lib.hid hm
            clear hm
            go_wp2
            go_round
            case rel => exact ⟨j + 1, by omega, by go_num, by rw [HBB.out, HB.out, HM.out]⟩
            case measure => simp [intOf]; omega
          · rw [hbit] at e1 hpj
            simp only [if_true] at e1
            generalize ks.getD j 0 = s at *
            by_cases hs : s = q
            · have HB : Hid (b' = true) := Lib.hid (by rw [hpj]; simp [hs])
              have d1 : ((s : Int) == (q : Int)) = true := by simp [hs]
              clear hpj hs
              go_wp2
              go_round
              case rel => exact ⟨j + 1, by omega, by go_num, by rw [HBB.out, HB.out]; rfl⟩
              case measure => simp [intOf]; omega
            · have HB : Hid (b' = b) := Lib.hid (by rw [hpj]; simp [hs])
              have d1 : ((s : Int) == (q : Int)) = false := by simp; omega
              clear hpj hs
              go_wp2
              go_round
              case rel => exact ⟨j + 1, by omega, by go_num, by rw [HBB.out, HB.out]⟩
              case measure => simp [intOf]; omega
        · have hj' : j = n := by omega
          subst hj'
          have HY : Hid ((((if pullTo ns ks k j then q else x : Nat) : Nat) : Int) = (y : Int)) := Lib.hid (by
            rw [HG.out, HPN.out]
            unfold Nt.turnK
            rw [HQ.out])
          generalize (((if pullTo ns ks k j then q else x : Nat) : Nat) : Int) = m at *
          go_wp2_with (at_builtin; refine app_int _ rfl _ _ rfl w.heap.size _ _ HSL.out rfl rfl HL.out (by omega) ?_; intro u' w1 hs1 hk1; have HS1 := Lib.hid hs1; have HK1 := Lib.hid hk1; clear hs1 hk1)
          go_roundw
          case rel => exact ⟨k + 1, by omega, by go_num, HS1.out.val HY.out HT.out, HK.out.own HK1.out (fun g hg => (HSL.out.block hg).1)⟩
          case measure => simp [intOf]; omega
    · have hk' : k = n := by omega
      subst hk'
      clear hsl hkept
      go_wp2
      go_ret
      exact ⟨_, rfl, by have h := HSL.out; rw [List.take_of_length_le (by rw [HLN.out, HN.out]; exact Nat.le_refl _)] at h; exact h, HK.out⟩

end Go.Proofs.Ytjpnepjpkgffpaa

namespace Go.Proofs.Ytjpnepjpkgffpaa
open Go.RowKit

theorem turnedL_small (ns ks : List Nat) (t : Nat) (ht : t ≤ 60) (k : Nat) (hk : k < ks.length) : (Nt.turnedL ns ks t).getD k 0 ≤ 1000 := by
  rw [Nt.turnedL_get _ _ _ hk]
  have := Nt.turned_le ns ks k t
  omega

end Go.Proofs.Ytjpnepjpkgffpaa

namespace Go.Proofs.Ytjpnepjpkgffpaa
open Go.RowKit

end Go.Proofs.Ytjpnepjpkgffpaa
