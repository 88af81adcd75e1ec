/-
  Two rows of places made one, by the program; a place after a deed.
-/
import Derived.Test.YtofgfhfdmkcmcaaIP4
namespace Go.Proofs.Ytofgfhfdmkcmcaa
open Go.RowKit

theorem Ps.any3 {w : World} {base : Nat} {v : Value} {ps : List Nt.Pi} (h : Ps w base v ps) : ∃ a cap, v = .slice a ps.length cap := by
  obtain ⟨a, cap, e, _⟩ := h
  exact ⟨a, cap, e⟩
/-- So many places are put together behind k rows. -/
def putTo (n k : Nat) : Nat := if k = 0 then 0 else if k = 1 then n else n + 1

set_option maxHeartbeats 2000000 in
set_option maxRecDepth 100000 in
theorem concat_any (ps : List Nt.Pi) (p : Nt.Pi) (h8 : ps.length ≤ 1000) (w : World) (g : Nat) (v u : Value) (hb : Bk w g 30 #[v, u]) (hv : Ps w 0 v ps) (hu : Ps w 0 u [p]) :
    Calls Try.prog 96 #[.slice (some ⟨g, 0, none⟩) 2 2] w fun e w' => ∃ g' cap, e = .returned (.slice (some ⟨g', 0, none⟩) (ps.length + 1) cap) ∧ Pm w' w.heap.size (.slice (some ⟨g', 0, none⟩) (ps.length + 1) cap) (ps ++ [p]) ∧ Kept [] w w' := by
  have HV := Lib.hid hv
  have HU := Lib.hid hu
  have HB := Lib.hid hb
  obtain ⟨n, hn⟩ : ∃ n, n = ps.length := ⟨_, rfl⟩
  rw [← hn] at h8 ⊢
  have HN := Lib.hid hn
  obtain ⟨a1, c1, rfl⟩ := hv.any3
  obtain ⟨a2, c2, rfl⟩ := hu.any3
  rw [← hn] at HV HB
  have q0 : w.cell? ⟨g, 0, none⟩ = some (.slice a1 n c1) := HB.out.cell 0 rfl
  have q1 : w.cell? ⟨g, 1, none⟩ = some (.slice a2 1 c2) := HB.out.cell 1 rfl
  clear hv hu hb hn
  go_enter Try.func96, Try.ntmps96
  go_wp2
  go_loop [3, 11] (fun s i => ∃ k : Nat, k ≤ 2 ∧ i = .int .i64 k ∧ s = .int .i64 (putTo n k : Nat)) (fun _ i => 2 - (intOf i).toNat)
  case atStart => exact ⟨0, by omega, rfl, rfl⟩
  case round =>
    obtain ⟨k, hk, rfl, rfl⟩ := hrel
    have hk3 : k = 0 ∨ k = 1 ∨ k = 2 := by omega
    rcases hk3 with rfl | rfl | rfl
    · have e0 : putTo n 0 = 0 := rfl
      rw [e0]
      go_wp2
      go_round
      case rel => exact ⟨1, by omega, by go_num, by go_num⟩
      case measure => simp [intOf]
    · have e0 : putTo n 1 = n := rfl
      have d0 : decide ((n : Int) + 1 < 0) = false := dec_not (by omega)
      rw [e0]
      go_wp2
      go_round
      case rel => exact ⟨2, by omega, by go_num, by show _ = Value.int .i64 ((n + 1 : Nat) : Int); go_num⟩
      case measure => simp [intOf]
    · have e0 : ((putTo n 2 : Nat) : Int) = ((n + 1 : Nat) : Int) := rfl
      rw [e0]
      have HG := Lib.hid (fun W => growPlaces_any (n + 1) (by omega) (by omega) W)
      go_wp2_with fail
      refine (HG.out _).mono ?_
      rintro e w1 ⟨v1, rfl, hpm, hk1⟩
      have HPM := Lib.hid hpm
      have HK1 := Lib.hid hk1
      clear hpm hk1 HG e0
      go_wp2_with fail
      go_loopw [6, 27] (fun z i wr => ∃ k : Nat, k ≤ 2 ∧ i = .int .i64 k ∧ Pm wr w.heap.size z ((ps ++ [p]).take (putTo n k)) ∧ Kept [] w wr) (fun _ i _ => 2 - (intOf i).toNat)
      case atStart => exact ⟨0, by omega, rfl, HPM.out, HK1.out⟩
      case round =>
        clear HPM HK1
        obtain ⟨k, hk, rfl, hpm, hkept⟩ := hrel
        have HPM := Lib.hid hpm
        have HK := Lib.hid hkept
        have c0 := (HB.out.stay hkept).cell 0 rfl
        have c1 := (HB.out.stay hkept).cell 1 rfl
        have HVW := Lib.hid (HV.out.stay hkept)
        have HUW := Lib.hid (HU.out.stay hkept)
        have HBW := Lib.hid hkept.size
        clear hpm hkept
        have hk3 : k = 0 ∨ k = 1 ∨ k = 2 := by omega
        rcases hk3 with rfl | rfl | rfl
        · have HE : Hid ((ps ++ [p]).take (putTo n 0) ++ ps = (ps ++ [p]).take (putTo n 1)) := Lib.hid (by
            show (ps ++ [p]).take 0 ++ ps = (ps ++ [p]).take n
            rw [HN.out, List.take_zero, List.nil_append, List.take_left' rfl])
          obtain ⟨aa, cc, rfl⟩ := HPM.out.len
          go_wp2_with (at_builtin; refine app_places rfl _ _ rfl w.heap.size _ _ ps HPM.out rfl _ HVW.out rfl (by show (List.take 0 _).length + _ ≤ _; rw [← HN.out]; simp; omega) HBW.out ?_; intro v9 w9 hp9 hk9; have HP9 := Lib.hid hp9; have HK9 := Lib.hid (HK.out.own hk9 (fun g hg => (HPM.out.block hg).1)); clear hp9 hk9)
          go_roundw
          case rel => exact ⟨1, by omega, by go_num, by rw [← HE.out]; exact HP9.out, HK9.out⟩
          case measure => simp [intOf]
        · have HE : Hid ((ps ++ [p]).take (putTo n 1) ++ [p] = (ps ++ [p]).take (putTo n 2)) := Lib.hid (by
            show (ps ++ [p]).take n ++ [p] = (ps ++ [p]).take (n + 1)
            rw [HN.out, List.take_left' rfl, List.take_of_length_le (by simp)])
          obtain ⟨aa, cc, rfl⟩ := HPM.out.len
          go_wp2_with (at_builtin; refine app_places rfl _ _ rfl w.heap.size _ _ [p] HPM.out rfl _ HUW.out rfl (by show (List.take n _).length + _ ≤ _; rw [List.length_take]; simp; omega) HBW.out ?_; intro v9 w9 hp9 hk9; have HP9 := Lib.hid hp9; have HK9 := Lib.hid (HK.out.own hk9 (fun g hg => (HPM.out.block hg).1)); clear hp9 hk9)
          go_roundw
          case rel => exact ⟨2, by omega, by go_num, by rw [← HE.out]; exact HP9.out, HK9.out⟩
          case measure => simp [intOf]
        · have HE : Hid ((ps ++ [p]).take (putTo n 2) = ps ++ [p]) := Lib.hid (by
            show (ps ++ [p]).take (n + 1) = _
            rw [List.take_of_length_le (by rw [HN.out]; simp)])
          rw [HE.out] at HPM
          obtain ⟨vs, ht, hvl, hvp⟩ := HPM.out
          have HVP := Lib.hid hvp
          have HVL := Lib.hid hvl
          have HT := Lib.hid ht
          obtain ⟨g9, c9, rfl, _⟩ := ht.shape (n := n + 1) (by rw [hvl, List.length_append, HN.out]; rfl) (by omega)
          clear ht hvl hvp
          go_wp2
          go_ret
          exact ⟨g9, c9, rfl, ⟨vs, HT.out, HVL.out, HVP.out⟩, HK.out⟩

/-- A state with a node lit. -/
def litK (ks : List Nat) (a : Int) : List Nat := if (0 ≤ a ∧ a < ks.length) ∧ ks.getD a.toNat 0 = 0 then ks.set a.toNat 1 else ks

set_option maxHeartbeats 2000000 in
set_option maxRecDepth 100000 in
theorem litState_any (c : Nat) (ks : List Nat) (st : Nt.St c ks) (a : Int) (w : World) (v : Value) (base : Nat) (hs : Sl w base v (Nt.nats ks)) :
    Calls Try.prog 113 #[v, .int .i64 a] w fun e w' => ∃ z, e = .returned z ∧ Sl w' w.heap.size z (Nt.nats (litK ks a)) ∧ Kept [] w w' := by
  obtain ⟨n, hn⟩ : ∃ n, n = ks.length := ⟨_, rfl⟩
  have hn0 : 0 < n := by rw [hn]; exact st.some
  have hn6 : n ≤ 6 := by rw [hn]; exact st.few
  have hnl : (Nt.nats ks).length = n := by rw [hn]; exact Nt.nats_length _
  have HC := Lib.hid (cloneInts_any (Nt.nats ks) (by omega) (by omega) w v base hs)
  have HSW : Hid (litK ks a = if (0 ≤ a ∧ a < (n : Int)) ∧ ks.getD a.toNat 0 = 0 then ks.set a.toNat 1 else ks) := Lib.hid (by unfold litK; rw [hn])
  have HN := Lib.hid hn
  have HS := Lib.hid hs
  obtain ⟨g, cap, rfl, _, _⟩ := hs.shape hnl hn0
  clear hs st hn
  go_enter Try.func113, Try.ntmps113
  go_wp2_with fail
  refine (HC.out).mono ?_
  rintro e w1 ⟨z, rfl, hs1, hk1⟩
  have HS1 := Lib.hid hs1
  have HK1 := Lib.hid hk1
  have HS0 := Lib.hid (HS.out.stay hk1)
  obtain ⟨g1, cap1, rfl, hg1, _⟩ := hs1.shape hnl hn0
  clear hs1 hk1 HC HS
  go_wp2_with fail
  refine (isNodeZ_any n a _).mono ?_
  rintro e w' ⟨rfl, rfl⟩
  by_cases hr : 0 ≤ a ∧ a < (n : Int)
  · rw [show decide (0 ≤ a ∧ a < (n : Int)) = true from dec_of hr]
    obtain ⟨m, rfl⟩ := Int.eq_ofNat_of_zero_le hr.1
    have hm : m < n := by omega
    have hmq : m < ks.length := by rw [← HN.out]; exact hm
    obtain ⟨y0, _⟩ := HS0.out.at m (by rw [Nt.nats_length]; exact hmq)
    obtain ⟨y2, y3⟩ := HS1.out.at m (by rw [Nt.nats_length]; exact hmq)
    rw [show (Nt.nats ks).getD m 0 = (ks.getD m 0 : Nat) from Nt.nats_get _ _] at y0 y2
    by_cases hz : ks.getD m 0 = 0
    · have HT : Hid (litK ks (m : Int) = ks.set m 1) := Lib.hid (by rw [HSW.out, if_pos ⟨hr, by rw [Int.toNat_natCast]; exact hz⟩, Int.toNat_natCast])
      rw [hz] at y0 y2
      clear hr hz
      go_wp2
      go_ret
      refine ⟨_, rfl, ?_, HK1.out.setCell (.inr hg1) _⟩
      rw [HT.out, Nt.nats_set]
      exact HS1.out.set hnl.symm m 1
    · have HT : Hid (litK ks (m : Int) = ks) := Lib.hid (by rw [HSW.out, if_neg (fun h => hz (by have h2 := h.2; rw [Int.toNat_natCast] at h2; exact h2))])
      have hz' : (((ks.getD m 0 : Nat) : Int) == 0) = false := beq_eq_false_iff_ne.2 (fun h => hz (by omega))
      generalize ((ks.getD m 0 : Nat) : Int) = zz at *
      clear hr hz
      go_wp2
      go_ret
      exact ⟨_, rfl, by rw [HT.out]; exact HS1.out, HK1.out⟩
  · rw [show decide (0 ≤ a ∧ a < (n : Int)) = false from decide_eq_false hr]
    have HT : Hid (litK ks a = ks) := Lib.hid (by rw [HSW.out, if_neg (fun h => hr h.1)])
    clear hr
    go_wp2
    go_ret
    exact ⟨_, rfl, by rw [HT.out]; exact HS1.out, HK1.out⟩
end Go.Proofs.Ytofgfhfdmkcmcaa
