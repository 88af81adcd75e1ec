/-
  Texts as lists of bytes; numbers in decimal, by the model.
-/
import Derived.Test.YtnajdbnacdnnlaaGreatDoorKA
import Derived.Test.YtnajdbnacdnnlaaGreatDoorSA
import Derived.Laws.IdiomStrings
import Derived.Laws.Concat
import Derived.WalkSpells
namespace Go.Proofs.YtnajdbnacdnnlaaGreatDoor
open Go.RowKit

/-- The bytes of a text. -/
def tx (s : ByteArray) : List Nat := s.data.toList.map UInt8.toNat
theorem tx_length (s : ByteArray) : (tx s).length = s.size := by simp [tx]
theorem tx_get {s : ByteArray} {k : Nat} (h : k < s.size) : (tx s).getD k 0 = s[k].toNat := by
  have h' : k < s.data.toList.length := by simpa using h
  simp [tx, List.getD_eq_getElem?_getD, List.getElem?_eq_getElem h']
  rfl
theorem tx_lt {s : ByteArray} {x : Nat} (h : x ∈ tx s) : x < 256 := by
  unfold tx at h
  rw [List.mem_map] at h
  obtain ⟨b, _, rfl⟩ := h
  exact b.toNat_lt
theorem tx_append (a b : ByteArray) : tx (a ++ b) = tx a ++ tx b := by simp [tx]
theorem toNat_inj : ∀ {a b : List UInt8}, a.map UInt8.toNat = b.map UInt8.toNat → a = b
  | [], [], _ => rfl
  | [], _ :: _, h => by simp at h
  | _ :: _, [], h => by simp at h
  | x :: a, y :: b, h => by
    simp at h
    rw [UInt8.toNat_inj.1 h.1, toNat_inj h.2]
theorem tx_inj {a b : ByteArray} (h : tx a = tx b) : a = b := by
  have := toNat_inj h
  cases a with
  | mk a =>
    cases b with
    | mk b =>
      simp at this
      rw [this]
theorem tx_eq (a b : ByteArray) : decide (a = b) = decide (tx a = tx b) := by
  by_cases h : a = b
  · subst h; simp
  · rw [decide_eq_false h, decide_eq_false (fun e => h (tx_inj e))]
theorem tx_mk (l : List UInt8) : tx ⟨l.toArray⟩ = l.map UInt8.toNat := by simp [tx]

set_option maxHeartbeats 1000000 in
set_option maxRecDepth 100000 in
theorem l1Number_any : ∀ (n : Nat), n < 1000000 → ∀ (w : World),
    Calls Tryz.prog 123 #[.int .i64 (n : Int)] w fun e w' => ∃ z, e = .returned (.string z) ∧ tx z = Nt.digs n ∧ Kept [] w w' := by
  intro n
  induction n using Nat.strongRecOn with
  | ind n ih =>
    intro hn w
    by_cases h : n < 10
    · have hb : (UInt8.ofNat (48 + n)).toNat = 48 + n := by
        rw [UInt8.toNat_ofNat']; omega
      have hcv := run_convert_bytes_back (P := Tryz.prog) (w.alloc (.cells #[.int .u8 (48 + (n : Int))] 5)) 22 9 5 ⟨w.heap.size, 0, none⟩ 1 [UInt8.ofNat (48 + n)] Tryz.underlying22 Tryz.underlying5 Tryz.underlying9 (fun j hj => by
        have : j = 0 := by simpa using hj
        subst this
        simp only [List.getElem_cons_zero, hb]
        simp [Addr.add])
      have HF : Hid (tx ⟨[UInt8.ofNat (48 + n)].toArray⟩ = Nt.digs n) := Lib.hid (by rw [tx_mk, Nt.digs_small h, List.map_singleton, hb])
      simp only [List.length_singleton] at hcv
      have hmx : max (n : Int) 0 = (n : Int) := by omega
      clear ih hb
      generalize (⟨[UInt8.ofNat (48 + n)].toArray⟩ : ByteArray) = z at *
      go_enter Tryz.func123, Tryz.ntmps123
      go_wp2
      go_ret
      exact ⟨_, rfl, HF.out, (Kept.refl _ _).alloc _⟩
    · have hb : (UInt8.ofNat (48 + n % 10)).toNat = 48 + n % 10 := by
        rw [UInt8.toNat_ofNat']; omega
      have HD := Lib.hid (Nt.digs_more h)
      have HIH := Lib.hid (ih (n / 10) (by omega) (by omega))
      have f1 : (n : Int).tdiv 10 = ((n / 10 : Nat) : Int) := tdiv_nat n 10
      have f2 : (n : Int).tmod 10 = ((n % 10 : Nat) : Int) := tmod_nat n 10
      have hm := Nat.mod_lt n (show 0 < 10 by omega)
      have hdn : n / 10 ≤ n := Nat.div_le_self n 10
      have hlen := Nt.digs_length (n := n / 10) 5 (by omega)
      clear ih
      generalize n / 10 = d at *
      generalize n % 10 = r at *
      have hcv : ∀ (W : World) (g : Nat), W.cell? ⟨g, 0, none⟩ = some (.int .u8 (48 + (r : Int))) → (convert 22 9 (.slice (some ⟨g, 0, none⟩) 1 1)).run Tryz.prog W = .ok (.string ⟨[UInt8.ofNat (48 + r)].toArray⟩) W := fun W g hc =>
        run_convert_bytes_back (P := Tryz.prog) W 22 9 5 ⟨g, 0, none⟩ 1 [UInt8.ofNat (48 + r)] Tryz.underlying22 Tryz.underlying5 Tryz.underlying9 (fun j hj => by
          have : j = 0 := by simpa using hj
          subst this
          simp only [List.getElem_cons_zero, hb]
          simpa [Addr.add] using hc)
      have HF : Hid (tx ⟨[UInt8.ofNat (48 + r)].toArray⟩ = [48 + r]) := Lib.hid (by rw [tx_mk, List.map_singleton, hb])
      have hs1 : (⟨[UInt8.ofNat (48 + r)].toArray⟩ : ByteArray).size = 1 := rfl
      have HS1 := Lib.hid hs1
      clear hb hs1
      generalize (⟨[UInt8.ofNat (48 + r)].toArray⟩ : ByteArray) = z2 at *
      have HNO : Hid (∀ z1 : ByteArray, tx z1 = Nt.digs d → z1.size + z2.size ≤ 9223372036854775807) := Lib.hid (fun z1 h => by
        have h1 := HS1.out
        rw [← h, tx_length] at hlen
        omega)
      have F5 := Lib.hid (show (n : Int) / 10 = (d : Int) from by rw [← f1, Int.tdiv_eq_ediv_of_nonneg (by omega)])
      have F6 := Lib.hid (show (n : Int) % 10 = (r : Int) from by rw [← f2, Int.tmod_eq_emod_of_nonneg (by omega)])
      have S1 := Lib.hid (show IntKind.i64.wrap (d : Int) = (d : Int) from IntWalk.i64_in _ (by omega))
      have S2 := Lib.hid (show wrap64 (d : Int) = (d : Int) from IntWalk.wrap64_in _ (by omega))
      have S3 := Lib.hid (show IntKind.i64.wrap (48 + (r : Int)) = 48 + (r : Int) from IntWalk.i64_in _ (by omega))
      have S4 := Lib.hid (show wrap64 (48 + (r : Int)) = 48 + (r : Int) from IntWalk.wrap64_in _ (by omega))
      have S5 := Lib.hid (show IntKind.u8.wrap (48 + (r : Int)) = 48 + (r : Int) from IntWalk.u8_in _ (by omega))
      have HCX : Hid (∀ w5 : World, Kept [] ((w.alloc (.cells #[.int .u8 (48 + (r : Int))] 5)).drew) w5 → w5.cell? ⟨w.heap.size, 0, none⟩ = some (.int .u8 (48 + (r : Int)))) := Lib.hid (fun w5 hk => by
        refine (hk.cell (p := ⟨w.heap.size, 0, none⟩) ?_ ?_).trans ?_ <;> simp)
      have HCX2 : Hid (∀ w5 : World, Kept [] (w.alloc (.cells #[.int .u8 (48 + (r : Int))] 5)) w5 → w5.cell? ⟨w.heap.size, 0, none⟩ = some (.int .u8 (48 + (r : Int)))) := Lib.hid (fun w5 hk => by
        refine (hk.cell (p := ⟨w.heap.size, 0, none⟩) ?_ ?_).trans ?_ <;> simp)
      clear hlen
      go_enter Tryz.func123, Tryz.ntmps123
      go_wp2_with fail
      have f5 := F5.out
      have f6 := F6.out
      have s1 := S1.out
      have s2 := S2.out
      have s3 := S3.out
      have s4 := S4.out
      have s5 := S5.out
      go_region_law (first
        | (go_simp; go_at_call 123; ((with_reducible refine (HIH.out _).mono ?_); rintro e w5 ⟨z1, rfl, hz1, hk1⟩; have HK1 := Lib.hid hk1; (first | (have cx := HCX.out w5 hk1) | (have cx := HCX2.out w5 hk1) | skip); have hno : ¬ (z1.size + z2.size > 9223372036854775807) := Nat.not_lt.2 (HNO.out z1 hz1); obtain ⟨y, hy⟩ : ∃ y, z1 ++ z2 = y := ⟨_, rfl⟩; have HY : Hid (tx y = Nt.digs n) := Lib.hid (by rw [← hy, tx_append, hz1, HF.out, HD.out]); have hadd : ∀ W : World, (Op.stringOp .add z1 z2).run Tryz.prog W = .ok (.string y) W := (fun W => by rw [← hy]; exact run_string_add_sum W z1 z2 (HNO.out z1 hz1)); clear hy hz1 hk1)))
      all_goals
        go_wp2
        go_ret
        first
          | exact ⟨_, rfl, HY.out, ((Kept.refl [] w).drew.trans (rows' := []) HK1.out (by simp)).alloc _⟩
          | exact ⟨_, rfl, HY.out, (((Kept.refl [] w).alloc _).drew).trans (rows' := []) HK1.out (by simp)⟩
          | exact ⟨_, rfl, HY.out, HK1.out.alloc _⟩
          | exact ⟨_, rfl, HY.out, ((Kept.refl [] w).alloc _).trans (rows' := []) HK1.out (by simp)⟩
end Go.Proofs.YtnajdbnacdnnlaaGreatDoor
