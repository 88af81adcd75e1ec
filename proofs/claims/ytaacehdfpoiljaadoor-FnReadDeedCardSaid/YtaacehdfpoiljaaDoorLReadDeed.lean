/-
  The law ReadDeed, walked.
-/
import Derived.Test.YtaacehdfpoiljaaDoorD41
import Derived.Test.YtaacehdfpoiljaaDoorL1
import Derived.Test.YtaacehdfpoiljaaDoorIQ4
namespace Go.Proofs.YtaacehdfpoiljaaDoor
open Go.RowKit

set_option maxHeartbeats 4000000 in
set_option maxRecDepth 100000 in
theorem FnReadDeed_calls (w : World) (v : Value) (ha : ArgB w v) (he : ErrW w) :
    Calls Tryd.prog 6 #[v] w fun e w' => e = .returned (.bool true) ∧ Kept [] w w' := by
  have HA := Lib.hid ha
  have HE := Lib.hid he
  clear he
  obtain ⟨a0, len0, cap0, rfl, hlc0, hcm0, _⟩ := ha
  by_cases hbig0 : 1048576 < len0
  · have hb : (1048576 : Int) < (len0 : Int) := by omega
    clear hbig0
    go_enter Tryd.func6, Tryd.ntmps6
    go_wp2
    go_ret
    exact ⟨rfl, Kept.refl _ _⟩
  have hb0 : ¬ (1048576 : Int) < (len0 : Int) := by omega
  clear hbig0
  have K1 := Lib.hid (Kept.refl [] w)
  go_enter Tryd.func6, Tryd.ntmps6
  go_wp2_with fail
  refine (drawReadDeed_any _ _ HA.out).mono ?_
  rintro e w1 ⟨z, rfl, hzl, hk⟩
  have HZS : Hid (z.size ≤ 1100000) := Lib.hid (by omega)
  have HZ2 : Hid ((z ++ ⟨#[32]⟩ : ByteArray).size ≤ 1100000) := Lib.hid (by rw [ByteArray.size_append]; show z.size + 1 ≤ _; omega)
  have K2 := Lib.hid (K1.out.trans hk (by simp))
  clear K1
  have Z3 := Lib.hid (Kept.size (rows := []) hk)
  clear hk hzl hb0
  go_wp2_with fail
  refine (iReadDeed_any z HZS.out _ (HE.out.stay K2.out)).mono ?_
  rintro e w2 ⟨rfl, hk⟩
  generalize hD : rdD (tx z) = D at *
  have HD := Lib.hid hD
  generalize hOK : rdB (tx z) = ok at *
  have HOK := Lib.hid hOK
  clear hD hOK
  obtain ⟨k, a, b⟩ := D
  rw [dv_eq]
  have K4 := Lib.hid (K2.out.trans hk (by simp))
  clear K2
  have Z5 := Lib.hid (Kept.size (rows := []) hk)
  clear hk
  have hka : Kept [] w2 (w2.alloc (.cells #[.int .i64 k, .int .i64 a, .int .i64 b] 36)) := (Kept.refl _ _).alloc _
  have B6 := Lib.hid (Bk.new w2 36 #[.int .i64 k, .int .i64 a, .int .i64 b])
  have Z7 := Lib.hid (show w2.heap.size + 1 ≤ (w2.alloc (.cells #[.int .i64 k, .int .i64 a, .int .i64 b] 36)).heap.size from by simp)
  have K8 := Lib.hid (K4.out.trans hka (by simp))
  clear K4
  have Z9 := Lib.hid (Kept.size (rows := []) hka)
  clear hka
  have K11 := Lib.hid (Kept.refl [] (w2.alloc (.cells #[.int .i64 k, .int .i64 a, .int .i64 b] 36)))
  go_wp2_with fail
  generalize (w2.alloc (.cells #[.int .i64 k, .int .i64 a, .int .i64 b] 36)) = W10 at *
  refine (sReadDeed_any z HZS.out _).mono ?_
  rintro e w3 ⟨rfl, hk⟩
  rw [HD.out, HOK.out, dv_eq]
  have K12 := Lib.hid (K8.out.trans hk (by simp))
  clear K8
  have K13 := Lib.hid (K11.out.trans hk (by simp))
  clear K11
  have Z14 := Lib.hid (Kept.size (rows := []) hk)
  clear hk
  have hka : Kept [] w3 (w3.alloc (.cells #[.int .i64 k, .int .i64 a, .int .i64 b] 36)) := (Kept.refl _ _).alloc _
  have B15 := Lib.hid (Bk.new w3 36 #[.int .i64 k, .int .i64 a, .int .i64 b])
  have Z16 := Lib.hid (show w3.heap.size + 1 ≤ (w3.alloc (.cells #[.int .i64 k, .int .i64 a, .int .i64 b] 36)).heap.size from by simp)
  have K17 := Lib.hid (K12.out.trans hka (by simp))
  clear K12
  have K18 := Lib.hid (K13.out.trans hka (by simp))
  clear K13
  have Z19 := Lib.hid (Kept.size (rows := []) hka)
  clear hka
  have K21 := Lib.hid (Kept.refl [] (w3.alloc (.cells #[.int .i64 k, .int .i64 a, .int .i64 b] 36)))
  have d5 : (k == k) = true := by simp
  have d6 : (a == a) = true := by simp
  have d7 : (b == b) = true := by simp
  have d8 : (k != k) = false := by simp
  have d9 : (a != a) = false := by simp
  have d10 : (b != b) = false := by simp
  cases ok
  · skip
    have HN : Nt.readD (tx z) = none := by cases e : Nt.readD (tx z) with | none => rfl | some d => (have h := (rd_some e).2; rw [HOK.out] at h; cases h)
    obtain ⟨h0k, h0a, h0b⟩ : k = 0 ∧ a = 0 ∧ b = 0 := by have h := (rd_none HN).1; rw [HD.out] at h; simpa using h
    clear HN
    have z0 : (k == 0) = true := by simp [h0k]
    have y0 : (k != 0) = false := by simp [h0k]
    have z1 : (a == 0) = true := by simp [h0a]
    have y1 : (a != 0) = false := by simp [h0a]
    have z2 : (b == 0) = true := by simp [h0b]
    have y2 : (b != 0) = false := by simp [h0b]
    clear h0k h0a h0b
    obtain ⟨c22, c23, c24⟩ := (B6.out.stay K18.out).three
    obtain ⟨c25, c26, c27⟩ := (B15.out.stay K21.out).three
    go_wp2_with fail
    generalize (w3.alloc (.cells #[.int .i64 k, .int .i64 a, .int .i64 b] 36)) = W20 at *
    refine (alive_any _).mono ?_
    rintro e w4 ⟨rfl, hk⟩
    clear c22 c23 c24 c25 c26 c27
    have K28 := Lib.hid (K17.out.trans hk (by simp))
    clear K17
    have K29 := Lib.hid (K18.out.trans hk (by simp))
    clear K18
    have K30 := Lib.hid (K21.out.trans hk (by simp))
    clear K21
    have Z31 := Lib.hid (Kept.size (rows := []) hk)
    clear hk
    go_wp2
    go_ret
    exact ⟨rfl, K28.out⟩
  · skip
    obtain ⟨d, hd⟩ : ∃ d, Nt.readD (tx z) = some d := by cases e : Nt.readD (tx z) with | none => (have h := (rd_none e).2; rw [HOK.out] at h; cases h) | some d => exact ⟨d, rfl⟩
    obtain rfl : d = ⟨k, a, b⟩ := by have h := (rd_some hd).1; rw [HD.out] at h; exact h.symm
    have HT : Hid (Nt.deedT ⟨k, a, b⟩ = tx z) := Lib.hid (Nt.readD_some.1 hd).1
    have HNO : Hid (rdB (tx (z ++ ⟨#[32]⟩)) = false) := Lib.hid (by cases e : Nt.readD (tx (z ++ ⟨#[32]⟩)) with | none => exact (rd_none e).2 | some r => (have h2 := (Nt.readD_some.1 e).1; rw [tx_append, ← HT.out] at h2; exact absurd h2.symm (Nt.deedT_space (Nt.readD_ok hd))))
    clear hd
    have hcat : ∀ W : World, (Op.stringOp .add z ⟨#[32]⟩).run Tryd.prog W = .ok (.string (z ++ ⟨#[32]⟩)) W := fun W => run_string_add_sum W z ⟨#[32]⟩ (by have := HZS.out; show z.size + 1 ≤ _; omega)
    obtain ⟨c32, c33, c34⟩ := (B6.out.stay K18.out).three
    obtain ⟨c35, c36, c37⟩ := (B15.out.stay K21.out).three
    go_wp2_with fail
    generalize (w3.alloc (.cells #[.int .i64 k, .int .i64 a, .int .i64 b] 36)) = W20 at *
    refine (iReadDeed_any _ HZ2.out _ (HE.out.stay K17.out)).mono ?_
    rintro e w5 ⟨rfl, hk⟩
    clear c32 c33 c34 c35 c36 c37
    rw [HNO.out]
    clear hcat
    generalize hD3 : rdD (tx (z ++ ⟨#[32]⟩)) = D3 at *
    clear hD3
    obtain ⟨k3, a3, b3⟩ := D3
    rw [dv_eq]
    have K38 := Lib.hid (K17.out.trans hk (by simp))
    clear K17
    have K39 := Lib.hid (K18.out.trans hk (by simp))
    clear K18
    have K40 := Lib.hid (K21.out.trans hk (by simp))
    clear K21
    have Z41 := Lib.hid (Kept.size (rows := []) hk)
    clear hk
    have hka : Kept [] w5 (w5.alloc (.cells #[.int .i64 k3, .int .i64 a3, .int .i64 b3] 36)) := (Kept.refl _ _).alloc _
    have B42 := Lib.hid (Bk.new w5 36 #[.int .i64 k3, .int .i64 a3, .int .i64 b3])
    have Z43 := Lib.hid (show w5.heap.size + 1 ≤ (w5.alloc (.cells #[.int .i64 k3, .int .i64 a3, .int .i64 b3] 36)).heap.size from by simp)
    have K44 := Lib.hid (K38.out.trans hka (by simp))
    clear K38
    have K45 := Lib.hid (K39.out.trans hka (by simp))
    clear K39
    have K46 := Lib.hid (K40.out.trans hka (by simp))
    clear K40
    have Z47 := Lib.hid (Kept.size (rows := []) hka)
    clear hka
    have K49 := Lib.hid (Kept.refl [] (w5.alloc (.cells #[.int .i64 k3, .int .i64 a3, .int .i64 b3] 36)))
    obtain ⟨c50, c51, c52⟩ := (B6.out.stay K45.out).three
    go_wp2_with fail
    generalize (w5.alloc (.cells #[.int .i64 k3, .int .i64 a3, .int .i64 b3] 36)) = W48 at *
    refine (iDeedText_any k a b _).mono ?_
    rintro e w6 ⟨z2, rfl, hz, hk⟩
    clear c50 c51 c52
    have d11 : (z2.toList == z.toList) = true := str_yes (by rw [hz, HT.out])
    have K53 := Lib.hid (K44.out.trans hk (by simp))
    clear K44
    have K54 := Lib.hid (K45.out.trans hk (by simp))
    clear K45
    have K55 := Lib.hid (K46.out.trans hk (by simp))
    clear K46
    have K56 := Lib.hid (K49.out.trans hk (by simp))
    clear K49
    have Z57 := Lib.hid (Kept.size (rows := []) hk)
    clear hk hz
    go_wp2
    go_ret
    exact ⟨rfl, K53.out⟩
end Go.Proofs.YtaacehdfpoiljaaDoor
