/-
  The law ReadPlace, walked.
-/
import Derived.Test.YtaacehdfpoiljaaDoorD41
import Derived.Test.YtaacehdfpoiljaaDoorDQP
import Derived.Test.YtaacehdfpoiljaaDoorIQ3
namespace Go.Proofs.YtaacehdfpoiljaaDoor
open Go.RowKit

set_option maxHeartbeats 4000000 in
set_option maxRecDepth 100000 in
theorem FnReadPlace_calls (w : World) (v : Value) (ha : ArgB w v) (he : ErrW w) :
    Calls Tryd.prog 4 #[v] w fun e w' => e = .returned (.bool true) ∧ Kept [] w w' := by
  have HA := Lib.hid ha
  have HE := Lib.hid he
  clear he
  obtain ⟨a0, len0, cap0, rfl, hlc0, hcm0, _⟩ := ha
  by_cases hbig0 : 1048576 < len0
  · have hb : (1048576 : Int) < (len0 : Int) := by omega
    clear hbig0
    go_enter Tryd.func4, Tryd.ntmps4
    go_wp2
    go_ret
    exact ⟨rfl, Kept.refl _ _⟩
  have hb0 : ¬ (1048576 : Int) < (len0 : Int) := by omega
  clear hbig0
  have K1 := Lib.hid (Kept.refl [] w)
  go_enter Tryd.func4, Tryd.ntmps4
  go_wp2_with fail
  refine (drawReadPlace_any _ _ HA.out).mono ?_
  rintro e w1 ⟨z, rfl, hzl, hk⟩
  have HZS : Hid (z.size ≤ 1100000) := Lib.hid (by omega)
  have HZ2 : Hid ((z ++ ⟨#[32]⟩ : ByteArray).size ≤ 1100000) := Lib.hid (by rw [ByteArray.size_append]; show z.size + 1 ≤ _; omega)
  have K2 := Lib.hid (K1.out.trans hk (by simp))
  clear K1
  have Z3 := Lib.hid (Kept.size (rows := []) hk)
  clear hk hzl hb0
  go_wp2_with fail
  refine (iReadPlace_any z HZS.out _ (HE.out.stay K2.out)).mono ?_
  rintro e w2 ⟨y, rfl, hp, hk⟩
  generalize hP : Nt.readPI (tx z) = P at *
  have HP := Lib.hid hP
  generalize hOK : Nt.readPB (tx z) = ok at *
  have HOK := Lib.hid hOK
  clear hP hOK
  have P5 := Lib.hid (hp)
  obtain ⟨a4, n4, q4, b4, m4, r4, rfl⟩ := P5.out.form
  have K6 := Lib.hid (K2.out.trans hk (by simp))
  clear K2
  have Z7 := Lib.hid (Kept.size (rows := []) hk)
  clear hk hp
  have K8 := Lib.hid (Kept.refl [] w2)
  have hka : Kept [] w2 (w2.alloc (.cells #[.slice a4 n4 q4, .int .i64 P.c, .slice b4 m4 r4] 25)) := (Kept.refl _ _).alloc _
  have B9 := Lib.hid (Bk.new w2 25 #[.slice a4 n4 q4, .int .i64 P.c, .slice b4 m4 r4])
  have Z10 := Lib.hid (show w2.heap.size + 1 ≤ (w2.alloc (.cells #[.slice a4 n4 q4, .int .i64 P.c, .slice b4 m4 r4] 25)).heap.size from by simp)
  have K11 := Lib.hid (K6.out.trans hka (by simp))
  clear K6
  have K12 := Lib.hid (K8.out.trans hka (by simp))
  clear K8
  have Z13 := Lib.hid (Kept.size (rows := []) hka)
  clear hka
  have K15 := Lib.hid (Kept.refl [] (w2.alloc (.cells #[.slice a4 n4 q4, .int .i64 P.c, .slice b4 m4 r4] 25)))
  go_wp2_with fail
  generalize (w2.alloc (.cells #[.slice a4 n4 q4, .int .i64 P.c, .slice b4 m4 r4] 25)) = W14 at *
  refine (sReadPlace_any z HZS.out _).mono ?_
  rintro e w3 ⟨y2, rfl, hp, hk⟩
  rw [HOK.out]
  rw [HP.out] at hp
  have P17 := Lib.hid (hp)
  obtain ⟨a16, n16, q16, b16, m16, r16, rfl⟩ := P17.out.form
  have K18 := Lib.hid (K11.out.trans hk (by simp))
  clear K11
  have K19 := Lib.hid (K12.out.trans hk (by simp))
  clear K12
  have K20 := Lib.hid (K15.out.trans hk (by simp))
  clear K15
  have Z21 := Lib.hid (Kept.size (rows := []) hk)
  clear hk hp
  have K22 := Lib.hid (Kept.refl [] w3)
  have hka : Kept [] w3 (w3.alloc (.cells #[.slice a16 n16 q16, .int .i64 P.c, .slice b16 m16 r16] 25)) := (Kept.refl _ _).alloc _
  have B23 := Lib.hid (Bk.new w3 25 #[.slice a16 n16 q16, .int .i64 P.c, .slice b16 m16 r16])
  have Z24 := Lib.hid (show w3.heap.size + 1 ≤ (w3.alloc (.cells #[.slice a16 n16 q16, .int .i64 P.c, .slice b16 m16 r16] 25)).heap.size from by simp)
  have K25 := Lib.hid (K18.out.trans hka (by simp))
  clear K18
  have K26 := Lib.hid (K19.out.trans hka (by simp))
  clear K19
  have K27 := Lib.hid (K20.out.trans hka (by simp))
  clear K20
  have K28 := Lib.hid (K22.out.trans hka (by simp))
  clear K22
  have Z29 := Lib.hid (Kept.size (rows := []) hka)
  clear hka
  have K31 := Lib.hid (Kept.refl [] (w3.alloc (.cells #[.slice a16 n16 q16, .int .i64 P.c, .slice b16 m16 r16] 25)))
  obtain ⟨c32, c33, c34⟩ := (B9.out.stay K27.out).three
  obtain ⟨c35, c36, c37⟩ := (B23.out.stay K31.out).three
  go_wp2_with fail
  generalize (w3.alloc (.cells #[.slice a16 n16 q16, .int .i64 P.c, .slice b16 m16 r16] 25)) = W30 at *
  refine (lSamePlace_any P P _ _ _ _ _ (P5.out.stay K26.out) (P17.out.stay K28.out)).mono ?_
  rintro e w4 ⟨rfl, hk⟩
  clear c32 c33 c34 c35 c36 c37
  have K38 := Lib.hid (K25.out.trans hk (by simp))
  clear K25
  have K39 := Lib.hid (K26.out.trans hk (by simp))
  clear K26
  have K40 := Lib.hid (K27.out.trans hk (by simp))
  clear K27
  have K41 := Lib.hid (K28.out.trans hk (by simp))
  clear K28
  have K42 := Lib.hid (K31.out.trans hk (by simp))
  clear K31
  have Z43 := Lib.hid (Kept.size (rows := []) hk)
  clear hk
  rw [dec_of rfl]
  cases ok
  · skip
    have HZR : Hid (P = Nt.Pi.zero) := Lib.hid (by rw [← HP.out]; cases e : Nt.readP (tx z) with | none => exact (Nt.readPI_none e).1 | some q => have h := (Nt.readPI_some e).2; rw [HOK.out] at h; cases h)
    obtain ⟨c44, c45, c46⟩ := (B9.out.stay K40.out).three
    go_wp2_with fail
    refine (lSamePlace_any P Nt.Pi.zero _ _ _ _ 0 (P5.out.stay K39.out) (Pv.zero _ _)).mono ?_
    rintro e w5 ⟨rfl, hk⟩
    clear c44 c45 c46
    have K47 := Lib.hid (K38.out.trans hk (by simp))
    clear K38
    have K48 := Lib.hid (K39.out.trans hk (by simp))
    clear K39
    have K49 := Lib.hid (K40.out.trans hk (by simp))
    clear K40
    have K50 := Lib.hid (K41.out.trans hk (by simp))
    clear K41
    have K51 := Lib.hid (K42.out.trans hk (by simp))
    clear K42
    have Z52 := Lib.hid (Kept.size (rows := []) hk)
    clear hk
    rw [dec_of HZR.out]
    go_wp2_with fail
    refine (alive_any _).mono ?_
    rintro e w6 ⟨rfl, hk⟩
    have K53 := Lib.hid (K47.out.trans hk (by simp))
    clear K47
    have K54 := Lib.hid (K48.out.trans hk (by simp))
    clear K48
    have K55 := Lib.hid (K49.out.trans hk (by simp))
    clear K49
    have K56 := Lib.hid (K50.out.trans hk (by simp))
    clear K50
    have K57 := Lib.hid (K51.out.trans hk (by simp))
    clear K51
    have Z58 := Lib.hid (Kept.size (rows := []) hk)
    clear hk
    go_wp2
    go_ret
    exact ⟨rfl, K53.out⟩
  · skip
    obtain ⟨q, hq⟩ : ∃ q, Nt.readP (tx z) = some q := by cases e : Nt.readP (tx z) with | none => (have h := (Nt.readPI_none e).2; rw [HOK.out] at h; cases h) | some q => exact ⟨q, rfl⟩
    have HPQ : Hid (P = q.i ∧ Nt.POk q ∧ q.t = tx z) := Lib.hid ⟨by rw [← HP.out, (Nt.readPI_some hq).1], Nt.readP_some.1 hq⟩
    have HNO : Hid (Nt.readPB (tx (z ++ ⟨#[32]⟩)) = false) := Lib.hid (by cases e : Nt.readP (tx (z ++ ⟨#[32]⟩)) with | none => exact (Nt.readPI_none e).2 | some r => (obtain ⟨h1, h2⟩ := Nt.readP_some.1 e; rw [tx_append, ← HPQ.out.2.2] at h2; exact absurd h2.symm (Nt.placeT_space HPQ.out.2.1.ok h1.ok HPQ.out.2.1.st h1.st)))
    clear hq
    have hcat : ∀ W : World, (Op.stringOp .add z ⟨#[32]⟩).run Tryd.prog W = .ok (.string (z ++ ⟨#[32]⟩)) W := fun W => run_string_add_sum W z ⟨#[32]⟩ (by have := HZS.out; show z.size + 1 ≤ _; omega)
    go_wp2_with fail
    refine (iReadPlace_any _ HZ2.out _ (HE.out.stay K38.out)).mono ?_
    rintro e w7 ⟨y3, rfl, hp, hk⟩
    rw [HNO.out]
    have P60 := Lib.hid (hp)
    obtain ⟨a59, n59, q59, b59, m59, r59, rfl⟩ := P60.out.form
    have K61 := Lib.hid (K38.out.trans hk (by simp))
    clear K38
    have K62 := Lib.hid (K39.out.trans hk (by simp))
    clear K39
    have K63 := Lib.hid (K40.out.trans hk (by simp))
    clear K40
    have K64 := Lib.hid (K41.out.trans hk (by simp))
    clear K41
    have K65 := Lib.hid (K42.out.trans hk (by simp))
    clear K42
    have Z66 := Lib.hid (Kept.size (rows := []) hk)
    clear hk hp
    have K67 := Lib.hid (Kept.refl [] w7)
    have hka : Kept [] w7 (w7.alloc (.cells #[.slice a59 n59 q59, .int .i64 (Nt.readPI (tx (z ++ ⟨#[32]⟩))).c, .slice b59 m59 r59] 25)) := (Kept.refl _ _).alloc _
    have B68 := Lib.hid (Bk.new w7 25 #[.slice a59 n59 q59, .int .i64 (Nt.readPI (tx (z ++ ⟨#[32]⟩))).c, .slice b59 m59 r59])
    have Z69 := Lib.hid (show w7.heap.size + 1 ≤ (w7.alloc (.cells #[.slice a59 n59 q59, .int .i64 (Nt.readPI (tx (z ++ ⟨#[32]⟩))).c, .slice b59 m59 r59] 25)).heap.size from by simp)
    have K70 := Lib.hid (K61.out.trans hka (by simp))
    clear K61
    have K71 := Lib.hid (K62.out.trans hka (by simp))
    clear K62
    have K72 := Lib.hid (K63.out.trans hka (by simp))
    clear K63
    have K73 := Lib.hid (K64.out.trans hka (by simp))
    clear K64
    have K74 := Lib.hid (K65.out.trans hka (by simp))
    clear K65
    have K75 := Lib.hid (K67.out.trans hka (by simp))
    clear K67
    have Z76 := Lib.hid (Kept.size (rows := []) hka)
    clear hka
    have K78 := Lib.hid (Kept.refl [] (w7.alloc (.cells #[.slice a59 n59 q59, .int .i64 (Nt.readPI (tx (z ++ ⟨#[32]⟩))).c, .slice b59 m59 r59] 25)))
    obtain ⟨c79, c80, c81⟩ := (B9.out.stay K72.out).three
    go_wp2_with fail
    generalize (w7.alloc (.cells #[.slice a59 n59 q59, .int .i64 (Nt.readPI (tx (z ++ ⟨#[32]⟩))).c, .slice b59 m59 r59] 25)) = W77 at *
    refine (iPlaceText_any P _ _ _ (P5.out.stay K71.out)).mono ?_
    rintro e w8 ⟨z2, rfl, hz, hk⟩
    clear c79 c80 c81
    have d9 : (z2.toList == z.toList) = true := str_yes (by rw [hz, HPQ.out.1, Nt.ptxt_ok HPQ.out.2.1, HPQ.out.2.2])
    have K82 := Lib.hid (K70.out.trans hk (by simp))
    clear K70
    have K83 := Lib.hid (K71.out.trans hk (by simp))
    clear K71
    have K84 := Lib.hid (K72.out.trans hk (by simp))
    clear K72
    have K85 := Lib.hid (K73.out.trans hk (by simp))
    clear K73
    have K86 := Lib.hid (K74.out.trans hk (by simp))
    clear K74
    have K87 := Lib.hid (K75.out.trans hk (by simp))
    clear K75
    have K88 := Lib.hid (K78.out.trans hk (by simp))
    clear K78
    have Z89 := Lib.hid (Kept.size (rows := []) hk)
    clear hk hz
    go_wp2
    go_ret
    exact ⟨rfl, K82.out⟩
end Go.Proofs.YtaacehdfpoiljaaDoor
