/-
  The law PlaceText, walked.
-/
import Derived.Test.YtaacehdfpoiljaaDoorD40
import Derived.Test.YtaacehdfpoiljaaDoorDQP
import Derived.Test.YtaacehdfpoiljaaDoorIQ3
namespace Go.Proofs.YtaacehdfpoiljaaDoor
open Go.RowKit

set_option maxHeartbeats 4000000 in
set_option maxRecDepth 100000 in
theorem FnPlaceText_calls (w : World) (v : Value) (ha : ArgB w v) (he : ErrW w) :
    Calls Tryd.prog 3 #[v] w fun e w' => e = .returned (.bool true) ∧ Kept [] w w' := by
  have HA := Lib.hid ha
  have HE := Lib.hid he
  clear he
  obtain ⟨a0, len0, cap0, rfl, hlc0, hcm0, _⟩ := ha
  by_cases hbig0 : 1048576 < len0
  · have hb : (1048576 : Int) < (len0 : Int) := by omega
    clear hbig0
    go_enter Tryd.func3, Tryd.ntmps3
    go_wp2
    go_ret
    exact ⟨rfl, Kept.refl _ _⟩
  have hb0 : ¬ (1048576 : Int) < (len0 : Int) := by omega
  clear hbig0
  have K1 := Lib.hid (Kept.refl [] w)
  go_enter Tryd.func3, Tryd.ntmps3
  go_wp2_with fail
  refine (drawPlaceText_any _ _ HA.out).mono ?_
  rintro e w1 ⟨y, p, rfl, hp, hl, hk⟩
  have P3 := Lib.hid (hp.mono (Nat.zero_le _))
  obtain ⟨a2, n2, q2, b2, m2, r2, rfl⟩ := P3.out.form
  have K4 := Lib.hid (K1.out.trans hk (by simp))
  clear K1
  have Z5 := Lib.hid (Kept.size (rows := []) hk)
  clear hk hp hl hb0
  have K6 := Lib.hid (Kept.refl [] w1)
  have hka : Kept [] w1 (w1.alloc (.cells #[.slice a2 n2 q2, .int .i64 p.c, .slice b2 m2 r2] 25)) := (Kept.refl _ _).alloc _
  have B7 := Lib.hid (Bk.new w1 25 #[.slice a2 n2 q2, .int .i64 p.c, .slice b2 m2 r2])
  have Z8 := Lib.hid (show w1.heap.size + 1 ≤ (w1.alloc (.cells #[.slice a2 n2 q2, .int .i64 p.c, .slice b2 m2 r2] 25)).heap.size from by simp)
  have K9 := Lib.hid (K4.out.trans hka (by simp))
  clear K4
  have K10 := Lib.hid (K6.out.trans hka (by simp))
  clear K6
  have Z11 := Lib.hid (Kept.size (rows := []) hka)
  clear hka
  have K13 := Lib.hid (Kept.refl [] (w1.alloc (.cells #[.slice a2 n2 q2, .int .i64 p.c, .slice b2 m2 r2] 25)))
  obtain ⟨c14, c15, c16⟩ := (B7.out.stay K13.out).three
  go_wp2_with fail
  generalize (w1.alloc (.cells #[.slice a2 n2 q2, .int .i64 p.c, .slice b2 m2 r2] 25)) = W12 at *
  refine (iPlaceText_any p _ _ 0 (P3.out.stay K10.out)).mono ?_
  rintro e w2 ⟨z, rfl, hz, hk⟩
  clear c14 c15 c16
  have HZ := Lib.hid hz
  have K17 := Lib.hid (K9.out.trans hk (by simp))
  clear K9
  have K18 := Lib.hid (K10.out.trans hk (by simp))
  clear K10
  have K19 := Lib.hid (K13.out.trans hk (by simp))
  clear K13
  have Z20 := Lib.hid (Kept.size (rows := []) hk)
  clear hk hz
  obtain ⟨c21, c22, c23⟩ := (B7.out.stay K19.out).three
  go_wp2_with fail
  refine (sPlaceText_any p _ _ 0 (P3.out.stay K18.out)).mono ?_
  rintro e w3 ⟨z', rfl, hz, hk⟩
  clear c21 c22 c23
  have d1 : (z.toList == z'.toList) = true := str_yes (by rw [HZ.out, hz])
  have K24 := Lib.hid (K17.out.trans hk (by simp))
  clear K17
  have K25 := Lib.hid (K18.out.trans hk (by simp))
  clear K18
  have K26 := Lib.hid (K19.out.trans hk (by simp))
  clear K19
  have Z27 := Lib.hid (Kept.size (rows := []) hk)
  clear hk hz
  generalize hok : Nt.plB p = ok at *
  have HOK := Lib.hid hok
  clear hok
  cases ok
  · skip
    have d3 := empty_yes (s := z) (by rw [HZ.out, Nt.ptxt_no HOK.out])
    obtain ⟨c28, c29, c30⟩ := (B7.out.stay K26.out).three
    go_wp2_with fail
    refine (iPlaceOk_any p _ _ 0 (P3.out.stay K25.out)).mono ?_
    rintro e w4 ⟨rfl, hk⟩
    clear c28 c29 c30
    have K31 := Lib.hid (K24.out.trans hk (by simp))
    clear K24
    have K32 := Lib.hid (K25.out.trans hk (by simp))
    clear K25
    have K33 := Lib.hid (K26.out.trans hk (by simp))
    clear K26
    have Z34 := Lib.hid (Kept.size (rows := []) hk)
    clear hk
    rw [HOK.out]
    go_wp2_with fail
    refine (alive_any _).mono ?_
    rintro e w5 ⟨rfl, hk⟩
    have K35 := Lib.hid (K31.out.trans hk (by simp))
    clear K31
    have K36 := Lib.hid (K32.out.trans hk (by simp))
    clear K32
    have K37 := Lib.hid (K33.out.trans hk (by simp))
    clear K33
    have Z38 := Lib.hid (Kept.size (rows := []) hk)
    clear hk
    go_wp2
    go_ret
    exact ⟨rfl, K35.out⟩
  · skip
    obtain ⟨q, hq, hqk⟩ := Nt.plB_ok HOK.out
    have d3 := empty_no (s := z) (by rw [HZ.out]; exact fun e => by have := Nt.ptxt_ne.1 e; rw [HOK.out] at this; cases this)
    have HRP := Lib.hid (show Nt.readP (tx z) = some q from Nt.readP_some.2 ⟨hqk, by rw [HZ.out, hq, Nt.ptxt_ok hqk]⟩)
    have HZS : Hid (z.size ≤ 1100000) := Lib.hid (by rw [← tx_length, HZ.out]; exact Nat.le_trans (ptxt_small p) (by omega))
    have HQ := Lib.hid hq
    clear hq hqk
    go_wp2_with fail
    refine (iReadPlace_any z HZS.out _ (HE.out.stay K24.out)).mono ?_
    rintro e w6 ⟨y2, rfl, hp, hk⟩
    rw [(Nt.readPI_some HRP.out).1, ← HQ.out] at hp
    rw [(Nt.readPI_some HRP.out).2]
    have P40 := Lib.hid (hp)
    obtain ⟨a39, n39, q39, b39, m39, r39, rfl⟩ := P40.out.form
    have K41 := Lib.hid (K24.out.trans hk (by simp))
    clear K24
    have K42 := Lib.hid (K25.out.trans hk (by simp))
    clear K25
    have K43 := Lib.hid (K26.out.trans hk (by simp))
    clear K26
    have Z44 := Lib.hid (Kept.size (rows := []) hk)
    clear hk hp
    have K45 := Lib.hid (Kept.refl [] w6)
    have hka : Kept [] w6 (w6.alloc (.cells #[.slice a39 n39 q39, .int .i64 p.c, .slice b39 m39 r39] 25)) := (Kept.refl _ _).alloc _
    have B46 := Lib.hid (Bk.new w6 25 #[.slice a39 n39 q39, .int .i64 p.c, .slice b39 m39 r39])
    have Z47 := Lib.hid (show w6.heap.size + 1 ≤ (w6.alloc (.cells #[.slice a39 n39 q39, .int .i64 p.c, .slice b39 m39 r39] 25)).heap.size from by simp)
    have K48 := Lib.hid (K41.out.trans hka (by simp))
    clear K41
    have K49 := Lib.hid (K42.out.trans hka (by simp))
    clear K42
    have K50 := Lib.hid (K43.out.trans hka (by simp))
    clear K43
    have K51 := Lib.hid (K45.out.trans hka (by simp))
    clear K45
    have Z52 := Lib.hid (Kept.size (rows := []) hka)
    clear hka
    have K54 := Lib.hid (Kept.refl [] (w6.alloc (.cells #[.slice a39 n39 q39, .int .i64 p.c, .slice b39 m39 r39] 25)))
    obtain ⟨c55, c56, c57⟩ := (B46.out.stay K54.out).three
    obtain ⟨c58, c59, c60⟩ := (B7.out.stay K50.out).three
    go_wp2_with fail
    generalize (w6.alloc (.cells #[.slice a39 n39 q39, .int .i64 p.c, .slice b39 m39 r39] 25)) = W53 at *
    refine (lSamePlace_any p p _ _ _ _ 0 (P40.out.stay K51.out) (P3.out.stay K49.out)).mono ?_
    rintro e w7 ⟨rfl, hk⟩
    clear c55 c56 c57 c58 c59 c60
    have K61 := Lib.hid (K48.out.trans hk (by simp))
    clear K48
    have K62 := Lib.hid (K49.out.trans hk (by simp))
    clear K49
    have K63 := Lib.hid (K50.out.trans hk (by simp))
    clear K50
    have K64 := Lib.hid (K51.out.trans hk (by simp))
    clear K51
    have K65 := Lib.hid (K54.out.trans hk (by simp))
    clear K54
    have Z66 := Lib.hid (Kept.size (rows := []) hk)
    clear hk
    rw [dec_of rfl]
    go_wp2
    go_ret
    exact ⟨rfl, K61.out⟩
end Go.Proofs.YtaacehdfpoiljaaDoor
