/-
  The walk of an exact law: ReadPlace of the program answers as its model does.
-/
import Derived.Test.YtaacehdfpoiljaaDoorEP
import Derived.Test.YtaacehdfpoiljaaDoorIQ3N
namespace Go.Proofs.YtaacehdfpoiljaaDoor
open Go.RowKit

set_option maxHeartbeats 8000000 in
set_option maxRecDepth 100000 in
theorem ExactReadPlace_calls (z : ByteArray) (w : World) (he : ErrW w) :
    Calls Tryd.prog 9 #[.string z] w fun e w' => e = .returned (.bool true) ∧ Kept [] w w' := by
  have HE := Lib.hid he
  clear he
  have K1 := Lib.hid (Kept.refl [] w)
  by_cases hbig : 1048576 < z.size
  · have hb : (1048576 : Int) < (z.size : Int) := by omega
    clear hbig
    go_enter Tryd.func9, Tryd.ntmps9
    go_wp2
    go_ret
    exact ⟨rfl, Kept.refl _ _⟩
  have hb : ¬ (1048576 : Int) < (z.size : Int) := by omega
  have HZS : Hid (z.size ≤ 1100000) := Lib.hid (by omega)
  clear hbig
  go_enter Tryd.func9, Tryd.ntmps9
  go_wp2_with fail
  refine (sReadPlace_any z HZS.out _).mono ?_
  rintro e w1 ⟨y, rfl, hp, hk⟩
  generalize hP : Nt.readPI (tx z) = P at *
  have HP := Lib.hid hP
  generalize hOK : Nt.readPB (tx z) = ok at *
  have HOK := Lib.hid hOK
  have hxx : (ok != ok) = false := by cases ok <;> rfl
  have HLP : Hid (plLen P ≤ 1000) := Lib.hid (by rw [← hP]; exact plLen_read (tx z))
  clear hP hOK
  have V2 := Lib.hid (hp)
  obtain ⟨a3, n3, q3, b3, m3, r3, rfl⟩ := hp.form
  have K4 := Lib.hid (K1.out.trans hk (by simp))
  clear K1
  have Z5 := Lib.hid (Kept.size (rows := []) hk)
  clear hk hp hb
  have K6 := Lib.hid (Kept.refl [] w1)
  have hka : Kept [] w1 (w1.alloc (.cells #[.slice a3 n3 q3, .int .i64 P.c, .slice b3 m3 r3] 25)) := (Kept.refl _ _).alloc _
  have B7 := Lib.hid (Bk.new w1 25 #[.slice a3 n3 q3, .int .i64 P.c, .slice b3 m3 r3])
  have Z8 := Lib.hid (show w1.heap.size + 1 ≤ (w1.alloc (.cells #[.slice a3 n3 q3, .int .i64 P.c, .slice b3 m3 r3] 25)).heap.size from by simp)
  have K9 := Lib.hid (K4.out.trans hka (by simp))
  clear K4
  have K10 := Lib.hid (K6.out.trans hka (by simp))
  clear K6
  have Z11 := Lib.hid (Kept.size (rows := []) hka)
  clear hka
  have K13 := Lib.hid (Kept.refl [] (w1.alloc (.cells #[.slice a3 n3 q3, .int .i64 P.c, .slice b3 m3 r3] 25)))
  go_wp2_with fail
  generalize (w1.alloc (.cells #[.slice a3 n3 q3, .int .i64 P.c, .slice b3 m3 r3] 25)) = W12 at *
  refine (iReadPlaceN_any z HZS.out _ (HE.out.stay K9.out)).mono ?_
  rintro e w2 ⟨y, rfl, hp, hk⟩
  rw [HOK.out]
  rw [HP.out] at hp
  have V14 := Lib.hid (hp)
  obtain ⟨a15, n15, q15, b15, m15, r15, rfl⟩ := hp.pv.form
  have K16 := Lib.hid (K9.out.trans hk (by simp))
  clear K9
  have K17 := Lib.hid (K10.out.trans hk (by simp))
  clear K10
  have K18 := Lib.hid (K13.out.trans hk (by simp))
  clear K13
  have Z19 := Lib.hid (Kept.size (rows := []) hk)
  clear hk hp
  have K20 := Lib.hid (Kept.refl [] w2)
  have hka : Kept [] w2 (w2.alloc (.cells #[.slice a15 n15 q15, .int .i64 P.c, .slice b15 m15 r15] 25)) := (Kept.refl _ _).alloc _
  have B21 := Lib.hid (Bk.new w2 25 #[.slice a15 n15 q15, .int .i64 P.c, .slice b15 m15 r15])
  have Z22 := Lib.hid (show w2.heap.size + 1 ≤ (w2.alloc (.cells #[.slice a15 n15 q15, .int .i64 P.c, .slice b15 m15 r15] 25)).heap.size from by simp)
  have K23 := Lib.hid (K16.out.trans hka (by simp))
  clear K16
  have K24 := Lib.hid (K17.out.trans hka (by simp))
  clear K17
  have K25 := Lib.hid (K18.out.trans hka (by simp))
  clear K18
  have K26 := Lib.hid (K20.out.trans hka (by simp))
  clear K20
  have Z27 := Lib.hid (Kept.size (rows := []) hka)
  clear hka
  have K29 := Lib.hid (Kept.refl [] (w2.alloc (.cells #[.slice a15 n15 q15, .int .i64 P.c, .slice b15 m15 r15] 25)))
  obtain ⟨c30, c31, c32⟩ := (B21.out.stay K29.out).three
  obtain ⟨c33, c34, c35⟩ := (B7.out.stay K25.out).three
  go_wp2_with fail
  generalize (w2.alloc (.cells #[.slice a15 n15 q15, .int .i64 P.c, .slice b15 m15 r15] 25)) = W28 at *
  refine (eqPlace_pv P _ _ _ ⟨_, (V14.out.stay K26.out).pv⟩ ⟨_, (V2.out.stay K24.out)⟩).mono ?_
  rintro e w3 ⟨rfl, hk⟩
  clear c30 c31 c32 c33 c34 c35
  have K36 := Lib.hid (K23.out.trans hk (by simp))
  clear K23
  have K37 := Lib.hid (K24.out.trans hk (by simp))
  clear K24
  have K38 := Lib.hid (K25.out.trans hk (by simp))
  clear K25
  have K39 := Lib.hid (K26.out.trans hk (by simp))
  clear K26
  have K40 := Lib.hid (K29.out.trans hk (by simp))
  clear K29
  have Z41 := Lib.hid (Kept.size (rows := []) hk)
  clear hk
  obtain ⟨c42, c43, c44⟩ := (B21.out.stay K40.out).three
  go_wp2_with fail
  refine (markPlace_pn (1) (by omega) P (by have := HLP.out; omega) _ _ _ _ (V14.out.stay K39.out)).mono ?_
  rintro e w4 ⟨rfl, hp, hk⟩
  clear c42 c43 c44
  have M45 := Lib.hid (hp)
  have Q46 := Lib.hid (hk)
  clear hp hk
  have F47 := Lib.hid ((B21.out.stay K40.out).kin Q46.out (by have := Z5.out; have := Z11.out; have := Z8.out; have := Z19.out; have := Z27.out; have := Z22.out; have := Z41.out; omega))
  have K48 := Lib.hid (K36.out.kin Q46.out (by have := Z5.out; have := Z11.out; have := Z8.out; have := Z19.out; have := Z27.out; have := Z22.out; have := Z41.out; omega))
  clear K36
  have K49 := Lib.hid (K37.out.kin Q46.out (by have := Z5.out; have := Z11.out; have := Z8.out; have := Z19.out; have := Z27.out; have := Z22.out; have := Z41.out; omega))
  clear K37
  have K50 := Lib.hid (K38.out.kin Q46.out (by have := Z5.out; have := Z11.out; have := Z8.out; have := Z19.out; have := Z27.out; have := Z22.out; have := Z41.out; omega))
  clear K38
  have Z51 := Lib.hid (Kin.size Q46.out)
  have K52 := Lib.hid (Kept.refl [] w4)
  have hm0 : decide ((1 : Int) + (plLen P : Nat) < 0) = false := dec_not (by omega)
  have hmm : ((1 : Int) + (plLen P : Nat) != (1 : Int) + (plLen P : Nat)) = false := by simp
  obtain ⟨c53, c54, c55⟩ := (F47.out.stay K52.out).three
  go_wp2_with fail
  refine (heldPlace_pn 1 (by omega) P (by have := HLP.out; omega) _ _ _ _ (M45.out.stay K52.out)).mono ?_
  rintro e w5 ⟨rfl, hk⟩
  clear c53 c54 c55
  have K56 := Lib.hid (K48.out.trans hk (by simp))
  clear K48
  have K57 := Lib.hid (K49.out.trans hk (by simp))
  clear K49
  have K58 := Lib.hid (K50.out.trans hk (by simp))
  clear K50
  have K59 := Lib.hid (K52.out.trans hk (by simp))
  clear K52
  have Z60 := Lib.hid (Kept.size (rows := []) hk)
  clear hk
  go_wp2_with fail
  refine (iReadPlaceN_any z HZS.out _ (HE.out.stay K56.out)).mono ?_
  rintro e w6 ⟨y, rfl, hp, hk⟩
  rw [HOK.out]
  rw [HP.out] at hp
  have V61 := Lib.hid (hp)
  obtain ⟨a62, n62, q62, b62, m62, r62, rfl⟩ := hp.pv.form
  have K63 := Lib.hid (K56.out.trans hk (by simp))
  clear K56
  have K64 := Lib.hid (K57.out.trans hk (by simp))
  clear K57
  have K65 := Lib.hid (K58.out.trans hk (by simp))
  clear K58
  have K66 := Lib.hid (K59.out.trans hk (by simp))
  clear K59
  have Z67 := Lib.hid (Kept.size (rows := []) hk)
  clear hk hp
  have K68 := Lib.hid (Kept.refl [] w6)
  have hka : Kept [] w6 (w6.alloc (.cells #[.slice a62 n62 q62, .int .i64 P.c, .slice b62 m62 r62] 25)) := (Kept.refl _ _).alloc _
  have B69 := Lib.hid (Bk.new w6 25 #[.slice a62 n62 q62, .int .i64 P.c, .slice b62 m62 r62])
  have Z70 := Lib.hid (show w6.heap.size + 1 ≤ (w6.alloc (.cells #[.slice a62 n62 q62, .int .i64 P.c, .slice b62 m62 r62] 25)).heap.size from by simp)
  have K71 := Lib.hid (K63.out.trans hka (by simp))
  clear K63
  have K72 := Lib.hid (K64.out.trans hka (by simp))
  clear K64
  have K73 := Lib.hid (K65.out.trans hka (by simp))
  clear K65
  have K74 := Lib.hid (K66.out.trans hka (by simp))
  clear K66
  have K75 := Lib.hid (K68.out.trans hka (by simp))
  clear K68
  have Z76 := Lib.hid (Kept.size (rows := []) hka)
  clear hka
  have K78 := Lib.hid (Kept.refl [] (w6.alloc (.cells #[.slice a62 n62 q62, .int .i64 P.c, .slice b62 m62 r62] 25)))
  obtain ⟨c79, c80, c81⟩ := (B69.out.stay K78.out).three
  obtain ⟨c82, c83, c84⟩ := (B7.out.stay K73.out).three
  go_wp2_with fail
  generalize (w6.alloc (.cells #[.slice a62 n62 q62, .int .i64 P.c, .slice b62 m62 r62] 25)) = W77 at *
  refine (eqPlace_pv P _ _ _ ⟨_, (V61.out.stay K75.out).pv⟩ ⟨_, (V2.out.stay K72.out)⟩).mono ?_
  rintro e w7 ⟨rfl, hk⟩
  clear c79 c80 c81 c82 c83 c84
  have K85 := Lib.hid (K71.out.trans hk (by simp))
  clear K71
  have K86 := Lib.hid (K72.out.trans hk (by simp))
  clear K72
  have K87 := Lib.hid (K73.out.trans hk (by simp))
  clear K73
  have K88 := Lib.hid (K74.out.trans hk (by simp))
  clear K74
  have K89 := Lib.hid (K75.out.trans hk (by simp))
  clear K75
  have K90 := Lib.hid (K78.out.trans hk (by simp))
  clear K78
  have Z91 := Lib.hid (Kept.size (rows := []) hk)
  clear hk
  obtain ⟨c92, c93, c94⟩ := (F47.out.stay K88.out).three
  go_wp2_with fail
  refine (heldPlace_pn 1 (by omega) P (by have := HLP.out; omega) _ _ _ _ (M45.out.stay K88.out)).mono ?_
  rintro e w8 ⟨rfl, hk⟩
  clear c92 c93 c94
  have K95 := Lib.hid (K85.out.trans hk (by simp))
  clear K85
  have K96 := Lib.hid (K86.out.trans hk (by simp))
  clear K86
  have K97 := Lib.hid (K87.out.trans hk (by simp))
  clear K87
  have K98 := Lib.hid (K88.out.trans hk (by simp))
  clear K88
  have K99 := Lib.hid (K89.out.trans hk (by simp))
  clear K89
  have K100 := Lib.hid (K90.out.trans hk (by simp))
  clear K90
  have Z101 := Lib.hid (Kept.size (rows := []) hk)
  clear hk
  go_wp2
  go_ret
  exact ⟨rfl, K95.out⟩
end Go.Proofs.YtaacehdfpoiljaaDoor
