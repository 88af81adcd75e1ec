/-
  The law DeskDo, walked.
-/
import Derived.Test.YtofgfhfdmkcmcaaDT
import Derived.Test.YtofgfhfdmkcmcaaL1
import Derived.Test.YtofgfhfdmkcmcaaDQ1
import Derived.Test.YtofgfhfdmkcmcaaIPB
import Derived.Test.YtofgfhfdmkcmcaaFC
import Derived.Test.YtofgfhfdmkcmcaaWA
namespace Go.Proofs.Ytofgfhfdmkcmcaa
open Go.RowKit

namespace Nt

theorem run_next1 (net : List Nat) (c : Nat) (ks : List Nat) : ∀ t, run net c (step net c ks) t = run net c ks (t + 1)
  | 0 => rfl
  | t + 1 => by rw [run, run_next1 net c ks t]; rfl
theorem loopIs_is {ns ks : List Nat} {c : Nat} {a b : Int} (ok : Ok ns) (st : St c ks) (hl : ks.length = ns.length) (h : LoopIs (nats ns) (c : Int) (nats ks) a b) : ∃ m l : Nat, IsLoop (run ns c ks) m l ∧ a = (m : Int) ∧ b = (l : Int) := by
  rcases h with ⟨ns', c', ks', m, l, e1, e2, e3, _, _, _, hloop, _, ea, eb⟩ | ⟨hno, _⟩
  · have e1' := nats_inj e1
    have e3' := nats_inj e3
    have e2' : c = c' := by omega
    subst e1'
    subst e2'
    subst e3'
    exact ⟨m, l, hloop, ea, eb⟩
  · rw [fireB_yes ok st hl] at hno
    cases hno
/-- One step on: the loop is the same, and it begins one step sooner. -/
theorem loopIs_step {ns ks : List Nat} {c : Nat} {a b a' b' : Int} (ok : Ok ns) (st : St c ks) (hl : ks.length = ns.length) (st' : St c (step ns c ks)) (hl' : (step ns c ks).length = ns.length)
    (h : LoopIs (nats ns) (c : Int) (nats ks) a b) (h' : LoopIs (nats ns) (c : Int) (nats (step ns c ks)) a' b') : b' = b ∧ a' = max (a - 1) 0 := by
  obtain ⟨m, l, hloop, rfl, rfl⟩ := loopIs_is ok st hl h
  obtain ⟨m', l', hloop', rfl, rfl⟩ := loopIs_is ok st' hl' h'
  have hn := hloop.next (run_tells ns c ks)
  have e : (fun k => run ns c ks (k + 1)) = run ns c (step ns c ks) := funext fun k => (run_next1 ns c ks k).symm
  rw [e] at hn
  obtain ⟨e1, e2⟩ := hloop'.same hn
  subst e1
  subst e2
  exact ⟨rfl, by omega⟩
theorem loopIs_pos {ns ks : List Nat} {c : Nat} {a b : Int} (ok : Ok ns) (st : St c ks) (hl : ks.length = ns.length) (h : LoopIs (nats ns) (c : Int) (nats ks) a b) : 1 ≤ b := by
  obtain ⟨m, l, hloop, rfl, rfl⟩ := loopIs_is ok st hl h
  have := hloop.pos
  omega
end Nt

theorem DxR.de3 {w : World} {base : Nat} {x : Value} {d : Nt.Di} (h : DxR w base x d) : De w x d := by
  rcases h with ⟨rfl, rfl⟩ | ⟨_, G, C, r, vs, h⟩
  · exact De.zero w
  · exact h.de
/-- What is not done leaves the desk. -/
theorem ddo_not {d : Nt.Di} {x : Nt.Dd} (hd : Nt.dkB d = true) (h : Nt.ddoB d x = false) : Nt.ddo d x = d := by
  obtain ⟨e, rfl, he⟩ := Nt.dkB_ok hd
  obtain ⟨g1, g2⟩ := Nt.ddo_ok he x
  rw [g2] at h
  rw [g1]
  unfold Nt.goD
  cases hy : Nt.doD e x with
  | none => rfl
  | some y => rw [hy] at h; simp at h
/-- What a deed that is done tells. -/
theorem ddo_done {d : Nt.Di} {k a b : Int} (h : Nt.ddoB d ⟨k, a, b⟩ = true) : Nt.dkB (Nt.ddo d ⟨k, a, b⟩) = true ∧
    (k ≠ 4 → d.past.length < 8 → Nt.ddoB (Nt.ddo d ⟨k, a, b⟩) ⟨4, 0, 0⟩ = true ∧ Nt.ddo (Nt.ddo d ⟨k, a, b⟩) ⟨4, 0, 0⟩ = d) ∧
    (∀ p q r s : Int, Nt.LoopIs d.now.ns d.now.c d.now.ks p q → Nt.LoopIs (Nt.ddo d ⟨k, a, b⟩).now.ns (Nt.ddo d ⟨k, a, b⟩).now.c (Nt.ddo d ⟨k, a, b⟩).now.ks r s → 1 ≤ q ∧ 1 ≤ s ∧ (k = 2 → s = q ∧ r = max (p - 1) 0) ∧ -1 ≤ p ∧ p ≤ 20000) := by
  have hd : Nt.dkB d = true := by
    unfold Nt.ddoB at h
    rw [Bool.and_eq_true] at h
    exact h.1
  obtain ⟨e, rfl, he⟩ := Nt.dkB_ok hd
  obtain ⟨g1, g2⟩ := Nt.ddo_ok he ⟨k, a, b⟩
  rw [g2] at h
  obtain ⟨y, hy⟩ : ∃ y, Nt.doD e ⟨k, a, b⟩ = some y := Option.isSome_iff_exists.1 h
  have hyk := Nt.doD_ok he hy
  have hgo : Nt.goD e ⟨k, a, b⟩ = y := by unfold Nt.goD; rw [hy]; rfl
  rw [g1, hgo]
  refine ⟨Nt.dkB_yes hyk, fun hk hp => ?_, fun p q r s h1 h2 => ?_⟩
  · obtain ⟨f1, f2⟩ := Nt.ddo_ok hyk ⟨4, 0, 0⟩
    have hback := Nt.doD_back hy (fun h4 => hk h4.1) (by have e1 : e.i.past.length = e.past.length := List.length_map ..; omega)
    rw [f1, f2, hback]
    refine ⟨rfl, ?_⟩
    unfold Nt.goD
    rw [hback]; rfl
  · have o1 := he.now
    have o2 := hyk.now
    refine ⟨Nt.loopIs_pos o1.ok o1.st o1.len h1, Nt.loopIs_pos o2.ok o2.st o2.len h2, fun hk => ?_, ?_⟩
    rotate_left
    · rcases h1 with ⟨_, _, _, m, l, _, _, _, _, st, _, _, hb, rfl, _⟩ | ⟨_, rfl, _⟩
      · have := Nt.loop_small st.c5 st.few hb
        omega
      · omega
    subst hk
    have hstep : y.now = ⟨e.now.ns, e.now.c, Nt.step e.now.ns e.now.c e.now.ks⟩ := by
      unfold Nt.doD at hy
      rw [if_neg (by simp)] at hy
      cases hm : Nt.made e.now ⟨2, a, b⟩ with
      | none => rw [hm] at hy; simp at hy
      | some P =>
        rw [hm] at hy
        simp only [Option.some.injEq] at hy
        rw [← hy]
        unfold Nt.made at hm
        simp at hm
        exact hm.2.2.symm
    rw [hstep] at o2
    have h2' : Nt.LoopIs (Nt.nats e.now.ns) (e.now.c : Int) (Nt.nats (Nt.step e.now.ns e.now.c e.now.ks)) r s := by
      have h3 := h2
      rw [show y.i.now = y.now.i from rfl, hstep] at h3
      exact h3
    exact Nt.loopIs_step o1.ok o1.st o1.len o2.st o2.len h1 h2'

set_option maxHeartbeats 8000000 in
set_option maxRecDepth 100000 in
theorem FnDeskDo_calls (w : World) (v : Value) (ha : ArgB w v) :
    Calls Try.prog 6 #[v] w fun e w' => e = .returned (.bool true) ∧ Kept [] w w' := by
  have HA := Lib.hid ha
  obtain ⟨a, len, cap, rfl, hlc, hcm, _⟩ := ha
  by_cases hbig : 1048576 < len
  · have hb : (1048576 : Int) < (len : Int) := by omega
    clear hbig
    go_enter Try.func6, Try.ntmps6
    go_wp2
    go_ret
    exact ⟨rfl, Kept.refl _ _⟩
  have hb : ¬ (1048576 : Int) < (len : Int) := by omega
  clear hbig
  go_enter Try.func6, Try.ntmps6
  go_wp2_with fail
  refine (drawDeskDo_any _ _ HA.out).mono ?_
  rintro e w1 ⟨y, d, dk, da, db, rfl, hd, hk⟩
  obtain ⟨ya, yn, yq, yb, ym, yr, y3, yl, ys, rfl⟩ := hd.form
  obtain ⟨X, hX⟩ : ∃ X, X = Nt.ddo d ⟨dk, da, db⟩ := ⟨_, rfl⟩
  obtain ⟨ok, hok⟩ : ∃ ok, ok = Nt.ddoB d ⟨dk, da, db⟩ := ⟨_, rfl⟩
  have HX := Lib.hid hX
  have HOK := Lib.hid hok
  have hoo : (ok != ok) = false := by cases ok <;> rfl
  have HDONE := Lib.hid (fun (h : ok = true) => ddo_done (d := d) (k := dk) (a := da) (b := db) (by rw [← hok]; exact h))
  rw [← hX] at HDONE
  have HNOT : Hid (ok = false → Nt.dkB d = true → X = d) := Lib.hid (fun h h1 => by rw [hX]; exact ddo_not h1 (by rw [← hok]; exact h))
  obtain ⟨hka, hb0, hb1⟩ := two_new w1 32 40 #[.slice ya yn yq, .int .i64 d.now.c, .slice yb ym yr, .slice y3 yl ys] #[.int .i64 dk, .int .i64 da, .int .i64 db]
  have HB := Lib.hid hb0
  have HE := Lib.hid hb1
  have HD := Lib.hid (hd.stay hka)
  have HK := Lib.hid (hk.trans hka (by simp))
  obtain ⟨r0, r1, r2, r3⟩ := hb0.four
  obtain ⟨e0, e1, e2⟩ := hb1.three
  clear hk hka hb0 hb1 hb hd hX hok
  go_wp2_with fail
  generalize ((w1.alloc (.cells #[.slice ya yn yq, .int .i64 d.now.c, .slice yb ym yr, .slice y3 yl ys] 32)).alloc (.cells #[.int .i64 dk, .int .i64 da, .int .i64 db] 40)) = W1 at *
  refine (iDeskDo_any d dk da db _ _ HD.out).mono ?_
  rintro e w2 ⟨x, rfl, hx, hk⟩
  rw [← HOK.out]
  rw [← HX.out] at hx
  have hxe := hx.de3
  obtain ⟨xa, xn, xq, xb, xm, xr, x3, xl, xs, rfl⟩ := hxe.form
  have hka : Kept [] w2 (w2.alloc (.cells #[.slice xa xn xq, .int .i64 X.now.c, .slice xb xm xr, .slice x3 xl xs] 32)) := (Kept.refl _ _).alloc _
  have HX2 := Lib.hid (Bk.new w2 32 #[.slice xa xn xq, .int .i64 X.now.c, .slice xb xm xr, .slice x3 xl xs])
  have HXD2 := Lib.hid (hxe.stay hka)
  have HB2 := Lib.hid ((HB.out.stay hk).stay hka)
  have HE2 := Lib.hid ((HE.out.stay hk).stay hka)
  have HD2 := Lib.hid ((HD.out.stay hk).stay hka)
  have HK2 := Lib.hid ((HK.out.trans hk (by simp)).trans hka (by simp))
  clear hk hka hx hxe r0 r1 r2 r3 e0 e1 e2 HB HE HD HK
  obtain ⟨r0, r1, r2, r3⟩ := HB2.out.four
  obtain ⟨e0, e1, e2⟩ := HE2.out.three
  go_wp2_with fail
  generalize w2.alloc (.cells #[.slice xa xn xq, .int .i64 X.now.c, .slice xb xm xr, .slice x3 xl xs] 32) = W2 at *
  refine (sDeskDo_any d dk da db _ _ HD2.out).mono ?_
  rintro e w3 ⟨z, rfl, hz, hk⟩
  rw [← HOK.out]
  rw [← HX.out] at hz
  obtain ⟨za, zn, zq, zb, zm, zr, z3, zl, zs, rfl⟩ := hz.form
  have hka : Kept [] w3 (w3.alloc (.cells #[.slice za zn zq, .int .i64 X.now.c, .slice zb zm zr, .slice z3 zl zs] 32)) := (Kept.refl _ _).alloc _
  have HZ3 := Lib.hid (Bk.new w3 32 #[.slice za zn zq, .int .i64 X.now.c, .slice zb zm zr, .slice z3 zl zs])
  have HZD3 := Lib.hid (hz.stay hka)
  have HX3 := Lib.hid ((HX2.out.stay hk).stay hka)
  have HXD3 := Lib.hid ((HXD2.out.stay hk).stay hka)
  have HB3 := Lib.hid ((HB2.out.stay hk).stay hka)
  have HE3 := Lib.hid ((HE2.out.stay hk).stay hka)
  have HD3 := Lib.hid ((HD2.out.stay hk).stay hka)
  have HK3 := Lib.hid ((HK2.out.trans hk (by simp)).trans hka (by simp))
  clear hk hka hz r0 r1 r2 r3 e0 e1 e2 HX2 HXD2 HB2 HE2 HD2 HK2
  obtain ⟨s0, s1, s2, s3⟩ := HX3.out.four
  obtain ⟨q0, q1, q2, q3⟩ := HZ3.out.four
  go_wp2_with fail
  generalize w3.alloc (.cells #[.slice za zn zq, .int .i64 X.now.c, .slice zb zm zr, .slice z3 zl zs] 32) = W3 at *
  refine (sameDesk_any X X _ _ _ 0 0 HXD3.out.dv HZD3.out.dv).mono ?_
  rintro e w4 ⟨b, rfl, hb, hk⟩
  rw [hb rfl]
  have HX4 := Lib.hid (HX3.out.stay hk)
  have HXD4 := Lib.hid (HXD3.out.stay hk)
  have HZ4 := Lib.hid (HZ3.out.stay hk)
  have HZD4 := Lib.hid (HZD3.out.stay hk)
  have HB4 := Lib.hid (HB3.out.stay hk)
  have HE4 := Lib.hid (HE3.out.stay hk)
  have HD4 := Lib.hid (HD3.out.stay hk)
  have HK4 := Lib.hid (HK3.out.trans hk (by simp))
  clear hk hb s0 s1 s2 s3 q0 q1 q2 q3 HZ3 HZD3 HX3 HXD3 HB3 HE3 HD3 HK3
  obtain ⟨r0, r1, r2, r3⟩ := HB4.out.four
  obtain ⟨s0, s1, s2, s3⟩ := HX4.out.four
  cases ok
  · go_wp2_with fail
    refine (sameDesk_any X d _ _ _ 0 0 HXD4.out.dv HD4.out.dv).mono ?_
    rintro e w5 ⟨bb, rfl, hbb, hk⟩
    have HB5 := Lib.hid (HB4.out.stay hk)
    have HD5 := Lib.hid (HD4.out.stay hk)
    have HK5 := Lib.hid (HK4.out.trans hk (by simp))
    clear hk r0 r1 r2 r3 s0 s1 s2 s3
    obtain ⟨r0, r1, r2, r3⟩ := HB5.out.four
    cases bb
    · have hnd : Nt.dkB d = false := by
        cases h : Nt.dkB d
        · rfl
        · exact absurd (hbb (HNOT.out (by first | trivial | rfl) h)) (by simp)
      have HND := Lib.hid hnd
      clear hnd hbb
      go_wp2_with fail
      refine (iDeskOk_any d _ _ 0 HD5.out.dv).mono ?_
      rintro e w6 ⟨rfl, hk⟩
      rw [HND.out]
      have HK6 := Lib.hid (HK5.out.trans hk (by simp))
      clear hk
      go_wp2_with fail
      refine (alive_any _).mono ?_
      rintro e w7 ⟨rfl, hk⟩
      have HK7 := Lib.hid (HK6.out.trans hk (by simp))
      clear hk
      go_wp2
      go_ret
      exact ⟨rfl, HK7.out⟩
    · clear hbb
      go_wp2_with fail
      refine (alive_any _).mono ?_
      rintro e w7 ⟨rfl, hk⟩
      have HK7 := Lib.hid (HK5.out.trans hk (by simp))
      clear hk
      go_wp2
      go_ret
      exact ⟨rfl, HK7.out⟩
  · obtain ⟨hXok, hundo, hloop⟩ := HDONE.out (by first | trivial | rfl)
    have HXO := Lib.hid hXok
    obtain ⟨BK, hBK⟩ : ∃ B, B = Nt.ddo X ⟨4, 0, 0⟩ := ⟨_, rfl⟩
    obtain ⟨can, hcan⟩ : ∃ c, c = Nt.ddoB X ⟨4, 0, 0⟩ := ⟨_, rfl⟩
    have HBKE := Lib.hid hBK
    have HCAN := Lib.hid hcan
    rw [← hBK, ← hcan] at hundo
    have HUNDO := Lib.hid hundo
    obtain ⟨p, q, hpq⟩ := Nt.loopIs_ex d.now.ns d.now.c d.now.ks
    obtain ⟨r, s, hrs⟩ := Nt.loopIs_ex X.now.ns X.now.c X.now.ks
    have HLP := Lib.hid (hloop p q r s hpq hrs)
    have HPQ := Lib.hid hpq
    have HRS := Lib.hid hrs
    clear hXok hundo hloop hBK hcan hpq hrs HDONE HNOT
    go_wp2_with fail
    refine (iDeskDo_any X 4 0 0 _ _ HXD4.out).mono ?_
    rintro e w5 ⟨x, rfl, hx, hk⟩
    rw [← HCAN.out]
    rw [← HBKE.out] at hx
    have hxe := hx.de3
    obtain ⟨ka, kn, kq, kb, km, kr, k3, kl, ks, rfl⟩ := hxe.form
    have hka : Kept [] w5 (w5.alloc (.cells #[.slice ka kn kq, .int .i64 BK.now.c, .slice kb km kr, .slice k3 kl ks] 32)) := (Kept.refl _ _).alloc _
    have HBK5 := Lib.hid (Bk.new w5 32 #[.slice ka kn kq, .int .i64 BK.now.c, .slice kb km kr, .slice k3 kl ks])
    have HBD5 := Lib.hid (hxe.stay hka)
    have HX5 := Lib.hid ((HX4.out.stay hk).stay hka)
    have HXD5 := Lib.hid ((HXD4.out.stay hk).stay hka)
    have HZ5 := Lib.hid ((HZ4.out.stay hk).stay hka)
    have HZD5 := Lib.hid ((HZD4.out.stay hk).stay hka)
    have HB5 := Lib.hid ((HB4.out.stay hk).stay hka)
    have HE5 := Lib.hid ((HE4.out.stay hk).stay hka)
    have HD5 := Lib.hid ((HD4.out.stay hk).stay hka)
    have HK5 := Lib.hid ((HK4.out.trans hk (by simp)).trans hka (by simp))
    clear hk hka hx hxe r0 r1 r2 r3 s0 s1 s2 s3 HX4 HXD4 HZ4 HZD4 HB4 HE4 HD4 HK4
    obtain ⟨r0, r1, r2, r3⟩ := HB5.out.four
    obtain ⟨hy1, hy2⟩ : Sl (w5.alloc (.cells #[.slice ka kn kq, .int .i64 BK.now.c, .slice kb km kr, .slice k3 kl ks] 32)) 0 (.slice ya yn yq) d.now.ns ∧ Sl (w5.alloc (.cells #[.slice ka kn kq, .int .i64 BK.now.c, .slice kb km kr, .slice k3 kl ks] 32)) 0 (.slice yb ym yr) d.now.ks := by
      obtain ⟨v, u, r, e, hv, hu, _⟩ := HD5.out
      simp only [Value.agg.injEq, Array.mk.injEq, List.cons.injEq] at e
      rw [e.1, e.2.2.1]
      exact ⟨hv, hu⟩
    have HY1 := Lib.hid hy1
    have HY2 := Lib.hid hy2
    clear hy1 hy2
    go_wp2_with fail
    generalize w5.alloc (.cells #[.slice ka kn kq, .int .i64 BK.now.c, .slice kb km kr, .slice k3 kl ks] 32) = W5 at *
    refine (iLoop_any _ _ _ HPQ.out _ _ 0 _ 0 HY1.out HY2.out).mono ?_
    rintro e w6 ⟨rfl, hk⟩
    have HBK6 := Lib.hid (HBK5.out.stay hk)
    have HBD6 := Lib.hid (HBD5.out.stay hk)
    have HX6 := Lib.hid (HX5.out.stay hk)
    have HXD6 := Lib.hid (HXD5.out.stay hk)
    have HZ6 := Lib.hid (HZ5.out.stay hk)
    have HZD6 := Lib.hid (HZD5.out.stay hk)
    have HB6 := Lib.hid (HB5.out.stay hk)
    have HE6 := Lib.hid (HE5.out.stay hk)
    have HD6 := Lib.hid (HD5.out.stay hk)
    have HK6 := Lib.hid (HK5.out.trans hk (by simp))
    clear hk r0 r1 r2 r3 HBK5 HBD5 HX5 HXD5 HZ5 HZD5 HB5 HE5 HD5 HK5 HY1 HY2
    obtain ⟨hy1, hy2⟩ : Sl w6 0 (.slice za zn zq) X.now.ns ∧ Sl w6 0 (.slice zb zm zr) X.now.ks := by
      obtain ⟨v, u, r, e, hv, hu, _⟩ := HZD6.out
      simp only [Value.agg.injEq, Array.mk.injEq, List.cons.injEq] at e
      rw [e.1, e.2.2.1]
      exact ⟨hv, hu⟩
    have HY1 := Lib.hid hy1
    have HY2 := Lib.hid hy2
    clear hy1 hy2
    obtain ⟨q0, q1, q2, q3⟩ := HZ6.out.four
    go_wp2_with fail
    refine (iLoop_any _ _ _ HRS.out _ _ 0 _ 0 HY1.out HY2.out).mono ?_
    rintro e w7 ⟨rfl, hk⟩
    have HBK7 := Lib.hid (HBK6.out.stay hk)
    have HBD7 := Lib.hid (HBD6.out.stay hk)
    have HX7 := Lib.hid (HX6.out.stay hk)
    have HXD7 := Lib.hid (HXD6.out.stay hk)
    have HB7 := Lib.hid (HB6.out.stay hk)
    have HE7 := Lib.hid (HE6.out.stay hk)
    have HD7 := Lib.hid (HD6.out.stay hk)
    have HK7 := Lib.hid (HK6.out.trans hk (by simp))
    clear hk q0 q1 q2 q3 HBK6 HBD6 HX6 HXD6 HZ6 HZD6 HB6 HE6 HD6 HK6 HY1 HY2
    have HYL : Hid (yl = d.past.length) := Lib.hid (by
      obtain ⟨v, u, r, e, _, _, hps, _⟩ := HD7.out
      obtain ⟨_, _, e2, _⟩ := hps
      simp only [Value.agg.injEq, Array.mk.injEq, List.cons.injEq] at e
      rw [e2] at e
      simp only [Value.slice.injEq] at e
      exact e.2.2.2.1.2.1)
    obtain ⟨s0, s1, s2, s3⟩ := HX7.out.four
    obtain ⟨lq, ls, l2, lp0, lp1⟩ := HLP.out
    have hq1 : decide (q ≥ 1) = true := dec_of lq
    have hq1' : decide (1 ≤ q) = true := dec_of lq
    have hs1 : decide (s ≥ 1) = true := dec_of ls
    have hs1' : decide (1 ≤ s) = true := dec_of ls
    have hsub : IntKind.i64.wrap (p - 1) = p - 1 := IntWalk.i64_in _ (by omega)
    have HL2 := Lib.hid l2
    clear lq ls l2
    go_wp2_with fail
    refine (iDeskOk_any X _ _ 0 HXD7.out.dv).mono ?_
    rintro e w8 ⟨rfl, hk⟩
    rw [HXO.out]
    have HBK8 := Lib.hid (HBK7.out.stay hk)
    have HBD8 := Lib.hid (HBD7.out.stay hk)
    have HB8 := Lib.hid (HB7.out.stay hk)
    have HE8 := Lib.hid (HE7.out.stay hk)
    have HD8 := Lib.hid (HD7.out.stay hk)
    have HK8 := Lib.hid (HK7.out.trans hk (by simp))
    clear hk s0 s1 s2 s3 HBK7 HBD7 HX7 HXD7 HB7 HE7 HD7 HK7
    obtain ⟨r0, r1, r2, r3⟩ := HB8.out.four
    obtain ⟨e0, e1, e2⟩ := HE8.out.three
    by_cases h4 : dk = 4
    · subst h4
      go_wp2
      go_ret
      exact ⟨rfl, HK8.out⟩
    have b4 : (dk == 4) = false := by simpa using h4
    have H4 := Lib.hid h4
    clear h4
    by_cases h8 : 8 ≤ yl
    · have b8 : decide ((yl : Int) ≥ 8) = true := dec_of (by omega)
      have b8' : decide ((8 : Int) ≤ (yl : Int)) = true := dec_of (by omega)
      clear h8
      by_cases h2 : dk = 2
      · obtain ⟨rfl, rfl⟩ := HL2.out h2
        subst h2
        go_wp2
        all_goals
          go_ret
          exact ⟨rfl, HK8.out⟩
      · have b2 : (dk != 2) = true := by simpa using h2
        clear h2
        go_wp2
        go_ret
        exact ⟨rfl, HK8.out⟩
    · have b8 : decide ((yl : Int) ≥ 8) = false := dec_not (by omega)
      have b8' : decide ((8 : Int) ≤ (yl : Int)) = false := dec_not (by omega)
      obtain ⟨rfl, hbk⟩ := HUNDO.out H4.out (by rw [← HYL.out]; omega)
      subst hbk
      clear h8
      obtain ⟨q0, q1, q2, q3⟩ := HBK8.out.four
      go_wp2_with fail
      refine (sameDesk_any BK BK _ _ _ 0 0 HBD8.out.dv HD8.out.dv).mono ?_
      rintro e w9 ⟨b, rfl, hb, hk⟩
      rw [hb rfl]
      have HK9 := Lib.hid (HK8.out.trans hk (by simp))
      obtain ⟨f0, f1, f2⟩ := (HE8.out.stay hk).three
      clear hk hb q0 q1 q2 q3 r0 r1 r2 r3 e0 e1 e2
      by_cases h2 : dk = 2
      · obtain ⟨rfl, rfl⟩ := HL2.out h2
        subst h2
        go_wp2
        all_goals
          go_ret
          exact ⟨rfl, HK9.out⟩
      · have b2 : (dk != 2) = true := by simpa using h2
        clear h2
        go_wp2
        go_ret
        exact ⟨rfl, HK9.out⟩
end Go.Proofs.Ytofgfhfdmkcmcaa
