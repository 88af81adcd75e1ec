/-
  The law DeskRun, walked.
-/
import Derived.Test.YtofgfhfdmkcmcaaDT
import Derived.Test.YtofgfhfdmkcmcaaL1
import Derived.Test.YtofgfhfdmkcmcaaDQ1
import Derived.Test.YtofgfhfdmkcmcaaIPC
import Derived.Test.YtofgfhfdmkcmcaaPO3
namespace Go.Proofs.Ytofgfhfdmkcmcaa
open Go.RowKit

theorem Ds.cut {w : World} {a : Option Addr} {n cap : Nat} {ds : List Nt.Dd} (h : Ds w (.slice a n cap) ds) (m : Nat) (hm : m ≤ ds.length) : Ds w (.slice a m cap) (ds.take m) := by
  obtain ⟨a', cap', e, h1, h2, h3⟩ := h
  simp only [Value.slice.injEq] at e
  obtain ⟨rfl, rfl, rfl⟩ := e
  have hl : (ds.take m).length = m := by rw [List.length_take]; omega
  refine ⟨a, cap, by rw [hl], by omega, h2, fun k hk => ?_⟩
  obtain ⟨g, off, e, hg, c⟩ := h3 k (by omega)
  have e2 : (ds.take m).getD k ⟨0, 0, 0⟩ = ds.getD k ⟨0, 0, 0⟩ := by rw [List.getD_eq_getElem?_getD, List.getElem?_take, if_pos (by omega), ← List.getD_eq_getElem?_getD]
  rw [e2]
  exact ⟨g, off, e, hg, c⟩
theorem Ds.from {w : World} {g off n cap : Nat} {ds : List Nt.Dd} (h : Ds w (.slice (some ⟨g, off, none⟩) n cap) ds) (m : Nat) (hm : m ≤ ds.length) : Ds w (.slice (some ⟨g, off + m * 3, none⟩) (n - m) (cap - m)) (ds.drop m) := by
  obtain ⟨a', cap', e, h1, h2, h3⟩ := h
  simp only [Value.slice.injEq] at e
  obtain ⟨rfl, rfl, rfl⟩ := e
  have hl : (ds.drop m).length = ds.length - m := by rw [List.length_drop]
  refine ⟨_, _, by rw [hl], by omega, by omega, fun k hk => ?_⟩
  obtain ⟨g', off', e, hg, c0, c1, c2⟩ := h3 (m + k) (by omega)
  simp only [Option.some.injEq, Addr.mk.injEq, and_true] at e
  obtain ⟨rfl, rfl⟩ := e
  have e2 : (ds.drop m).getD k ⟨0, 0, 0⟩ = ds.getD (m + k) ⟨0, 0, 0⟩ := by rw [List.getD_eq_getElem?_getD, List.getElem?_drop, ← List.getD_eq_getElem?_getD]
  rw [e2]
  have e3 : off + m * 3 + k * 3 = off + (m + k) * 3 := by omega
  refine ⟨g, off + m * 3, rfl, hg, by rw [e3]; exact c0, by rw [e3]; exact c1, by rw [e3]; exact c2⟩
theorem Ds.emp (w : World) (a : Option Addr) (c : Nat) (hc : c ≤ 9223372036854775807) : Ds w (.slice a 0 c) [] := ⟨a, c, rfl, by simp, hc, fun k hk => by simp at hk⟩
theorem Ds.none (w : World) : Ds w (.slice Option.none 0 0) [] := ⟨Option.none, 0, rfl, by simp, by simp, fun k hk => by simp at hk⟩
theorem drun_no {d : Nt.Di} {l : List Nt.Dd} (h : Nt.dkB d = false ∨ 40 < l.length) : Nt.drun d l = Nt.Di.zero ∧ Nt.drunN d l = 0 := by
  have e : (Nt.dkB d && decide (l.length ≤ 40)) = false := by
    rcases h with h | h
    · rw [h]; rfl
    · rw [decide_eq_false (by omega), Bool.and_false]
  unfold Nt.drun Nt.drunN
  rw [e]
  exact ⟨rfl, rfl⟩
theorem cnt_le (e : Nt.Dk) (l : List Nt.Dd) : Nt.cntD e l ≤ l.length := Nt.cntD_le e l
theorem drun_parts {d : Nt.Di} {l : List Nt.Dd} (hd : Nt.dkB d = true) (hl : l.length ≤ 40) (h : Nat) :
    Nt.dkB (Nt.drun d l) = true ∧ Nt.drun (Nt.drun d (l.take h)) (l.drop h) = Nt.drun d l ∧ Nt.drunN d (l.take h) + Nt.drunN (Nt.drun d (l.take h)) (l.drop h) = Nt.drunN d l ∧ 0 ≤ Nt.drunN d l ∧ Nt.drunN d l ≤ 40 := by
  obtain ⟨e, rfl, he⟩ := Nt.dkB_ok hd
  have yes : ∀ (f : Nt.Dk) (m : List Nt.Dd), Nt.DkOk f → m.length ≤ 40 → Nt.drun f.i m = (Nt.runD f m).i ∧ Nt.drunN f.i m = (Nt.cntD f m : Int) := by
    intro f m hf hm
    have e1 : (Nt.dkB f.i && decide (m.length ≤ 40)) = true := by rw [Nt.dkB_yes hf, decide_eq_true hm]; rfl
    unfold Nt.drun Nt.drunN
    rw [e1, Nt.Dk.i_n]
    exact ⟨rfl, rfl⟩
  obtain ⟨a1, a2⟩ := yes e l he hl
  have ht : (l.take h).length ≤ 40 := by rw [List.length_take]; omega
  have hdr : (l.drop h).length ≤ 40 := by rw [List.length_drop]; omega
  obtain ⟨b1, b2⟩ := yes e (l.take h) he ht
  have hr := Nt.runD_ok he (l.take h)
  obtain ⟨c1, c2⟩ := yes (Nt.runD e (l.take h)) (l.drop h) hr hdr
  have hc := cnt_le e l
  refine ⟨by rw [a1]; exact Nt.dkB_yes (Nt.runD_ok he l), ?_, ?_, by rw [a2]; omega, by rw [a2]; omega⟩
  · rw [b1, c1, a1, ← Nt.runD_append, List.take_append_drop]
  · rw [b1, b2, c2, a2]
    have := Nt.cntD_append e (l.take h) (l.drop h)
    rw [List.take_append_drop] at this
    omega
theorem DxR.de2 {w : World} {base : Nat} {x : Value} {d : Nt.Di} (h : DxR w base x d) : De w x d := by
  rcases h with ⟨rfl, rfl⟩ | ⟨_, G, C, r, vs, h⟩
  · exact De.zero w
  · exact h.de

set_option maxHeartbeats 8000000 in
set_option maxRecDepth 100000 in
theorem FnDeskRun_calls (w : World) (v : Value) (ha : ArgB w v) :
    Calls Try.prog 7 #[v] w fun e w' => e = .returned (.bool true) ∧ Kept [] w w' := by
  have HA := Lib.hid ha
  obtain ⟨a, len, cap, rfl, hlc, hcm, _⟩ := ha
  by_cases hbig : 1048576 < len
  · have hb : (1048576 : Int) < (len : Int) := by omega
    clear hbig
    go_enter Try.func7, Try.ntmps7
    go_wp2
    go_ret
    exact ⟨rfl, Kept.refl _ _⟩
  have hb : ¬ (1048576 : Int) < (len : Int) := by omega
  clear hbig
  go_enter Try.func7, Try.ntmps7
  go_wp2_with fail
  refine (drawDeskRun_any _ _ HA.out).mono ?_
  rintro e w1 ⟨y, u, d, ds, rfl, hd, hds, h41, hform, hk⟩
  obtain ⟨ya, yn, yq, yb, ym, yr, y3, yl, ys, rfl⟩ := hd.form
  obtain ⟨ua, uc, rfl⟩ : ∃ a c, u = .slice a ds.length c := by obtain ⟨a, c, e, _⟩ := hds; exact ⟨a, c, e⟩
  have HFORM := Lib.hid hform
  obtain ⟨n, hn⟩ : ∃ n, n = ds.length := ⟨_, rfl⟩
  have HN := Lib.hid hn
  obtain ⟨X, hX⟩ : ∃ X, X = Nt.drun d ds := ⟨_, rfl⟩
  have HX := Lib.hid hX
  obtain ⟨N, hN⟩ : ∃ N, N = Nt.drunN d ds := ⟨_, rfl⟩
  have HNN := Lib.hid hN
  have hNN : (N != N) = false := by simp
  have hka : Kept [] w1 (w1.alloc (.cells #[.slice ya yn yq, .int .i64 d.now.c, .slice yb ym yr, .slice y3 yl ys] 32)) := (Kept.refl _ _).alloc _
  have HB := Lib.hid (Bk.new w1 32 #[.slice ya yn yq, .int .i64 d.now.c, .slice yb ym yr, .slice y3 yl ys])
  have HD := Lib.hid (hd.stay hka)
  have HL := Lib.hid (hds.stay hka)
  have HK := Lib.hid (hk.trans hka (by simp))
  obtain ⟨r0, r1, r2, r3⟩ := HB.out.four
  rw [← hn] at HL HFORM ⊢
  clear hk hka hb hd hds hform hn hX hN
  go_wp2_with fail
  generalize w1.alloc (.cells #[.slice ya yn yq, .int .i64 d.now.c, .slice yb ym yr, .slice y3 yl ys] 32) = W1 at *
  refine (iDeskRun_any d ds _ _ _ HD.out HL.out).mono ?_
  rintro e w2 ⟨x, rfl, hx, hk⟩
  rw [← HNN.out]
  rw [← HX.out] at hx
  have hxd := hx.dv
  obtain ⟨xa, xn, xq, xb, xm, xr, x3, xl, xs, rfl⟩ := (DxR.de2 hx).form
  have hka : Kept [] w2 (w2.alloc (.cells #[.slice xa xn xq, .int .i64 X.now.c, .slice xb xm xr, .slice x3 xl xs] 32)) := (Kept.refl _ _).alloc _
  have HX2 := Lib.hid (Bk.new w2 32 #[.slice xa xn xq, .int .i64 X.now.c, .slice xb xm xr, .slice x3 xl xs])
  have HXD2 := Lib.hid ((DxR.de2 hx).stay hka)
  have HB2 := Lib.hid ((HB.out.stay hk).stay hka)
  have HD2 := Lib.hid ((HD.out.stay hk).stay hka)
  have HL2 := Lib.hid ((HL.out.stay hk).stay hka)
  have HK2 := Lib.hid ((HK.out.trans hk (by simp)).trans hka (by simp))
  clear hk hka hx hxd r0 r1 r2 r3 HB HD HL HK
  obtain ⟨r0, r1, r2, r3⟩ := HB2.out.four
  go_wp2_with fail
  generalize w2.alloc (.cells #[.slice xa xn xq, .int .i64 X.now.c, .slice xb xm xr, .slice x3 xl xs] 32) = W2 at *
  refine (sDeskRun_any d ds _ _ _ HD2.out HL2.out).mono ?_
  rintro e w3 ⟨z, rfl, hz, hk⟩
  rw [← HNN.out]
  rw [← HX.out] at hz
  obtain ⟨za, zn, zq, zb, zm, zr, z3, zl, zs, rfl⟩ := hz.form
  have hka : Kept [] w3 (w3.alloc (.cells #[.slice za zn zq, .int .i64 X.now.c, .slice zb zm zr, .slice z3 zl zs] 32)) := (Kept.refl _ _).alloc _
  have HZ3 := Lib.hid (Bk.new w3 32 #[.slice za zn zq, .int .i64 X.now.c, .slice zb zm zr, .slice z3 zl zs])
  have HZD3 := Lib.hid (hz.stay hka)
  have HX3 := Lib.hid ((HX2.out.stay hk).stay hka)
  have HXD3 := Lib.hid ((HXD2.out.stay hk).stay hka)
  have HB3 := Lib.hid ((HB2.out.stay hk).stay hka)
  have HD3 := Lib.hid ((HD2.out.stay hk).stay hka)
  have HL3 := Lib.hid ((HL2.out.stay hk).stay hka)
  have HK3 := Lib.hid ((HK2.out.trans hk (by simp)).trans hka (by simp))
  clear hk hka hz r0 r1 r2 r3 HX2 HXD2 HB2 HD2 HL2 HK2
  obtain ⟨s0, s1, s2, s3⟩ := HX3.out.four
  obtain ⟨q0, q1, q2, q3⟩ := HZ3.out.four
  go_wp2_with fail
  generalize w3.alloc (.cells #[.slice za zn zq, .int .i64 X.now.c, .slice zb zm zr, .slice z3 zl zs] 32) = W3 at *
  refine (sameDesk_any X X _ _ _ 0 0 HXD3.out.dv HZD3.out.dv).mono ?_
  rintro e w4 ⟨b, rfl, hb, hk⟩
  rw [hb rfl]
  have HX4 := Lib.hid (HX3.out.stay hk)
  have HXD4 := Lib.hid (HXD3.out.stay hk)
  have HB4 := Lib.hid (HB3.out.stay hk)
  have HD4 := Lib.hid (HD3.out.stay hk)
  have HL4 := Lib.hid (HL3.out.stay hk)
  have HK4 := Lib.hid (HK3.out.trans hk (by simp))
  clear hk hb s0 s1 s2 s3 q0 q1 q2 q3 HZ3 HZD3 HX3 HXD3 HB3 HD3 HL3 HK3
  obtain ⟨r0, r1, r2, r3⟩ := HB4.out.four
  go_wp2_with fail
  refine (sDeskOk_any d _ _ 0 HD4.out.dv).mono ?_
  rintro e w5 ⟨rfl, hk⟩
  have HX5 := Lib.hid (HX4.out.stay hk)
  have HXD5 := Lib.hid (HXD4.out.stay hk)
  have HB5 := Lib.hid (HB4.out.stay hk)
  have HD5 := Lib.hid (HD4.out.stay hk)
  have HL5 := Lib.hid (HL4.out.stay hk)
  have HK5 := Lib.hid (HK4.out.trans hk (by simp))
  clear hk r0 r1 r2 r3 HX4 HXD4 HB4 HD4 HL4 HK4
  have hnm : n ≤ 41 := by rw [HN.out]; exact h41
  clear h41
  have HNONE : Hid (Nt.dkB d = false ∨ 40 < n → X = Nt.Di.zero ∧ N = 0) := Lib.hid (fun h => by rw [HX.out, HNN.out]; exact drun_no (by rw [← HN.out]; exact h))
  obtain ⟨s0, s1, s2, s3⟩ := HX5.out.four
  cases hok : Nt.dkB d
  · obtain ⟨hX0, hN0⟩ := HNONE.out (.inl hok)
    have HX0 := Lib.hid hX0
    subst hN0
    clear hX0
    go_wp2_with fail
    refine (noDesk_zero _ _ 0 X HX0.out HXD5.out.dv).mono ?_
    rintro e w6 ⟨rfl, hk⟩
    have HK6 := Lib.hid (HK5.out.trans hk (by simp))
    clear hk s0 s1 s2 s3
    go_wp2_with fail
    refine (alive_any _).mono ?_
    rintro e w7 ⟨rfl, hk⟩
    have HK7 := Lib.hid (HK6.out.trans hk (by simp))
    clear hk
    go_wp2
    go_ret
    exact ⟨rfl, HK7.out⟩
  · by_cases h40 : 40 < n
    · have g40 : decide ((n : Int) > 40) = true := dec_of (by omega)
      have g40' : decide ((40 : Int) < (n : Int)) = true := dec_of (by omega)
      obtain ⟨hX0, hN0⟩ := HNONE.out (.inr h40)
      have HX0 := Lib.hid hX0
      subst hN0
      clear hX0
      go_wp2_with fail
      refine (noDesk_zero _ _ 0 X HX0.out HXD5.out.dv).mono ?_
      rintro e w6 ⟨rfl, hk⟩
      have HK6 := Lib.hid (HK5.out.trans hk (by simp))
      clear hk s0 s1 s2 s3
      go_wp2_with fail
      refine (alive_any _).mono ?_
      rintro e w7 ⟨rfl, hk⟩
      have HK7 := Lib.hid (HK6.out.trans hk (by simp))
      clear hk
      go_wp2
      go_ret
      exact ⟨rfl, HK7.out⟩
    · have g40 : decide ((n : Int) > 40) = false := dec_not (by omega)
      have g40' : decide ((40 : Int) < (n : Int)) = false := dec_not (by omega)
      have HNL : Hid (ds.length ≤ 40) := Lib.hid (by rw [← HN.out]; omega)
      obtain ⟨h, hh⟩ : ∃ h, h = n / 2 := ⟨_, rfl⟩
      have hhn : h ≤ n := by omega
      have hhl : ¬ n = 0 → h < n := by omega
      have hdiv : Int.tdiv (n : Int) 2 = (h : Int) := by rw [hh]; rw [Int.tdiv_eq_ediv_of_nonneg (by omega)]; omega
      obtain ⟨HP1, HP2, HP3, HP4, HP5⟩ := drun_parts hok HNL.out h
      rw [← HX.out] at HP1 HP2
      rw [← HNN.out] at HP3 HP4 HP5
      have HY := Lib.hid HP1
      obtain ⟨A, hA⟩ : ∃ A, A = Nt.drun d (ds.take h) := ⟨_, rfl⟩
      obtain ⟨P, hP⟩ : ∃ P, P = Nt.drunN d (ds.take h) := ⟨_, rfl⟩
      obtain ⟨Q, hQ⟩ : ∃ Q, Q = Nt.drunN A (ds.drop h) := ⟨_, rfl⟩
      rw [← hA] at HP2 HP3
      rw [← hP, ← hQ] at HP3
      have HPA := Lib.hid hA
      have HPP := Lib.hid hP
      have HPQ := Lib.hid hQ
      have HC := Lib.hid HP2
      have hsum : IntKind.i64.wrap (P + Q) = N := (IntWalk.i64_in _ (by omega)).trans HP3
      have hsum2 : wrap64 (P + Q) = N := (IntWalk.wrap64_in _ (by omega)).trans HP3
      have hNE : (N == N) = true := by simp
      clear HP1 HP2 HP3 HP4 HP5 hA hP hQ hok g40 h40 s0 s1 s2 s3 hh HNONE
      have hform := HFORM.out
      clear HFORM
      rcases hform with hform | hform
      · obtain ⟨e1, e2⟩ := hform
        simp only [Value.slice.injEq] at e1
        obtain ⟨rfl, hn0, rfl⟩ := e1
        have hh0 : h = 0 := by omega
        subst hn0
        subst hh0
        subst e2
        have HA1 : Hid (Ds w5 (.slice none 0 0) (([] : List Nt.Dd).take 0)) := Lib.hid (Ds.none _)
        have HA2 : Hid (Ds w5 (.slice none 0 0) (([] : List Nt.Dd).drop 0)) := Lib.hid (Ds.none _)
        have HNUM : Hid (Nt.drunN d (([] : List Nt.Dd).take 0) = P) := Lib.hid HPP.out.symm
        have HDSK : Hid (Nt.drun d (([] : List Nt.Dd).take 0) = A) := Lib.hid HPA.out.symm
        have HSB : Hid (∀ w', Kept [] w5 w' → w'.cell? ⟨w1.heap.size, 0, none⟩ = some (.slice ya yn yq) ∧ w'.cell? ⟨w1.heap.size, 1, none⟩ = some (.int .i64 d.now.c) ∧ w'.cell? ⟨w1.heap.size, 2, none⟩ = some (.slice yb ym yr) ∧ w'.cell? ⟨w1.heap.size, 3, none⟩ = some (.slice y3 yl ys)) := Lib.hid (fun w' k' => (HB5.out.stay k').four)
        have HD1 : Hid (∀ W, Kept [] w5 W → Calls Try.prog 31 #[.agg #[.slice ya yn yq, .int .i64 d.now.c, .slice yb ym yr, .slice y3 yl ys], .slice none 0 0] W fun e' w' => ∃ (ka kb k3 : Option Addr) (kn kq km kr kl ks : Nat), e' = .returned (.tuple #[.agg #[.slice ka kn kq, .int .i64 A.now.c, .slice kb km kr, .slice k3 kl ks], .int .i64 P]) ∧ Hid (De w' (.agg #[.slice ka kn kq, .int .i64 A.now.c, .slice kb km kr, .slice k3 kl ks]) A) ∧ Kept [] W w' ∧ Kept [] w5 w') := Lib.hid (fun W k => (iDeskRun_any d (([] : List Nt.Dd).take 0) W _ _ (HD5.out.stay k) (HA1.out.stay k)).mono (by rintro e' w' ⟨y, rfl, hv, hk⟩; rw [HNUM.out]; have hv2 := DxR.de2 hv; rw [HDSK.out] at hv2; obtain ⟨ka, kn, kq, kb, km, kr, k3, kl, ks, rfl⟩ := hv2.form; exact ⟨ka, kb, k3, kn, kq, km, kr, kl, ks, rfl, Lib.hid hv2, hk, k.trans hk (by simp)⟩))
        go_wp2_with fail
        go_cut [10, 11] from 63 to 70 (fun u10 u11 wc => ∃ (bp : Nat) (ka kb k3 : Option Addr) (kn kq km kr kl ks : Nat), u10 = .pointer (some ⟨bp, 0, none⟩) ∧ u11 = .int .i64 P ∧ Bk wc bp 32 #[.slice ka kn kq, .int .i64 A.now.c, .slice kb km kr, .slice k3 kl ks] ∧ De wc (.agg #[.slice ka kn kq, .int .i64 A.now.c, .slice kb km kr, .slice k3 kl ks]) A ∧ Kept [] w5 wc)
        case first =>
          have K1x : Hid (Kept [] w5 w5.drew) := Lib.hid ((Kept.refl [] w5).drew)
          refine wp_region_held_drew (S := (fun w' => w'.cell? ⟨w1.heap.size, 0, none⟩ = some (.slice ya yn yq) ∧ w'.cell? ⟨w1.heap.size, 1, none⟩ = some (.int .i64 d.now.c) ∧ w'.cell? ⟨w1.heap.size, 2, none⟩ = some (.slice yb ym yr) ∧ w'.cell? ⟨w1.heap.size, 3, none⟩ = some (.slice y3 yl ys))) (by kernel_rfl) (HSB.out _ K1x.out) (fun hHeld => ?_)
          generalize w5.drew = X1 at *
          refine wpAnyH_take (i := 0) (v := ?_) (opAt_lst5 rfl) (by kernel_rfl) (by kernel_rfl) (by kernel_rfl) (fun _ _ _ h => h) (Or.inl ⟨by rfl, ?_⟩) (by assumption) ?_
          rotate_left
          · intro w9 hSw
            (try dsimp only at hSw)
            go_simp
            try with_reducible rfl
          try simp only [Act.put, List.setIfInBounds_toArray, List.set_cons_zero, List.set_cons_succ]
          refine wpAnyH_take (i := 1) (v := ?_) (opAt_lst5 rfl) (by kernel_rfl) (by kernel_rfl) (by kernel_rfl) (fun _ _ _ h => h) (Or.inl ⟨by rfl, ?_⟩) (by assumption) ?_
          rotate_left
          · intro w9 hSw
            (try dsimp only at hSw)
            go_simp
            try with_reducible rfl
          try simp only [Act.put, List.setIfInBounds_toArray, List.set_cons_zero, List.set_cons_succ]
          refine wpAnyH_take (i := 2) (v := ?_) (opAt_lst5 rfl) (by kernel_rfl) (by kernel_rfl) (by kernel_rfl) (fun _ _ _ h => h) (Or.inl ⟨by rfl, ?_⟩) (by assumption) ?_
          rotate_left
          · intro w9 hSw
            (try dsimp only at hSw)
            go_simp
            try with_reducible rfl
          try simp only [Act.put, List.setIfInBounds_toArray, List.set_cons_zero, List.set_cons_succ]
          refine wpAnyH_take (i := 3) (v := ?_) (opAt_lst5 rfl) (by kernel_rfl) (by kernel_rfl) (by kernel_rfl) (fun _ _ _ h => h) (Or.inl ⟨by rfl, ?_⟩) (by assumption) ?_
          rotate_left
          · intro w9 hSw
            (try dsimp only at hSw)
            go_simp
            try with_reducible rfl
          try simp only [Act.put, List.setIfInBounds_toArray, List.set_cons_zero, List.set_cons_succ]
          refine wpAnyH_ready (rs := [4, 8]) (by kernel_rfl) (by simp) ?_
          refine (AllReadyH.cons (opAt_lst5 rfl) (fun K hK => ?_) (AllReadyH.cons (opAt_lst5 rfl) (fun K hK => ?_) AllReadyH.nil))
          · go_simp
            go_at_call 31
            refine (HD1.out _ K1x.out).mono ?_
            rintro e' X2 ⟨ka, kb, k3, kn, kq, km, kr, kl, ks, rfl, HZ, hk, hk0⟩
            refine hK.out _ _ (HSB.out _ hk0) (fun hHeld => ?_)
            clear hK K
            try simp only [Act.put, List.setIfInBounds_toArray, List.set_cons_zero, List.set_cons_succ]
            have K2x := Lib.hid hk0
            clear hk hk0
            refine wpAnyH_take (i := 5) (v := ?_) (opAt_lst5 rfl) (by kernel_rfl) (by kernel_rfl) (by kernel_rfl) (fun _ _ _ h => h) (Or.inl ⟨by rfl, ?_⟩) (by assumption) ?_
            rotate_left
            · intro w9 hSw
              (try dsimp only at hSw)
              go_simp
              try with_reducible rfl
            try simp only [Act.put, List.setIfInBounds_toArray, List.set_cons_zero, List.set_cons_succ]
            refine wpAnyH_take (i := 6) (v := ?_) (opAt_lst5 rfl) (by kernel_rfl) (by kernel_rfl) (by kernel_rfl) (fun _ _ _ h => h) (Or.inl ⟨by rfl, ?_⟩) (by assumption) ?_
            rotate_left
            · intro w9 hSw
              (try dsimp only at hSw)
              go_simp
              try with_reducible rfl
            try simp only [Act.put, List.setIfInBounds_toArray, List.set_cons_zero, List.set_cons_succ]
            refine wpAnyH_take (i := 7) (v := ?_) (opAt_lst5 rfl) (by kernel_rfl) (by kernel_rfl) (by kernel_rfl) (fun _ _ _ h => h) (Or.inl ⟨by rfl, ?_⟩) (by assumption) ?_
            rotate_left
            · intro w9 hSw
              (try dsimp only at hSw)
              go_simp
              try with_reducible rfl
            try simp only [Act.put, List.setIfInBounds_toArray, List.set_cons_zero, List.set_cons_succ]
            refine wpAnyH_ready (rs := [8]) (by kernel_rfl) (by simp) ?_
            refine (AllReadyH.cons (opAt_lst5 rfl) (fun K hK => ?_) AllReadyH.nil)
            go_simp
            have hka : Kept [] X2 (X2.alloc (.cells #[.slice none 0 0, .int .i64 0, .slice none 0 0, .slice none 0 0] 32)) := (Kept.refl _ _).alloc _
            have HL9 := Lib.hid (Bk.new X2 32 #[.slice none 0 0, .int .i64 0, .slice none 0 0, .slice none 0 0])
            refine hK.out _ _ (HSB.out _ (K2x.out.trans hka (by simp))) (fun hHeld => ?_)
            clear hK K
            try simp only [Act.put, List.setIfInBounds_toArray, List.set_cons_zero, List.set_cons_succ]
            obtain ⟨gL, hgL⟩ : ∃ g, g = X2.heap.size := ⟨_, rfl⟩
            have hLW : w5.heap.size ≤ gL := by rw [hgL]; exact K2x.out.size
            have K3x := Lib.hid (K2x.out.trans hka (by simp))
            have HZ := Lib.hid (HZ.out.stay hka)
            generalize X2.alloc (.cells #[.slice none 0 0, .int .i64 0, .slice none 0 0, .slice none 0 0] 32) = X3 at *
            rw [← hgL] at HL9 ⊢
            clear hgL hka
            refine wpAnyH_ready (rs := [9]) (by kernel_rfl) (by simp) ?_
            refine (AllReadyH.cons (opAt_lst5 rfl) (fun K hK => ?_) AllReadyH.nil)
            obtain ⟨l0, l1, l2, l3⟩ := HL9.out.four
            have f0 := HL9.out.frozen 0
            have f1 := HL9.out.frozen 1
            have f2 := HL9.out.frozen 2
            have f3 := HL9.out.frozen 3
            have hll := HL9.out.lt
            go_simp
            refine hK.out _ _ (HSB.out _ (K3x.out.set4 hLW (.slice ka kn kq) (.int .i64 A.now.c) (.slice kb km kr) (.slice k3 kl ks))) (fun hHeld => ?_)
            clear hK K
            try simp only [Act.put, List.setIfInBounds_toArray, List.set_cons_zero, List.set_cons_succ]
            refine wpAnyH_take (i := 10) (v := ?_) (opAt_lst5 rfl) (by kernel_rfl) (by kernel_rfl) (by kernel_rfl) (fun _ _ _ h => h) (Or.inl ⟨by rfl, ?_⟩) (by assumption) ?_
            rotate_left
            · intro w9 hSw
              (try dsimp only at hSw)
              go_simp
              try with_reducible rfl
            try simp only [Act.put, List.setIfInBounds_toArray, List.set_cons_zero, List.set_cons_succ]
            refine wpAnyH_done (by kernel_rfl) ?_ _
            go_wp2_with fail
            go_meet
            have hk4 := Kept.rows4 X3 gL (.slice ka kn kq) (.int .i64 A.now.c) (.slice kb km kr) (.slice k3 kl ks)
            exact ⟨gL, ka, kb, k3, kn, kq, km, kr, kl, ks, rfl, rfl, HL9.out.set4 _ _ _ _, HZ.out.alien hk4 (Alien.one HL9.out), (K3x.out.set4 hLW (.slice ka kn kq) (.int .i64 A.now.c) (.slice kb km kr) (.slice k3 kl ks))⟩
          · go_simp
            have hka : Kept [] X1 (X1.alloc (.cells #[.slice none 0 0, .int .i64 0, .slice none 0 0, .slice none 0 0] 32)) := (Kept.refl _ _).alloc _
            have HL9 := Lib.hid (Bk.new X1 32 #[.slice none 0 0, .int .i64 0, .slice none 0 0, .slice none 0 0])
            refine hK.out _ _ (HSB.out _ (K1x.out.trans hka (by simp))) (fun hHeld => ?_)
            clear hK K
            try simp only [Act.put, List.setIfInBounds_toArray, List.set_cons_zero, List.set_cons_succ]
            obtain ⟨gL, hgL⟩ : ∃ g, g = X1.heap.size := ⟨_, rfl⟩
            have hLW : w5.heap.size ≤ gL := by rw [hgL]; exact K1x.out.size
            have K2x := Lib.hid (K1x.out.trans hka (by simp))
            generalize X1.alloc (.cells #[.slice none 0 0, .int .i64 0, .slice none 0 0, .slice none 0 0] 32) = X2 at *
            rw [← hgL] at HL9 ⊢
            clear hgL hka
            refine wpAnyH_ready (rs := [4]) (by kernel_rfl) (by simp) ?_
            refine (AllReadyH.cons (opAt_lst5 rfl) (fun K hK => ?_) AllReadyH.nil)
            go_simp
            go_at_call 31
            refine (HD1.out _ K2x.out).mono ?_
            rintro e' X3 ⟨ka, kb, k3, kn, kq, km, kr, kl, ks, rfl, HZ, hk, hk0⟩
            refine hK.out _ _ (HSB.out _ hk0) (fun hHeld => ?_)
            clear hK K
            try simp only [Act.put, List.setIfInBounds_toArray, List.set_cons_zero, List.set_cons_succ]
            have K3x := Lib.hid hk0
            have HL9 := Lib.hid (HL9.out.stay hk)
            clear hk hk0
            refine wpAnyH_take (i := 5) (v := ?_) (opAt_lst5 rfl) (by kernel_rfl) (by kernel_rfl) (by kernel_rfl) (fun _ _ _ h => h) (Or.inl ⟨by rfl, ?_⟩) (by assumption) ?_
            rotate_left
            · intro w9 hSw
              (try dsimp only at hSw)
              go_simp
              try with_reducible rfl
            try simp only [Act.put, List.setIfInBounds_toArray, List.set_cons_zero, List.set_cons_succ]
            refine wpAnyH_take (i := 6) (v := ?_) (opAt_lst5 rfl) (by kernel_rfl) (by kernel_rfl) (by kernel_rfl) (fun _ _ _ h => h) (Or.inl ⟨by rfl, ?_⟩) (by assumption) ?_
            rotate_left
            · intro w9 hSw
              (try dsimp only at hSw)
              go_simp
              try with_reducible rfl
            try simp only [Act.put, List.setIfInBounds_toArray, List.set_cons_zero, List.set_cons_succ]
            refine wpAnyH_take (i := 7) (v := ?_) (opAt_lst5 rfl) (by kernel_rfl) (by kernel_rfl) (by kernel_rfl) (fun _ _ _ h => h) (Or.inl ⟨by rfl, ?_⟩) (by assumption) ?_
            rotate_left
            · intro w9 hSw
              (try dsimp only at hSw)
              go_simp
              try with_reducible rfl
            try simp only [Act.put, List.setIfInBounds_toArray, List.set_cons_zero, List.set_cons_succ]
            refine wpAnyH_ready (rs := [9]) (by kernel_rfl) (by simp) ?_
            refine (AllReadyH.cons (opAt_lst5 rfl) (fun K hK => ?_) AllReadyH.nil)
            obtain ⟨l0, l1, l2, l3⟩ := HL9.out.four
            have f0 := HL9.out.frozen 0
            have f1 := HL9.out.frozen 1
            have f2 := HL9.out.frozen 2
            have f3 := HL9.out.frozen 3
            have hll := HL9.out.lt
            go_simp
            refine hK.out _ _ (HSB.out _ (K3x.out.set4 hLW (.slice ka kn kq) (.int .i64 A.now.c) (.slice kb km kr) (.slice k3 kl ks))) (fun hHeld => ?_)
            clear hK K
            try simp only [Act.put, List.setIfInBounds_toArray, List.set_cons_zero, List.set_cons_succ]
            refine wpAnyH_take (i := 10) (v := ?_) (opAt_lst5 rfl) (by kernel_rfl) (by kernel_rfl) (by kernel_rfl) (fun _ _ _ h => h) (Or.inl ⟨by rfl, ?_⟩) (by assumption) ?_
            rotate_left
            · intro w9 hSw
              (try dsimp only at hSw)
              go_simp
              try with_reducible rfl
            try simp only [Act.put, List.setIfInBounds_toArray, List.set_cons_zero, List.set_cons_succ]
            refine wpAnyH_done (by kernel_rfl) ?_ _
            go_wp2_with fail
            go_meet
            have hk4 := Kept.rows4 X3 gL (.slice ka kn kq) (.int .i64 A.now.c) (.slice kb km kr) (.slice k3 kl ks)
            exact ⟨gL, ka, kb, k3, kn, kq, km, kr, kl, ks, rfl, rfl, HL9.out.set4 _ _ _ _, HZ.out.alien hk4 (Alien.one HL9.out), (K3x.out.set4 hLW (.slice ka kn kq) (.int .i64 A.now.c) (.slice kb km kr) (.slice k3 kl ks))⟩
        case rest =>
          obtain ⟨bp, ka, kb, k3, kn, kq, km, kr, kl, ks, rfl, rfl, hbp, hde, hkc⟩ := hcut
          have HB6 := Lib.hid (HB5.out.stay hkc)
          have HX6 := Lib.hid (HX5.out.stay hkc)
          have HXD6 := Lib.hid (HXD5.out.stay hkc)
          have HA6 := Lib.hid (HA2.out.stay hkc)
          have HK6 := Lib.hid (HK5.out.trans hkc (by simp))
          have HBP := Lib.hid hbp
          have HDE := Lib.hid hde
          clear hkc hbp hde HSB HD1 HNUM HDSK
          generalize wc = w6 at *
          have HNUM : Hid (Nt.drunN A (([] : List Nt.Dd).drop 0) = Q) := Lib.hid HPQ.out.symm
          have HDSK : Hid (Nt.drun A (([] : List Nt.Dd).drop 0) = X) := Lib.hid HC.out
          have HSB : Hid (∀ w', Kept [] w6 w' → w'.cell? ⟨bp, 0, none⟩ = some (.slice ka kn kq) ∧ w'.cell? ⟨bp, 1, none⟩ = some (.int .i64 A.now.c) ∧ w'.cell? ⟨bp, 2, none⟩ = some (.slice kb km kr) ∧ w'.cell? ⟨bp, 3, none⟩ = some (.slice k3 kl ks)) := Lib.hid (fun w' k' => (HBP.out.stay k').four)
          have HD1 : Hid (∀ W, Kept [] w6 W → Calls Try.prog 31 #[.agg #[.slice ka kn kq, .int .i64 A.now.c, .slice kb km kr, .slice k3 kl ks], .slice none 0 0] W fun e' w' => ∃ (ca cb c3 : Option Addr) (cn cq cm cr cl cs : Nat), e' = .returned (.tuple #[.agg #[.slice ca cn cq, .int .i64 X.now.c, .slice cb cm cr, .slice c3 cl cs], .int .i64 Q]) ∧ Hid (De w' (.agg #[.slice ca cn cq, .int .i64 X.now.c, .slice cb cm cr, .slice c3 cl cs]) X) ∧ Kept [] W w' ∧ Kept [] w6 w') := Lib.hid (fun W k => (iDeskRun_any A (([] : List Nt.Dd).drop 0) W _ _ (HDE.out.stay k) (HA6.out.stay k)).mono (by rintro e' w' ⟨y, rfl, hv, hk⟩; rw [HNUM.out]; have hv2 := DxR.de2 hv; rw [HDSK.out] at hv2; obtain ⟨ca, cn, cq, cb, cm, cr, c3, cl, cs, rfl⟩ := hv2.form; exact ⟨ca, cb, c3, cn, cq, cm, cr, cl, cs, rfl, Lib.hid hv2, hk, k.trans hk (by simp)⟩))
          go_wp2_with fail
          go_cut [12, 13] from 71 to 78 (fun u12 u13 wc => ∃ (bp : Nat) (ca cb c3 : Option Addr) (cn cq cm cr cl cs : Nat), u12 = .pointer (some ⟨bp, 0, none⟩) ∧ u13 = .int .i64 Q ∧ Bk wc bp 32 #[.slice ca cn cq, .int .i64 X.now.c, .slice cb cm cr, .slice c3 cl cs] ∧ De wc (.agg #[.slice ca cn cq, .int .i64 X.now.c, .slice cb cm cr, .slice c3 cl cs]) X ∧ Kept [] w6 wc)
          case first =>
            have K1x : Hid (Kept [] w6 w6.drew) := Lib.hid ((Kept.refl [] w6).drew)
            refine wp_region_held_drew (S := (fun w' => w'.cell? ⟨bp, 0, none⟩ = some (.slice ka kn kq) ∧ w'.cell? ⟨bp, 1, none⟩ = some (.int .i64 A.now.c) ∧ w'.cell? ⟨bp, 2, none⟩ = some (.slice kb km kr) ∧ w'.cell? ⟨bp, 3, none⟩ = some (.slice k3 kl ks))) (by kernel_rfl) (HSB.out _ K1x.out) (fun hHeld => ?_)
            generalize w6.drew = X1 at *
            refine wpAnyH_take (i := 0) (v := ?_) (opAt_lst5 rfl) (by kernel_rfl) (by kernel_rfl) (by kernel_rfl) (fun _ _ _ h => h) (Or.inl ⟨by rfl, ?_⟩) (by assumption) ?_
            rotate_left
            · intro w9 hSw
              (try dsimp only at hSw)
              go_simp
              try with_reducible rfl
            try simp only [Act.put, List.setIfInBounds_toArray, List.set_cons_zero, List.set_cons_succ]
            refine wpAnyH_take (i := 1) (v := ?_) (opAt_lst5 rfl) (by kernel_rfl) (by kernel_rfl) (by kernel_rfl) (fun _ _ _ h => h) (Or.inl ⟨by rfl, ?_⟩) (by assumption) ?_
            rotate_left
            · intro w9 hSw
              (try dsimp only at hSw)
              go_simp
              try with_reducible rfl
            try simp only [Act.put, List.setIfInBounds_toArray, List.set_cons_zero, List.set_cons_succ]
            refine wpAnyH_take (i := 2) (v := ?_) (opAt_lst5 rfl) (by kernel_rfl) (by kernel_rfl) (by kernel_rfl) (fun _ _ _ h => h) (Or.inl ⟨by rfl, ?_⟩) (by assumption) ?_
            rotate_left
            · intro w9 hSw
              (try dsimp only at hSw)
              go_simp
              try with_reducible rfl
            try simp only [Act.put, List.setIfInBounds_toArray, List.set_cons_zero, List.set_cons_succ]
            refine wpAnyH_take (i := 3) (v := ?_) (opAt_lst5 rfl) (by kernel_rfl) (by kernel_rfl) (by kernel_rfl) (fun _ _ _ h => h) (Or.inl ⟨by rfl, ?_⟩) (by assumption) ?_
            rotate_left
            · intro w9 hSw
              (try dsimp only at hSw)
              go_simp
              try with_reducible rfl
            try simp only [Act.put, List.setIfInBounds_toArray, List.set_cons_zero, List.set_cons_succ]
            refine wpAnyH_ready (rs := [4, 8]) (by kernel_rfl) (by simp) ?_
            refine (AllReadyH.cons (opAt_lst5 rfl) (fun K hK => ?_) (AllReadyH.cons (opAt_lst5 rfl) (fun K hK => ?_) AllReadyH.nil))
            · go_simp
              go_at_call 31
              refine (HD1.out _ K1x.out).mono ?_
              rintro e' X2 ⟨ca, cb, c3, cn, cq, cm, cr, cl, cs, rfl, HZ, hk, hk0⟩
              refine hK.out _ _ (HSB.out _ hk0) (fun hHeld => ?_)
              clear hK K
              try simp only [Act.put, List.setIfInBounds_toArray, List.set_cons_zero, List.set_cons_succ]
              have K2x := Lib.hid hk0
              clear hk hk0
              refine wpAnyH_take (i := 5) (v := ?_) (opAt_lst5 rfl) (by kernel_rfl) (by kernel_rfl) (by kernel_rfl) (fun _ _ _ h => h) (Or.inl ⟨by rfl, ?_⟩) (by assumption) ?_
              rotate_left
              · intro w9 hSw
                (try dsimp only at hSw)
                go_simp
                try with_reducible rfl
              try simp only [Act.put, List.setIfInBounds_toArray, List.set_cons_zero, List.set_cons_succ]
              refine wpAnyH_take (i := 6) (v := ?_) (opAt_lst5 rfl) (by kernel_rfl) (by kernel_rfl) (by kernel_rfl) (fun _ _ _ h => h) (Or.inl ⟨by rfl, ?_⟩) (by assumption) ?_
              rotate_left
              · intro w9 hSw
                (try dsimp only at hSw)
                go_simp
                try with_reducible rfl
              try simp only [Act.put, List.setIfInBounds_toArray, List.set_cons_zero, List.set_cons_succ]
              refine wpAnyH_take (i := 7) (v := ?_) (opAt_lst5 rfl) (by kernel_rfl) (by kernel_rfl) (by kernel_rfl) (fun _ _ _ h => h) (Or.inl ⟨by rfl, ?_⟩) (by assumption) ?_
              rotate_left
              · intro w9 hSw
                (try dsimp only at hSw)
                go_simp
                try with_reducible rfl
              try simp only [Act.put, List.setIfInBounds_toArray, List.set_cons_zero, List.set_cons_succ]
              refine wpAnyH_ready (rs := [8]) (by kernel_rfl) (by simp) ?_
              refine (AllReadyH.cons (opAt_lst5 rfl) (fun K hK => ?_) AllReadyH.nil)
              go_simp
              have hka : Kept [] X2 (X2.alloc (.cells #[.slice none 0 0, .int .i64 0, .slice none 0 0, .slice none 0 0] 32)) := (Kept.refl _ _).alloc _
              have HL9 := Lib.hid (Bk.new X2 32 #[.slice none 0 0, .int .i64 0, .slice none 0 0, .slice none 0 0])
              refine hK.out _ _ (HSB.out _ (K2x.out.trans hka (by simp))) (fun hHeld => ?_)
              clear hK K
              try simp only [Act.put, List.setIfInBounds_toArray, List.set_cons_zero, List.set_cons_succ]
              obtain ⟨gL, hgL⟩ : ∃ g, g = X2.heap.size := ⟨_, rfl⟩
              have hLW : w6.heap.size ≤ gL := by rw [hgL]; exact K2x.out.size
              have K3x := Lib.hid (K2x.out.trans hka (by simp))
              have HZ := Lib.hid (HZ.out.stay hka)
              generalize X2.alloc (.cells #[.slice none 0 0, .int .i64 0, .slice none 0 0, .slice none 0 0] 32) = X3 at *
              rw [← hgL] at HL9 ⊢
              clear hgL hka
              refine wpAnyH_ready (rs := [9]) (by kernel_rfl) (by simp) ?_
              refine (AllReadyH.cons (opAt_lst5 rfl) (fun K hK => ?_) AllReadyH.nil)
              obtain ⟨l0, l1, l2, l3⟩ := HL9.out.four
              have f0 := HL9.out.frozen 0
              have f1 := HL9.out.frozen 1
              have f2 := HL9.out.frozen 2
              have f3 := HL9.out.frozen 3
              have hll := HL9.out.lt
              go_simp
              refine hK.out _ _ (HSB.out _ (K3x.out.set4 hLW (.slice ca cn cq) (.int .i64 X.now.c) (.slice cb cm cr) (.slice c3 cl cs))) (fun hHeld => ?_)
              clear hK K
              try simp only [Act.put, List.setIfInBounds_toArray, List.set_cons_zero, List.set_cons_succ]
              refine wpAnyH_take (i := 10) (v := ?_) (opAt_lst5 rfl) (by kernel_rfl) (by kernel_rfl) (by kernel_rfl) (fun _ _ _ h => h) (Or.inl ⟨by rfl, ?_⟩) (by assumption) ?_
              rotate_left
              · intro w9 hSw
                (try dsimp only at hSw)
                go_simp
                try with_reducible rfl
              try simp only [Act.put, List.setIfInBounds_toArray, List.set_cons_zero, List.set_cons_succ]
              refine wpAnyH_done (by kernel_rfl) ?_ _
              go_wp2_with fail
              go_meet
              have hk4 := Kept.rows4 X3 gL (.slice ca cn cq) (.int .i64 X.now.c) (.slice cb cm cr) (.slice c3 cl cs)
              exact ⟨gL, ca, cb, c3, cn, cq, cm, cr, cl, cs, rfl, rfl, HL9.out.set4 _ _ _ _, HZ.out.alien hk4 (Alien.one HL9.out), (K3x.out.set4 hLW (.slice ca cn cq) (.int .i64 X.now.c) (.slice cb cm cr) (.slice c3 cl cs))⟩
            · go_simp
              have hka : Kept [] X1 (X1.alloc (.cells #[.slice none 0 0, .int .i64 0, .slice none 0 0, .slice none 0 0] 32)) := (Kept.refl _ _).alloc _
              have HL9 := Lib.hid (Bk.new X1 32 #[.slice none 0 0, .int .i64 0, .slice none 0 0, .slice none 0 0])
              refine hK.out _ _ (HSB.out _ (K1x.out.trans hka (by simp))) (fun hHeld => ?_)
              clear hK K
              try simp only [Act.put, List.setIfInBounds_toArray, List.set_cons_zero, List.set_cons_succ]
              obtain ⟨gL, hgL⟩ : ∃ g, g = X1.heap.size := ⟨_, rfl⟩
              have hLW : w6.heap.size ≤ gL := by rw [hgL]; exact K1x.out.size
              have K2x := Lib.hid (K1x.out.trans hka (by simp))
              generalize X1.alloc (.cells #[.slice none 0 0, .int .i64 0, .slice none 0 0, .slice none 0 0] 32) = X2 at *
              rw [← hgL] at HL9 ⊢
              clear hgL hka
              refine wpAnyH_ready (rs := [4]) (by kernel_rfl) (by simp) ?_
              refine (AllReadyH.cons (opAt_lst5 rfl) (fun K hK => ?_) AllReadyH.nil)
              go_simp
              go_at_call 31
              refine (HD1.out _ K2x.out).mono ?_
              rintro e' X3 ⟨ca, cb, c3, cn, cq, cm, cr, cl, cs, rfl, HZ, hk, hk0⟩
              refine hK.out _ _ (HSB.out _ hk0) (fun hHeld => ?_)
              clear hK K
              try simp only [Act.put, List.setIfInBounds_toArray, List.set_cons_zero, List.set_cons_succ]
              have K3x := Lib.hid hk0
              have HL9 := Lib.hid (HL9.out.stay hk)
              clear hk hk0
              refine wpAnyH_take (i := 5) (v := ?_) (opAt_lst5 rfl) (by kernel_rfl) (by kernel_rfl) (by kernel_rfl) (fun _ _ _ h => h) (Or.inl ⟨by rfl, ?_⟩) (by assumption) ?_
              rotate_left
              · intro w9 hSw
                (try dsimp only at hSw)
                go_simp
                try with_reducible rfl
              try simp only [Act.put, List.setIfInBounds_toArray, List.set_cons_zero, List.set_cons_succ]
              refine wpAnyH_take (i := 6) (v := ?_) (opAt_lst5 rfl) (by kernel_rfl) (by kernel_rfl) (by kernel_rfl) (fun _ _ _ h => h) (Or.inl ⟨by rfl, ?_⟩) (by assumption) ?_
              rotate_left
              · intro w9 hSw
                (try dsimp only at hSw)
                go_simp
                try with_reducible rfl
              try simp only [Act.put, List.setIfInBounds_toArray, List.set_cons_zero, List.set_cons_succ]
              refine wpAnyH_take (i := 7) (v := ?_) (opAt_lst5 rfl) (by kernel_rfl) (by kernel_rfl) (by kernel_rfl) (fun _ _ _ h => h) (Or.inl ⟨by rfl, ?_⟩) (by assumption) ?_
              rotate_left
              · intro w9 hSw
                (try dsimp only at hSw)
                go_simp
                try with_reducible rfl
              try simp only [Act.put, List.setIfInBounds_toArray, List.set_cons_zero, List.set_cons_succ]
              refine wpAnyH_ready (rs := [9]) (by kernel_rfl) (by simp) ?_
              refine (AllReadyH.cons (opAt_lst5 rfl) (fun K hK => ?_) AllReadyH.nil)
              obtain ⟨l0, l1, l2, l3⟩ := HL9.out.four
              have f0 := HL9.out.frozen 0
              have f1 := HL9.out.frozen 1
              have f2 := HL9.out.frozen 2
              have f3 := HL9.out.frozen 3
              have hll := HL9.out.lt
              go_simp
              refine hK.out _ _ (HSB.out _ (K3x.out.set4 hLW (.slice ca cn cq) (.int .i64 X.now.c) (.slice cb cm cr) (.slice c3 cl cs))) (fun hHeld => ?_)
              clear hK K
              try simp only [Act.put, List.setIfInBounds_toArray, List.set_cons_zero, List.set_cons_succ]
              refine wpAnyH_take (i := 10) (v := ?_) (opAt_lst5 rfl) (by kernel_rfl) (by kernel_rfl) (by kernel_rfl) (fun _ _ _ h => h) (Or.inl ⟨by rfl, ?_⟩) (by assumption) ?_
              rotate_left
              · intro w9 hSw
                (try dsimp only at hSw)
                go_simp
                try with_reducible rfl
              try simp only [Act.put, List.setIfInBounds_toArray, List.set_cons_zero, List.set_cons_succ]
              refine wpAnyH_done (by kernel_rfl) ?_ _
              go_wp2_with fail
              go_meet
              have hk4 := Kept.rows4 X3 gL (.slice ca cn cq) (.int .i64 X.now.c) (.slice cb cm cr) (.slice c3 cl cs)
              exact ⟨gL, ca, cb, c3, cn, cq, cm, cr, cl, cs, rfl, rfl, HL9.out.set4 _ _ _ _, HZ.out.alien hk4 (Alien.one HL9.out), (K3x.out.set4 hLW (.slice ca cn cq) (.int .i64 X.now.c) (.slice cb cm cr) (.slice c3 cl cs))⟩
          case rest =>
            obtain ⟨bq, ca, cb, c3, cn, cq, cm, cr, cl, cs, rfl, rfl, hbp, hde, hkc⟩ := hcut
            have HX7 := Lib.hid (HX6.out.stay hkc)
            have HXD7 := Lib.hid (HXD6.out.stay hkc)
            have HK7 := Lib.hid (HK6.out.trans hkc (by simp))
            have HBQ := Lib.hid hbp
            have HCD := Lib.hid hde
            clear hkc hbp hde HSB HD1 HNUM HDSK
            obtain ⟨s0, s1, s2, s3⟩ := HX7.out.four
            obtain ⟨q0, q1, q2, q3⟩ := HBQ.out.four
            go_wp2_with fail
            refine (iDeskOk_any X _ _ 0 HXD7.out.dv).mono ?_
            rintro e w8 ⟨rfl, hk⟩
            rw [HY.out]
            have HXD8 := Lib.hid (HXD7.out.stay hk)
            have HCD8 := Lib.hid (HCD.out.stay hk)
            have HX8 := Lib.hid (HX7.out.stay hk)
            have HBQ8 := Lib.hid (HBQ.out.stay hk)
            have HK8 := Lib.hid (HK7.out.trans hk (by simp))
            clear hk s0 s1 s2 s3 q0 q1 q2 q3
            obtain ⟨s0, s1, s2, s3⟩ := HX8.out.four
            obtain ⟨q0, q1, q2, q3⟩ := HBQ8.out.four
            go_wp2_with fail
            refine (sameDesk_any X X _ _ _ 0 0 HCD8.out.dv HXD8.out.dv).mono ?_
            rintro e w9 ⟨b, rfl, hb, hk⟩
            rw [hb rfl]
            have HK9 := Lib.hid (HK8.out.trans hk (by simp))
            clear hk hb
            go_wp2
            go_ret
            exact ⟨rfl, HK9.out⟩
      · by_cases hnz : n = 0
        · obtain ⟨gg, cg, e1⟩ := hform
          simp only [Value.slice.injEq] at e1
          obtain ⟨rfl, hn0, rfl⟩ := e1
          have hcm9 : uc ≤ 9223372036854775807 := by obtain ⟨_, _, e, _, h2, _⟩ := HL5.out; simp only [Value.slice.injEq] at e; omega
          have hds0 : ds = [] := List.eq_nil_of_length_eq_zero (by rw [← HN.out]; exact hnz)
          have hh0 : h = 0 := by omega
          subst hnz
          subst hh0
          subst hds0
          have HA1 : Hid True := Lib.hid trivial
          have HA2 : Hid True := Lib.hid trivial
          have HNUM : Hid (Nt.drunN d (([] : List Nt.Dd).take 0) = P) := Lib.hid HPP.out.symm
          have HDSK : Hid (Nt.drun d (([] : List Nt.Dd).take 0) = A) := Lib.hid HPA.out.symm
          have HSB : Hid (∀ w', Kept [] w5 w' → w'.cell? ⟨w1.heap.size, 0, none⟩ = some (.slice ya yn yq) ∧ w'.cell? ⟨w1.heap.size, 1, none⟩ = some (.int .i64 d.now.c) ∧ w'.cell? ⟨w1.heap.size, 2, none⟩ = some (.slice yb ym yr) ∧ w'.cell? ⟨w1.heap.size, 3, none⟩ = some (.slice y3 yl ys)) := Lib.hid (fun w' k' => (HB5.out.stay k').four)
          have HD1 : Hid (∀ W av cv, cv ≤ 9223372036854775807 → Kept [] w5 W → Calls Try.prog 31 #[.agg #[.slice ya yn yq, .int .i64 d.now.c, .slice yb ym yr, .slice y3 yl ys], .slice av 0 cv] W fun e' w' => ∃ (ka kb k3 : Option Addr) (kn kq km kr kl ks : Nat), e' = .returned (.tuple #[.agg #[.slice ka kn kq, .int .i64 A.now.c, .slice kb km kr, .slice k3 kl ks], .int .i64 P]) ∧ Hid (De w' (.agg #[.slice ka kn kq, .int .i64 A.now.c, .slice kb km kr, .slice k3 kl ks]) A) ∧ Kept [] W w' ∧ Kept [] w5 w') := Lib.hid (fun W av cv hcv k => (iDeskRun_any d (([] : List Nt.Dd).take 0) W _ _ (HD5.out.stay k) (Ds.emp W av cv hcv)).mono (by rintro e' w' ⟨y, rfl, hv, hk⟩; rw [HNUM.out]; have hv2 := DxR.de2 hv; rw [HDSK.out] at hv2; obtain ⟨ka, kn, kq, kb, km, kr, k3, kl, ks, rfl⟩ := hv2.form; exact ⟨ka, kb, k3, kn, kq, km, kr, kl, ks, rfl, Lib.hid hv2, hk, k.trans hk (by simp)⟩))
          go_wp2_with fail
          go_cut [10, 11] from 63 to 70 (fun u10 u11 wc => ∃ (bp : Nat) (ka kb k3 : Option Addr) (kn kq km kr kl ks : Nat), u10 = .pointer (some ⟨bp, 0, none⟩) ∧ u11 = .int .i64 P ∧ Bk wc bp 32 #[.slice ka kn kq, .int .i64 A.now.c, .slice kb km kr, .slice k3 kl ks] ∧ De wc (.agg #[.slice ka kn kq, .int .i64 A.now.c, .slice kb km kr, .slice k3 kl ks]) A ∧ Kept [] w5 wc)
          case first =>
            have K1x : Hid (Kept [] w5 w5.drew) := Lib.hid ((Kept.refl [] w5).drew)
            refine wp_region_held_drew (S := (fun w' => w'.cell? ⟨w1.heap.size, 0, none⟩ = some (.slice ya yn yq) ∧ w'.cell? ⟨w1.heap.size, 1, none⟩ = some (.int .i64 d.now.c) ∧ w'.cell? ⟨w1.heap.size, 2, none⟩ = some (.slice yb ym yr) ∧ w'.cell? ⟨w1.heap.size, 3, none⟩ = some (.slice y3 yl ys))) (by kernel_rfl) (HSB.out _ K1x.out) (fun hHeld => ?_)
            generalize w5.drew = X1 at *
            refine wpAnyH_take (i := 0) (v := ?_) (opAt_lst5 rfl) (by kernel_rfl) (by kernel_rfl) (by kernel_rfl) (fun _ _ _ h => h) (Or.inl ⟨by rfl, ?_⟩) (by assumption) ?_
            rotate_left
            · intro w9 hSw
              (try dsimp only at hSw)
              go_simp
              try with_reducible rfl
            try simp only [Act.put, List.setIfInBounds_toArray, List.set_cons_zero, List.set_cons_succ]
            refine wpAnyH_take (i := 1) (v := ?_) (opAt_lst5 rfl) (by kernel_rfl) (by kernel_rfl) (by kernel_rfl) (fun _ _ _ h => h) (Or.inl ⟨by rfl, ?_⟩) (by assumption) ?_
            rotate_left
            · intro w9 hSw
              (try dsimp only at hSw)
              go_simp
              try with_reducible rfl
            try simp only [Act.put, List.setIfInBounds_toArray, List.set_cons_zero, List.set_cons_succ]
            refine wpAnyH_take (i := 2) (v := ?_) (opAt_lst5 rfl) (by kernel_rfl) (by kernel_rfl) (by kernel_rfl) (fun _ _ _ h => h) (Or.inl ⟨by rfl, ?_⟩) (by assumption) ?_
            rotate_left
            · intro w9 hSw
              (try dsimp only at hSw)
              go_simp
              try with_reducible rfl
            try simp only [Act.put, List.setIfInBounds_toArray, List.set_cons_zero, List.set_cons_succ]
            refine wpAnyH_take (i := 3) (v := ?_) (opAt_lst5 rfl) (by kernel_rfl) (by kernel_rfl) (by kernel_rfl) (fun _ _ _ h => h) (Or.inl ⟨by rfl, ?_⟩) (by assumption) ?_
            rotate_left
            · intro w9 hSw
              (try dsimp only at hSw)
              go_simp
              try with_reducible rfl
            try simp only [Act.put, List.setIfInBounds_toArray, List.set_cons_zero, List.set_cons_succ]
            refine wpAnyH_ready (rs := [4, 8]) (by kernel_rfl) (by simp) ?_
            refine (AllReadyH.cons (opAt_lst5 rfl) (fun K hK => ?_) (AllReadyH.cons (opAt_lst5 rfl) (fun K hK => ?_) AllReadyH.nil))
            · go_simp
              go_at_call 31
              refine (HD1.out _ _ _ (by first | exact hcm9 | omega | simp) K1x.out).mono ?_
              rintro e' X2 ⟨ka, kb, k3, kn, kq, km, kr, kl, ks, rfl, HZ, hk, hk0⟩
              refine hK.out _ _ (HSB.out _ hk0) (fun hHeld => ?_)
              clear hK K
              try simp only [Act.put, List.setIfInBounds_toArray, List.set_cons_zero, List.set_cons_succ]
              have K2x := Lib.hid hk0
              clear hk hk0
              refine wpAnyH_take (i := 5) (v := ?_) (opAt_lst5 rfl) (by kernel_rfl) (by kernel_rfl) (by kernel_rfl) (fun _ _ _ h => h) (Or.inl ⟨by rfl, ?_⟩) (by assumption) ?_
              rotate_left
              · intro w9 hSw
                (try dsimp only at hSw)
                go_simp
                try with_reducible rfl
              try simp only [Act.put, List.setIfInBounds_toArray, List.set_cons_zero, List.set_cons_succ]
              refine wpAnyH_take (i := 6) (v := ?_) (opAt_lst5 rfl) (by kernel_rfl) (by kernel_rfl) (by kernel_rfl) (fun _ _ _ h => h) (Or.inl ⟨by rfl, ?_⟩) (by assumption) ?_
              rotate_left
              · intro w9 hSw
                (try dsimp only at hSw)
                go_simp
                try with_reducible rfl
              try simp only [Act.put, List.setIfInBounds_toArray, List.set_cons_zero, List.set_cons_succ]
              refine wpAnyH_take (i := 7) (v := ?_) (opAt_lst5 rfl) (by kernel_rfl) (by kernel_rfl) (by kernel_rfl) (fun _ _ _ h => h) (Or.inl ⟨by rfl, ?_⟩) (by assumption) ?_
              rotate_left
              · intro w9 hSw
                (try dsimp only at hSw)
                go_simp
                try with_reducible rfl
              try simp only [Act.put, List.setIfInBounds_toArray, List.set_cons_zero, List.set_cons_succ]
              refine wpAnyH_ready (rs := [8]) (by kernel_rfl) (by simp) ?_
              refine (AllReadyH.cons (opAt_lst5 rfl) (fun K hK => ?_) AllReadyH.nil)
              go_simp
              have hka : Kept [] X2 (X2.alloc (.cells #[.slice none 0 0, .int .i64 0, .slice none 0 0, .slice none 0 0] 32)) := (Kept.refl _ _).alloc _
              have HL9 := Lib.hid (Bk.new X2 32 #[.slice none 0 0, .int .i64 0, .slice none 0 0, .slice none 0 0])
              refine hK.out _ _ (HSB.out _ (K2x.out.trans hka (by simp))) (fun hHeld => ?_)
              clear hK K
              try simp only [Act.put, List.setIfInBounds_toArray, List.set_cons_zero, List.set_cons_succ]
              obtain ⟨gL, hgL⟩ : ∃ g, g = X2.heap.size := ⟨_, rfl⟩
              have hLW : w5.heap.size ≤ gL := by rw [hgL]; exact K2x.out.size
              have K3x := Lib.hid (K2x.out.trans hka (by simp))
              have HZ := Lib.hid (HZ.out.stay hka)
              generalize X2.alloc (.cells #[.slice none 0 0, .int .i64 0, .slice none 0 0, .slice none 0 0] 32) = X3 at *
              rw [← hgL] at HL9 ⊢
              clear hgL hka
              refine wpAnyH_ready (rs := [9]) (by kernel_rfl) (by simp) ?_
              refine (AllReadyH.cons (opAt_lst5 rfl) (fun K hK => ?_) AllReadyH.nil)
              obtain ⟨l0, l1, l2, l3⟩ := HL9.out.four
              have f0 := HL9.out.frozen 0
              have f1 := HL9.out.frozen 1
              have f2 := HL9.out.frozen 2
              have f3 := HL9.out.frozen 3
              have hll := HL9.out.lt
              go_simp
              refine hK.out _ _ (HSB.out _ (K3x.out.set4 hLW (.slice ka kn kq) (.int .i64 A.now.c) (.slice kb km kr) (.slice k3 kl ks))) (fun hHeld => ?_)
              clear hK K
              try simp only [Act.put, List.setIfInBounds_toArray, List.set_cons_zero, List.set_cons_succ]
              refine wpAnyH_take (i := 10) (v := ?_) (opAt_lst5 rfl) (by kernel_rfl) (by kernel_rfl) (by kernel_rfl) (fun _ _ _ h => h) (Or.inl ⟨by rfl, ?_⟩) (by assumption) ?_
              rotate_left
              · intro w9 hSw
                (try dsimp only at hSw)
                go_simp
                try with_reducible rfl
              try simp only [Act.put, List.setIfInBounds_toArray, List.set_cons_zero, List.set_cons_succ]
              refine wpAnyH_done (by kernel_rfl) ?_ _
              go_wp2_with fail
              go_meet
              have hk4 := Kept.rows4 X3 gL (.slice ka kn kq) (.int .i64 A.now.c) (.slice kb km kr) (.slice k3 kl ks)
              exact ⟨gL, ka, kb, k3, kn, kq, km, kr, kl, ks, rfl, rfl, HL9.out.set4 _ _ _ _, HZ.out.alien hk4 (Alien.one HL9.out), (K3x.out.set4 hLW (.slice ka kn kq) (.int .i64 A.now.c) (.slice kb km kr) (.slice k3 kl ks))⟩
            · go_simp
              have hka : Kept [] X1 (X1.alloc (.cells #[.slice none 0 0, .int .i64 0, .slice none 0 0, .slice none 0 0] 32)) := (Kept.refl _ _).alloc _
              have HL9 := Lib.hid (Bk.new X1 32 #[.slice none 0 0, .int .i64 0, .slice none 0 0, .slice none 0 0])
              refine hK.out _ _ (HSB.out _ (K1x.out.trans hka (by simp))) (fun hHeld => ?_)
              clear hK K
              try simp only [Act.put, List.setIfInBounds_toArray, List.set_cons_zero, List.set_cons_succ]
              obtain ⟨gL, hgL⟩ : ∃ g, g = X1.heap.size := ⟨_, rfl⟩
              have hLW : w5.heap.size ≤ gL := by rw [hgL]; exact K1x.out.size
              have K2x := Lib.hid (K1x.out.trans hka (by simp))
              generalize X1.alloc (.cells #[.slice none 0 0, .int .i64 0, .slice none 0 0, .slice none 0 0] 32) = X2 at *
              rw [← hgL] at HL9 ⊢
              clear hgL hka
              refine wpAnyH_ready (rs := [4]) (by kernel_rfl) (by simp) ?_
              refine (AllReadyH.cons (opAt_lst5 rfl) (fun K hK => ?_) AllReadyH.nil)
              go_simp
              go_at_call 31
              refine (HD1.out _ _ _ (by first | exact hcm9 | omega | simp) K2x.out).mono ?_
              rintro e' X3 ⟨ka, kb, k3, kn, kq, km, kr, kl, ks, rfl, HZ, hk, hk0⟩
              refine hK.out _ _ (HSB.out _ hk0) (fun hHeld => ?_)
              clear hK K
              try simp only [Act.put, List.setIfInBounds_toArray, List.set_cons_zero, List.set_cons_succ]
              have K3x := Lib.hid hk0
              have HL9 := Lib.hid (HL9.out.stay hk)
              clear hk hk0
              refine wpAnyH_take (i := 5) (v := ?_) (opAt_lst5 rfl) (by kernel_rfl) (by kernel_rfl) (by kernel_rfl) (fun _ _ _ h => h) (Or.inl ⟨by rfl, ?_⟩) (by assumption) ?_
              rotate_left
              · intro w9 hSw
                (try dsimp only at hSw)
                go_simp
                try with_reducible rfl
              try simp only [Act.put, List.setIfInBounds_toArray, List.set_cons_zero, List.set_cons_succ]
              refine wpAnyH_take (i := 6) (v := ?_) (opAt_lst5 rfl) (by kernel_rfl) (by kernel_rfl) (by kernel_rfl) (fun _ _ _ h => h) (Or.inl ⟨by rfl, ?_⟩) (by assumption) ?_
              rotate_left
              · intro w9 hSw
                (try dsimp only at hSw)
                go_simp
                try with_reducible rfl
              try simp only [Act.put, List.setIfInBounds_toArray, List.set_cons_zero, List.set_cons_succ]
              refine wpAnyH_take (i := 7) (v := ?_) (opAt_lst5 rfl) (by kernel_rfl) (by kernel_rfl) (by kernel_rfl) (fun _ _ _ h => h) (Or.inl ⟨by rfl, ?_⟩) (by assumption) ?_
              rotate_left
              · intro w9 hSw
                (try dsimp only at hSw)
                go_simp
                try with_reducible rfl
              try simp only [Act.put, List.setIfInBounds_toArray, List.set_cons_zero, List.set_cons_succ]
              refine wpAnyH_ready (rs := [9]) (by kernel_rfl) (by simp) ?_
              refine (AllReadyH.cons (opAt_lst5 rfl) (fun K hK => ?_) AllReadyH.nil)
              obtain ⟨l0, l1, l2, l3⟩ := HL9.out.four
              have f0 := HL9.out.frozen 0
              have f1 := HL9.out.frozen 1
              have f2 := HL9.out.frozen 2
              have f3 := HL9.out.frozen 3
              have hll := HL9.out.lt
              go_simp
              refine hK.out _ _ (HSB.out _ (K3x.out.set4 hLW (.slice ka kn kq) (.int .i64 A.now.c) (.slice kb km kr) (.slice k3 kl ks))) (fun hHeld => ?_)
              clear hK K
              try simp only [Act.put, List.setIfInBounds_toArray, List.set_cons_zero, List.set_cons_succ]
              refine wpAnyH_take (i := 10) (v := ?_) (opAt_lst5 rfl) (by kernel_rfl) (by kernel_rfl) (by kernel_rfl) (fun _ _ _ h => h) (Or.inl ⟨by rfl, ?_⟩) (by assumption) ?_
              rotate_left
              · intro w9 hSw
                (try dsimp only at hSw)
                go_simp
                try with_reducible rfl
              try simp only [Act.put, List.setIfInBounds_toArray, List.set_cons_zero, List.set_cons_succ]
              refine wpAnyH_done (by kernel_rfl) ?_ _
              go_wp2_with fail
              go_meet
              have hk4 := Kept.rows4 X3 gL (.slice ka kn kq) (.int .i64 A.now.c) (.slice kb km kr) (.slice k3 kl ks)
              exact ⟨gL, ka, kb, k3, kn, kq, km, kr, kl, ks, rfl, rfl, HL9.out.set4 _ _ _ _, HZ.out.alien hk4 (Alien.one HL9.out), (K3x.out.set4 hLW (.slice ka kn kq) (.int .i64 A.now.c) (.slice kb km kr) (.slice k3 kl ks))⟩
          case rest =>
            obtain ⟨bp, ka, kb, k3, kn, kq, km, kr, kl, ks, rfl, rfl, hbp, hde, hkc⟩ := hcut
            have HB6 := Lib.hid (HB5.out.stay hkc)
            have HX6 := Lib.hid (HX5.out.stay hkc)
            have HXD6 := Lib.hid (HXD5.out.stay hkc)
            skip
            have HK6 := Lib.hid (HK5.out.trans hkc (by simp))
            have HBP := Lib.hid hbp
            have HDE := Lib.hid hde
            clear hkc hbp hde HSB HD1 HNUM HDSK
            generalize wc = w6 at *
            have HNUM : Hid (Nt.drunN A (([] : List Nt.Dd).drop 0) = Q) := Lib.hid HPQ.out.symm
            have HDSK : Hid (Nt.drun A (([] : List Nt.Dd).drop 0) = X) := Lib.hid HC.out
            have HSB : Hid (∀ w', Kept [] w6 w' → w'.cell? ⟨bp, 0, none⟩ = some (.slice ka kn kq) ∧ w'.cell? ⟨bp, 1, none⟩ = some (.int .i64 A.now.c) ∧ w'.cell? ⟨bp, 2, none⟩ = some (.slice kb km kr) ∧ w'.cell? ⟨bp, 3, none⟩ = some (.slice k3 kl ks)) := Lib.hid (fun w' k' => (HBP.out.stay k').four)
            have HD1 : Hid (∀ W av cv, cv ≤ 9223372036854775807 → Kept [] w6 W → Calls Try.prog 31 #[.agg #[.slice ka kn kq, .int .i64 A.now.c, .slice kb km kr, .slice k3 kl ks], .slice av 0 cv] W fun e' w' => ∃ (ca cb c3 : Option Addr) (cn cq cm cr cl cs : Nat), e' = .returned (.tuple #[.agg #[.slice ca cn cq, .int .i64 X.now.c, .slice cb cm cr, .slice c3 cl cs], .int .i64 Q]) ∧ Hid (De w' (.agg #[.slice ca cn cq, .int .i64 X.now.c, .slice cb cm cr, .slice c3 cl cs]) X) ∧ Kept [] W w' ∧ Kept [] w6 w') := Lib.hid (fun W av cv hcv k => (iDeskRun_any A (([] : List Nt.Dd).drop 0) W _ _ (HDE.out.stay k) (Ds.emp W av cv hcv)).mono (by rintro e' w' ⟨y, rfl, hv, hk⟩; rw [HNUM.out]; have hv2 := DxR.de2 hv; rw [HDSK.out] at hv2; obtain ⟨ca, cn, cq, cb, cm, cr, c3, cl, cs, rfl⟩ := hv2.form; exact ⟨ca, cb, c3, cn, cq, cm, cr, cl, cs, rfl, Lib.hid hv2, hk, k.trans hk (by simp)⟩))
            go_wp2_with fail
            go_cut [12, 13] from 71 to 78 (fun u12 u13 wc => ∃ (bp : Nat) (ca cb c3 : Option Addr) (cn cq cm cr cl cs : Nat), u12 = .pointer (some ⟨bp, 0, none⟩) ∧ u13 = .int .i64 Q ∧ Bk wc bp 32 #[.slice ca cn cq, .int .i64 X.now.c, .slice cb cm cr, .slice c3 cl cs] ∧ De wc (.agg #[.slice ca cn cq, .int .i64 X.now.c, .slice cb cm cr, .slice c3 cl cs]) X ∧ Kept [] w6 wc)
            case first =>
              have K1x : Hid (Kept [] w6 w6.drew) := Lib.hid ((Kept.refl [] w6).drew)
              refine wp_region_held_drew (S := (fun w' => w'.cell? ⟨bp, 0, none⟩ = some (.slice ka kn kq) ∧ w'.cell? ⟨bp, 1, none⟩ = some (.int .i64 A.now.c) ∧ w'.cell? ⟨bp, 2, none⟩ = some (.slice kb km kr) ∧ w'.cell? ⟨bp, 3, none⟩ = some (.slice k3 kl ks))) (by kernel_rfl) (HSB.out _ K1x.out) (fun hHeld => ?_)
              generalize w6.drew = X1 at *
              refine wpAnyH_take (i := 0) (v := ?_) (opAt_lst5 rfl) (by kernel_rfl) (by kernel_rfl) (by kernel_rfl) (fun _ _ _ h => h) (Or.inl ⟨by rfl, ?_⟩) (by assumption) ?_
              rotate_left
              · intro w9 hSw
                (try dsimp only at hSw)
                go_simp
                try with_reducible rfl
              try simp only [Act.put, List.setIfInBounds_toArray, List.set_cons_zero, List.set_cons_succ]
              refine wpAnyH_take (i := 1) (v := ?_) (opAt_lst5 rfl) (by kernel_rfl) (by kernel_rfl) (by kernel_rfl) (fun _ _ _ h => h) (Or.inl ⟨by rfl, ?_⟩) (by assumption) ?_
              rotate_left
              · intro w9 hSw
                (try dsimp only at hSw)
                go_simp
                try with_reducible rfl
              try simp only [Act.put, List.setIfInBounds_toArray, List.set_cons_zero, List.set_cons_succ]
              refine wpAnyH_take (i := 2) (v := ?_) (opAt_lst5 rfl) (by kernel_rfl) (by kernel_rfl) (by kernel_rfl) (fun _ _ _ h => h) (Or.inl ⟨by rfl, ?_⟩) (by assumption) ?_
              rotate_left
              · intro w9 hSw
                (try dsimp only at hSw)
                go_simp
                try with_reducible rfl
              try simp only [Act.put, List.setIfInBounds_toArray, List.set_cons_zero, List.set_cons_succ]
              refine wpAnyH_take (i := 3) (v := ?_) (opAt_lst5 rfl) (by kernel_rfl) (by kernel_rfl) (by kernel_rfl) (fun _ _ _ h => h) (Or.inl ⟨by rfl, ?_⟩) (by assumption) ?_
              rotate_left
              · intro w9 hSw
                (try dsimp only at hSw)
                go_simp
                try with_reducible rfl
              try simp only [Act.put, List.setIfInBounds_toArray, List.set_cons_zero, List.set_cons_succ]
              refine wpAnyH_ready (rs := [4, 8]) (by kernel_rfl) (by simp) ?_
              refine (AllReadyH.cons (opAt_lst5 rfl) (fun K hK => ?_) (AllReadyH.cons (opAt_lst5 rfl) (fun K hK => ?_) AllReadyH.nil))
              · go_simp
                go_at_call 31
                refine (HD1.out _ _ _ (by first | exact hcm9 | omega | simp) K1x.out).mono ?_
                rintro e' X2 ⟨ca, cb, c3, cn, cq, cm, cr, cl, cs, rfl, HZ, hk, hk0⟩
                refine hK.out _ _ (HSB.out _ hk0) (fun hHeld => ?_)
                clear hK K
                try simp only [Act.put, List.setIfInBounds_toArray, List.set_cons_zero, List.set_cons_succ]
                have K2x := Lib.hid hk0
                clear hk hk0
                refine wpAnyH_take (i := 5) (v := ?_) (opAt_lst5 rfl) (by kernel_rfl) (by kernel_rfl) (by kernel_rfl) (fun _ _ _ h => h) (Or.inl ⟨by rfl, ?_⟩) (by assumption) ?_
                rotate_left
                · intro w9 hSw
                  (try dsimp only at hSw)
                  go_simp
                  try with_reducible rfl
                try simp only [Act.put, List.setIfInBounds_toArray, List.set_cons_zero, List.set_cons_succ]
                refine wpAnyH_take (i := 6) (v := ?_) (opAt_lst5 rfl) (by kernel_rfl) (by kernel_rfl) (by kernel_rfl) (fun _ _ _ h => h) (Or.inl ⟨by rfl, ?_⟩) (by assumption) ?_
                rotate_left
                · intro w9 hSw
                  (try dsimp only at hSw)
                  go_simp
                  try with_reducible rfl
                try simp only [Act.put, List.setIfInBounds_toArray, List.set_cons_zero, List.set_cons_succ]
                refine wpAnyH_take (i := 7) (v := ?_) (opAt_lst5 rfl) (by kernel_rfl) (by kernel_rfl) (by kernel_rfl) (fun _ _ _ h => h) (Or.inl ⟨by rfl, ?_⟩) (by assumption) ?_
                rotate_left
                · intro w9 hSw
                  (try dsimp only at hSw)
                  go_simp
                  try with_reducible rfl
                try simp only [Act.put, List.setIfInBounds_toArray, List.set_cons_zero, List.set_cons_succ]
                refine wpAnyH_ready (rs := [8]) (by kernel_rfl) (by simp) ?_
                refine (AllReadyH.cons (opAt_lst5 rfl) (fun K hK => ?_) AllReadyH.nil)
                go_simp
                have hka : Kept [] X2 (X2.alloc (.cells #[.slice none 0 0, .int .i64 0, .slice none 0 0, .slice none 0 0] 32)) := (Kept.refl _ _).alloc _
                have HL9 := Lib.hid (Bk.new X2 32 #[.slice none 0 0, .int .i64 0, .slice none 0 0, .slice none 0 0])
                refine hK.out _ _ (HSB.out _ (K2x.out.trans hka (by simp))) (fun hHeld => ?_)
                clear hK K
                try simp only [Act.put, List.setIfInBounds_toArray, List.set_cons_zero, List.set_cons_succ]
                obtain ⟨gL, hgL⟩ : ∃ g, g = X2.heap.size := ⟨_, rfl⟩
                have hLW : w6.heap.size ≤ gL := by rw [hgL]; exact K2x.out.size
                have K3x := Lib.hid (K2x.out.trans hka (by simp))
                have HZ := Lib.hid (HZ.out.stay hka)
                generalize X2.alloc (.cells #[.slice none 0 0, .int .i64 0, .slice none 0 0, .slice none 0 0] 32) = X3 at *
                rw [← hgL] at HL9 ⊢
                clear hgL hka
                refine wpAnyH_ready (rs := [9]) (by kernel_rfl) (by simp) ?_
                refine (AllReadyH.cons (opAt_lst5 rfl) (fun K hK => ?_) AllReadyH.nil)
                obtain ⟨l0, l1, l2, l3⟩ := HL9.out.four
                have f0 := HL9.out.frozen 0
                have f1 := HL9.out.frozen 1
                have f2 := HL9.out.frozen 2
                have f3 := HL9.out.frozen 3
                have hll := HL9.out.lt
                go_simp
                refine hK.out _ _ (HSB.out _ (K3x.out.set4 hLW (.slice ca cn cq) (.int .i64 X.now.c) (.slice cb cm cr) (.slice c3 cl cs))) (fun hHeld => ?_)
                clear hK K
                try simp only [Act.put, List.setIfInBounds_toArray, List.set_cons_zero, List.set_cons_succ]
                refine wpAnyH_take (i := 10) (v := ?_) (opAt_lst5 rfl) (by kernel_rfl) (by kernel_rfl) (by kernel_rfl) (fun _ _ _ h => h) (Or.inl ⟨by rfl, ?_⟩) (by assumption) ?_
                rotate_left
                · intro w9 hSw
                  (try dsimp only at hSw)
                  go_simp
                  try with_reducible rfl
                try simp only [Act.put, List.setIfInBounds_toArray, List.set_cons_zero, List.set_cons_succ]
                refine wpAnyH_done (by kernel_rfl) ?_ _
                go_wp2_with fail
                go_meet
                have hk4 := Kept.rows4 X3 gL (.slice ca cn cq) (.int .i64 X.now.c) (.slice cb cm cr) (.slice c3 cl cs)
                exact ⟨gL, ca, cb, c3, cn, cq, cm, cr, cl, cs, rfl, rfl, HL9.out.set4 _ _ _ _, HZ.out.alien hk4 (Alien.one HL9.out), (K3x.out.set4 hLW (.slice ca cn cq) (.int .i64 X.now.c) (.slice cb cm cr) (.slice c3 cl cs))⟩
              · go_simp
                have hka : Kept [] X1 (X1.alloc (.cells #[.slice none 0 0, .int .i64 0, .slice none 0 0, .slice none 0 0] 32)) := (Kept.refl _ _).alloc _
                have HL9 := Lib.hid (Bk.new X1 32 #[.slice none 0 0, .int .i64 0, .slice none 0 0, .slice none 0 0])
                refine hK.out _ _ (HSB.out _ (K1x.out.trans hka (by simp))) (fun hHeld => ?_)
                clear hK K
                try simp only [Act.put, List.setIfInBounds_toArray, List.set_cons_zero, List.set_cons_succ]
                obtain ⟨gL, hgL⟩ : ∃ g, g = X1.heap.size := ⟨_, rfl⟩
                have hLW : w6.heap.size ≤ gL := by rw [hgL]; exact K1x.out.size
                have K2x := Lib.hid (K1x.out.trans hka (by simp))
                generalize X1.alloc (.cells #[.slice none 0 0, .int .i64 0, .slice none 0 0, .slice none 0 0] 32) = X2 at *
                rw [← hgL] at HL9 ⊢
                clear hgL hka
                refine wpAnyH_ready (rs := [4]) (by kernel_rfl) (by simp) ?_
                refine (AllReadyH.cons (opAt_lst5 rfl) (fun K hK => ?_) AllReadyH.nil)
                go_simp
                go_at_call 31
                refine (HD1.out _ _ _ (by first | exact hcm9 | omega | simp) K2x.out).mono ?_
                rintro e' X3 ⟨ca, cb, c3, cn, cq, cm, cr, cl, cs, rfl, HZ, hk, hk0⟩
                refine hK.out _ _ (HSB.out _ hk0) (fun hHeld => ?_)
                clear hK K
                try simp only [Act.put, List.setIfInBounds_toArray, List.set_cons_zero, List.set_cons_succ]
                have K3x := Lib.hid hk0
                have HL9 := Lib.hid (HL9.out.stay hk)
                clear hk hk0
                refine wpAnyH_take (i := 5) (v := ?_) (opAt_lst5 rfl) (by kernel_rfl) (by kernel_rfl) (by kernel_rfl) (fun _ _ _ h => h) (Or.inl ⟨by rfl, ?_⟩) (by assumption) ?_
                rotate_left
                · intro w9 hSw
                  (try dsimp only at hSw)
                  go_simp
                  try with_reducible rfl
                try simp only [Act.put, List.setIfInBounds_toArray, List.set_cons_zero, List.set_cons_succ]
                refine wpAnyH_take (i := 6) (v := ?_) (opAt_lst5 rfl) (by kernel_rfl) (by kernel_rfl) (by kernel_rfl) (fun _ _ _ h => h) (Or.inl ⟨by rfl, ?_⟩) (by assumption) ?_
                rotate_left
                · intro w9 hSw
                  (try dsimp only at hSw)
                  go_simp
                  try with_reducible rfl
                try simp only [Act.put, List.setIfInBounds_toArray, List.set_cons_zero, List.set_cons_succ]
                refine wpAnyH_take (i := 7) (v := ?_) (opAt_lst5 rfl) (by kernel_rfl) (by kernel_rfl) (by kernel_rfl) (fun _ _ _ h => h) (Or.inl ⟨by rfl, ?_⟩) (by assumption) ?_
                rotate_left
                · intro w9 hSw
                  (try dsimp only at hSw)
                  go_simp
                  try with_reducible rfl
                try simp only [Act.put, List.setIfInBounds_toArray, List.set_cons_zero, List.set_cons_succ]
                refine wpAnyH_ready (rs := [9]) (by kernel_rfl) (by simp) ?_
                refine (AllReadyH.cons (opAt_lst5 rfl) (fun K hK => ?_) AllReadyH.nil)
                obtain ⟨l0, l1, l2, l3⟩ := HL9.out.four
                have f0 := HL9.out.frozen 0
                have f1 := HL9.out.frozen 1
                have f2 := HL9.out.frozen 2
                have f3 := HL9.out.frozen 3
                have hll := HL9.out.lt
                go_simp
                refine hK.out _ _ (HSB.out _ (K3x.out.set4 hLW (.slice ca cn cq) (.int .i64 X.now.c) (.slice cb cm cr) (.slice c3 cl cs))) (fun hHeld => ?_)
                clear hK K
                try simp only [Act.put, List.setIfInBounds_toArray, List.set_cons_zero, List.set_cons_succ]
                refine wpAnyH_take (i := 10) (v := ?_) (opAt_lst5 rfl) (by kernel_rfl) (by kernel_rfl) (by kernel_rfl) (fun _ _ _ h => h) (Or.inl ⟨by rfl, ?_⟩) (by assumption) ?_
                rotate_left
                · intro w9 hSw
                  (try dsimp only at hSw)
                  go_simp
                  try with_reducible rfl
                try simp only [Act.put, List.setIfInBounds_toArray, List.set_cons_zero, List.set_cons_succ]
                refine wpAnyH_done (by kernel_rfl) ?_ _
                go_wp2_with fail
                go_meet
                have hk4 := Kept.rows4 X3 gL (.slice ca cn cq) (.int .i64 X.now.c) (.slice cb cm cr) (.slice c3 cl cs)
                exact ⟨gL, ca, cb, c3, cn, cq, cm, cr, cl, cs, rfl, rfl, HL9.out.set4 _ _ _ _, HZ.out.alien hk4 (Alien.one HL9.out), (K3x.out.set4 hLW (.slice ca cn cq) (.int .i64 X.now.c) (.slice cb cm cr) (.slice c3 cl cs))⟩
            case rest =>
              obtain ⟨bq, ca, cb, c3, cn, cq, cm, cr, cl, cs, rfl, rfl, hbp, hde, hkc⟩ := hcut
              have HX7 := Lib.hid (HX6.out.stay hkc)
              have HXD7 := Lib.hid (HXD6.out.stay hkc)
              have HK7 := Lib.hid (HK6.out.trans hkc (by simp))
              have HBQ := Lib.hid hbp
              have HCD := Lib.hid hde
              clear hkc hbp hde HSB HD1 HNUM HDSK
              obtain ⟨s0, s1, s2, s3⟩ := HX7.out.four
              obtain ⟨q0, q1, q2, q3⟩ := HBQ.out.four
              go_wp2_with fail
              refine (iDeskOk_any X _ _ 0 HXD7.out.dv).mono ?_
              rintro e w8 ⟨rfl, hk⟩
              rw [HY.out]
              have HXD8 := Lib.hid (HXD7.out.stay hk)
              have HCD8 := Lib.hid (HCD.out.stay hk)
              have HX8 := Lib.hid (HX7.out.stay hk)
              have HBQ8 := Lib.hid (HBQ.out.stay hk)
              have HK8 := Lib.hid (HK7.out.trans hk (by simp))
              clear hk s0 s1 s2 s3 q0 q1 q2 q3
              obtain ⟨s0, s1, s2, s3⟩ := HX8.out.four
              obtain ⟨q0, q1, q2, q3⟩ := HBQ8.out.four
              go_wp2_with fail
              refine (sameDesk_any X X _ _ _ 0 0 HCD8.out.dv HXD8.out.dv).mono ?_
              rintro e w9 ⟨b, rfl, hb, hk⟩
              rw [hb rfl]
              have HK9 := Lib.hid (HK8.out.trans hk (by simp))
              clear hk hb
              go_wp2
              go_ret
              exact ⟨rfl, HK9.out⟩
        · have hlt : h < n := hhl hnz
          obtain ⟨gg, cg, e1⟩ := hform
          simp only [Value.slice.injEq] at e1
          obtain ⟨rfl, hn0, rfl⟩ := e1
          have hcu : n ≤ uc := by obtain ⟨_, _, e, h1, _⟩ := HL5.out; simp only [Value.slice.injEq] at e; omega
          have hhc : h ≤ uc := by omega
          have hch : ¬ uc = h := by omega
          have hch2 : ¬ h = uc := by omega
          have hch3 : ¬ uc - h = 0 := by omega
          have hcm9 : uc ≤ 9223372036854775807 := by obtain ⟨_, _, e, _, h2, _⟩ := HL5.out; simp only [Value.slice.injEq] at e; omega
          have HA1 := Lib.hid (HL5.out.cut h (by rw [← HN.out]; exact hhn))
          have HA2 := Lib.hid (by have h9 := HL5.out.from h (by rw [← HN.out]; exact hhn); rw [Nat.zero_add] at h9; exact h9)
          have HNUM : Hid (Nt.drunN d (ds.take h) = P) := Lib.hid HPP.out.symm
          have HDSK : Hid (Nt.drun d (ds.take h) = A) := Lib.hid HPA.out.symm
          have HSB : Hid (∀ w', Kept [] w5 w' → w'.cell? ⟨w1.heap.size, 0, none⟩ = some (.slice ya yn yq) ∧ w'.cell? ⟨w1.heap.size, 1, none⟩ = some (.int .i64 d.now.c) ∧ w'.cell? ⟨w1.heap.size, 2, none⟩ = some (.slice yb ym yr) ∧ w'.cell? ⟨w1.heap.size, 3, none⟩ = some (.slice y3 yl ys)) := Lib.hid (fun w' k' => (HB5.out.stay k').four)
          have HD1 : Hid (∀ W, Kept [] w5 W → Calls Try.prog 31 #[.agg #[.slice ya yn yq, .int .i64 d.now.c, .slice yb ym yr, .slice y3 yl ys], .slice (some ⟨gg, 0, none⟩) h uc] W fun e' w' => ∃ (ka kb k3 : Option Addr) (kn kq km kr kl ks : Nat), e' = .returned (.tuple #[.agg #[.slice ka kn kq, .int .i64 A.now.c, .slice kb km kr, .slice k3 kl ks], .int .i64 P]) ∧ Hid (De w' (.agg #[.slice ka kn kq, .int .i64 A.now.c, .slice kb km kr, .slice k3 kl ks]) A) ∧ Kept [] W w' ∧ Kept [] w5 w') := Lib.hid (fun W k => (iDeskRun_any d (ds.take h) W _ _ (HD5.out.stay k) (HA1.out.stay k)).mono (by rintro e' w' ⟨y, rfl, hv, hk⟩; rw [HNUM.out]; have hv2 := DxR.de2 hv; rw [HDSK.out] at hv2; obtain ⟨ka, kn, kq, kb, km, kr, k3, kl, ks, rfl⟩ := hv2.form; exact ⟨ka, kb, k3, kn, kq, km, kr, kl, ks, rfl, Lib.hid hv2, hk, k.trans hk (by simp)⟩))
          go_wp2_with fail
          go_cut [10, 11] from 63 to 70 (fun u10 u11 wc => ∃ (bp : Nat) (ka kb k3 : Option Addr) (kn kq km kr kl ks : Nat), u10 = .pointer (some ⟨bp, 0, none⟩) ∧ u11 = .int .i64 P ∧ Bk wc bp 32 #[.slice ka kn kq, .int .i64 A.now.c, .slice kb km kr, .slice k3 kl ks] ∧ De wc (.agg #[.slice ka kn kq, .int .i64 A.now.c, .slice kb km kr, .slice k3 kl ks]) A ∧ Kept [] w5 wc)
          case first =>
            have K1x : Hid (Kept [] w5 w5.drew) := Lib.hid ((Kept.refl [] w5).drew)
            refine wp_region_held_drew (S := (fun w' => w'.cell? ⟨w1.heap.size, 0, none⟩ = some (.slice ya yn yq) ∧ w'.cell? ⟨w1.heap.size, 1, none⟩ = some (.int .i64 d.now.c) ∧ w'.cell? ⟨w1.heap.size, 2, none⟩ = some (.slice yb ym yr) ∧ w'.cell? ⟨w1.heap.size, 3, none⟩ = some (.slice y3 yl ys))) (by kernel_rfl) (HSB.out _ K1x.out) (fun hHeld => ?_)
            generalize w5.drew = X1 at *
            refine wpAnyH_take (i := 0) (v := ?_) (opAt_lst5 rfl) (by kernel_rfl) (by kernel_rfl) (by kernel_rfl) (fun _ _ _ h => h) (Or.inl ⟨by rfl, ?_⟩) (by assumption) ?_
            rotate_left
            · intro w9 hSw
              (try dsimp only at hSw)
              go_simp
              try with_reducible rfl
            try simp only [Act.put, List.setIfInBounds_toArray, List.set_cons_zero, List.set_cons_succ]
            refine wpAnyH_take (i := 1) (v := ?_) (opAt_lst5 rfl) (by kernel_rfl) (by kernel_rfl) (by kernel_rfl) (fun _ _ _ h => h) (Or.inl ⟨by rfl, ?_⟩) (by assumption) ?_
            rotate_left
            · intro w9 hSw
              (try dsimp only at hSw)
              go_simp
              try with_reducible rfl
            try simp only [Act.put, List.setIfInBounds_toArray, List.set_cons_zero, List.set_cons_succ]
            refine wpAnyH_take (i := 2) (v := ?_) (opAt_lst5 rfl) (by kernel_rfl) (by kernel_rfl) (by kernel_rfl) (fun _ _ _ h => h) (Or.inl ⟨by rfl, ?_⟩) (by assumption) ?_
            rotate_left
            · intro w9 hSw
              (try dsimp only at hSw)
              go_simp
              try with_reducible rfl
            try simp only [Act.put, List.setIfInBounds_toArray, List.set_cons_zero, List.set_cons_succ]
            refine wpAnyH_take (i := 3) (v := ?_) (opAt_lst5 rfl) (by kernel_rfl) (by kernel_rfl) (by kernel_rfl) (fun _ _ _ h => h) (Or.inl ⟨by rfl, ?_⟩) (by assumption) ?_
            rotate_left
            · intro w9 hSw
              (try dsimp only at hSw)
              go_simp
              try with_reducible rfl
            try simp only [Act.put, List.setIfInBounds_toArray, List.set_cons_zero, List.set_cons_succ]
            refine wpAnyH_ready (rs := [4, 8]) (by kernel_rfl) (by simp) ?_
            refine (AllReadyH.cons (opAt_lst5 rfl) (fun K hK => ?_) (AllReadyH.cons (opAt_lst5 rfl) (fun K hK => ?_) AllReadyH.nil))
            · go_simp
              go_at_call 31
              refine (HD1.out _ K1x.out).mono ?_
              rintro e' X2 ⟨ka, kb, k3, kn, kq, km, kr, kl, ks, rfl, HZ, hk, hk0⟩
              refine hK.out _ _ (HSB.out _ hk0) (fun hHeld => ?_)
              clear hK K
              try simp only [Act.put, List.setIfInBounds_toArray, List.set_cons_zero, List.set_cons_succ]
              have K2x := Lib.hid hk0
              clear hk hk0
              refine wpAnyH_take (i := 5) (v := ?_) (opAt_lst5 rfl) (by kernel_rfl) (by kernel_rfl) (by kernel_rfl) (fun _ _ _ h => h) (Or.inl ⟨by rfl, ?_⟩) (by assumption) ?_
              rotate_left
              · intro w9 hSw
                (try dsimp only at hSw)
                go_simp
                try with_reducible rfl
              try simp only [Act.put, List.setIfInBounds_toArray, List.set_cons_zero, List.set_cons_succ]
              refine wpAnyH_take (i := 6) (v := ?_) (opAt_lst5 rfl) (by kernel_rfl) (by kernel_rfl) (by kernel_rfl) (fun _ _ _ h => h) (Or.inl ⟨by rfl, ?_⟩) (by assumption) ?_
              rotate_left
              · intro w9 hSw
                (try dsimp only at hSw)
                go_simp
                try with_reducible rfl
              try simp only [Act.put, List.setIfInBounds_toArray, List.set_cons_zero, List.set_cons_succ]
              refine wpAnyH_take (i := 7) (v := ?_) (opAt_lst5 rfl) (by kernel_rfl) (by kernel_rfl) (by kernel_rfl) (fun _ _ _ h => h) (Or.inl ⟨by rfl, ?_⟩) (by assumption) ?_
              rotate_left
              · intro w9 hSw
                (try dsimp only at hSw)
                go_simp
                try with_reducible rfl
              try simp only [Act.put, List.setIfInBounds_toArray, List.set_cons_zero, List.set_cons_succ]
              refine wpAnyH_ready (rs := [8]) (by kernel_rfl) (by simp) ?_
              refine (AllReadyH.cons (opAt_lst5 rfl) (fun K hK => ?_) AllReadyH.nil)
              go_simp
              have hka : Kept [] X2 (X2.alloc (.cells #[.slice none 0 0, .int .i64 0, .slice none 0 0, .slice none 0 0] 32)) := (Kept.refl _ _).alloc _
              have HL9 := Lib.hid (Bk.new X2 32 #[.slice none 0 0, .int .i64 0, .slice none 0 0, .slice none 0 0])
              refine hK.out _ _ (HSB.out _ (K2x.out.trans hka (by simp))) (fun hHeld => ?_)
              clear hK K
              try simp only [Act.put, List.setIfInBounds_toArray, List.set_cons_zero, List.set_cons_succ]
              obtain ⟨gL, hgL⟩ : ∃ g, g = X2.heap.size := ⟨_, rfl⟩
              have hLW : w5.heap.size ≤ gL := by rw [hgL]; exact K2x.out.size
              have K3x := Lib.hid (K2x.out.trans hka (by simp))
              have HZ := Lib.hid (HZ.out.stay hka)
              generalize X2.alloc (.cells #[.slice none 0 0, .int .i64 0, .slice none 0 0, .slice none 0 0] 32) = X3 at *
              rw [← hgL] at HL9 ⊢
              clear hgL hka
              refine wpAnyH_ready (rs := [9]) (by kernel_rfl) (by simp) ?_
              refine (AllReadyH.cons (opAt_lst5 rfl) (fun K hK => ?_) AllReadyH.nil)
              obtain ⟨l0, l1, l2, l3⟩ := HL9.out.four
              have f0 := HL9.out.frozen 0
              have f1 := HL9.out.frozen 1
              have f2 := HL9.out.frozen 2
              have f3 := HL9.out.frozen 3
              have hll := HL9.out.lt
              go_simp
              refine hK.out _ _ (HSB.out _ (K3x.out.set4 hLW (.slice ka kn kq) (.int .i64 A.now.c) (.slice kb km kr) (.slice k3 kl ks))) (fun hHeld => ?_)
              clear hK K
              try simp only [Act.put, List.setIfInBounds_toArray, List.set_cons_zero, List.set_cons_succ]
              refine wpAnyH_take (i := 10) (v := ?_) (opAt_lst5 rfl) (by kernel_rfl) (by kernel_rfl) (by kernel_rfl) (fun _ _ _ h => h) (Or.inl ⟨by rfl, ?_⟩) (by assumption) ?_
              rotate_left
              · intro w9 hSw
                (try dsimp only at hSw)
                go_simp
                try with_reducible rfl
              try simp only [Act.put, List.setIfInBounds_toArray, List.set_cons_zero, List.set_cons_succ]
              refine wpAnyH_done (by kernel_rfl) ?_ _
              go_wp2_with fail
              go_meet
              have hk4 := Kept.rows4 X3 gL (.slice ka kn kq) (.int .i64 A.now.c) (.slice kb km kr) (.slice k3 kl ks)
              exact ⟨gL, ka, kb, k3, kn, kq, km, kr, kl, ks, rfl, rfl, HL9.out.set4 _ _ _ _, HZ.out.alien hk4 (Alien.one HL9.out), (K3x.out.set4 hLW (.slice ka kn kq) (.int .i64 A.now.c) (.slice kb km kr) (.slice k3 kl ks))⟩
            · go_simp
              have hka : Kept [] X1 (X1.alloc (.cells #[.slice none 0 0, .int .i64 0, .slice none 0 0, .slice none 0 0] 32)) := (Kept.refl _ _).alloc _
              have HL9 := Lib.hid (Bk.new X1 32 #[.slice none 0 0, .int .i64 0, .slice none 0 0, .slice none 0 0])
              refine hK.out _ _ (HSB.out _ (K1x.out.trans hka (by simp))) (fun hHeld => ?_)
              clear hK K
              try simp only [Act.put, List.setIfInBounds_toArray, List.set_cons_zero, List.set_cons_succ]
              obtain ⟨gL, hgL⟩ : ∃ g, g = X1.heap.size := ⟨_, rfl⟩
              have hLW : w5.heap.size ≤ gL := by rw [hgL]; exact K1x.out.size
              have K2x := Lib.hid (K1x.out.trans hka (by simp))
              generalize X1.alloc (.cells #[.slice none 0 0, .int .i64 0, .slice none 0 0, .slice none 0 0] 32) = X2 at *
              rw [← hgL] at HL9 ⊢
              clear hgL hka
              refine wpAnyH_ready (rs := [4]) (by kernel_rfl) (by simp) ?_
              refine (AllReadyH.cons (opAt_lst5 rfl) (fun K hK => ?_) AllReadyH.nil)
              go_simp
              go_at_call 31
              refine (HD1.out _ K2x.out).mono ?_
              rintro e' X3 ⟨ka, kb, k3, kn, kq, km, kr, kl, ks, rfl, HZ, hk, hk0⟩
              refine hK.out _ _ (HSB.out _ hk0) (fun hHeld => ?_)
              clear hK K
              try simp only [Act.put, List.setIfInBounds_toArray, List.set_cons_zero, List.set_cons_succ]
              have K3x := Lib.hid hk0
              have HL9 := Lib.hid (HL9.out.stay hk)
              clear hk hk0
              refine wpAnyH_take (i := 5) (v := ?_) (opAt_lst5 rfl) (by kernel_rfl) (by kernel_rfl) (by kernel_rfl) (fun _ _ _ h => h) (Or.inl ⟨by rfl, ?_⟩) (by assumption) ?_
              rotate_left
              · intro w9 hSw
                (try dsimp only at hSw)
                go_simp
                try with_reducible rfl
              try simp only [Act.put, List.setIfInBounds_toArray, List.set_cons_zero, List.set_cons_succ]
              refine wpAnyH_take (i := 6) (v := ?_) (opAt_lst5 rfl) (by kernel_rfl) (by kernel_rfl) (by kernel_rfl) (fun _ _ _ h => h) (Or.inl ⟨by rfl, ?_⟩) (by assumption) ?_
              rotate_left
              · intro w9 hSw
                (try dsimp only at hSw)
                go_simp
                try with_reducible rfl
              try simp only [Act.put, List.setIfInBounds_toArray, List.set_cons_zero, List.set_cons_succ]
              refine wpAnyH_take (i := 7) (v := ?_) (opAt_lst5 rfl) (by kernel_rfl) (by kernel_rfl) (by kernel_rfl) (fun _ _ _ h => h) (Or.inl ⟨by rfl, ?_⟩) (by assumption) ?_
              rotate_left
              · intro w9 hSw
                (try dsimp only at hSw)
                go_simp
                try with_reducible rfl
              try simp only [Act.put, List.setIfInBounds_toArray, List.set_cons_zero, List.set_cons_succ]
              refine wpAnyH_ready (rs := [9]) (by kernel_rfl) (by simp) ?_
              refine (AllReadyH.cons (opAt_lst5 rfl) (fun K hK => ?_) AllReadyH.nil)
              obtain ⟨l0, l1, l2, l3⟩ := HL9.out.four
              have f0 := HL9.out.frozen 0
              have f1 := HL9.out.frozen 1
              have f2 := HL9.out.frozen 2
              have f3 := HL9.out.frozen 3
              have hll := HL9.out.lt
              go_simp
              refine hK.out _ _ (HSB.out _ (K3x.out.set4 hLW (.slice ka kn kq) (.int .i64 A.now.c) (.slice kb km kr) (.slice k3 kl ks))) (fun hHeld => ?_)
              clear hK K
              try simp only [Act.put, List.setIfInBounds_toArray, List.set_cons_zero, List.set_cons_succ]
              refine wpAnyH_take (i := 10) (v := ?_) (opAt_lst5 rfl) (by kernel_rfl) (by kernel_rfl) (by kernel_rfl) (fun _ _ _ h => h) (Or.inl ⟨by rfl, ?_⟩) (by assumption) ?_
              rotate_left
              · intro w9 hSw
                (try dsimp only at hSw)
                go_simp
                try with_reducible rfl
              try simp only [Act.put, List.setIfInBounds_toArray, List.set_cons_zero, List.set_cons_succ]
              refine wpAnyH_done (by kernel_rfl) ?_ _
              go_wp2_with fail
              go_meet
              have hk4 := Kept.rows4 X3 gL (.slice ka kn kq) (.int .i64 A.now.c) (.slice kb km kr) (.slice k3 kl ks)
              exact ⟨gL, ka, kb, k3, kn, kq, km, kr, kl, ks, rfl, rfl, HL9.out.set4 _ _ _ _, HZ.out.alien hk4 (Alien.one HL9.out), (K3x.out.set4 hLW (.slice ka kn kq) (.int .i64 A.now.c) (.slice kb km kr) (.slice k3 kl ks))⟩
          case rest =>
            obtain ⟨bp, ka, kb, k3, kn, kq, km, kr, kl, ks, rfl, rfl, hbp, hde, hkc⟩ := hcut
            have HB6 := Lib.hid (HB5.out.stay hkc)
            have HX6 := Lib.hid (HX5.out.stay hkc)
            have HXD6 := Lib.hid (HXD5.out.stay hkc)
            have HA6 := Lib.hid (HA2.out.stay hkc)
            have HK6 := Lib.hid (HK5.out.trans hkc (by simp))
            have HBP := Lib.hid hbp
            have HDE := Lib.hid hde
            clear hkc hbp hde HSB HD1 HNUM HDSK
            generalize wc = w6 at *
            have HNUM : Hid (Nt.drunN A (ds.drop h) = Q) := Lib.hid HPQ.out.symm
            have HDSK : Hid (Nt.drun A (ds.drop h) = X) := Lib.hid HC.out
            have HSB : Hid (∀ w', Kept [] w6 w' → w'.cell? ⟨bp, 0, none⟩ = some (.slice ka kn kq) ∧ w'.cell? ⟨bp, 1, none⟩ = some (.int .i64 A.now.c) ∧ w'.cell? ⟨bp, 2, none⟩ = some (.slice kb km kr) ∧ w'.cell? ⟨bp, 3, none⟩ = some (.slice k3 kl ks)) := Lib.hid (fun w' k' => (HBP.out.stay k').four)
            have HD1 : Hid (∀ W, Kept [] w6 W → Calls Try.prog 31 #[.agg #[.slice ka kn kq, .int .i64 A.now.c, .slice kb km kr, .slice k3 kl ks], .slice (some ⟨gg, h * 3, none⟩) (n - h) (uc - h)] W fun e' w' => ∃ (ca cb c3 : Option Addr) (cn cq cm cr cl cs : Nat), e' = .returned (.tuple #[.agg #[.slice ca cn cq, .int .i64 X.now.c, .slice cb cm cr, .slice c3 cl cs], .int .i64 Q]) ∧ Hid (De w' (.agg #[.slice ca cn cq, .int .i64 X.now.c, .slice cb cm cr, .slice c3 cl cs]) X) ∧ Kept [] W w' ∧ Kept [] w6 w') := Lib.hid (fun W k => (iDeskRun_any A (ds.drop h) W _ _ (HDE.out.stay k) (HA6.out.stay k)).mono (by rintro e' w' ⟨y, rfl, hv, hk⟩; rw [HNUM.out]; have hv2 := DxR.de2 hv; rw [HDSK.out] at hv2; obtain ⟨ca, cn, cq, cb, cm, cr, c3, cl, cs, rfl⟩ := hv2.form; exact ⟨ca, cb, c3, cn, cq, cm, cr, cl, cs, rfl, Lib.hid hv2, hk, k.trans hk (by simp)⟩))
            go_wp2_with fail
            go_cut [12, 13] from 71 to 78 (fun u12 u13 wc => ∃ (bp : Nat) (ca cb c3 : Option Addr) (cn cq cm cr cl cs : Nat), u12 = .pointer (some ⟨bp, 0, none⟩) ∧ u13 = .int .i64 Q ∧ Bk wc bp 32 #[.slice ca cn cq, .int .i64 X.now.c, .slice cb cm cr, .slice c3 cl cs] ∧ De wc (.agg #[.slice ca cn cq, .int .i64 X.now.c, .slice cb cm cr, .slice c3 cl cs]) X ∧ Kept [] w6 wc)
            case first =>
              have K1x : Hid (Kept [] w6 w6.drew) := Lib.hid ((Kept.refl [] w6).drew)
              refine wp_region_held_drew (S := (fun w' => w'.cell? ⟨bp, 0, none⟩ = some (.slice ka kn kq) ∧ w'.cell? ⟨bp, 1, none⟩ = some (.int .i64 A.now.c) ∧ w'.cell? ⟨bp, 2, none⟩ = some (.slice kb km kr) ∧ w'.cell? ⟨bp, 3, none⟩ = some (.slice k3 kl ks))) (by kernel_rfl) (HSB.out _ K1x.out) (fun hHeld => ?_)
              generalize w6.drew = X1 at *
              refine wpAnyH_take (i := 0) (v := ?_) (opAt_lst5 rfl) (by kernel_rfl) (by kernel_rfl) (by kernel_rfl) (fun _ _ _ h => h) (Or.inl ⟨by rfl, ?_⟩) (by assumption) ?_
              rotate_left
              · intro w9 hSw
                (try dsimp only at hSw)
                go_simp
                try with_reducible rfl
              try simp only [Act.put, List.setIfInBounds_toArray, List.set_cons_zero, List.set_cons_succ]
              refine wpAnyH_take (i := 1) (v := ?_) (opAt_lst5 rfl) (by kernel_rfl) (by kernel_rfl) (by kernel_rfl) (fun _ _ _ h => h) (Or.inl ⟨by rfl, ?_⟩) (by assumption) ?_
              rotate_left
              · intro w9 hSw
                (try dsimp only at hSw)
                go_simp
                try with_reducible rfl
              try simp only [Act.put, List.setIfInBounds_toArray, List.set_cons_zero, List.set_cons_succ]
              refine wpAnyH_take (i := 2) (v := ?_) (opAt_lst5 rfl) (by kernel_rfl) (by kernel_rfl) (by kernel_rfl) (fun _ _ _ h => h) (Or.inl ⟨by rfl, ?_⟩) (by assumption) ?_
              rotate_left
              · intro w9 hSw
                (try dsimp only at hSw)
                go_simp
                try with_reducible rfl
              try simp only [Act.put, List.setIfInBounds_toArray, List.set_cons_zero, List.set_cons_succ]
              refine wpAnyH_take (i := 3) (v := ?_) (opAt_lst5 rfl) (by kernel_rfl) (by kernel_rfl) (by kernel_rfl) (fun _ _ _ h => h) (Or.inl ⟨by rfl, ?_⟩) (by assumption) ?_
              rotate_left
              · intro w9 hSw
                (try dsimp only at hSw)
                go_simp
                try with_reducible rfl
              try simp only [Act.put, List.setIfInBounds_toArray, List.set_cons_zero, List.set_cons_succ]
              refine wpAnyH_ready (rs := [4, 8]) (by kernel_rfl) (by simp) ?_
              refine (AllReadyH.cons (opAt_lst5 rfl) (fun K hK => ?_) (AllReadyH.cons (opAt_lst5 rfl) (fun K hK => ?_) AllReadyH.nil))
              · go_simp
                go_at_call 31
                refine (HD1.out _ K1x.out).mono ?_
                rintro e' X2 ⟨ca, cb, c3, cn, cq, cm, cr, cl, cs, rfl, HZ, hk, hk0⟩
                refine hK.out _ _ (HSB.out _ hk0) (fun hHeld => ?_)
                clear hK K
                try simp only [Act.put, List.setIfInBounds_toArray, List.set_cons_zero, List.set_cons_succ]
                have K2x := Lib.hid hk0
                clear hk hk0
                refine wpAnyH_take (i := 5) (v := ?_) (opAt_lst5 rfl) (by kernel_rfl) (by kernel_rfl) (by kernel_rfl) (fun _ _ _ h => h) (Or.inl ⟨by rfl, ?_⟩) (by assumption) ?_
                rotate_left
                · intro w9 hSw
                  (try dsimp only at hSw)
                  go_simp
                  try with_reducible rfl
                try simp only [Act.put, List.setIfInBounds_toArray, List.set_cons_zero, List.set_cons_succ]
                refine wpAnyH_take (i := 6) (v := ?_) (opAt_lst5 rfl) (by kernel_rfl) (by kernel_rfl) (by kernel_rfl) (fun _ _ _ h => h) (Or.inl ⟨by rfl, ?_⟩) (by assumption) ?_
                rotate_left
                · intro w9 hSw
                  (try dsimp only at hSw)
                  go_simp
                  try with_reducible rfl
                try simp only [Act.put, List.setIfInBounds_toArray, List.set_cons_zero, List.set_cons_succ]
                refine wpAnyH_take (i := 7) (v := ?_) (opAt_lst5 rfl) (by kernel_rfl) (by kernel_rfl) (by kernel_rfl) (fun _ _ _ h => h) (Or.inl ⟨by rfl, ?_⟩) (by assumption) ?_
                rotate_left
                · intro w9 hSw
                  (try dsimp only at hSw)
                  go_simp
                  try with_reducible rfl
                try simp only [Act.put, List.setIfInBounds_toArray, List.set_cons_zero, List.set_cons_succ]
                refine wpAnyH_ready (rs := [8]) (by kernel_rfl) (by simp) ?_
                refine (AllReadyH.cons (opAt_lst5 rfl) (fun K hK => ?_) AllReadyH.nil)
                go_simp
                have hka : Kept [] X2 (X2.alloc (.cells #[.slice none 0 0, .int .i64 0, .slice none 0 0, .slice none 0 0] 32)) := (Kept.refl _ _).alloc _
                have HL9 := Lib.hid (Bk.new X2 32 #[.slice none 0 0, .int .i64 0, .slice none 0 0, .slice none 0 0])
                refine hK.out _ _ (HSB.out _ (K2x.out.trans hka (by simp))) (fun hHeld => ?_)
                clear hK K
                try simp only [Act.put, List.setIfInBounds_toArray, List.set_cons_zero, List.set_cons_succ]
                obtain ⟨gL, hgL⟩ : ∃ g, g = X2.heap.size := ⟨_, rfl⟩
                have hLW : w6.heap.size ≤ gL := by rw [hgL]; exact K2x.out.size
                have K3x := Lib.hid (K2x.out.trans hka (by simp))
                have HZ := Lib.hid (HZ.out.stay hka)
                generalize X2.alloc (.cells #[.slice none 0 0, .int .i64 0, .slice none 0 0, .slice none 0 0] 32) = X3 at *
                rw [← hgL] at HL9 ⊢
                clear hgL hka
                refine wpAnyH_ready (rs := [9]) (by kernel_rfl) (by simp) ?_
                refine (AllReadyH.cons (opAt_lst5 rfl) (fun K hK => ?_) AllReadyH.nil)
                obtain ⟨l0, l1, l2, l3⟩ := HL9.out.four
                have f0 := HL9.out.frozen 0
                have f1 := HL9.out.frozen 1
                have f2 := HL9.out.frozen 2
                have f3 := HL9.out.frozen 3
                have hll := HL9.out.lt
                go_simp
                refine hK.out _ _ (HSB.out _ (K3x.out.set4 hLW (.slice ca cn cq) (.int .i64 X.now.c) (.slice cb cm cr) (.slice c3 cl cs))) (fun hHeld => ?_)
                clear hK K
                try simp only [Act.put, List.setIfInBounds_toArray, List.set_cons_zero, List.set_cons_succ]
                refine wpAnyH_take (i := 10) (v := ?_) (opAt_lst5 rfl) (by kernel_rfl) (by kernel_rfl) (by kernel_rfl) (fun _ _ _ h => h) (Or.inl ⟨by rfl, ?_⟩) (by assumption) ?_
                rotate_left
                · intro w9 hSw
                  (try dsimp only at hSw)
                  go_simp
                  try with_reducible rfl
                try simp only [Act.put, List.setIfInBounds_toArray, List.set_cons_zero, List.set_cons_succ]
                refine wpAnyH_done (by kernel_rfl) ?_ _
                go_wp2_with fail
                go_meet
                have hk4 := Kept.rows4 X3 gL (.slice ca cn cq) (.int .i64 X.now.c) (.slice cb cm cr) (.slice c3 cl cs)
                exact ⟨gL, ca, cb, c3, cn, cq, cm, cr, cl, cs, rfl, rfl, HL9.out.set4 _ _ _ _, HZ.out.alien hk4 (Alien.one HL9.out), (K3x.out.set4 hLW (.slice ca cn cq) (.int .i64 X.now.c) (.slice cb cm cr) (.slice c3 cl cs))⟩
              · go_simp
                have hka : Kept [] X1 (X1.alloc (.cells #[.slice none 0 0, .int .i64 0, .slice none 0 0, .slice none 0 0] 32)) := (Kept.refl _ _).alloc _
                have HL9 := Lib.hid (Bk.new X1 32 #[.slice none 0 0, .int .i64 0, .slice none 0 0, .slice none 0 0])
                refine hK.out _ _ (HSB.out _ (K1x.out.trans hka (by simp))) (fun hHeld => ?_)
                clear hK K
                try simp only [Act.put, List.setIfInBounds_toArray, List.set_cons_zero, List.set_cons_succ]
                obtain ⟨gL, hgL⟩ : ∃ g, g = X1.heap.size := ⟨_, rfl⟩
                have hLW : w6.heap.size ≤ gL := by rw [hgL]; exact K1x.out.size
                have K2x := Lib.hid (K1x.out.trans hka (by simp))
                generalize X1.alloc (.cells #[.slice none 0 0, .int .i64 0, .slice none 0 0, .slice none 0 0] 32) = X2 at *
                rw [← hgL] at HL9 ⊢
                clear hgL hka
                refine wpAnyH_ready (rs := [4]) (by kernel_rfl) (by simp) ?_
                refine (AllReadyH.cons (opAt_lst5 rfl) (fun K hK => ?_) AllReadyH.nil)
                go_simp
                go_at_call 31
                refine (HD1.out _ K2x.out).mono ?_
                rintro e' X3 ⟨ca, cb, c3, cn, cq, cm, cr, cl, cs, rfl, HZ, hk, hk0⟩
                refine hK.out _ _ (HSB.out _ hk0) (fun hHeld => ?_)
                clear hK K
                try simp only [Act.put, List.setIfInBounds_toArray, List.set_cons_zero, List.set_cons_succ]
                have K3x := Lib.hid hk0
                have HL9 := Lib.hid (HL9.out.stay hk)
                clear hk hk0
                refine wpAnyH_take (i := 5) (v := ?_) (opAt_lst5 rfl) (by kernel_rfl) (by kernel_rfl) (by kernel_rfl) (fun _ _ _ h => h) (Or.inl ⟨by rfl, ?_⟩) (by assumption) ?_
                rotate_left
                · intro w9 hSw
                  (try dsimp only at hSw)
                  go_simp
                  try with_reducible rfl
                try simp only [Act.put, List.setIfInBounds_toArray, List.set_cons_zero, List.set_cons_succ]
                refine wpAnyH_take (i := 6) (v := ?_) (opAt_lst5 rfl) (by kernel_rfl) (by kernel_rfl) (by kernel_rfl) (fun _ _ _ h => h) (Or.inl ⟨by rfl, ?_⟩) (by assumption) ?_
                rotate_left
                · intro w9 hSw
                  (try dsimp only at hSw)
                  go_simp
                  try with_reducible rfl
                try simp only [Act.put, List.setIfInBounds_toArray, List.set_cons_zero, List.set_cons_succ]
                refine wpAnyH_take (i := 7) (v := ?_) (opAt_lst5 rfl) (by kernel_rfl) (by kernel_rfl) (by kernel_rfl) (fun _ _ _ h => h) (Or.inl ⟨by rfl, ?_⟩) (by assumption) ?_
                rotate_left
                · intro w9 hSw
                  (try dsimp only at hSw)
                  go_simp
                  try with_reducible rfl
                try simp only [Act.put, List.setIfInBounds_toArray, List.set_cons_zero, List.set_cons_succ]
                refine wpAnyH_ready (rs := [9]) (by kernel_rfl) (by simp) ?_
                refine (AllReadyH.cons (opAt_lst5 rfl) (fun K hK => ?_) AllReadyH.nil)
                obtain ⟨l0, l1, l2, l3⟩ := HL9.out.four
                have f0 := HL9.out.frozen 0
                have f1 := HL9.out.frozen 1
                have f2 := HL9.out.frozen 2
                have f3 := HL9.out.frozen 3
                have hll := HL9.out.lt
                go_simp
                refine hK.out _ _ (HSB.out _ (K3x.out.set4 hLW (.slice ca cn cq) (.int .i64 X.now.c) (.slice cb cm cr) (.slice c3 cl cs))) (fun hHeld => ?_)
                clear hK K
                try simp only [Act.put, List.setIfInBounds_toArray, List.set_cons_zero, List.set_cons_succ]
                refine wpAnyH_take (i := 10) (v := ?_) (opAt_lst5 rfl) (by kernel_rfl) (by kernel_rfl) (by kernel_rfl) (fun _ _ _ h => h) (Or.inl ⟨by rfl, ?_⟩) (by assumption) ?_
                rotate_left
                · intro w9 hSw
                  (try dsimp only at hSw)
                  go_simp
                  try with_reducible rfl
                try simp only [Act.put, List.setIfInBounds_toArray, List.set_cons_zero, List.set_cons_succ]
                refine wpAnyH_done (by kernel_rfl) ?_ _
                go_wp2_with fail
                go_meet
                have hk4 := Kept.rows4 X3 gL (.slice ca cn cq) (.int .i64 X.now.c) (.slice cb cm cr) (.slice c3 cl cs)
                exact ⟨gL, ca, cb, c3, cn, cq, cm, cr, cl, cs, rfl, rfl, HL9.out.set4 _ _ _ _, HZ.out.alien hk4 (Alien.one HL9.out), (K3x.out.set4 hLW (.slice ca cn cq) (.int .i64 X.now.c) (.slice cb cm cr) (.slice c3 cl cs))⟩
            case rest =>
              obtain ⟨bq, ca, cb, c3, cn, cq, cm, cr, cl, cs, rfl, rfl, hbp, hde, hkc⟩ := hcut
              have HX7 := Lib.hid (HX6.out.stay hkc)
              have HXD7 := Lib.hid (HXD6.out.stay hkc)
              have HK7 := Lib.hid (HK6.out.trans hkc (by simp))
              have HBQ := Lib.hid hbp
              have HCD := Lib.hid hde
              clear hkc hbp hde HSB HD1 HNUM HDSK
              obtain ⟨s0, s1, s2, s3⟩ := HX7.out.four
              obtain ⟨q0, q1, q2, q3⟩ := HBQ.out.four
              go_wp2_with fail
              refine (iDeskOk_any X _ _ 0 HXD7.out.dv).mono ?_
              rintro e w8 ⟨rfl, hk⟩
              rw [HY.out]
              have HXD8 := Lib.hid (HXD7.out.stay hk)
              have HCD8 := Lib.hid (HCD.out.stay hk)
              have HX8 := Lib.hid (HX7.out.stay hk)
              have HBQ8 := Lib.hid (HBQ.out.stay hk)
              have HK8 := Lib.hid (HK7.out.trans hk (by simp))
              clear hk s0 s1 s2 s3 q0 q1 q2 q3
              obtain ⟨s0, s1, s2, s3⟩ := HX8.out.four
              obtain ⟨q0, q1, q2, q3⟩ := HBQ8.out.four
              go_wp2_with fail
              refine (sameDesk_any X X _ _ _ 0 0 HCD8.out.dv HXD8.out.dv).mono ?_
              rintro e w9 ⟨b, rfl, hb, hk⟩
              rw [hb rfl]
              have HK9 := Lib.hid (HK8.out.trans hk (by simp))
              clear hk hb
              go_wp2
              go_ret
              exact ⟨rfl, HK9.out⟩
end Go.Proofs.Ytofgfhfdmkcmcaa
