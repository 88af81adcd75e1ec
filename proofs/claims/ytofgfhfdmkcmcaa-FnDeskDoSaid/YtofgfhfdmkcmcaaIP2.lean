/-
  Desks by the program: whether a desk is one.
-/
import Derived.Test.YtofgfhfdmkcmcaaPX1
import Derived.Test.YtofgfhfdmkcmcaaIP1
namespace Go.Proofs.Ytofgfhfdmkcmcaa
open Go.RowKit

set_option maxHeartbeats 1000000 in
set_option maxRecDepth 100000 in
theorem deskBad_any (p : Nt.Pi) (w : World) (x : Value) (base : Nat) (h : Pv w base x p) :
    Calls Try.prog 54 #[x] w fun e w' => e = .returned (.bool (!Nt.plB p)) ∧ Kept [] w w' := by
  have HPV0 := Lib.hid h
  obtain ⟨v, u, rfl, h1, h2⟩ := h
  have hk0 : Kept [] w (w.alloc (.cells #[v, .int .i64 p.c, u] 25)) := (Kept.refl [] w).alloc _
  have HB := Lib.hid (Bk.new w 25 #[v, .int .i64 p.c, u])
  have HPV := Lib.hid (HPV0.out.stay hk0)
  have HK0 := Lib.hid hk0
  obtain ⟨a, cap, rfl, _, _, _⟩ := h1.any
  obtain ⟨b, cap2, rfl, _, _, _⟩ := h2.any
  obtain ⟨c0, c1, c2⟩ := HB.out.three
  clear h1 h2 hk0 HPV0
  go_enter Try.func54, Try.ntmps54
  go_wp2_with fail
  generalize w.alloc (.cells #[.slice a p.ns.length cap, .int .i64 p.c, .slice b p.ks.length cap2] 25) = W0 at *
  refine (iPlaceOk_any p _ _ _ HPV.out).mono ?_
  rintro e w1 ⟨rfl, hk1⟩
  have HK1 := Lib.hid (HK0.out.trans hk1 (by simp))
  clear hk1 c0 c1 c2
  go_wp2
  go_ret
  exact ⟨rfl, HK1.out⟩

set_option maxHeartbeats 1000000 in
set_option maxRecDepth 100000 in
theorem firstBad_any (ps : List Nt.Pi) (w : World) (v : Value) (base : Nat) (h : Ps w base v ps) :
    Calls Try.prog 89 #[v, .func (.func 54) #[] #[]] w fun e w' => ∃ m : Int, e = .returned (.int .i64 m) ∧ (decide (0 ≤ m) = !ps.all Nt.plB) ∧ Kept [] w w' := by
  obtain ⟨a3, cap3, rfl, _, hl3, hc3, hp3⟩ := h
  have HP3 := Lib.hid hp3
  have hm3 : ps.length ≤ 9223372036854775807 := by omega
  clear hp3 hl3
  go_enter Try.func89, Try.ntmps89
  go_wp2
  go_loopw [8] (fun i wr => ∃ k : Nat, k ≤ ps.length ∧ i = .int .i64 k ∧ okTo ps k ∧ Kept [] w wr) (fun i _ => ps.length - (intOf i).toNat)
  case atStart => exact ⟨0, Nat.zero_le _, rfl, fun j hj => absurd hj (by omega), Kept.refl _ _⟩
  case round =>
    obtain ⟨k, hk, rfl, hok, hkept⟩ := hrel
    have HOK := Lib.hid hok
    have HK := Lib.hid hkept
    clear hok
    by_cases hlt : k < ps.length
    · obtain ⟨g, off, rfl, hbg, hg, hpc⟩ := HP3.out k hlt
      obtain ⟨x, y, p0, p1, p2, hx, hy⟩ := hpc.stay hg hkept
      have HPK : Hid (Pv wr base (.agg #[x, .int .i64 (piAt ps k).c, y]) (piAt ps k)) := Lib.hid ⟨x, y, rfl, hx, hy⟩
      have HNA := Lib.hid (notAll hlt)
      clear hpc hx hy hkept
      generalize hpe : piAt ps k = p at *
      have HPE := Lib.hid hpe
      clear hpe
      go_wp2_with fail
      refine (deskBad_any p _ _ _ HPK.out).mono ?_
      rintro e w2 ⟨rfl, hk2⟩
      have HK2 := Lib.hid (HK.out.trans hk2 (by simp))
      clear hk2
      cases hb : Nt.plB p
      · have HF : Hid (ps.all Nt.plB = false) := Lib.hid (HNA.out hb)
        clear hb
        go_wp2
        go_ret
        exact ⟨_, rfl, by rw [HF.out]; simp, HK2.out⟩
      · have HPB := Lib.hid hb
        clear hb
        go_wp2
        go_roundw
        case rel =>
          refine ⟨k + 1, by omega, by go_num, fun j hj => ?_, HK2.out⟩
          by_cases e : j = k
          · subst e; rw [HPE.out]; exact HPB.out
          · exact HOK.out j (by omega)
        case measure => simp [intOf]; omega
    · have hk' : k = ps.length := by omega
      have HALL : Hid (ps.all Nt.plB = true) := Lib.hid (okTo_all (by rw [← hk']; exact HOK.out))
      clear hkept
      generalize ps.length = N at *
      subst hk'
      go_wp2
      go_ret
      exact ⟨_, rfl, by rw [HALL.out]; simp, HK.out⟩

set_option maxHeartbeats 1000000 in
set_option maxRecDepth 100000 in
theorem containsBad_any (ps : List Nt.Pi) (w : World) (v : Value) (base : Nat) (h : Ps w base v ps) :
    Calls Try.prog 53 #[v, .func (.func 54) #[] #[]] w fun e w' => e = .returned (.bool (!ps.all Nt.plB)) ∧ Kept [] w w' := by
  have HP := Lib.hid h
  obtain ⟨a3, cap3, rfl, _, _, _, _⟩ := h
  go_enter Try.func53, Try.ntmps53
  go_wp2_with fail
  refine (firstBad_any ps _ _ _ HP.out).mono ?_
  rintro e w1 ⟨m, rfl, hm, hk⟩
  have HM := Lib.hid hm
  have HK := Lib.hid hk
  clear hm hk
  go_wp2
  go_ret
  exact ⟨by rw [← HM.out]; rfl, HK.out⟩

set_option maxHeartbeats 2000000 in
set_option maxRecDepth 100000 in
theorem iDeskOk_any (d : Nt.Di) (w : World) (x : Value) (base : Nat) (h : Dv w base x d) :
    Calls Try.prog 18 #[x] w fun e w' => e = .returned (.bool (Nt.dkB d)) ∧ Kept [] w w' := by
  obtain ⟨v, u, r, rfl, h1, h2, h3⟩ := h
  have hk0 : Kept [] w (w.alloc (.cells #[v, .int .i64 d.now.c, u, r] 32)) := (Kept.refl [] w).alloc _
  have HB := Lib.hid (Bk.new w 32 #[v, .int .i64 d.now.c, u, r])
  have HK0 := Lib.hid hk0
  have HPV : Hid (Pv (w.alloc (.cells #[v, .int .i64 d.now.c, u, r] 32)) base (.agg #[v, .int .i64 d.now.c, u]) d.now) := Lib.hid ⟨v, u, rfl, h1.stay hk0, h2.stay hk0⟩
  have H3 := Lib.hid (h3.stay hk0)
  obtain ⟨a, cap, rfl, _, _, _⟩ := h1.any
  obtain ⟨b, cap2, rfl, _, _, _⟩ := h2.any
  obtain ⟨a3, cap3, rfl, _, _, hc3, _⟩ := h3
  have HD : Hid (Nt.dkB d = (Nt.plB d.now && d.past.all Nt.plB && decide (d.past.length ≤ 8))) := Lib.hid rfl
  have HCB := Lib.hid (fun W v b h => containsBad_any d.past W v b h)
  obtain ⟨c0, c1, c2, c3⟩ := HB.out.four
  clear h1 h2 hk0
  go_enter Try.func18, Try.ntmps18
  go_wp2_with fail
  generalize w.alloc (.cells #[.slice a d.now.ns.length cap, .int .i64 d.now.c, .slice b d.now.ks.length cap2, .slice a3 d.past.length cap3] 32) = W0 at *
  refine (iPlaceOk_any d.now _ _ _ HPV.out).mono ?_
  rintro e w1 ⟨rfl, hk1⟩
  have HK1 := Lib.hid (HK0.out.trans hk1 (by simp))
  have H31 := Lib.hid (H3.out.stay hk1)
  obtain ⟨d0, d1, d2, d3⟩ := (HB.out.stay hk1).four
  clear hk1 c0 c1 c2 c3
  generalize hz : d.past.all Nt.plB = z at *
  clear hz
  generalize d.past.length = n at *
  cases hb : Nt.plB d.now
  · rw [hb] at HD
    go_wp2
    go_ret
    exact ⟨by rw [HD.out]; rfl, HK1.out⟩
  · rw [hb] at HD
    by_cases h8 : n ≤ 8
    · have e8 : decide ((n : Int) ≤ 8) = true := dec_of (by omega)
      rw [show decide (n ≤ 8) = true from dec_of h8] at HD
      go_wp2_with fail
      refine (HCB.out _ _ _ H31.out).mono ?_
      rintro e w2 ⟨rfl, hk2⟩
      have HK2 := Lib.hid (HK1.out.trans hk2 (by simp))
      clear hk2
      go_wp2
      go_ret
      exact ⟨by rw [HD.out]; cases z <;> rfl, HK2.out⟩
    · have e8 : decide ((n : Int) ≤ 8) = false := dec_not (by omega)
      rw [show decide (n ≤ 8) = false from dec_not h8] at HD
      go_wp2
      go_ret
      exact ⟨by rw [HD.out]; cases z <;> rfl, HK1.out⟩
end Go.Proofs.Ytofgfhfdmkcmcaa
