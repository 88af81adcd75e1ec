/-
  Places and desks compared.
-/
import Derived.Test.YtofgfhfdmkcmcaaL1
import Derived.Test.YtofgfhfdmkcmcaaIP8
namespace Go.Proofs.Ytofgfhfdmkcmcaa
open Go.RowKit

set_option maxHeartbeats 2000000 in
set_option maxRecDepth 100000 in
theorem lSamePlace_any (p q : Nt.Pi) (w : World) (x y : Value) (base base' : Nat) (hx : Pv w base x p) (hy : Pv w base' y q) :
    Calls Try.prog 25 #[x, y] w fun e w' => e = .returned (.bool (decide (p = q))) ∧ Kept [] w w' := by
  obtain ⟨v, u, rfl, h1, h2⟩ := hx
  obtain ⟨v', u', rfl, h1', h2'⟩ := hy
  obtain ⟨hk0, hb0, hd0⟩ := two_new w 25 25 #[v, .int .i64 p.c, u] #[v', .int .i64 q.c, u']
  have H1 := Lib.hid (h1.stay hk0)
  have H2 := Lib.hid (h2.stay hk0)
  have G1 := Lib.hid (h1'.stay hk0)
  have G2 := Lib.hid (h2'.stay hk0)
  have HK := Lib.hid hk0
  have HB := Lib.hid hb0
  have HD := Lib.hid hd0
  obtain ⟨a1, c1, rfl, _, _, _⟩ := h1.any
  obtain ⟨a2, c2, rfl, _, _, _⟩ := h2.any
  obtain ⟨a3, c3, rfl, _, _, _⟩ := h1'.any
  obtain ⟨a4, c4, rfl, _, _, _⟩ := h2'.any
  obtain ⟨r0, r1, r2⟩ := hb0.three
  obtain ⟨s0, s1, s2⟩ := hd0.three
  clear h1 h2 h1' h2' hk0 hb0 hd0
  go_enter Try.func25, Try.ntmps25
  go_wp2_with fail
  generalize ((w.alloc (.cells #[.slice a1 p.ns.length c1, .int .i64 p.c, .slice a2 p.ks.length c2] 25)).alloc (.cells #[.slice a3 q.ns.length c3, .int .i64 q.c, .slice a4 q.ks.length c4] 25)) = W0 at *
  refine (sameInts_any _ _ _ _ _ _ _ H1.out G1.out).mono ?_
  rintro e w1 ⟨rfl, hq⟩
  have hk := hq.kept
  have H2b := Lib.hid (H2.out.stay hk)
  have G2b := Lib.hid (G2.out.stay hk)
  have HK1 := Lib.hid (HK.out.trans hk (by simp))
  have hB := HB.out.stay hk
  have hD := HD.out.stay hk
  clear r0 r1 r2 s0 s1 s2
  obtain ⟨r0, r1, r2⟩ := hB.three
  obtain ⟨s0, s1, s2⟩ := hD.three
  clear hk hq hB hD HB HD H1 G1 H2 G2 HK
  by_cases e1 : p.ns = q.ns
  · have HE1 := Lib.hid e1
    rw [dec_of e1]
    clear e1
    by_cases e2 : p.c = q.c
    · have he : (p.c == q.c) = true := by simp [e2]
      have HE2 := Lib.hid e2
      clear e2
      go_wp2_with fail
      refine (sameInts_any _ _ _ _ _ _ _ H2b.out G2b.out).mono ?_
      rintro e w2 ⟨rfl, hq⟩
      have HK2 := Lib.hid (HK1.out.trans hq.kept (by simp))
      clear hq
      go_wp2
      go_ret
      refine ⟨?_, HK2.out⟩
      have : (p = q) ↔ (p.ks = q.ks) := by
        obtain ⟨pn, pc, pk⟩ := p
        obtain ⟨qn, qc, qk⟩ := q
        have := HE1.out
        have := HE2.out
        simp_all
      by_cases e3 : p.ks = q.ks
      · rw [dec_of e3, dec_of (this.2 e3)]; rfl
      · rw [dec_not e3, dec_not (fun h => e3 (this.1 h))]; rfl
    · have he : (p.c == q.c) = false := by simp [e2]
      have HE2 := Lib.hid e2
      clear e2
      go_wp2
      go_ret
      exact ⟨by rw [dec_not (fun h => HE2.out (congrArg Nt.Pi.c h))]; rfl, HK1.out⟩
  · have HE1 := Lib.hid e1
    rw [dec_not e1]
    clear e1
    go_wp2
    go_ret
    exact ⟨by rw [dec_not (fun h => HE1.out (congrArg Nt.Pi.ns h))]; rfl, HK1.out⟩

/-- Two desks compared: equal ones are. -/
def Sames (d f : Nt.Di) (w : World) (e : Ending) (w' : World) : Prop := ∃ b : Bool, e = .returned (.bool b) ∧ (d = f → b = true) ∧ Kept [] w w'

set_option maxHeartbeats 4000000 in
set_option maxRecDepth 100000 in
theorem sameDesk_any (d f : Nt.Di) (w : World) (x y : Value) (base base' : Nat) (hx : Dv w base x d) (hy : Dv w base' y f) :
    Calls Try.prog 23 #[x, y] w (Sames d f w) := by
  obtain ⟨v, u, r, rfl, h1, h2, h3⟩ := hx
  obtain ⟨v', u', r', rfl, h1', h2', h3'⟩ := hy
  obtain ⟨n, hn⟩ : ∃ n, n = d.past.length := ⟨_, rfl⟩
  obtain ⟨m, hm⟩ : ∃ m, m = f.past.length := ⟨_, rfl⟩
  have HN := Lib.hid hn
  have HM := Lib.hid hm
  obtain ⟨a1, c1, rfl, _, _, _⟩ := h1.any
  obtain ⟨a2, c2, rfl, _, _, _⟩ := h2.any
  obtain ⟨a3, c3, rfl, _, _, _⟩ := h1'.any
  obtain ⟨a4, c4, rfl, _, _, _⟩ := h2'.any
  obtain ⟨a5, c5, rfl⟩ := h3.any3
  obtain ⟨a6, c6, rfl⟩ := h3'.any3
  have hn63 : n ≤ 9223372036854775807 := by
    obtain ⟨_, _, e, _, hc, hm', _⟩ := h3
    simp only [Value.slice.injEq] at e
    omega
  rw [← hn] at h3
  rw [← hm] at h3'
  rw [← hn, ← hm]
  obtain ⟨hk0, hb0, hd0⟩ := two_new w 32 32 #[.slice a1 d.now.ns.length c1, .int .i64 d.now.c, .slice a2 d.now.ks.length c2, .slice a5 n c5] #[.slice a3 f.now.ns.length c3, .int .i64 f.now.c, .slice a4 f.now.ks.length c4, .slice a6 m c6]
  have HP := Lib.hid (show Pv _ base (.agg #[.slice a1 d.now.ns.length c1, .int .i64 d.now.c, .slice a2 d.now.ks.length c2]) d.now from ⟨_, _, rfl, h1.stay hk0, h2.stay hk0⟩)
  have HQ := Lib.hid (show Pv _ base' (.agg #[.slice a3 f.now.ns.length c3, .int .i64 f.now.c, .slice a4 f.now.ks.length c4]) f.now from ⟨_, _, rfl, h1'.stay hk0, h2'.stay hk0⟩)
  have HR := Lib.hid (h3.stay hk0)
  have HS := Lib.hid (h3'.stay hk0)
  have HK := Lib.hid hk0
  have HB := Lib.hid hb0
  have HD := Lib.hid hd0
  obtain ⟨r0, r1, r2, r3⟩ := hb0.four
  obtain ⟨s0, s1, s2, s3⟩ := hd0.four
  clear h1 h2 h1' h2' h3 h3' hk0 hb0 hd0 hn hm
  go_enter Try.func23, Try.ntmps23
  go_wp2_with fail
  generalize ((w.alloc (.cells #[.slice a1 d.now.ns.length c1, .int .i64 d.now.c, .slice a2 d.now.ks.length c2, .slice a5 n c5] 32)).alloc (.cells #[.slice a3 f.now.ns.length c3, .int .i64 f.now.c, .slice a4 f.now.ks.length c4, .slice a6 m c6] 32)) = W0 at *
  refine (lSamePlace_any _ _ _ _ _ _ _ HP.out HQ.out).mono ?_
  rintro e w1 ⟨rfl, hk⟩
  have HR1 := Lib.hid (HR.out.stay hk)
  have HS1 := Lib.hid (HS.out.stay hk)
  have HK1 := Lib.hid (HK.out.trans hk (by simp))
  have HB1 := Lib.hid (HB.out.stay hk)
  have HD1 := Lib.hid (HD.out.stay hk)
  clear r0 r1 r2 r3 s0 s1 s2 s3
  obtain ⟨r0, r1, r2, r3⟩ := HB1.out.four
  obtain ⟨s0, s1, s2, s3⟩ := HD1.out.four
  clear hk HB HD HR HS HK HP HQ
  by_cases e1 : d.now = f.now
  · rw [dec_of e1]
    clear e1
    by_cases e2 : n = m
    · have he : ((n : Int) != (m : Int)) = false := by simp [e2]
      subst e2
      go_wp2_with fail
      go_loopw [5] (fun i wr => ∃ k : Nat, k ≤ n ∧ i = .int .i64 k ∧ Kept [] w1 wr) (fun i _ => n - (intOf i).toNat)
      case atStart => exact ⟨0, Nat.zero_le _, rfl, Kept.refl _ _⟩
      case round =>
        obtain ⟨k, hk, rfl, hkept⟩ := hrel
        have HKR := Lib.hid hkept
        have HBR := Lib.hid (HB1.out.stay hkept)
        have HDR := Lib.hid (HD1.out.stay hkept)
        have HRR := Lib.hid (HR1.out.stay hkept)
        have HSR := Lib.hid (HS1.out.stay hkept)
        clear r0 r1 r2 r3 s0 s1 s2 s3 hkept
        obtain ⟨r0, r1, r2, r3⟩ := HBR.out.four
        obtain ⟨s0, s1, s2, s3⟩ := HDR.out.four
        by_cases hlt : k < n
        · obtain ⟨_, _, ea, _, _, _, hca⟩ := HRR.out
          obtain ⟨_, _, eb, _, _, _, hcb⟩ := HSR.out
          simp only [Value.slice.injEq] at ea eb
          obtain ⟨rfl, hnx, rfl⟩ := ea
          clear hnx
          obtain ⟨rfl, hnx, rfl⟩ := eb
          clear hnx
          obtain ⟨ga, oa, rfl, _, hga, xa, ya, p0, p1, p2, hx1, hy1⟩ := hca k (by rw [← HN.out]; exact hlt)
          obtain ⟨gb, ob, rfl, _, hgb, xb, yb, q0, q1, q2, hx2, hy2⟩ := hcb k (by rw [← HM.out]; exact hlt)
          have hpa : Pv wr base (.agg #[xa, .int .i64 (piAt d.past k).c, ya]) (piAt d.past k) := ⟨_, _, rfl, hx1, hy1⟩
          have hpb : Pv wr base' (.agg #[xb, .int .i64 (piAt f.past k).c, yb]) (piAt f.past k) := ⟨_, _, rfl, hx2, hy2⟩
          obtain ⟨xa1, xa2, rfl, _, _, _⟩ := hx1.any
          obtain ⟨ya1, ya2, rfl, _, _, _⟩ := hy1.any
          obtain ⟨xb1, xb2, rfl, _, _, _⟩ := hx2.any
          obtain ⟨yb1, yb2, rfl, _, _, _⟩ := hy2.any
          have HNE : Hid (decide (piAt d.past k = piAt f.past k) = false → ¬ d = f) := Lib.hid (fun h e => by rw [e, decide_eq_true rfl] at h; cases h)
          have HCALL : Hid (∀ W, Kept [] wr W → Calls Try.prog 25 #[.agg #[.slice xa1 (piAt d.past k).ns.length xa2, .int .i64 (piAt d.past k).c, .slice ya1 (piAt d.past k).ks.length ya2], .agg #[.slice xb1 (piAt f.past k).ns.length xb2, .int .i64 (piAt f.past k).c, .slice yb1 (piAt f.past k).ks.length yb2]] W fun e w' => e = .returned (.bool (decide (piAt d.past k = piAt f.past k))) ∧ Kept [] wr w') := Lib.hid (fun W k' => (lSamePlace_any _ _ W _ _ _ _ (hpa.stay k') (hpb.stay k')).mono (by rintro e w' ⟨rfl, hk⟩; exact ⟨rfl, k'.trans hk (by simp)⟩))
          have HSB : Hid (∀ w', Kept [] wr w' → w'.cell? ⟨w.heap.size, 3, none⟩ = some (.slice (some ⟨ga, oa, none⟩) n c5) ∧ w'.cell? ⟨w.heap.size + 1, 3, none⟩ = some (.slice (some ⟨gb, ob, none⟩) n c6) ∧ w'.cell? ⟨ga, oa + k * 3, none⟩ = some (.slice xa1 (piAt d.past k).ns.length xa2) ∧ w'.cell? ⟨ga, oa + k * 3 + 1, none⟩ = some (.int .i64 (piAt d.past k).c) ∧ w'.cell? ⟨ga, oa + k * 3 + 2, none⟩ = some (.slice ya1 (piAt d.past k).ks.length ya2) ∧ w'.cell? ⟨gb, ob + k * 3, none⟩ = some (.slice xb1 (piAt f.past k).ns.length xb2) ∧ w'.cell? ⟨gb, ob + k * 3 + 1, none⟩ = some (.int .i64 (piAt f.past k).c) ∧ w'.cell? ⟨gb, ob + k * 3 + 2, none⟩ = some (.slice yb1 (piAt f.past k).ks.length yb2)) := Lib.hid (fun w' k' => ⟨(HBR.out.stay k').four.2.2.2, (HDR.out.stay k').four.2.2.2, (k'.cell (p := ⟨ga, oa + k * 3, none⟩) hga (by simp)).trans p0, (k'.cell (p := ⟨ga, oa + k * 3 + 1, none⟩) hga (by simp)).trans p1, (k'.cell (p := ⟨ga, oa + k * 3 + 2, none⟩) hga (by simp)).trans p2, (k'.cell (p := ⟨gb, ob + k * 3, none⟩) hgb (by simp)).trans q0, (k'.cell (p := ⟨gb, ob + k * 3 + 1, none⟩) hgb (by simp)).trans q1, (k'.cell (p := ⟨gb, ob + k * 3 + 2, none⟩) hgb (by simp)).trans q2⟩)
          have r3d : wr.drew.cell? ⟨w.heap.size, 3, none⟩ = some (.slice (some ⟨ga, oa, none⟩) n c5) := r3
          have s3d : wr.drew.cell? ⟨w.heap.size + 1, 3, none⟩ = some (.slice (some ⟨gb, ob, none⟩) n c6) := s3
          have HKW := Lib.hid (HK1.out.trans HKR.out (by simp))
          clear hpa hpb hx1 hy1 hx2 hy2 hca hcb
          generalize decide (piAt d.past k = piAt f.past k) = B at *
          generalize piAt d.past k = p at *
          generalize piAt f.past k = q at *
          clear r0 r1 r2 s0 s1 s2
          go_wp2_with fail
          go_region_held3 (fun w' => w'.cell? ⟨w.heap.size, 3, none⟩ = some (.slice (some ⟨ga, oa, none⟩) n c5) ∧ w'.cell? ⟨w.heap.size + 1, 3, none⟩ = some (.slice (some ⟨gb, ob, none⟩) n c6) ∧ w'.cell? ⟨ga, oa + k * 3, none⟩ = some (.slice xa1 p.ns.length xa2) ∧ w'.cell? ⟨ga, oa + k * 3 + 1, none⟩ = some (.int .i64 p.c) ∧ w'.cell? ⟨ga, oa + k * 3 + 2, none⟩ = some (.slice ya1 p.ks.length ya2) ∧ w'.cell? ⟨gb, ob + k * 3, none⟩ = some (.slice xb1 q.ns.length xb2) ∧ w'.cell? ⟨gb, ob + k * 3 + 1, none⟩ = some (.int .i64 q.c) ∧ w'.cell? ⟨gb, ob + k * 3 + 2, none⟩ = some (.slice yb1 q.ks.length yb2))
            ((refine HSB.out _ ?_; repeat (first | exact Kept.refl _ _ | assumption | apply Kept.alloc | apply Kept.drew)))
            (first | (go_simp; go_at_call 25; refine (HCALL.out _ (by repeat (first | exact Kept.refl _ _ | assumption | apply Kept.alloc | apply Kept.drew))).mono ?_; rintro e' w6 ⟨rfl, k6⟩; have z6 := k6.size))
          all_goals
            cases B
            · go_wp2
              go_ret
              exact ⟨false, rfl, fun h => absurd h (HNE.out (by first | rfl | trivial)), HK1.out.trans (HKR.out.trans k6 (by simp)) (by simp)⟩
            · go_wp2
              go_roundw
              case rel => exact ⟨k + 1, by omega, by go_num, HKR.out.trans k6 (by simp)⟩
              case measure => simp [intOf]; omega
        · go_wp2
          go_ret
          exact ⟨true, rfl, fun _ => rfl, HK1.out.trans HKR.out (by simp)⟩
    · have he : ((n : Int) != (m : Int)) = true := by simp; omega
      have HE2 := Lib.hid e2
      clear e2
      go_wp2
      go_ret
      exact ⟨false, rfl, fun h => absurd (by rw [HN.out, HM.out, h]) HE2.out, HK1.out⟩
  · have HE1 := Lib.hid e1
    rw [dec_not e1]
    clear e1
    go_wp2
    go_ret
    exact ⟨false, rfl, fun h => absurd (congrArg Nt.Di.now h) HE1.out, HK1.out⟩

set_option maxHeartbeats 2000000 in
set_option maxRecDepth 100000 in
theorem noDesk_zero (w : World) (y : Value) (base : Nat) (d : Nt.Di) (hd : d = Nt.Di.zero) (h : Dv w base y d) : Calls Try.prog 24 #[y] w fun e w' => e = .returned (.bool true) ∧ Kept [] w w' := by
  subst hd
  have HD := Lib.hid h
  obtain ⟨v, u, r, rfl, h1, h2, h3⟩ := h
  obtain ⟨a1, c1, rfl, _, _, _⟩ := h1.any
  obtain ⟨a2, c2, rfl, _, _, _⟩ := h2.any
  obtain ⟨a5, c5, rfl⟩ := h3.any3
  have hk0 : Kept [] w (w.alloc (.cells #[.slice a1 Nt.Di.zero.now.ns.length c1, .int .i64 Nt.Di.zero.now.c, .slice a2 Nt.Di.zero.now.ks.length c2, .slice a5 Nt.Di.zero.past.length c5] 32)) := (Kept.refl _ _).alloc _
  have HB := Lib.hid (Bk.new w 32 #[.slice a1 Nt.Di.zero.now.ns.length c1, .int .i64 Nt.Di.zero.now.c, .slice a2 Nt.Di.zero.now.ks.length c2, .slice a5 Nt.Di.zero.past.length c5])
  have HD1 := Lib.hid (HD.out.stay hk0)
  have HK0 := Lib.hid hk0
  obtain ⟨r0, r1, r2, r3⟩ := HB.out.four
  clear h1 h2 h3 hk0
  go_enter Try.func24, Try.ntmps24
  go_wp2_with fail
  refine (sameDesk_any Nt.Di.zero Nt.Di.zero _ _ _ base 0 HD1.out (De.zero _).dv).mono ?_
  rintro e w1 ⟨b, rfl, hb, hk⟩
  rw [hb rfl]
  have HK1 := Lib.hid (HK0.out.trans hk (by simp))
  clear hk hb
  go_wp2
  go_ret
  exact ⟨rfl, HK1.out⟩
end Go.Proofs.Ytofgfhfdmkcmcaa
