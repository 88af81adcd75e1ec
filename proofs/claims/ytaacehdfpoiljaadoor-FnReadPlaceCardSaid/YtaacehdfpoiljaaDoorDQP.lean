/-
  Places compared, by the laws.
-/
import Derived.Test.YtaacehdfpoiljaaDoorL1
import Derived.Test.YtaacehdfpoiljaaDoorPV1
namespace Go.Proofs.YtaacehdfpoiljaaDoor
open Go.RowKit

set_option maxHeartbeats 2000000 in
set_option maxRecDepth 100000 in
theorem lSamePlace_any (p q : Nt.Pi) (w : World) (x y : Value) (base base' : Nat) (hx : Pv w base x p) (hy : Pv w base' y q) :
    Calls Tryd.prog 20 #[x, y] w fun e w' => e = .returned (.bool (decide (p = q))) ∧ Kept [] w w' := by
  obtain ⟨v, u, rfl, h1, h2⟩ := hx
  obtain ⟨v', u', rfl, h1', h2'⟩ := hy
  obtain ⟨hk0, hb0, hd0⟩ := two_new w 25 25 #[v, .int .i64 p.c, u] #[v', .int .i64 q.c, u']
  have H1 := Lib.hid (h1.stay hk0)
  have H2 := Lib.hid (h2.stay hk0)
  have G1 := Lib.hid (h1'.stay hk0)
  have G2 := Lib.hid (h2'.stay hk0)
  have HK := Lib.hid hk0
  have HB := Lib.hid hb0
  have HD := Lib.hid hd0
  obtain ⟨a1, c1, rfl, _, _, _⟩ := h1.any
  obtain ⟨a2, c2, rfl, _, _, _⟩ := h2.any
  obtain ⟨a3, c3, rfl, _, _, _⟩ := h1'.any
  obtain ⟨a4, c4, rfl, _, _, _⟩ := h2'.any
  obtain ⟨r0, r1, r2⟩ := hb0.three
  obtain ⟨s0, s1, s2⟩ := hd0.three
  clear h1 h2 h1' h2' hk0 hb0 hd0
  go_enter Tryd.func20, Tryd.ntmps20
  go_wp2_with fail
  generalize ((w.alloc (.cells #[.slice a1 p.ns.length c1, .int .i64 p.c, .slice a2 p.ks.length c2] 25)).alloc (.cells #[.slice a3 q.ns.length c3, .int .i64 q.c, .slice a4 q.ks.length c4] 25)) = W0 at *
  refine (sameInts_any _ _ _ _ _ _ _ H1.out G1.out).mono ?_
  rintro e w1 ⟨rfl, hq⟩
  have hk := hq.kept
  have H2b := Lib.hid (H2.out.stay hk)
  have G2b := Lib.hid (G2.out.stay hk)
  have HK1 := Lib.hid (HK.out.trans hk (by simp))
  have hB := HB.out.stay hk
  have hD := HD.out.stay hk
  clear r0 r1 r2 s0 s1 s2
  obtain ⟨r0, r1, r2⟩ := hB.three
  obtain ⟨s0, s1, s2⟩ := hD.three
  clear hk hq hB hD HB HD H1 G1 H2 G2 HK
  by_cases e1 : p.ns = q.ns
  · have HE1 := Lib.hid e1
    rw [dec_of e1]
    clear e1
    by_cases e2 : p.c = q.c
    · have he : (p.c == q.c) = true := by simp [e2]
      have HE2 := Lib.hid e2
      clear e2
      go_wp2_with fail
      refine (sameInts_any _ _ _ _ _ _ _ H2b.out G2b.out).mono ?_
      rintro e w2 ⟨rfl, hq⟩
      have HK2 := Lib.hid (HK1.out.trans hq.kept (by simp))
      clear hq
      go_wp2
      go_ret
      refine ⟨?_, HK2.out⟩
      have : (p = q) ↔ (p.ks = q.ks) := by
        obtain ⟨pn, pc, pk⟩ := p
        obtain ⟨qn, qc, qk⟩ := q
        have := HE1.out
        have := HE2.out
        simp_all
      by_cases e3 : p.ks = q.ks
      · rw [dec_of e3, dec_of (this.2 e3)]; rfl
      · rw [dec_not e3, dec_not (fun h => e3 (this.1 h))]; rfl
    · have he : (p.c == q.c) = false := by simp [e2]
      have HE2 := Lib.hid e2
      clear e2
      go_wp2
      go_ret
      exact ⟨by rw [dec_not (fun h => HE2.out (congrArg Nt.Pi.c h))]; rfl, HK1.out⟩
  · have HE1 := Lib.hid e1
    rw [dec_not e1]
    clear e1
    go_wp2
    go_ret
    exact ⟨by rw [dec_not (fun h => HE1.out (congrArg Nt.Pi.ns h))]; rfl, HK1.out⟩
end Go.Proofs.YtaacehdfpoiljaaDoor
