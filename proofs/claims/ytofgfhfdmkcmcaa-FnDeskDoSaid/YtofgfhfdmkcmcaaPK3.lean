/-
  New desks by the model: the row of before is nil.
-/
import Derived.Test.YtofgfhfdmkcmcaaPK1
namespace Go.Proofs.Ytofgfhfdmkcmcaa
open Go.RowKit

set_option maxHeartbeats 2000000 in
set_option maxRecDepth 100000 in
theorem sDeskNewZ_any (p : Nt.Pi) (w : World) (x : Value) (base : Nat) (h : Pv w base x p) :
    Calls Try.prog 22 #[x] w fun e w' => ∃ a n cap b m cap2, e = .returned (.tuple #[.agg #[.slice a n cap, .int .i64 (Nt.dnew p).now.c, .slice b m cap2, .slice none 0 0], .bool (Nt.plB p)]) ∧ (Nt.dnew p).past = [] ∧ (Nt.plB p = false → a = none ∧ n = 0 ∧ cap = 0 ∧ b = none ∧ m = 0 ∧ cap2 = 0) ∧ Sl w' w.heap.size (.slice a n cap) (Nt.dnew p).now.ns ∧ Sl w' w.heap.size (.slice b m cap2) (Nt.dnew p).now.ks ∧ Kept [] w w' := by
  have HPV0 := Lib.hid h
  obtain ⟨v, u, rfl, h1, h2⟩ := h
  obtain ⟨hk0, hb0, hr0⟩ := two_new w 25 32 #[v, .int .i64 p.c, u] #[.slice none 0 0, .int .i64 0, .slice none 0 0, .slice none 0 0]
  have HPV := Lib.hid (HPV0.out.stay hk0)
  have HB := Lib.hid hb0
  have HR := Lib.hid hr0
  have HK0 := Lib.hid hk0
  obtain ⟨a, cap, rfl, _, _, _⟩ := h1.any
  obtain ⟨b, cap2, rfl, _, _, _⟩ := h2.any
  obtain ⟨c0, c1, c2⟩ := hb0.three
  clear h1 h2 hk0 hb0 hr0 HPV0
  go_enter Try.func22, Try.ntmps22
  go_wp2_with fail
  generalize ((w.alloc (.cells #[.slice a p.ns.length cap, .int .i64 p.c, .slice b p.ks.length cap2] 25)).alloc (.cells #[.slice none 0 0, .int .i64 0, .slice none 0 0, .slice none 0 0] 32)) = W0 at *
  refine (sPlaceOk_any p _ _ _ HPV.out).mono ?_
  rintro e w1 ⟨rfl, hk1⟩
  have HB1 := Lib.hid (HB.out.stay hk1)
  have HR1 := Lib.hid (HR.out.stay hk1)
  have HPV1 := Lib.hid (HPV.out.stay hk1)
  have HK1 := Lib.hid (HK0.out.trans hk1 (by simp))
  clear hk1 c0 c1 c2 HB HR HPV HK0
  cases ho : Nt.plB p
  · obtain ⟨r0, r1, r2, r3⟩ := HR1.out.four
    have f0 := HR1.out.frozen 0
    have f1 := HR1.out.frozen 1
    have f2 := HR1.out.frozen 2
    have f3 := HR1.out.frozen 3
    have HO := Lib.hid ho
    have HF : Hid (Nt.dnew p = Nt.Di.zero) := Lib.hid (by unfold Nt.dnew; rw [if_neg (by simp [ho])])
    go_wp2
    (try simp only [Exit.inBlock, Exit.then])
    refine bodyPost_ret (v := .tuple #[.agg #[.slice none 0 0, .int .i64 0, .slice none 0 0, .slice none 0 0], .bool false]) ?_ rfl ?_
    · rw [results_cell_tmp rfl]
      simp [asAddr, ret_desk (HR1.out.set4 _ _ _ _)]
    · rw [HO.out, HF.out]
      exact ⟨_, _, _, _, _, _, rfl, rfl, fun _ => ⟨rfl, rfl, rfl, rfl, rfl, rfl⟩, Sl.nil _ _, Sl.nil _ _, HK1.out.set4 (by omega) _ _ _ _⟩
  · obtain ⟨q, rfl, hq⟩ := Nt.plB_ok ho
    have HF : Hid (Nt.dnew q.i = ⟨q.i, []⟩) := Lib.hid (by unfold Nt.dnew; rw [if_pos ho])
    have hns : 0 < q.i.ns.length ∧ q.i.ns.length ≤ 100 := by
      have := hq.ok.some
      have := hq.ok.few
      show 0 < (Nt.nats q.ns).length ∧ (Nt.nats q.ns).length ≤ 100
      rw [Nt.nats_length]; omega
    have hks : 0 < q.i.ks.length ∧ q.i.ks.length ≤ 100 := by
      have := hq.st.some
      have := hq.st.few
      show 0 < (Nt.nats q.ks).length ∧ (Nt.nats q.ks).length ≤ 100
      rw [Nt.nats_length]; omega
    have HC := Lib.hid (fun W x b h => sPlace_any q.i hns hks W x b h)
    have HO := Lib.hid ho
    clear hns hks hq ho
    obtain ⟨c0, c1, c2⟩ := HB1.out.three
    go_wp2_with fail
    refine (HC.out _ _ _ HPV1.out).mono ?_
    rintro e w2 ⟨y2, rfl, hpv2, hk2⟩
    have HR2 := Lib.hid (HR1.out.stay hk2)
    have HK2 := Lib.hid (HK1.out.trans hk2 (by simp))
    obtain ⟨v2, u2, rfl, hv2, hu2⟩ := hpv2
    have HV2 := Lib.hid hv2
    have HU2 := Lib.hid hu2
    have HZ1 := Lib.hid HR1.out.lt
    obtain ⟨a2, cp2, rfl, _, _, _⟩ := hv2.any
    obtain ⟨b2, cp3, rfl, _, _, _⟩ := hu2.any
    obtain ⟨r0, r1, r2, r3⟩ := HR2.out.four
    have f0 := HR2.out.frozen 0
    have f1 := HR2.out.frozen 1
    have f2 := HR2.out.frozen 2
    have f3 := HR2.out.frozen 3
    clear hk2 hv2 hu2 c0 c1 c2
    go_wp2
    (try simp only [Exit.inBlock, Exit.then])
    refine bodyPost_ret (v := .tuple #[.agg #[.slice a2 q.i.ns.length cp2, .int .i64 q.i.c, .slice b2 q.i.ks.length cp3, .slice none 0 0], .bool true]) ?_ rfl ?_
    · rw [results_cell_tmp rfl]
      simp [asAddr, ret_desk (HR2.out.set4 _ _ _ _)]
    · have hne : ∀ g : Nat, w1.heap.size ≤ g → ¬ g ∈ [w.heap.size + 1] := fun g h hm => by have := HZ1.out; simp at hm; omega
      have hsz := HK1.out.size
      rw [HO.out, HF.out]
      exact ⟨_, _, _, _, _, _, rfl, rfl, (fun h => by cases h), (HV2.out.kept (Kept.rows4 w2 (w.heap.size + 1) _ _ _ _) (fun g hg => hne g (HV2.out.block hg).1)).mono hsz, (HU2.out.kept (Kept.rows4 w2 (w.heap.size + 1) _ _ _ _) (fun g hg => hne g (HU2.out.block hg).1)).mono hsz, HK2.out.set4 (by omega) _ _ _ _⟩
end Go.Proofs.Ytofgfhfdmkcmcaa
