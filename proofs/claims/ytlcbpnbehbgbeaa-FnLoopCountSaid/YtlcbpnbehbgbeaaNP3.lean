/-
  Walks: states that no state leads to, counted by the program: numbers sorted, of which those that are there once more are left out.
-/
import Derived.Test.YtlcbpnbehbgbeaaNP2
import Derived.Test.YtlcbpnbehbgbeaaSh
import Derived.Sort.OwnSortedInts
import Derived.Lib.OwnBridge
namespace Go.Proofs.Ytlcbpnbehbgbeaa
open Go.RowKit

/-- slices.Sort of a slice of the call's own. -/
theorem sortS_any (zs : List Int) (hz : 0 < zs.length) (hz6 : zs.length ≤ 1000000) (w : World) (v : Value) (base : Nat) (hs : Sl w base v zs) :
    Calls Try.prog 55 #[v] w fun e w' => e = .returned (.tuple #[]) ∧ Sl w' base v (Nt.sortedL zs) ∧ Kept v.ownBlock.toList w w' := by
  rcases hs.2 with ⟨_, hn⟩ | ⟨g, cap, cur, rfl, hb, hg, hc, hm, hsz, ht⟩
  · omega
  · have ht' : cur.toList.take zs.length = zs.map (Value.int .i64) := by rw [Nat.mul_one] at ht; exact ht
    have hgl : g < w.heap.size := (Array.getElem?_eq_some_iff.1 hg).1
    have hlen := hs.len
    refine (Try.slices_Sort_int g 0 cap zs w (holds_of_blockI hg ht') hgl ?_).mono ?_
    · omega
    · rintro e w' ⟨rfl, n, os, rfl⟩
      have h1 := ownsRow_sortedI (n := n) (os := os) (ts := Nt.sortedL zs) (Nt.sortedL_length zs) hb hg hc hm hsz
      refine ⟨rfl, ?_, (Kept.refl _ _).grown (grownBy_sortedI _) (fun k hk => .inl (by cases hk; simp [Value.ownBlock]))⟩
      unfold Sl
      rw [Nt.sortedL_length]
      exact h1

/-- slices.Compact of a slice of the call's own: how many are left. -/
theorem compactS_any (zs : List Int) (hz : 0 < zs.length) (w : World) (v : Value) (base : Nat) (hs : Sl w base v zs) :
    Calls Try.prog 56 #[v] w fun e w' => ∃ g cap, e = .returned (.slice (some ⟨g, 0, none⟩) (Lib.compact zs).length cap) ∧ Kept v.ownBlock.toList w w' := by
  rcases hs.2 with ⟨_, hn⟩ | ⟨g, cap, cur, rfl, hb, hg, hc, hm, hsz, ht⟩
  · omega
  · have ht' : cur.toList.take zs.length = zs.map (Value.int .i64) := by rw [Nat.mul_one] at ht; exact ht
    refine (Try.slices_Compact_int g 0 cap zs w (holds_of_blockI hg ht') hs.len hc).mono ?_
    rintro e w' ⟨rfl, q, rfl⟩
    have h := grownBy_sortedI (w := w) (g := g) (n := q) (os := #[]) (Lib.compact zs ++ List.replicate (zs.length - (Lib.compact zs).length) 0).toArray
    have e1 : ∀ x : World, Sort.grow x #[] = x := fun x => by unfold Sort.grow; simp
    rw [e1] at h
    exact ⟨g, cap, rfl, (Kept.refl _ _).grown h (fun k hk => .inl (by cases hk; simp [Value.ownBlock]))⟩

set_option maxHeartbeats 2000000 in
set_option maxRecDepth 100000 in
theorem led1_any (ns : List Nat) (c m : Nat) (ok : Nt.Ok ns) (h3 : 3 ≤ c) (h5 : c ≤ 5) (L : List Int) (hL : L.length ≤ 1000000) (w : World) (b1 b2 : Nat) (v1 v u : Value) (base1 base B : Nat) (hB : B ≤ w.heap.size) (hb1 : b1 < B) (hb2 : b2 < B)
    (h1 : w.cell? ⟨b1, 0, none⟩ = some v1) (h2 : w.cell? ⟨b2, 0, none⟩ = some (.int .i64 (c : Int))) (hs : Sl w base1 v1 (Nt.nats ns)) (hu : Sl w B u L) (hj : Sl w base v (Nt.nats (Nt.stN ns c m))) :
    Calls Try.prog 88 #[u, v, .pointer (some ⟨b2, 0, none⟩), .pointer (some ⟨b1, 0, none⟩)] w fun e w' => ∃ z, e = .returned z ∧ Sl w' B z (L ++ [((Nt.stepN ns c m : Nat) : Int)]) ∧ Kept u.ownBlock.toList w w' := by
  have HFI := Lib.hid (fun k => firedState_any ns c _ ok (Nt.stN_st ok h3 h5 m) (Nt.stN_length ns c m) (w.drewN k) v1 _ v _ (((Qt.refl w).draw k).sl hs) (((Qt.refl w).draw k).sl hj))
  have HNU : Hid (Nt.numberOf (c : Int) (Nt.nats (Nt.step ns c (Nt.stN ns c m))) = ((Nt.stepN ns c m : Nat) : Int)) := Lib.hid (Nt.numberOf_ok (Nt.step_stN ok h3 h5 m).1)
  have HU := Lib.hid hu
  have HLL := Lib.hid hL
  have HBB := Lib.hid (And.intro hB (And.intro hb1 hb2))
  obtain ⟨a1, cap1, rfl, _, _, _⟩ := hs.any
  obtain ⟨a, cap, rfl, _, _, _⟩ := hj.any
  obtain ⟨ua, ucap, rfl, _, _, hgu⟩ := hu.any
  have hc1 : w.drew.cell? ⟨b1, 0, none⟩ = some (.slice a1 (Nt.nats ns).length cap1) := h1
  have hc2 : w.drew.cell? ⟨b2, 0, none⟩ = some (.int .i64 (c : Int)) := h2
  have HC1 := Lib.hid hc1
  have HC2 := Lib.hid hc2
  clear hs hj hu ok h3 h5 h1 h2 hL hB hb1 hb2 hgu
  generalize Nt.step ns c (Nt.stN ns c m) = x at *
  generalize ((Nt.stepN ns c m : Nat) : Int) = y at *
  go_enter Try.func88, Try.ntmps88
  go_wp2_with fail
  go_region_held3 (fun w' => w'.cell? ⟨b1, 0, none⟩ = some (.slice a1 (Nt.nats ns).length cap1) ∧ w'.cell? ⟨b2, 0, none⟩ = some (.int .i64 (c : Int)))
    (first | exact ⟨hc1, hc2⟩ | exact ⟨ha1, ha2⟩ | exact ⟨hb1, hb2⟩ | exact ⟨hd1, hd2⟩ | exact ⟨he1, he2⟩ | go_keep)
    (first
      | (go_simp; go_at_call 46; refine (HFI.out 1).mono ?_; rintro e w2 ⟨z, rfl, hs2, hk2⟩; have HS2 := Lib.hid hs2; have HK2 : Hid (Kept [] w w2) := Lib.hid (((Kept.refl [] w).drew).trans hk2 (by simp)); have ha1 := hk2.cell_at hc1 (by have := HBB.out; show _ < w.heap.size; omega); have ha2 := hk2.cell_at hc2 (by have := HBB.out; show _ < w.heap.size; omega); clear hs2 hk2)
      | (go_simp; go_at_call 89; refine (iNumber_any _ _ _ _ _ HS2.out).mono ?_; rintro e w3 ⟨rfl, hk3⟩; rw [HNU.out]; have HK3 := Lib.hid (HK2.out.trans hk3 (by simp)); have hz3 := HK3.out.size; have hb1 := hk3.cell_at ha1 (by have := HBB.out; have := HK2.out.size; omega); have hb2 := hk3.cell_at ha2 (by have := HBB.out; have := HK2.out.size; omega); have hd1 := (((Kept.refl [] w3).alloc (.cells #[.int .i64 y] 3))).cell_at hb1 (by have := HBB.out; omega); have hd2 := (((Kept.refl [] w3).alloc (.cells #[.int .i64 y] 3))).cell_at hb2 (by have := HBB.out; omega); have HU3 := Lib.hid ((HU.out.stay HK3.out).stay ((Kept.refl [] w3).alloc (.cells #[.int .i64 y] 3))); have HCC : Hid ((w3.alloc (.cells #[.int .i64 y] 3)).cell? ⟨w3.heap.size, 0, none⟩ = some (.int .i64 y)) := Lib.hid (by simp); have HZ3 : Hid (B ≤ (w3.alloc (.cells #[.int .i64 y] 3)).heap.size) := Lib.hid (Nat.le_trans HBB.out.1 (Nat.le_trans hz3 (((Kept.refl [] w3).alloc (.cells #[.int .i64 y] 3)).size))); clear hk3)
      | (refine step_app_int y rfl _ _ rfl B _ L HU3.out rfl w3.heap.size rfl HCC.out HLL.out HZ3.out ?_; intro z4 w4 hs4 hk4; have HS4 := Lib.hid hs4; have HK4 := Lib.hid hk4; have he1 := (hk4.cell (p := ⟨b1, 0, none⟩) (by have := HBB.out; have := HZ3.out; show b1 < _; omega) (by intro hmem; have := (HU3.out.block (g := b1) (by simpa using hmem)).1; have := HBB.out; omega)).trans hd1; have he2 := (hk4.cell (p := ⟨b2, 0, none⟩) (by have := HBB.out; have := HZ3.out; show b2 < _; omega) (by intro hmem; have := (HU3.out.block (g := b2) (by simpa using hmem)).1; have := HBB.out; omega)).trans hd2; clear hs4 hk4))
  go_wp2
  go_ret
  exact ⟨_, rfl, HS4.out, ((Kept.refl _ _).trans (HK3.out.alloc _) (by simp)).trans HK4.out (fun x hx => .inl hx)⟩

theorem enter_led1 (args : Array Value) (w : World) : Sem.run Try.prog (callFunc 88 args) w = .ok (.enter 88 args) w := by kernel_rfl

set_option maxHeartbeats 1000000 in
set_option maxRecDepth 100000 in
theorem ledTo_any (ns : List Nat) (c : Nat) (ok : Nt.Ok ns) (h4 : ns.length ≤ 4) (h3 : 3 ≤ c) (h5 : c ≤ 5) (w : World) (v : Value) (base : Nat) (hs : Sl w base v (Nt.nats ns)) :
    Calls Try.prog 54 #[v, .int .i64 (c : Int)] w fun e w' => ∃ z, e = .returned z ∧ Sl w' w.heap.size z (Nt.ledL (Nt.stepN ns c) (c ^ ns.length)) ∧ Kept [] w w' := by
  have hmf : ∀ (fn : Fn) (first cap : Array Value) (w : World), (Instr.makeFunc fn first cap).run Try.prog w = .ok (.func fn first cap) w := fun _ _ _ _ => rfl
  obtain ⟨hk1, ha, hb, hsz⟩ := boxes2c w 23 3 v (.int .i64 (c : Int))
  have hs1 := hs.stay hk1
  have hN6 := pow_625 (n := ns.length) h5 h4
  generalize hw1 : (w.alloc (.cells #[v] 23)).alloc (.cells #[.int .i64 (c : Int)] 3) = w1 at *
  have he : Kept [] w1 (w1.alloc (.cells #[] 3)) := (Kept.refl _ _).alloc _
  have HK1 := Lib.hid hk1
  have hu0 : Sl (w1.alloc (.cells #[] 3)) w1.heap.size (.slice (some ⟨w.heap.size + 1 + 1, 0, none⟩) 0 0) [] := by
    have h := Sl.empty3 w1
    have e : w1.heap.size = w.heap.size + 1 + 1 := by rw [hsz]
    rw [e] at h ⊢
    exact h
  have HC := Lib.hid (foldS_any 88 #[.pointer (some ⟨w.heap.size + 1, 0, none⟩), .pointer (some ⟨w.heap.size, 0, none⟩)] (Nt.ledL (Nt.stepN ns c)) ns c _ (Nt.nats_length ns) ok h4 h3 h5 w1 enter_led1
    (fun m hm w2 u2 v2 hu hj hk => by
      have h := led1_any ns c m ok h3 h5 (Nt.ledL (Nt.stepN ns c) m) (by rw [Nt.ledL_length]; omega) w2 w.heap.size (w.heap.size + 1) v v2 u2 _ 0 w1.heap.size hk.size (by rw [hsz]; omega) (by rw [hsz]; omega) (hk.cell_at ha (by rw [hsz]; omega)) (hk.cell_at hb (by rw [hsz]; omega)) (hs1.stay hk) hu hj
      refine Calls.mono (by simpa using h) ?_
      rintro e w3 ⟨z, rfl, hz, hk3⟩
      exact ⟨z, rfl, by rw [Nt.ledL_succ]; exact hz, hk.own hk3 (fun g hg => (hu.block hg).1)⟩)
    (w1.alloc (.cells #[] 3)) he _ hu0)
  obtain ⟨a, cap, rfl, _, _, _⟩ := hs.any
  subst hw1
  clear hs hs1 hk1 hsz ok h4 h3 h5 he hN6 hu0
  generalize Nt.ledL (Nt.stepN ns c) (c ^ ns.length) = L at *
  go_enter Try.func54, Try.ntmps54
  go_wp2_with fail
  refine HC.out.mono ?_
  rintro e w2 ⟨z, rfl, hz, hk2⟩
  have HZ := Lib.hid (hz.mono HK1.out.size)
  have HK2 := Lib.hid (HK1.out.trans hk2 (by simp))
  clear hz hk2
  go_wp2_with fail
  go_ret
  exact ⟨_, rfl, HZ.out, HK2.out⟩

set_option maxHeartbeats 1000000 in
set_option maxRecDepth 100000 in
theorem iEden_any (xs : List Int) (kinds : Int) (w : World) (v : Value) (base : Nat) (hs : Sl w base v xs) :
    Calls Try.prog 19 #[v, .int .i64 kinds] w fun e w' => e = .returned (.int .i64 (Nt.edenOf xs kinds)) ∧ Kept [] w w' := by
  have HS := Lib.hid hs
  cases ho : Nt.ccB xs kinds
  · have HF := Lib.hid (Nt.edenOf_no ho)
    obtain ⟨a, cap, rfl, _, hm, _⟩ := hs.any
    clear hs
    go_enter Try.func19, Try.ntmps19
    go_wp2_with (go_at_call 41; refine (countingOk_any xs kinds _ _ _ HS.out).mono ?_; rintro e w' ⟨rfl, rfl⟩; rw [ho])
    go_ret
    exact ⟨by rw [HF.out]; rfl, Kept.refl _ _⟩
  · obtain ⟨ns, c, rfl, rfl, ok, h4, h3, h5⟩ := Nt.ccB_ok ho
    have HF := Lib.hid (Nt.edenOf_ok ok h4 h3 h5)
    have hN6 := pow_625 (n := ns.length) h5 h4
    have hN0 : 0 < c ^ ns.length := Nt.pow_pos3 h3
    have HED := Lib.hid (Nt.edenN_led ok h3 h5)
    have hLl := Nt.ledL_length (Nt.stepN ns c) (c ^ ns.length)
    have hSl := Nt.sortedL_length (Nt.ledL (Nt.stepN ns c) (c ^ ns.length))
    have HC := Lib.hid (ledTo_any ns c ok h4 h3 h5 w v _ hs)
    generalize Nt.ledL (Nt.stepN ns c) (c ^ ns.length) = L at *
    generalize c ^ ns.length = N at *
    obtain ⟨a, cap, rfl, _, hm, _⟩ := hs.any
    clear hs ok h4 h3 h5
    go_enter Try.func19, Try.ntmps19
    go_wp2_with (go_at_call 41; refine (countingOk_any _ _ _ _ _ HS.out).mono ?_; rintro e w' ⟨rfl, rfl⟩; rw [ho])
    refine HC.out.mono ?_
    rintro e w2 ⟨z, rfl, hz, hk2⟩
    have hzb := fun g hg => (hz.block (g := g) hg).1
    obtain ⟨g, cp, rfl, hg1, hg2⟩ := hz.shape hLl hN0
    have HZ := Lib.hid hz
    have HK2 := Lib.hid hk2
    have HZB := Lib.hid hzb
    have HLL := Lib.hid (And.intro hLl hSl)
    clear hz hk2 hzb hSl hg1 hg2 hLl
    go_wp2_with fail
    refine (sortS_any L (by rw [HLL.out.1]; exact hN0) (by rw [HLL.out.1]; omega) _ _ _ HZ.out).mono ?_
    rintro e w3 ⟨rfl, hz3, hk3⟩
    have HZ3 := Lib.hid hz3
    have HK3 := Lib.hid (HK2.out.own hk3 HZB.out)
    clear hz3 hk3
    go_wp2_with fail
    refine (compactS_any (Nt.sortedL L) (by rw [HLL.out.2, HLL.out.1]; exact hN0) _ _ _ HZ3.out).mono ?_
    rintro e w4 ⟨g4, cap4, rfl, hk4⟩
    have HK4 := Lib.hid (HK3.out.own hk4 HZB.out)
    clear hk4
    have hE : Nt.edenN ns c + (Lib.compact (Nt.sortedL L)).length = N := HED.out
    generalize (Lib.compact (Nt.sortedL L)).length = q at *
    have hw : wrap64 ((N : Int) - (q : Int)) = ((Nt.edenN ns c : Nat) : Int) := by
      rw [IntWalk.wrap64_in _ (by omega)]; omega
    have HE := Lib.hid hw
    clear hE hw
    go_wp2_with fail
    go_ret
    exact ⟨by rw [HF.out, ← HE.out]; rfl, HK4.out⟩
end Go.Proofs.Ytlcbpnbehbgbeaa
