/-
  Places in memory; whether a place is one, copies of places, by the model.
  Texts as lists of bytes; numbers in decimal, by the model.
  Walks: texts read as numbers, by the model.
  Texts held against each other, and parts of texts (for any seat).
  Texts of places, by the model.
  Slices of texts that a call makes itself.
  Texts cut at a sign, by the model (for any seat).
-/
import Derived.Test.YtnajdbnacdnnlaaGreatDoorFA
import Derived.Test.YtnajdbnacdnnlaaGreatDoorWA
import Derived.ArgAppend
import Derived.Deep.RegionLaw
import Derived.Deep.RegionHeld3
import Derived.Laws.ResultCell
import Derived.Laws.Rows
import Derived.StillTailTactics
import Derived.Test.YtnajdbnacdnnlaaGreatDoorKA
import Derived.Test.YtnajdbnacdnnlaaGreatDoorSA
import Derived.Laws.IdiomStrings
import Derived.Laws.Concat
import Derived.WalkSpells
import Derived.Lib.Strings
import Derived.Test.YtnajdbnacdnnlaaGreatDoorPJ
import Derived.Test.YtnajdbnacdnnlaaGreatDoorNA
namespace Go.Proofs.YtnajdbnacdnnlaaGreatDoor
open Go.RowKit

/-- A place as a value. -/
def Pv (w : World) (base : Nat) (x : Value) (p : Nt.Pi) : Prop := ∃ v u, x = .agg #[v, .int .i64 p.c, u] ∧ Sl w base v p.ns ∧ Sl w base u p.ks
theorem Pv.stay {w w' : World} {base : Nat} {x : Value} {p : Nt.Pi} (h : Pv w base x p) (hk : Kept [] w w') : Pv w' base x p := by
  obtain ⟨v, u, rfl, h1, h2⟩ := h
  exact ⟨v, u, rfl, h1.stay hk, h2.stay hk⟩
theorem Pv.mono {w : World} {base base' : Nat} {x : Value} {p : Nt.Pi} (h : Pv w base x p) (hb : base' ≤ base) : Pv w base' x p := by
  obtain ⟨v, u, rfl, h1, h2⟩ := h
  exact ⟨v, u, rfl, h1.mono hb, h2.mono hb⟩
theorem Pv.zero (w : World) (base : Nat) : Pv w base (.agg #[.slice none 0 0, .int .i64 0, .slice none 0 0]) Nt.Pi.zero := ⟨_, _, rfl, Sl.nil w base, Sl.nil w base⟩

/-- 'append([]int{}, ys...)', inside a statement whose order is open. -/
theorem step_app_fresh {ops : Array Oper} {o : Oper} {a : Act} {K : Act → World → Prop} {Q : Exit → Act → World → Prop} {E : Prop} {W : World} (hgd : o.guard = none) (s y : Operand)
    (ho : o.op = .call { callee := .builtin .append, args := #[s, y], argTypes := #[28, 28] })
    (b0 : Addr) (hs : a.eval s = .slice (some b0) 0 0) (v : Value) (base : Nat) (ys : List Int) (hy : Sl W base v ys) (hp : 0 < ys.length) (hx : a.eval y = v)
    (hlen : ys.length ≤ 1000000)
    (h : ∀ v' w', Sl w' W.heap.size v' ys → Kept [] W w' → K (a.put o.dst v') w') :
    if Region.wanted o (yielded ops a.tmps) = true then Oper.wp Tryz.prog o a W K Q else E := by
  have hw : Region.wanted o (yielded ops a.tmps) = true := by simp [Region.wanted, hgd]
  rw [if_pos hw]
  obtain ⟨i0, hi, hz0, hz1, hz2⟩ := info_parts info_int
  obtain ⟨b, c, rfl, _, _⟩ := hy.shape rfl hp
  obtain ⟨v', w', hrun, r1, r2⟩ := run_append_arg_grows (P := Tryz.prog) W 28 o.type 3 i0 (.int .i64 0) 1 8 Tryz.underlying28 hi hz0 hz1 hz2 rfl (by decide) b0 0 0 [] rfl (fun j u hu => by simp at hu) ⟨b, 0, none⟩ ys.length c (ints ys) (by simp [ints]) (fun j z hz => by
      have hj : j < ys.length := by
        have := (List.getElem?_eq_some_iff.1 hz).1
        simpa [ints] using this
      rw [ints_get ys j hj] at hz
      have e : (⟨b, 0, none⟩ : Addr).add j = ⟨b, j, none⟩ := by unfold Addr.add; split <;> simp_all
      rw [e, (hy.at j hj).1, hz]) (by omega) (by unfold maxLen; omega) (by omega)
  unfold Oper.wp
  simp [execOp, ho, resolve, invoke, builtin, hs, hx, hrun, Result.andThen]
  have hs' : Sl w' W.heap.size v' ys := by
    unfold Sl
    have e : 0 + ys.length = ys.length := by omega
    rw [List.nil_append, e] at r1
    exact r1
  exact h v' w' hs' ((Kept.refl _ _).grown r2 (by simp))

/-- The same, told of a world of before. -/
theorem step_app_fresh0 {ops : Array Oper} {o : Oper} {a : Act} {K : Act → World → Prop} {Q : Exit → Act → World → Prop} {E : Prop} {W : World} (W0 : World) (hkW : Kept [] W0 W) (hgd : o.guard = none) (s y : Operand)
    (ho : o.op = .call { callee := .builtin .append, args := #[s, y], argTypes := #[28, 28] })
    (b0 : Addr) (hs : a.eval s = .slice (some b0) 0 0) (v : Value) (base : Nat) (ys : List Int) (hy : Sl W0 base v ys) (hp : 0 < ys.length) (hx : a.eval y = v)
    (hlen : ys.length ≤ 1000000)
    (h : ∀ g q w', Sl w' W0.heap.size (.slice (some ⟨g, 0, none⟩) ys.length q) ys → Kept [] W0 w' → Kept [] W w' → W.heap.size ≤ g → K (a.put o.dst (.slice (some ⟨g, 0, none⟩) ys.length q)) w') :
    if Region.wanted o (yielded ops a.tmps) = true then Oper.wp Tryz.prog o a W K Q else E :=
  step_app_fresh hgd s y ho b0 hs v base ys (hy.stay hkW) hp hx hlen fun v' w' h1 h2 => by
    obtain ⟨g, q, rfl, hg, _⟩ := h1.shape rfl hp
    exact h g q w' (h1.mono hkW.size) (hkW.trans h2 (by simp)) h2 hg

/-- A block whose cells are known. -/
def Bk (w : World) (g : Nat) (T : TypeId) (cs : Array Value) : Prop := w.heap[g]? = some (.cells cs T (0, 0))
theorem Bk.lt {w : World} {g : Nat} {T : TypeId} {cs : Array Value} (h : Bk w g T cs) : g < w.heap.size := (Array.getElem?_eq_some_iff.1 h).1
theorem Bk.cell {w : World} {g : Nat} {T : TypeId} {cs : Array Value} (h : Bk w g T cs) (j : Nat) {v : Value} (hv : cs[j]? = some v) : w.cell? ⟨g, j, none⟩ = some v := by
  unfold Bk at h
  simp [World.cell?, h, hv]
theorem Bk.frozen {w : World} {g : Nat} {T : TypeId} {cs : Array Value} (h : Bk w g T cs) (j : Nat) : w.frozen? ⟨g, j, none⟩ = false := by
  unfold Bk at h
  simp [World.frozen?, h]
theorem Bk.set {w : World} {g : Nat} {T : TypeId} {cs : Array Value} (h : Bk w g T cs) (j : Nat) (v : Value) : Bk (w.setCell ⟨g, j, none⟩ v) g T (cs.setIfInBounds j v) := heap_setCell_same w g j cs T v h
theorem Bk.other {w : World} {g : Nat} {T : TypeId} {cs : Array Value} (h : Bk w g T cs) (p : Addr) (v : Value) (hp : g ≠ p.block) : Bk (w.setCell p v) g T cs := (heap_setCell_other w p g v hp).trans h
theorem Bk.kept {w w' : World} {g : Nat} {T : TypeId} {cs : Array Value} {rows : List Nat} (h : Bk w g T cs) (hk : Kept rows w w') (hn : ¬ g ∈ rows) : Bk w' g T cs := (hk.block g h.lt hn).trans h
theorem Bk.stay {w w' : World} {g : Nat} {T : TypeId} {cs : Array Value} (h : Bk w g T cs) (hk : Kept [] w w') : Bk w' g T cs := h.kept hk (by simp)
theorem Bk.new (w : World) (T : TypeId) (cs : Array Value) : Bk (w.alloc (.cells cs T)) w.heap.size T cs := heap_alloc_new _ _
theorem Bk.three {w : World} {g : Nat} {T : TypeId} {a b c : Value} (h : Bk w g T #[a, b, c]) : w.cell? ⟨g, 0, none⟩ = some a ∧ w.cell? ⟨g, 1, none⟩ = some b ∧ w.cell? ⟨g, 2, none⟩ = some c := ⟨h.cell 0 rfl, h.cell 1 rfl, h.cell 2 rfl⟩
theorem Bk.set3 {w : World} {g : Nat} {T : TypeId} {a b c : Value} (h : Bk w g T #[a, b, c]) (d e f : Value) : Bk (((w.setCell ⟨g, 0, none⟩ d).setCell ⟨g, 1, none⟩ e).setCell ⟨g, 2, none⟩ f) g T #[d, e, f] := ((h.set 0 d).set 1 e).set 2 f
theorem Kept.weak {w w' : World} (rows : List Nat) (h : Kept [] w w') : Kept rows w w' := ⟨h.os, h.tape, h.output, h.size, fun k hk _ => h.block k hk (by simp)⟩
theorem Kept.set3 {w w' : World} {g : Nat} (h : Kept [] w w') (hg : w.heap.size ≤ g) (d e f : Value) : Kept [] w (((w'.setCell ⟨g, 0, none⟩ d).setCell ⟨g, 1, none⟩ e).setCell ⟨g, 2, none⟩ f) :=
  ((h.setCell (.inr hg) d).setCell (.inr hg) e).setCell (.inr hg) f
theorem Kept.rows3 (w : World) (g : Nat) (d e f : Value) : Kept [g] w (((w.setCell ⟨g, 0, none⟩ d).setCell ⟨g, 1, none⟩ e).setCell ⟨g, 2, none⟩ f) :=
  (((Kept.refl [g] w).setCell (.inl (by simp)) d).setCell (.inl (by simp)) e).setCell (.inl (by simp)) f
/-- Two blocks, one behind the other: what comes in and what goes out. -/
theorem two_new (w : World) (T T2 : TypeId) (cs ds : Array Value) : Kept [] w ((w.alloc (.cells cs T)).alloc (.cells ds T2)) ∧ Bk ((w.alloc (.cells cs T)).alloc (.cells ds T2)) w.heap.size T cs ∧ Bk ((w.alloc (.cells cs T)).alloc (.cells ds T2)) (w.heap.size + 1) T2 ds := by
  have e1 : (w.alloc (.cells cs T)).heap.size = w.heap.size + 1 := by simp
  refine ⟨((Kept.refl _ _).alloc _).alloc _, (Bk.new w T cs).stay ((Kept.refl _ _).alloc _), ?_⟩
  rw [← e1]
  exact Bk.new _ _ _

set_option maxHeartbeats 1000000 in
set_option maxRecDepth 100000 in
theorem sPlaceOk_any (p : Nt.Pi) (w : World) (x : Value) (base : Nat) (h : Pv w base x p) :
    Calls Tryz.prog 64 #[x] w fun e w' => e = .returned (.bool (Nt.plB p)) ∧ Kept [] w w' := by
  obtain ⟨v, u, rfl, h1, h2⟩ := h
  have HK : Hid (Kept [] w (w.alloc (.cells #[v, .int .i64 p.c, u] 30))) := Lib.hid ((Kept.refl [] w).alloc _)
  have H1 := Lib.hid (h1.stay HK.out)
  have H2 := Lib.hid (h2.stay HK.out)
  obtain ⟨a, cap, rfl, _, _, _⟩ := h1.any
  obtain ⟨b, cap2, rfl, _, _, _⟩ := h2.any
  clear h1 h2
  go_enter Tryz.func64, Tryz.ntmps64
  go_wp2_with fail
  refine (l3Ok_any p.ns p.c p.ks _ _ _ _ _ H1.out H2.out).mono ?_
  rintro e w1 ⟨rfl, hq⟩
  have HK1 := Lib.hid (HK.out.trans hq.kept (by simp))
  clear hq
  go_wp2
  go_ret
  exact ⟨rfl, HK1.out⟩

set_option maxHeartbeats 1000000 in
set_option maxRecDepth 100000 in
theorem sPlaceA_any (p : Nt.Pi) (hn : 0 < p.ns.length ∧ p.ns.length ≤ 100) (hk : 0 < p.ks.length ∧ p.ks.length ≤ 100) (w : World) (x : Value) (base : Nat) (h : Pv w base x p) :
    Calls Tryz.prog 124 #[x] w fun e w' => ∃ g1 q1 g2 q2, e = .returned (.agg #[.slice (some ⟨g1, 0, none⟩) p.ns.length q1, .int .i64 p.c, .slice (some ⟨g2, 0, none⟩) p.ks.length q2]) ∧
      Sl w' w.heap.size (.slice (some ⟨g1, 0, none⟩) p.ns.length q1) p.ns ∧ Sl w' w.heap.size (.slice (some ⟨g2, 0, none⟩) p.ks.length q2) p.ks ∧ g1 ≠ g2 ∧ Kept [] w w' := by
  obtain ⟨v, u, rfl, h1, h2⟩ := h
  obtain ⟨hk0, hb0, hr0⟩ := two_new w 30 30 #[v, .int .i64 p.c, u] #[.slice none 0 0, .int .i64 0, .slice none 0 0]
  have H1 := Lib.hid (h1.stay hk0)
  have H2 := Lib.hid (h2.stay hk0)
  obtain ⟨a, cap, rfl, _, _, _⟩ := h1.any
  obtain ⟨b, cap2, rfl, _, _, _⟩ := h2.any
  have HB := Lib.hid hb0
  have HR := Lib.hid hr0
  have HK0 := Lib.hid hk0
  have hzz := hb0.lt
  have hzr := hr0.lt
  obtain ⟨c0, c1, c2⟩ := hb0.three
  clear h1 h2 hb0 hr0 hk0
  go_enter Tryz.func124, Tryz.ntmps124
  go_wp2_with fail
  generalize ((w.alloc (.cells #[.slice a p.ns.length cap, .int .i64 p.c, .slice b p.ks.length cap2] 30)).alloc (.cells #[.slice none 0 0, .int .i64 0, .slice none 0 0] 30)) = W0 at *
  have HSB : Hid (∀ w', Kept [w.heap.size + 1] W0 w' → w'.cell? ⟨w.heap.size, 0, none⟩ = some (.slice a p.ns.length cap) ∧ w'.cell? ⟨w.heap.size, 1, none⟩ = some (.int .i64 p.c) ∧ w'.cell? ⟨w.heap.size, 2, none⟩ = some (.slice b p.ks.length cap2)) := Lib.hid (fun w' k => (HB.out.kept k (by simp)).three)
  go_region_held3 (fun w' => w'.cell? ⟨w.heap.size, 0, none⟩ = some (.slice a p.ns.length cap) ∧ w'.cell? ⟨w.heap.size, 1, none⟩ = some (.int .i64 p.c) ∧ w'.cell? ⟨w.heap.size, 2, none⟩ = some (.slice b p.ks.length cap2))
    ((refine HSB.out _ ?_; repeat (first | exact Kept.refl _ _ | (refine Kept.weak _ ?_; assumption) | (refine Kept.setCell ?_ (.inl (by simp)) _) | apply Kept.alloc | apply Kept.drew)))
    (first
    | (refine step_app_fresh0 W0 ?_ rfl _ _ rfl _ rfl (.slice a p.ns.length cap) base p.ns H1.out hn.1 rfl (by omega) ?_; (repeat (first | exact Kept.refl _ _ | assumption | apply Kept.alloc | apply Kept.drew)); intro g1 q1 w1 hs1 k1 _ _; have HS1 := Lib.hid hs1; have z1 := (HR.out.stay k1).lt; obtain ⟨r0, r1, r2⟩ := (HR.out.stay k1).three; have f0 := (HR.out.stay k1).frozen 0; have f1 := (HR.out.stay k1).frozen 1; have f2 := (HR.out.stay k1).frozen 2; clear hs1)
    | (refine step_app_fresh0 W0 ?_ rfl _ _ rfl _ rfl (.slice b p.ks.length cap2) base p.ks H2.out hk.1 rfl (by omega) ?_; (repeat (first | exact Kept.refl _ _ | assumption | apply Kept.alloc | apply Kept.drew)); intro g2 q2 w2 hs2 k2 kk2 hg12; have HGN : Hid (g1 ≠ g2) := Lib.hid (Nat.ne_of_lt (Nat.lt_of_lt_of_le (Nat.lt_of_lt_of_le (HS1.out.block rfl).2 (Kept.size (rows := []) (by repeat (first | exact Kept.refl _ _ | apply Kept.alloc | apply Kept.drew)))) hg12)); clear hg12; have HS2 := Lib.hid hs2; have HS1b := Lib.hid (HS1.out.stay (Kept.trans (rows' := []) (by repeat (first | exact Kept.refl _ _ | apply Kept.alloc | apply Kept.drew)) kk2 (by simp))); have z2 := (HR.out.stay k2).lt; obtain ⟨s0, s1, s2⟩ := (HR.out.stay k2).three; have t0 := (HR.out.stay k2).frozen 0; have t1 := (HR.out.stay k2).frozen 1; have t2 := (HR.out.stay k2).frozen 2; clear hs2 kk2))
  all_goals
    go_wp2
    (try simp only [Exit.inBlock, Exit.then])
    refine bodyPost_ret (results_cell_row rfl _ _ (w.heap.size + 1) 30 #[.slice (some ⟨g1, 0, none⟩) p.ns.length q1, .int .i64 p.c, .slice (some ⟨g2, 0, none⟩) p.ks.length q2] (0, 0) _ rfl ((HR.out.stay k2).set3 _ _ _) Tryz.underlying30 rfl (by kernel_rfl)) rfl ?_
    have hsz := HK0.out.size
    refine ⟨_, _, _, _, rfl, (HS1b.out.kept (Kept.rows3 w2 _ _ _ _) ?_).mono hsz, (HS2.out.kept (Kept.rows3 w2 _ _ _ _) ?_).mono hsz, HGN.out, (HK0.out.trans k2 (by simp)).set3 (by omega) _ _ _⟩
    · intro g hg; have h1 := (HS1b.out.block hg).1; have h2 := HR.out.lt; simp; omega
    · intro g hg; have h1 := (HS2.out.block hg).1; have h2 := HR.out.lt; simp; omega
theorem sPlace_any (p : Nt.Pi) (hn : 0 < p.ns.length ∧ p.ns.length ≤ 100) (hk : 0 < p.ks.length ∧ p.ks.length ≤ 100) (w : World) (x : Value) (base : Nat) (h : Pv w base x p) :
    Calls Tryz.prog 124 #[x] w fun e w' => ∃ y, e = .returned y ∧ Pv w' w.heap.size y p ∧ Kept [] w w' :=
  (sPlaceA_any p hn hk w x base h).mono (by
    rintro e w' ⟨g1, q1, g2, q2, rfl, h1, h2, _, h3⟩
    exact ⟨_, rfl, ⟨_, _, rfl, h1, h2⟩, h3⟩)

theorem Pv.form {w : World} {base : Nat} {y : Value} {p : Nt.Pi} (h : Pv w base y p) : ∃ a n cap b m cap2, y = .agg #[.slice a n cap, .int .i64 p.c, .slice b m cap2] := by
  obtain ⟨v, u, rfl, h1, h2⟩ := h
  obtain ⟨a, cap, rfl, _, _, _⟩ := h1.any
  obtain ⟨b, cap2, rfl, _, _, _⟩ := h2.any
  exact ⟨_, _, _, _, _, _, rfl⟩
end Go.Proofs.YtnajdbnacdnnlaaGreatDoor

namespace Go.Proofs.YtnajdbnacdnnlaaGreatDoor
open Go.RowKit

/-- The bytes of a text. -/
def tx (s : ByteArray) : List Nat := s.data.toList.map UInt8.toNat
theorem tx_length (s : ByteArray) : (tx s).length = s.size := by simp [tx]
theorem tx_get {s : ByteArray} {k : Nat} (h : k < s.size) : (tx s).getD k 0 = s[k].toNat := by
  have h' : k < s.data.toList.length := by simpa using h
  simp [tx, List.getD_eq_getElem?_getD, List.getElem?_eq_getElem h']
  rfl
theorem tx_lt {s : ByteArray} {x : Nat} (h : x ∈ tx s) : x < 256 := by
  unfold tx at h
  rw [List.mem_map] at h
  obtain ⟨b, _, rfl⟩ := h
  exact b.toNat_lt
theorem tx_append (a b : ByteArray) : tx (a ++ b) = tx a ++ tx b := by simp [tx]
theorem toNat_inj : ∀ {a b : List UInt8}, a.map UInt8.toNat = b.map UInt8.toNat → a = b
  | [], [], _ => rfl
  | [], _ :: _, h => by simp at h
  | _ :: _, [], h => by simp at h
  | x :: a, y :: b, h => by
    simp at h
    rw [UInt8.toNat_inj.1 h.1, toNat_inj h.2]
theorem tx_inj {a b : ByteArray} (h : tx a = tx b) : a = b := by
  have := toNat_inj h
  cases a with
  | mk a =>
    cases b with
    | mk b =>
      simp at this
      rw [this]
theorem tx_eq (a b : ByteArray) : decide (a = b) = decide (tx a = tx b) := by
  by_cases h : a = b
  · subst h; simp
  · rw [decide_eq_false h, decide_eq_false (fun e => h (tx_inj e))]
theorem tx_mk (l : List UInt8) : tx ⟨l.toArray⟩ = l.map UInt8.toNat := by simp [tx]

set_option maxHeartbeats 1000000 in
set_option maxRecDepth 100000 in
theorem l1Number_any : ∀ (n : Nat), n < 1000000 → ∀ (w : World),
    Calls Tryz.prog 123 #[.int .i64 (n : Int)] w fun e w' => ∃ z, e = .returned (.string z) ∧ tx z = Nt.digs n ∧ Kept [] w w' := by
  intro n
  induction n using Nat.strongRecOn with
  | ind n ih =>
    intro hn w
    by_cases h : n < 10
    · have hb : (UInt8.ofNat (48 + n)).toNat = 48 + n := by
        rw [UInt8.toNat_ofNat']; omega
      have hcv := run_convert_bytes_back (P := Tryz.prog) (w.alloc (.cells #[.int .u8 (48 + (n : Int))] 5)) 22 9 5 ⟨w.heap.size, 0, none⟩ 1 [UInt8.ofNat (48 + n)] Tryz.underlying22 Tryz.underlying5 Tryz.underlying9 (fun j hj => by
        have : j = 0 := by simpa using hj
        subst this
        simp only [List.getElem_cons_zero, hb]
        simp [Addr.add])
      have HF : Hid (tx ⟨[UInt8.ofNat (48 + n)].toArray⟩ = Nt.digs n) := Lib.hid (by rw [tx_mk, Nt.digs_small h, List.map_singleton, hb])
      simp only [List.length_singleton] at hcv
      have hmx : max (n : Int) 0 = (n : Int) := by omega
      clear ih hb
      generalize (⟨[UInt8.ofNat (48 + n)].toArray⟩ : ByteArray) = z at *
      go_enter Tryz.func123, Tryz.ntmps123
      go_wp2
      go_ret
      exact ⟨_, rfl, HF.out, (Kept.refl _ _).alloc _⟩
    · have hb : (UInt8.ofNat (48 + n % 10)).toNat = 48 + n % 10 := by
        rw [UInt8.toNat_ofNat']; omega
      have HD := Lib.hid (Nt.digs_more h)
      have HIH := Lib.hid (ih (n / 10) (by omega) (by omega))
      have f1 : (n : Int).tdiv 10 = ((n / 10 : Nat) : Int) := tdiv_nat n 10
      have f2 : (n : Int).tmod 10 = ((n % 10 : Nat) : Int) := tmod_nat n 10
      have hm := Nat.mod_lt n (show 0 < 10 by omega)
      have hdn : n / 10 ≤ n := Nat.div_le_self n 10
      have hlen := Nt.digs_length (n := n / 10) 5 (by omega)
      clear ih
      generalize n / 10 = d at *
      generalize n % 10 = r at *
      have hcv : ∀ (W : World) (g : Nat), W.cell? ⟨g, 0, none⟩ = some (.int .u8 (48 + (r : Int))) → (convert 22 9 (.slice (some ⟨g, 0, none⟩) 1 1)).run Tryz.prog W = .ok (.string ⟨[UInt8.ofNat (48 + r)].toArray⟩) W := fun W g hc =>
        run_convert_bytes_back (P := Tryz.prog) W 22 9 5 ⟨g, 0, none⟩ 1 [UInt8.ofNat (48 + r)] Tryz.underlying22 Tryz.underlying5 Tryz.underlying9 (fun j hj => by
          have : j = 0 := by simpa using hj
          subst this
          simp only [List.getElem_cons_zero, hb]
          simpa [Addr.add] using hc)
      have HF : Hid (tx ⟨[UInt8.ofNat (48 + r)].toArray⟩ = [48 + r]) := Lib.hid (by rw [tx_mk, List.map_singleton, hb])
      have hs1 : (⟨[UInt8.ofNat (48 + r)].toArray⟩ : ByteArray).size = 1 := rfl
      have HS1 := Lib.hid hs1
      clear hb hs1
      generalize (⟨[UInt8.ofNat (48 + r)].toArray⟩ : ByteArray) = z2 at *
      have HNO : Hid (∀ z1 : ByteArray, tx z1 = Nt.digs d → z1.size + z2.size ≤ 9223372036854775807) := Lib.hid (fun z1 h => by
        have h1 := HS1.out
        rw [← h, tx_length] at hlen
        omega)
      have F5 := Lib.hid (show (n : Int) / 10 = (d : Int) from by rw [← f1, Int.tdiv_eq_ediv_of_nonneg (by omega)])
      have F6 := Lib.hid (show (n : Int) % 10 = (r : Int) from by rw [← f2, Int.tmod_eq_emod_of_nonneg (by omega)])
      have S1 := Lib.hid (show IntKind.i64.wrap (d : Int) = (d : Int) from IntWalk.i64_in _ (by omega))
      have S2 := Lib.hid (show wrap64 (d : Int) = (d : Int) from IntWalk.wrap64_in _ (by omega))
      have S3 := Lib.hid (show IntKind.i64.wrap (48 + (r : Int)) = 48 + (r : Int) from IntWalk.i64_in _ (by omega))
      have S4 := Lib.hid (show wrap64 (48 + (r : Int)) = 48 + (r : Int) from IntWalk.wrap64_in _ (by omega))
      have S5 := Lib.hid (show IntKind.u8.wrap (48 + (r : Int)) = 48 + (r : Int) from IntWalk.u8_in _ (by omega))
      have HCX : Hid (∀ w5 : World, Kept [] ((w.alloc (.cells #[.int .u8 (48 + (r : Int))] 5)).drew) w5 → w5.cell? ⟨w.heap.size, 0, none⟩ = some (.int .u8 (48 + (r : Int)))) := Lib.hid (fun w5 hk => by
        refine (hk.cell (p := ⟨w.heap.size, 0, none⟩) ?_ ?_).trans ?_ <;> simp)
      have HCX2 : Hid (∀ w5 : World, Kept [] (w.alloc (.cells #[.int .u8 (48 + (r : Int))] 5)) w5 → w5.cell? ⟨w.heap.size, 0, none⟩ = some (.int .u8 (48 + (r : Int)))) := Lib.hid (fun w5 hk => by
        refine (hk.cell (p := ⟨w.heap.size, 0, none⟩) ?_ ?_).trans ?_ <;> simp)
      clear hlen
      go_enter Tryz.func123, Tryz.ntmps123
      go_wp2_with fail
      have f5 := F5.out
      have f6 := F6.out
      have s1 := S1.out
      have s2 := S2.out
      have s3 := S3.out
      have s4 := S4.out
      have s5 := S5.out
      go_region_law (first
        | (go_simp; go_at_call 123; ((with_reducible refine (HIH.out _).mono ?_); rintro e w5 ⟨z1, rfl, hz1, hk1⟩; have HK1 := Lib.hid hk1; (first | (have cx := HCX.out w5 hk1) | (have cx := HCX2.out w5 hk1) | skip); have hno : ¬ (z1.size + z2.size > 9223372036854775807) := Nat.not_lt.2 (HNO.out z1 hz1); obtain ⟨y, hy⟩ : ∃ y, z1 ++ z2 = y := ⟨_, rfl⟩; have HY : Hid (tx y = Nt.digs n) := Lib.hid (by rw [← hy, tx_append, hz1, HF.out, HD.out]); have hadd : ∀ W : World, (Op.stringOp .add z1 z2).run Tryz.prog W = .ok (.string y) W := (fun W => by rw [← hy]; exact run_string_add_sum W z1 z2 (HNO.out z1 hz1)); clear hy hz1 hk1)))
      all_goals
        go_wp2
        go_ret
        first
          | exact ⟨_, rfl, HY.out, ((Kept.refl [] w).drew.trans (rows' := []) HK1.out (by simp)).alloc _⟩
          | exact ⟨_, rfl, HY.out, (((Kept.refl [] w).alloc _).drew).trans (rows' := []) HK1.out (by simp)⟩
          | exact ⟨_, rfl, HY.out, HK1.out.alloc _⟩
          | exact ⟨_, rfl, HY.out, ((Kept.refl [] w).alloc _).trans (rows' := []) HK1.out (by simp)⟩
end Go.Proofs.YtnajdbnacdnnlaaGreatDoor

namespace Go.Proofs.YtnajdbnacdnnlaaGreatDoor
open Go.RowKit

theorem take_tx {s : ByteArray} {k : Nat} (h : k < s.size) : (tx s).take (k + 1) = (tx s).take k ++ [s[k].toNat] := by
  have hl : k < (tx s).length := by rw [tx_length]; exact h
  rw [List.take_succ_eq_append_getElem hl, ← tx_get h]
  simp [List.getD_eq_getElem?_getD, List.getElem?_eq_getElem hl]
theorem val_take {s : ByteArray} {k : Nat} (h : k < s.size) : Nt.valFrom 0 ((tx s).take (k + 1)) = 10 * Nt.valFrom 0 ((tx s).take k) + (s[k].toNat - 48) := by
  rw [take_tx h, Nt.valFrom_append, Nt.valFrom_one]
theorem isNum_no1 {s : List Nat} (h : ¬ (1 ≤ s.length ∧ s.length ≤ 6)) : Nt.dval s = -1 := by
  unfold Nt.dval Nt.isNum
  rw [decide_eq_false h]; rfl
theorem isNum_no2 {s : List Nat} (h1 : 1 < s.length) (h2 : s.getD 0 0 = 48) : Nt.dval s = -1 := by
  unfold Nt.dval Nt.isNum
  rw [decide_eq_true h1, decide_eq_true h2]; simp
theorem isNum_no3 {s : List Nat} {k : Nat} (hk : k < s.length) (h : ¬ (48 ≤ s.getD k 0 ∧ s.getD k 0 ≤ 57)) : Nt.dval s = -1 := by
  unfold Nt.dval
  rw [if_neg]
  intro e
  unfold Nt.isNum at e
  rw [Bool.and_eq_true, List.all_eq_true] at e
  have := e.2 (s.getD k 0) (by rw [List.getD_eq_getElem?_getD, List.getElem?_eq_getElem hk]; exact List.getElem_mem hk)
  exact h (of_decide_eq_true this)
theorem isNum_yes {s : List Nat} (h1 : 1 ≤ s.length ∧ s.length ≤ 6) (h2 : ¬ (1 < s.length ∧ s.getD 0 0 = 48)) (h3 : ∀ k, k < s.length → 48 ≤ s.getD k 0 ∧ s.getD k 0 ≤ 57) : Nt.dval s = ((Nt.valFrom 0 s : Nat) : Int) := by
  unfold Nt.dval
  rw [if_pos]
  unfold Nt.isNum
  rw [Bool.and_eq_true, Bool.and_eq_true, decide_eq_true_eq, Bool.not_eq_true', Bool.and_eq_false_iff, decide_eq_false_iff_not, decide_eq_false_iff_not, List.all_eq_true]
  refine ⟨⟨h1, ?_⟩, fun x hx => ?_⟩
  · by_cases a : 1 < s.length
    · exact .inr fun b => h2 ⟨a, b⟩
    · exact .inl a
  · obtain ⟨i, hi, rfl⟩ := List.mem_iff_getElem.1 hx
    have := h3 i hi
    rw [List.getD_eq_getElem?_getD, List.getElem?_eq_getElem hi, Option.getD_some] at this
    exact decide_eq_true this

set_option maxHeartbeats 1000000 in
set_option maxRecDepth 100000 in
theorem l1Digits_any (s : ByteArray) (hs : s.size ≤ 9223372036854775807) (w : World) :
    Calls Tryz.prog 110 #[.string s] w fun e w' => e = .returned (.int .i64 (Nt.dval (tx s))) ∧ w = w' := by
  have hl := tx_length s
  by_cases h1 : 1 ≤ s.size ∧ s.size ≤ 6
  · have d1 : decide ((1 : Int) ≤ (s.size : Int) ∧ (s.size : Int) ≤ 6) = true := dec_of (by omega)
    have h00 : 0 < s.size := by omega
    have HX0 := Lib.hid (tx_get h00)
    by_cases h2 : 1 < s.size ∧ s[0].toNat = 48
    · have HF := Lib.hid (isNum_no2 (s := tx s) (by rw [hl]; exact h2.1) (by rw [HX0.out]; exact h2.2))
      have d2 : decide ((1 : Int) < (s.size : Int)) = true := dec_of (by omega)
      have d2' : decide (1 < s.size) = true := dec_of h2.1
      have d3 : ((s[0].toNat : Int) == 48) = true := by rw [h2.2]; rfl
      clear h1 h2 hl
      go_enter Tryz.func110, Tryz.ntmps110
      go_wp2_with (go_at_call 151; refine (l1In_any _ _ _ _).mono ?_; rintro e w' ⟨rfl, rfl⟩; rw [d1])
      go_ret
      exact ⟨by rw [HF.out]; rfl, rfl⟩
    · have HH2 := Lib.hid h2
      have HVT := Lib.hid (fun k (hk : k < s.size) => val_take hk)
      have HXK := Lib.hid (fun k (hk : k < s.size) => tx_get hk)
      have HNO := Lib.hid (fun k (hk : k < s.size) h => isNum_no3 (s := tx s) (k := k) (by rw [hl]; exact hk) h)
      have HYES : Hid ((∀ k, k < s.size → 48 ≤ (tx s).getD k 0 ∧ (tx s).getD k 0 ≤ 57) → Nt.dval (tx s) = ((Nt.valFrom 0 ((tx s).take s.size) : Nat) : Int)) := Lib.hid (fun h => by
        rw [show (tx s).take s.size = tx s from List.take_of_length_le (by rw [hl]; exact Nat.le_refl _)]
        exact isNum_yes (by rw [hl]; exact h1) (by rw [hl, HX0.out]; exact h2) (by rw [hl]; exact h))
      have hcase : decide ((1 : Int) < (s.size : Int)) = false ∨ (decide ((1 : Int) < (s.size : Int)) = true ∧ ((s[0].toNat : Int) == 48) = false) := by
        by_cases a : 1 < s.size
        · right
          refine ⟨dec_of (by omega), beq_eq_false_iff_ne.2 (fun e => h2 ⟨a, by omega⟩)⟩
        · left; exact dec_not (by omega)
      have hc2 : decide (1 < s.size) = decide ((1 : Int) < (s.size : Int)) := by rw [Bool.eq_iff_iff, decide_eq_true_iff, decide_eq_true_iff]; omega
      have h6 : s.size ≤ 6 := h1.2
      clear h1 h2 hl
      rcases hcase with e2 | ⟨e2, e3⟩
      all_goals
        rw [e2] at hc2
        go_enter Tryz.func110, Tryz.ntmps110
        go_wp2_with (go_at_call 151; refine (l1In_any _ _ _ _).mono ?_; rintro e w' ⟨rfl, rfl⟩; rw [d1])
        go_loop [3, 4] (fun q i => ∃ k : Nat, k ≤ s.size ∧ i = .int .i64 k ∧ q = .int .i64 ((Nt.valFrom 0 ((tx s).take k) : Nat) : Int) ∧ Nt.valFrom 0 ((tx s).take k) < 10 ^ k ∧ (∀ j, j < k → 48 ≤ (tx s).getD j 0 ∧ (tx s).getD j 0 ≤ 57)) (fun _ i => s.size - (intOf i).toNat)
        case atStart => exact ⟨0, Nat.zero_le _, rfl, rfl, by simp [Nt.valFrom], fun j hj => absurd hj (by omega)⟩
        case round =>
          obtain ⟨k, hk, rfl, rfl, hq, hto⟩ := hrel
          have HTO := Lib.hid hto
          clear hto
          by_cases hlt : k < s.size
          · have HV := Lib.hid (HVT.out k hlt)
            have HX := Lib.hid (HXK.out k hlt)
            have HN := Lib.hid (HNO.out k hlt)
            have hp6 : (10 : Nat) ^ k ≤ 10 ^ 6 := Nat.pow_le_pow_right (by omega) (by omega)
            have HPS : Hid ((10 : Nat) ^ (k + 1) = 10 ^ k * 10) := Lib.hid (Nat.pow_succ 10 k)
            have hx255 : s[k].toNat < 256 := s[k].toNat_lt
            generalize Nt.valFrom 0 ((tx s).take k) = q at *
            generalize (10 : Nat) ^ k = pk at *
            by_cases h3 : s[k].toNat < 48
            · have HF := Lib.hid (HN.out (by rw [HX.out]; omega))
              have d4 : decide ((s[k].toNat : Int) < 48) = true := dec_of (by omega)
              clear h3 hx255
              go_wp2
              go_ret
              exact ⟨by rw [HF.out]; rfl, rfl⟩
            · have d4 : decide ((s[k].toNat : Int) < 48) = false := dec_not (by omega)
              by_cases h5 : 57 < s[k].toNat
              · have HF := Lib.hid (HN.out (by rw [HX.out]; omega))
                have d5 : decide (57 < (s[k].toNat : Int)) = true := dec_of (by omega)
                clear h3 h5 hx255
                go_wp2
                go_ret
                exact ⟨by rw [HF.out]; rfl, rfl⟩
              · have d5 : decide (57 < (s[k].toNat : Int)) = false := dec_not (by omega)
                have hY : 10 * q + (s[k].toNat - 48) < pk * 10 := by omega
                have HT2 : Hid (∀ j, j < k + 1 → 48 ≤ (tx s).getD j 0 ∧ (tx s).getD j 0 ≤ 57) := Lib.hid (fun j hj => by
                  by_cases e : j = k
                  · subst e; rw [HX.out]; omega
                  · exact HTO.out j (by omega))
                have HY := Lib.hid hY
                have HCA : Hid (((10 * q + (s[k].toNat - 48) : Nat) : Int) = 10 * (q : Int) + ((s[k].toNat : Int) - 48)) := Lib.hid (by omega)
                clear hY
                go_wp2
                go_round
                case rel => exact ⟨k + 1, by omega, by go_num, by rw [HV.out, HCA.out], by rw [HV.out, HPS.out]; exact HY.out, HT2.out⟩
                case measure => simp [intOf]; omega
          · have hk' : s.size = k := by omega
            subst hk'
            have HF := Lib.hid (HYES.out HTO.out)
            generalize Nt.valFrom 0 ((tx s).take s.size) = q at *
            go_wp2
            go_ret
            exact ⟨by rw [HF.out]; rfl, rfl⟩
  · have d1 : decide ((1 : Int) ≤ (s.size : Int) ∧ (s.size : Int) ≤ 6) = false := dec_not (by omega)
    have HF := Lib.hid (isNum_no1 (s := tx s) (by rw [hl]; exact h1))
    clear h1 hl
    go_enter Tryz.func110, Tryz.ntmps110
    go_wp2_with (go_at_call 151; refine (l1In_any _ _ _ _).mono ?_; rintro e w' ⟨rfl, rfl⟩; rw [d1])
    go_ret
    exact ⟨by rw [HF.out]; rfl, rfl⟩
end Go.Proofs.YtnajdbnacdnnlaaGreatDoor

namespace Go.Proofs.YtnajdbnacdnnlaaGreatDoor
open Go.RowKit

/-- Two texts held against each other, as the walk has them. -/
theorem toList_nums (s : ByteArray) : s.toList.map UInt8.toNat = tx s := by unfold tx; rw [Lib.toList_data]
theorem str_beq (s : ByteArray) (l : List UInt8) : (s.toList == l) = decide (tx s = l.map UInt8.toNat) := by
  rw [← toList_nums]
  by_cases h : s.toList = l
  · rw [h, beq_self_eq_true, decide_eq_true rfl]
  · rw [beq_eq_false_iff_ne.2 h, decide_eq_false (fun e => h (toNat_inj e))]
theorem str_yes {a b : ByteArray} (h : tx a = tx b) : (a.toList == b.toList) = true := by rw [str_beq, toList_nums, decide_eq_true h]
theorem str_no {a b : ByteArray} (h : ¬ tx a = tx b) : (a.toList == b.toList) = false := by rw [str_beq, toList_nums, decide_eq_false h]

/-- A part of a text. -/
theorem tx_part (s : ByteArray) (a b : Nat) : tx (s.extract a b) = ((tx s).take b).drop a := by
  unfold tx
  rw [ByteArray.data_extract, Array.toList_extract]
  simp [List.map_drop, List.map_take, List.drop_take]
theorem cut_more {sep : Nat} {t : List Nat} {f k : Nat} (hf : f ≤ k) (hk : k < t.length) (h : t.getD k 0 ≠ sep) : Nt.cutFrom sep ((t.take k).drop f) (t.drop k) = Nt.cutFrom sep ((t.take (k + 1)).drop f) (t.drop (k + 1)) := by
  have e1 : t.drop k = t.getD k 0 :: t.drop (k + 1) := by
    rw [List.drop_eq_getElem_cons hk]
    simp [List.getD_eq_getElem?_getD, hk]
  have e2 : (t.take (k + 1)).drop f = (t.take k).drop f ++ [t.getD k 0] := by
    rw [List.take_succ_eq_append_getElem hk, List.drop_append_of_le_length (by rw [List.length_take]; omega)]
    simp [List.getD_eq_getElem?_getD, hk]
  rw [e1, e2, Nt.cutFrom, if_neg h]
theorem cut_hit {sep : Nat} {t : List Nat} {f k : Nat} (hk : k < t.length) (h : t.getD k 0 = sep) : Nt.cutFrom sep ((t.take k).drop f) (t.drop k) = (t.take k).drop f :: Nt.cutFrom sep ((t.take (k + 1)).drop (k + 1)) (t.drop (k + 1)) := by
  have e1 : t.drop k = t.getD k 0 :: t.drop (k + 1) := by
    rw [List.drop_eq_getElem_cons hk]
    simp [List.getD_eq_getElem?_getD, hk]
  have e2 : (t.take (k + 1)).drop (k + 1) = [] := List.drop_eq_nil_of_le (by rw [List.length_take]; omega)
  rw [e1, e2, Nt.cutFrom, if_pos h]
end Go.Proofs.YtnajdbnacdnnlaaGreatDoor

namespace Go.Proofs.YtnajdbnacdnnlaaGreatDoor
open Go.RowKit

/-- Two texts added. -/
theorem add_tx (a b : ByteArray) (h : a.size + b.size ≤ 1000000000) : ∃ y : ByteArray, tx y = tx a ++ tx b ∧ y.size = a.size + b.size ∧ ∀ W : World, (Op.stringOp .add a b).run Tryz.prog W = .ok (.string y) W :=
  ⟨a ++ b, tx_append a b, ByteArray.size_append, fun W => run_string_add_sum W a b (by omega)⟩

theorem empty_tx (s : ByteArray) : s.toList.isEmpty = decide (tx s = []) := by
  have h := toList_nums s
  rw [← h]
  cases s.toList <;> simp
theorem empty_yes {s : ByteArray} (h : tx s = []) : s.toList.isEmpty = true := by rw [empty_tx, decide_eq_true h]
theorem empty_no {s : ByteArray} (h : ¬ tx s = []) : s.toList.isEmpty = false := by rw [empty_tx, decide_eq_false h]

set_option maxHeartbeats 4000000 in
set_option maxRecDepth 100000 in
theorem sPlaceText_any (p : Nt.Pi) (w : World) (x : Value) (base : Nat) (h : Pv w base x p) :
    Calls Tryz.prog 103 #[x] w fun e w' => ∃ z, e = .returned (.string z) ∧ tx z = Nt.ptxt p ∧ Kept [] w w' := by
  have HPV := Lib.hid h
  obtain ⟨v, u, rfl, h1, h2⟩ := h
  have hk0 : Kept [] w (w.alloc (.cells #[v, .int .i64 p.c, u] 30)) := (Kept.refl [] w).alloc _
  have hb0 := Bk.new w 30 #[v, .int .i64 p.c, u]
  have H1 := Lib.hid (h1.stay hk0)
  have H2 := Lib.hid (h2.stay hk0)
  have HPW := Lib.hid (HPV.out.stay hk0)
  obtain ⟨a, cap, rfl, _, _, _⟩ := h1.any
  obtain ⟨b, cap2, rfl, _, _, _⟩ := h2.any
  have HB := Lib.hid hb0
  have HK0 := Lib.hid hk0
  obtain ⟨c0, c1, c2⟩ := hb0.three
  clear h1 h2 hb0 hk0 HPV
  go_enter Tryz.func103, Tryz.ntmps103
  go_wp2_with fail
  generalize (w.alloc (.cells #[.slice a p.ns.length cap, .int .i64 p.c, .slice b p.ks.length cap2] 30)) = W0 at *
  refine (sPlaceOk_any p _ _ _ HPW.out).mono ?_
  rintro e w1 ⟨rfl, hk1⟩
  have HB1 := Lib.hid (HB.out.stay hk1)
  have HK1 := Lib.hid (HK0.out.trans hk1 (by simp))
  have H11 := Lib.hid (H1.out.stay hk1)
  have H12 := Lib.hid (H2.out.stay hk1)
  clear hk1 c0 c1 c2 HB HK0 H1 H2 HPW
  cases ho : Nt.plB p
  · have HF := Lib.hid (Nt.ptxt_no ho)
    go_wp2
    go_ret
    exact ⟨_, rfl, by rw [HF.out]; rfl, HK1.out⟩
  · obtain ⟨q, rfl, hq⟩ := Nt.plB_ok ho
    have HF := Lib.hid (Nt.ptxt_ok hq)
    obtain ⟨ns, c, ks⟩ := q
    have hnn : (Nt.Pl.i ⟨ns, c, ks⟩).ns = Nt.nats ns := rfl
    have hkk : (Nt.Pl.i ⟨ns, c, ks⟩).ks = Nt.nats ks := rfl
    have hcc : (Nt.Pl.i ⟨ns, c, ks⟩).c = (c : Int) := rfl
    rw [hnn] at H11
    rw [hkk] at H12
    rw [hnn, hkk, hcc] at HB1
    rw [hnn, hkk, hcc]
    obtain ⟨n, hn⟩ : ∃ n, n = ns.length := ⟨_, rfl⟩
    have hkl : ks.length = n := by rw [hn]; exact hq.len
    have hp : 0 < n := by rw [hn]; exact hq.ok.some
    have h6 : n ≤ 6 := by rw [hn]; exact hq.ok.few
    have hst : Nt.St c ks := hq.st
    have h3 : 3 ≤ c := hst.c3
    have h5 : c ≤ 5 := hst.c5
    rw [Nt.nats_length, ← hn] at H11 HB1 ⊢
    rw [Nt.nats_length, hkl] at H12 HB1 ⊢
    obtain ⟨g1, q1, e1, hg1, hc1⟩ := H11.out.row hn.symm hp
    obtain ⟨g2, q2, e2, hg2, hc2⟩ := H12.out.row hkl hp
    simp only [Value.slice.injEq] at e1 e2
    obtain ⟨rfl, _, rfl⟩ := e1
    obtain ⟨rfl, _, rfl⟩ := e2
    have HC1 := Lib.hid hc1
    have HC2 := Lib.hid hc2
    have HKB := Lib.hid (fun k (hk : k < n) => show ks.getD k 0 < 10 from by have := hst.lt k (by omega); omega)
    have HW0 : Hid ([] = Nt.wjoin (Nt.wiresL ns 0)) := Lib.hid rfl
    have HWS := Lib.hid (fun k => Nt.wsTo_first ns k)
    have HWE : Hid (∀ k, Nt.wsTo ns k n = Nt.wiresL ns (k + 1)) := Lib.hid (fun k => by rw [hn]; exact Nt.wsTo_end ns k)
    have HWY := Lib.hid (fun k j => @Nt.wsTo_yes ns k j)
    have HWN := Lib.hid (fun k j => @Nt.wsTo_no ns k j)
    have HWL : Hid (∀ k j, k ≤ 6 → j ≤ 6 → (Nt.wjoin (Nt.wsTo ns k j)).length ≤ 200) := Lib.hid (fun k j hk hj => Nt.wjoin_small ns (by omega) hk hj)
    have HWP := Lib.hid (fun k j => Nt.wsTo_parts ns k j)
    have HKS : Hid (∀ k, k < n → Nt.kindT (ks.take (k + 1)) = Nt.kindT (ks.take k) ++ [48 + ks.getD k 0]) := Lib.hid (fun k hk => Nt.kindT_succ ks (by omega))
    have HKL : Hid (∀ k, k ≤ n → (Nt.kindT (ks.take k)).length ≤ 6) := Lib.hid (fun k hk => by unfold Nt.kindT; rw [List.length_map, List.length_take]; omega)
    have HKE : Hid (Nt.kindT (ks.take n) = Nt.kindT ks) := Lib.hid (by rw [← hkl, List.take_length])
    have HWT : Hid (Nt.wireT ns = if Nt.wjoin (Nt.wiresL ns n) = [] then [46] else Nt.wjoin (Nt.wiresL ns n)) := Lib.hid (by rw [hn]; exact Nt.wireT_of ns)
    have HPT : Hid (Nt.Pl.t ⟨ns, c, ks⟩ = Nt.digs n ++ [32] ++ Nt.wireT ns ++ [32] ++ Nt.digs c ++ [32] ++ Nt.kindT ks) := Lib.hid (by rw [hn]; exact Nt.placeT_is ns c ks)
    clear hc1 hc2 hn hkl hq hnn hkk hcc H11 H12 ho hst
    go_wp2_with fail
    go_loopw [3, 4, 5] (fun zw zk i wr => ∃ (k : Nat) (sw sk : ByteArray), k ≤ n ∧ i = .int .i64 k ∧ zw = .string sw ∧ zk = .string sk ∧ tx sw = Nt.wjoin (Nt.wiresL ns k) ∧ tx sk = Nt.kindT (ks.take k) ∧ Kept [] w1 wr) (fun _ _ i _ => n - (intOf i).toNat)
    case atStart => exact ⟨0, _, _, Nat.zero_le _, rfl, rfl, rfl, HW0.out, rfl, Kept.refl _ _⟩
    case round =>
      obtain ⟨k, sw, sk, hk, rfl, rfl, rfl, hsw, hsk, hkept⟩ := hrel
      have HSW := Lib.hid hsw
      have HSK := Lib.hid hsk
      have HK := Lib.hid hkept
      obtain ⟨d0, d1, d2⟩ := (HB1.out.stay hkept).three
      by_cases hlt : k < n
      · have ck := (hkept.cell (p := ⟨g2, k, none⟩) hg2 (by simp)).trans (HC2.out k hlt)
        have hx := HKB.out k hlt
        have HX := Lib.hid (HKS.out k hlt)
        have hskl : sk.size ≤ 6 := by rw [← tx_length, hsk]; exact HKL.out k hk
        have HSKL := Lib.hid hskl
        generalize ks.getD k 0 = x at *
        clear hsw hsk hskl hkept
        go_wp2_with fail
        refine (l1Number_any x (by omega) _).mono ?_
        rintro e w2 ⟨z2, rfl, hz2, hk2⟩
        obtain ⟨y2, hy2, _, hadd2⟩ := add_tx sk z2 (by have := HSKL.out; rw [← tx_length z2, hz2, Nt.digs_small (by omega)]; simp; omega)
        have HY2 : Hid (tx y2 = Nt.kindT (ks.take (k + 1))) := Lib.hid (by rw [hy2, hz2, HSK.out, HX.out, Nt.digs_small (by omega)])
        have HK2 := Lib.hid (HK.out.trans hk2 (by simp))
        clear hy2 hz2 hk2 ck d0 d1 d2
        obtain ⟨d0, d1, d2⟩ := (HB1.out.stay HK2.out).three
        have HLT := Lib.hid hlt
        obtain ⟨wo, rfl⟩ : ∃ wo : World, wo = wr := ⟨_, rfl⟩
        go_wp2_with fail
        go_loopw [3, 6] (fun zw i wr => ∃ (j : Nat) (sw : ByteArray), k + 1 ≤ j ∧ j ≤ n ∧ i = .int .i64 j ∧ zw = .string sw ∧ tx sw = Nt.wjoin (Nt.wsTo ns k j) ∧ Kept [] w1 wr) (fun _ i _ => n - (intOf i).toNat)
        case atStart => exact ⟨k + 1, sw, Nat.le_refl _, by omega, by go_num, rfl, by rw [HWS.out]; exact HSW.out, HK2.out⟩
        case round =>
          clear HSW HK HK2 d0 d1 d2
          obtain ⟨j, sw, hkj, hj, rfl, rfl, hsw, hkept⟩ := hrel
          have HSW := Lib.hid hsw
          have HK := Lib.hid hkept
          obtain ⟨d0, d1, d2⟩ := (HB1.out.stay hkept).three
          by_cases hlj : j < n
          · have ck := (hkept.cell (p := ⟨g1, k, none⟩) hg1 (by simp)).trans (HC1.out k hlt)
            have hswl : sw.size ≤ 200 := by rw [← tx_length, hsw]; exact HWL.out k j (by omega) (by omega)
            have HSWL := Lib.hid hswl
            have HNY := Lib.hid (HWY.out k j (by omega))
            have HNN := Lib.hid (HWN.out k j (by omega))
            generalize ns.getD k 0 = r at *
            clear hsw hswl hkept
            cases hb : r.testBit j
            · have hb1 : ((r : Int) / 2 ^ j).tmod 2 = 0 := by rw [shr_rem, hb]; rfl
              have HE := Lib.hid (HNN.out hb)
              clear HNY HNN hb
              go_wp2
              go_roundw
              case rel => exact ⟨j + 1, sw, by omega, by omega, by go_num, rfl, by rw [HE.out]; exact HSW.out, HK.out⟩
              case measure => simp [intOf]; omega
            · have hb1 : ((r : Int) / 2 ^ j).tmod 2 = 1 := by rw [shr_rem, hb]; rfl
              have HE := Lib.hid (HNY.out hb)
              have HWP2 := Lib.hid (HWP.out k j)
              have hd1 : Nt.digs k = [48 + k] := Nt.digs_small (by omega)
              have hd2 : Nt.digs j = [48 + j] := Nt.digs_small (by omega)
              have HD1 := Lib.hid hd1
              have HD2 := Lib.hid hd2
              clear HNY HNN hb hd1 hd2
              by_cases hps : Nt.wsTo ns k j = []
              · have hem := empty_yes (s := sw) (by rw [HSW.out, hps]; rfl)
                have HPS := Lib.hid hps
                clear hps
                go_wp2_with fail
                refine (l1Number_any k (by omega) _).mono ?_
                rintro e w3 ⟨z3, rfl, hz3, hk3⟩
                obtain ⟨y3, hy3, hys3, hadd3⟩ := add_tx sw z3 (by have := HSWL.out; rw [← tx_length z3, hz3, HD1.out]; simp; omega)
                have HY3 : Hid (tx y3 = [48 + k]) := Lib.hid (by rw [hy3, hz3, HSW.out, HPS.out, HD1.out]; rfl)
                have HK3 := Lib.hid (HK.out.trans hk3 (by simp))
                clear hy3 hz3 hk3 hys3 ck d0 d1 d2
                go_wp2_with fail
                refine (l1Number_any j (by omega) _).mono ?_
                rintro e w4 ⟨z4, rfl, hz4, hk4⟩
                obtain ⟨y4, hy4, hys4, hadd4⟩ := add_tx y3 z4 (by rw [← tx_length z4, ← tx_length y3, hz4, HD2.out, HY3.out]; simp)
                have HY4 : Hid (tx y4 = Nt.wjoin (Nt.wsTo ns k (j + 1))) := Lib.hid (by rw [hy4, hz4, HE.out, HPS.out, HY3.out, HD2.out]; rfl)
                have HK4 := Lib.hid (HK3.out.trans hk4 (by simp))
                clear hy4 hz4 hk4 hys4
                go_wp2
                go_roundw
                case rel => exact ⟨j + 1, y4, by omega, by omega, by go_num, rfl, HY4.out, HK4.out⟩
                case measure => simp [intOf]; omega
              · have hem := empty_no (s := sw) (by rw [HSW.out]; exact fun e => hps ((Nt.wjoin_nil (fun p hp => (HWP2.out p hp).1)).1 e))
                have HPS := Lib.hid hps
                clear hps
                obtain ⟨y0, hy0, hys0, hadd0⟩ := add_tx sw ⟨#[44]⟩ (by have := HSWL.out; show sw.size + 1 ≤ _; omega)
                have HY0 : Hid (tx y0 = Nt.wjoin (Nt.wsTo ns k j) ++ [44]) := Lib.hid (by rw [hy0, HSW.out]; rfl)
                have HYL0 : Hid (y0.size ≤ 201) := Lib.hid (by rw [hys0]; have := HSWL.out; show sw.size + 1 ≤ _; omega)
                clear hy0 hys0
                go_wp2_with fail
                refine (l1Number_any k (by omega) _).mono ?_
                rintro e w3 ⟨z3, rfl, hz3, hk3⟩
                obtain ⟨y3, hy3, hys3, hadd3⟩ := add_tx y0 z3 (by have := HYL0.out; rw [← tx_length z3, hz3, HD1.out]; simp; omega)
                have HY3 : Hid (tx y3 = Nt.wjoin (Nt.wsTo ns k j) ++ [44] ++ [48 + k]) := Lib.hid (by rw [hy3, hz3, HY0.out, HD1.out])
                have HYL3 : Hid (y3.size ≤ 202) := Lib.hid (by rw [hys3, ← tx_length z3, hz3, HD1.out]; have := HYL0.out; simp; omega)
                have HK3 := Lib.hid (HK.out.trans hk3 (by simp))
                clear hy3 hz3 hk3 hys3 ck d0 d1 d2 hadd0
                go_wp2_with fail
                refine (l1Number_any j (by omega) _).mono ?_
                rintro e w4 ⟨z4, rfl, hz4, hk4⟩
                obtain ⟨y4, hy4, hys4, hadd4⟩ := add_tx y3 z4 (by rw [← tx_length z4, hz4, HD2.out]; have := HYL3.out; simp; omega)
                have HY4 : Hid (tx y4 = Nt.wjoin (Nt.wsTo ns k (j + 1))) := Lib.hid (by rw [hy4, hz4, HE.out, Nt.wjoin_more HPS.out, HY3.out, HD2.out]; simp)
                have HK4 := Lib.hid (HK3.out.trans hk4 (by simp))
                clear hy4 hz4 hk4 hys4
                go_wp2
                go_roundw
                case rel => exact ⟨j + 1, y4, by omega, by omega, by go_num, rfl, HY4.out, HK4.out⟩
                case measure => simp [intOf]; omega
          · have hj' : j = n := by omega
            subst hj'
            clear hsw hkept
            go_wp2
            go_roundw
            case rel => exact ⟨k + 1, sw, y2, by omega, by go_num, rfl, rfl, by rw [← HWE.out]; exact HSW.out, HY2.out, HK.out⟩
            case measure => simp [intOf]; omega
      · have hk' : k = n := by omega
        subst hk'
        have hswl : sw.size ≤ 200 := by
          have h := HWL.out k (k + 1) (by omega)
          by_cases hk5 : k + 1 ≤ 6
          · have h := h hk5; rw [HWS.out] at h; rw [← tx_length, hsw]; exact h
          · have e := HWE.out (k - 1)
            rw [show k - 1 + 1 = k by omega] at e
            rw [← tx_length, hsw, ← e]
            exact HWL.out (k - 1) k (by omega) (by omega)
        have HSL : Hid (sk.size ≤ 6) := Lib.hid (by rw [← tx_length, hsk]; exact HKL.out k (Nat.le_refl _))
        have HN6 : Hid (k < 1000000) := Lib.hid (by omega)
        have HC6 : Hid (c < 1000000) := Lib.hid (by omega)
        have HDN : Hid (Nt.digs k = [48 + k]) := Lib.hid (Nt.digs_small (by omega))
        have HDC : Hid (Nt.digs c = [48 + c]) := Lib.hid (Nt.digs_small (by omega))
        clear hsw hsk hkept
        by_cases hem0 : tx sw = []
        · have hem := empty_yes hem0
          have HE0 := Lib.hid hem0
          clear hem0
          have hs4 : (fun w' : World => w'.cell? ⟨w.heap.size, 0, none⟩ = some (.slice (some ⟨g1, 0, none⟩) k cap) ∧ w'.cell? ⟨w.heap.size, 1, none⟩ = some (.int .i64 (c : Int)) ∧ w'.cell? ⟨w.heap.size, 2, none⟩ = some (.slice (some ⟨g2, 0, none⟩) k cap2)) wr.drew := (HB1.out.stay HK.out.drew).three
          have HW : Hid (tx ⟨#[46]⟩ = Nt.wireT ns) := Lib.hid (by rw [HWT.out, if_pos (by rw [← HSW.out]; exact HE0.out)]; rfl)
          have HWZ : Hid ((⟨#[46]⟩ : ByteArray).size ≤ 200) := Lib.hid (by show (1 : Nat) ≤ 200; omega)
          clear hswl
          go_wp2_with fail
          clear d0 d1 d2
          go_region_held3 (fun w' => w'.cell? ⟨w.heap.size, 0, none⟩ = some (.slice (some ⟨g1, 0, none⟩) k cap) ∧ w'.cell? ⟨w.heap.size, 1, none⟩ = some (.int .i64 (c : Int)) ∧ w'.cell? ⟨w.heap.size, 2, none⟩ = some (.slice (some ⟨g2, 0, none⟩) k cap2))
            (first | exact hs4 | exact y5 | exact y6 | go_keep)
            (first
              | (go_simp; go_at_call 123; (with_reducible refine (l1Number_any k HN6.out _).mono ?_); rintro e w5 ⟨z5, rfl, hz5, hk5⟩; have hk5' := (show Kept [] wr w5 from ⟨hk5.os, hk5.tape, hk5.output, hk5.size, hk5.block⟩); have HK5 := Lib.hid (HK.out.trans hk5' (by simp)); have y5 := (HB1.out.stay HK5.out).three; have hl5 : z5.size ≤ 1 := (by rw [← tx_length, hz5, HDN.out]; simp); obtain ⟨p1, hp1, hl1, hadd1⟩ := add_tx z5 ⟨#[32]⟩ (by show z5.size + 1 ≤ _; omega); obtain ⟨p2, hp2, hl2, hadd2⟩ := add_tx p1 ⟨#[46]⟩ (by have := HWZ.out; rw [hl1]; show z5.size + 1 + _ ≤ _; omega); obtain ⟨p3, hp3, hl3, hadd3⟩ := add_tx p2 ⟨#[32]⟩ (by have := HWZ.out; rw [hl2, hl1]; show z5.size + 1 + _ + 1 ≤ _; omega); have HP3 : Hid (tx p3 = Nt.digs k ++ [32] ++ Nt.wireT ns ++ [32]) := Lib.hid (by rw [hp3, hp2, hp1, hz5, HW.out]; rfl); have HL3 : Hid (p3.size ≤ 300) := Lib.hid (by have := HWZ.out; rw [hl3, hl2, hl1]; show z5.size + 1 + _ + 1 ≤ _; omega); clear hk5 hk5' hz5 hl5 hp1 hp2 hp3 hl1 hl2 hl3)
              | (go_simp; go_at_call 123; (with_reducible refine (l1Number_any c HC6.out _).mono ?_); rintro e w6 ⟨z6, rfl, hz6, hk6⟩; have HK6 := Lib.hid (HK5.out.trans hk6 (by simp)); have y6 := (HB1.out.stay HK6.out).three; have hl6 : z6.size ≤ 1 := (by rw [← tx_length, hz6, HDC.out]; simp); obtain ⟨p4, hp4, hl4, hadd4⟩ := add_tx p3 z6 (by have := HL3.out; omega); obtain ⟨p5, hp5, hl5, hadd5⟩ := add_tx p4 ⟨#[32]⟩ (by have := HL3.out; rw [hl4]; show p3.size + z6.size + 1 ≤ _; omega); obtain ⟨p6, hp6, hl6', hadd6⟩ := add_tx p5 sk (by have := HL3.out; have := HSL.out; rw [hl5, hl4]; show p3.size + z6.size + 1 + _ ≤ _; omega); have HP6 : Hid (tx p6 = Nt.Pl.t ⟨ns, c, ks⟩) := Lib.hid (by rw [hp6, hp5, hp4, HP3.out, hz6, HSK.out, HKE.out, HPT.out]; rfl); clear hk6 hz6 hl6 hp4 hp5 hp6 hl4 hl5 hl6' y5))
          all_goals
            go_wp2
            go_ret
            exact ⟨_, rfl, by rw [HF.out]; exact HP6.out, HK1.out.trans HK6.out (by simp)⟩
        · have hem := empty_no hem0
          have HE0 := Lib.hid hem0
          clear hem0
          have hs4 : (fun w' : World => w'.cell? ⟨w.heap.size, 0, none⟩ = some (.slice (some ⟨g1, 0, none⟩) k cap) ∧ w'.cell? ⟨w.heap.size, 1, none⟩ = some (.int .i64 (c : Int)) ∧ w'.cell? ⟨w.heap.size, 2, none⟩ = some (.slice (some ⟨g2, 0, none⟩) k cap2)) wr.drew := (HB1.out.stay HK.out.drew).three
          have HW : Hid (tx sw = Nt.wireT ns) := Lib.hid (by rw [HWT.out, if_neg (by rw [← HSW.out]; exact HE0.out), ← HSW.out])
          have HWZ : Hid ((sw : ByteArray).size ≤ 200) := Lib.hid (hswl)
          clear hswl
          go_wp2_with fail
          clear d0 d1 d2
          go_region_held3 (fun w' => w'.cell? ⟨w.heap.size, 0, none⟩ = some (.slice (some ⟨g1, 0, none⟩) k cap) ∧ w'.cell? ⟨w.heap.size, 1, none⟩ = some (.int .i64 (c : Int)) ∧ w'.cell? ⟨w.heap.size, 2, none⟩ = some (.slice (some ⟨g2, 0, none⟩) k cap2))
            (first | exact hs4 | exact y5 | exact y6 | go_keep)
            (first
              | (go_simp; go_at_call 123; (with_reducible refine (l1Number_any k HN6.out _).mono ?_); rintro e w5 ⟨z5, rfl, hz5, hk5⟩; have hk5' := (show Kept [] wr w5 from ⟨hk5.os, hk5.tape, hk5.output, hk5.size, hk5.block⟩); have HK5 := Lib.hid (HK.out.trans hk5' (by simp)); have y5 := (HB1.out.stay HK5.out).three; have hl5 : z5.size ≤ 1 := (by rw [← tx_length, hz5, HDN.out]; simp); obtain ⟨p1, hp1, hl1, hadd1⟩ := add_tx z5 ⟨#[32]⟩ (by show z5.size + 1 ≤ _; omega); obtain ⟨p2, hp2, hl2, hadd2⟩ := add_tx p1 sw (by have := HWZ.out; rw [hl1]; show z5.size + 1 + _ ≤ _; omega); obtain ⟨p3, hp3, hl3, hadd3⟩ := add_tx p2 ⟨#[32]⟩ (by have := HWZ.out; rw [hl2, hl1]; show z5.size + 1 + _ + 1 ≤ _; omega); have HP3 : Hid (tx p3 = Nt.digs k ++ [32] ++ Nt.wireT ns ++ [32]) := Lib.hid (by rw [hp3, hp2, hp1, hz5, HW.out]; rfl); have HL3 : Hid (p3.size ≤ 300) := Lib.hid (by have := HWZ.out; rw [hl3, hl2, hl1]; show z5.size + 1 + _ + 1 ≤ _; omega); clear hk5 hk5' hz5 hl5 hp1 hp2 hp3 hl1 hl2 hl3)
              | (go_simp; go_at_call 123; (with_reducible refine (l1Number_any c HC6.out _).mono ?_); rintro e w6 ⟨z6, rfl, hz6, hk6⟩; have HK6 := Lib.hid (HK5.out.trans hk6 (by simp)); have y6 := (HB1.out.stay HK6.out).three; have hl6 : z6.size ≤ 1 := (by rw [← tx_length, hz6, HDC.out]; simp); obtain ⟨p4, hp4, hl4, hadd4⟩ := add_tx p3 z6 (by have := HL3.out; omega); obtain ⟨p5, hp5, hl5, hadd5⟩ := add_tx p4 ⟨#[32]⟩ (by have := HL3.out; rw [hl4]; show p3.size + z6.size + 1 ≤ _; omega); obtain ⟨p6, hp6, hl6', hadd6⟩ := add_tx p5 sk (by have := HL3.out; have := HSL.out; rw [hl5, hl4]; show p3.size + z6.size + 1 + _ ≤ _; omega); have HP6 : Hid (tx p6 = Nt.Pl.t ⟨ns, c, ks⟩) := Lib.hid (by rw [hp6, hp5, hp4, HP3.out, hz6, HSK.out, HKE.out, HPT.out]; rfl); clear hk6 hz6 hl6 hp4 hp5 hp6 hl4 hl5 hl6' y5))
          all_goals
            go_wp2
            go_ret
            exact ⟨_, rfl, by rw [HF.out]; exact HP6.out, HK1.out.trans HK6.out (by simp)⟩
end Go.Proofs.YtnajdbnacdnnlaaGreatDoor

namespace Go.Proofs.YtnajdbnacdnnlaaGreatDoor
open Go.RowKit

/-- Texts as cells. -/
def tcells (xs : List ByteArray) : List Value := xs.map Value.string
theorem tcells_length (xs : List ByteArray) : (tcells xs).length = xs.length := by simp [tcells]
theorem tcells_append (xs ys : List ByteArray) : tcells (xs ++ ys) = tcells xs ++ tcells ys := by simp [tcells]
/-- The text at a place, the empty one beyond. -/
def atT (xs : List ByteArray) (k : Nat) : ByteArray := xs.getD k ByteArray.empty
theorem atT_get {xs : List ByteArray} {k : Nat} (h : k < xs.length) : atT xs k = xs[k] := by
  simp [atT, List.getD_eq_getElem?_getD, h]
theorem tcells_get (xs : List ByteArray) (k : Nat) (h : k < xs.length) : (tcells xs)[k]? = some (.string (atT xs k)) := by
  simp [tcells, atT, List.getD_eq_getElem?_getD, h]

/-- A slice of texts, at the head of a block from 'base' on that nothing freezes, or nil. -/
def Ts (w : World) (base : Nat) (v : Value) (xs : List ByteArray) : Prop := w.ownsRow base 9 1 v xs.length (tcells xs)

theorem Ts.form {w : World} {base : Nat} {v : Value} {xs : List ByteArray} (h : Ts w base v xs) :
    (v = .slice none 0 0 ∧ xs = []) ∨ ∃ g cap, v = .slice (some ⟨g, 0, none⟩) xs.length cap ∧ base ≤ g ∧ g < w.heap.size ∧ xs.length ≤ cap ∧ cap ≤ 9223372036854775807 ∧
      (∀ k, k < xs.length → w.cell? ⟨g, k, none⟩ = some (.string (atT xs k))) ∧ (∀ k, w.frozen? ⟨g, k, none⟩ = false) := by
  rcases h.2 with ⟨rfl, hn⟩ | ⟨g, cap, cur, rfl, hb, hg, hc, hm, hs, ht⟩
  · exact .inl ⟨rfl, List.eq_nil_of_length_eq_zero hn⟩
  · refine .inr ⟨g, cap, rfl, hb, (Array.getElem?_eq_some_iff.1 hg).1, hc, by simpa [maxLen] using hm, fun k hk => ?_, fun k => World.ownsRow.frozenAt h k⟩
    rw [World.ownsRow.cellAt h k (by omega)]
    exact tcells_get xs k hk
theorem Ts.empty (w : World) : Ts (w.alloc (.cells #[] 9)) w.heap.size (.slice (some ⟨w.heap.size, 0, none⟩) 0 0) [] := by
  have := World.ownsRow_lit (base := w.heap.size) (e := 9) (size := 1) w #[] 0 (Nat.le_refl _) (by simp [maxLen]) (by simp)
  unfold Ts
  exact this
theorem Ts.any {w : World} {base : Nat} {v : Value} {xs : List ByteArray} (h : Ts w base v xs) :
    ∃ (a : Option Addr) (cap : Nat), v = .slice a xs.length cap ∧ xs.length ≤ cap ∧ xs.length ≤ 9223372036854775807 ∧
      (∀ k, k < xs.length → ∃ g, a = some ⟨g, 0, none⟩ ∧ base ≤ g ∧ g < w.heap.size ∧ w.cell? ⟨g, k, none⟩ = some (.string (atT xs k))) := by
  rcases h.form with ⟨rfl, rfl⟩ | ⟨g, cap, rfl, hb, hg, hc, hm, hcell, hfr⟩
  · exact ⟨none, 0, rfl, Nat.le_refl _, by simp, fun k hk => by simp at hk⟩
  · exact ⟨_, cap, rfl, hc, by omega, fun k hk => ⟨g, rfl, hb, hg, hcell k hk⟩⟩
theorem Ts.kept {w w' : World} {base : Nat} {v : Value} {xs : List ByteArray} {rows : List Nat} (h : Ts w base v xs) (hk : Kept rows w w') (hn : ∀ g, v.ownBlock = some g → ¬ g ∈ rows) : Ts w' base v xs := by
  refine ⟨h.1, ?_⟩
  rcases h.2 with hn | ⟨g, cap, cur, rfl, hb, hgg, rest⟩
  · exact .inl hn
  · refine .inr ⟨g, cap, cur, rfl, hb, ?_, rest⟩
    rw [hk.block g (Array.getElem?_eq_some_iff.1 hgg).1 (hn g rfl)]
    exact hgg
theorem Ts.stay {w w' : World} {base : Nat} {v : Value} {xs : List ByteArray} (h : Ts w base v xs) (hk : Kept [] w w') : Ts w' base v xs := h.kept hk (by simp)
theorem Ts.mono {w : World} {base base' : Nat} {v : Value} {xs : List ByteArray} (h : Ts w base v xs) (hb : base' ≤ base) : Ts w base' v xs := by
  refine ⟨h.1, ?_⟩
  rcases h.2 with hn | ⟨g, cap, cur, hv, hbg, rest⟩
  · exact .inl hn
  · exact .inr ⟨g, cap, cur, hv, by omega, rest⟩
theorem Ts.block {w : World} {base : Nat} {v : Value} {xs : List ByteArray} (h : Ts w base v xs) {g : Nat} (hg : v.ownBlock = some g) : base ≤ g ∧ g < w.heap.size := World.ownsRow.lt h g hg

theorem info_text : (Tryz.prog.info? 9).map (fun i => (i.zero, i.size, i.bytes)) = some (some (.string ByteArray.empty), 1, 16) := by kernel_rfl

/-- 'append(out, s)' of one text. -/
theorem app_text {ops : Array Oper} {rest : List Oper} {o : Oper} {a : Act} {Q : Exit → Act → World → Prop} {w0 : World} (x : ByteArray) (hgd : o.guard = none) (s z : Operand)
    (ho : o.op = .call { callee := .builtin .append, args := #[s, z], argTypes := #[50, 50] })
    (base : Nat) (v : Value) (xs : List ByteArray) (hown : Ts w0 base v xs) (hs : a.eval s = v) (hx : a.eval z = .slice (some ⟨w0.heap.size, 0, none⟩) 1 1)
    (hlen : xs.length ≤ 4000000) (hbase : base ≤ w0.heap.size)
    (h : ∀ v' w', Ts w' base v' (xs ++ [x]) → Kept v.ownBlock.toList w0 w' → wpList Tryz.prog ops Q rest (a.put o.dst v') w') :
    wpList Tryz.prog ops Q (o :: rest) a (w0.alloc (.cells #[.string x] 9)) := by
  obtain ⟨i0, hi, hz0, hz1, hz2⟩ := info_parts info_text
  refine wpList_append_own _ hgd s z _ ho base 9 i0 (.string ByteArray.empty) 1 16 Tryz.underlying50 hi hz0 hz1 hz2 rfl (by decide) v xs.length (tcells xs) hs (World.ownsRow.alloc hown _)
    ⟨w0.heap.size, 0, none⟩ 1 1 [.string x] hx rfl ?_ (by intro u hu; simp at hu; rcases hu with rfl; rfl) (by unfold maxLen; omega) (by omega) (by simp; omega) ?_
  · intro j u hj
    match j, hj with
    | 0, hj => simp at hj; subst hj; simp [Addr.add]
  · intro v' w' h1 h2 _
    refine h v' w' ?_ ?_
    · unfold Ts
      rw [List.length_append, tcells_append]
      exact h1
    · refine (Kept.refl _ _).alloc _ |>.grown h2 fun k hk => .inl (by rw [hk]; simp)
end Go.Proofs.YtnajdbnacdnnlaaGreatDoor

namespace Go.Proofs.YtnajdbnacdnnlaaGreatDoor
open Go.RowKit

set_option maxHeartbeats 2000000 in
set_option maxRecDepth 100000 in
theorem l1CutT_any (s : ByteArray) (sep : Nat) (hs : s.size ≤ 1100000) (w : World) :
    Calls Tryz.prog 109 #[.string s, .int .u8 (sep : Int)] w fun e w' => ∃ u ps, e = .returned u ∧ Ts w' w.heap.size u ps ∧ ps.map tx = Nt.cut sep (tx s) ∧ Kept [] w w' := by
  have HT0 := Lib.hid (Ts.empty w)
  have HA0 := Lib.hid ((Kept.refl [] w).alloc (.cells #[] 9))
  have HL := Lib.hid (tx_length s)
  go_enter Tryz.func109, Tryz.ntmps109
  go_wp2
  go_loopw [5, 6, 7] (fun u fr i wr => ∃ (k f : Nat) (ps : List ByteArray), k ≤ s.size ∧ f ≤ k ∧ i = .int .i64 k ∧ fr = .int .i64 f ∧ Ts wr w.heap.size u ps ∧ ps.length ≤ k ∧
      Nt.cut sep (tx s) = ps.map tx ++ Nt.cutFrom sep (((tx s).take k).drop f) ((tx s).drop k) ∧ Kept [] w wr) (fun _ _ i _ => s.size - (intOf i).toNat)
  case atStart => exact ⟨0, 0, [], Nat.zero_le _, Nat.le_refl _, rfl, rfl, HT0.out, Nat.le_refl _, by simp [Nt.cut], HA0.out⟩
  case round =>
    clear HT0 HA0
    obtain ⟨k, f, ps, hk, hf, rfl, rfl, hts, hpl, hcut, hkept⟩ := hrel
    have HTS := Lib.hid hts
    have HK := Lib.hid hkept
    have HCUT := Lib.hid hcut
    have hsz := hkept.size
    clear hts hkept hcut
    by_cases hlt : k < s.size
    · have HX := Lib.hid (tx_get hlt)
      by_cases hh : s[k].toNat = sep
      · have d1 : ((s[k].toNat : Int) == (sep : Int)) = true := by simp [hh]
        have HNX : Hid (Nt.cut sep (tx s) = (ps ++ [s.extract f k]).map tx ++ Nt.cutFrom sep (((tx s).take (k + 1)).drop (k + 1)) ((tx s).drop (k + 1))) := Lib.hid (by
          rw [HCUT.out, cut_hit (by rw [HL.out]; exact hlt) (by rw [HX.out]; exact hh), List.map_append, List.map_singleton, tx_part, List.append_assoc]; rfl)
        clear hh
        go_wp2_with (at_builtin; refine app_text _ rfl _ _ rfl w.heap.size _ _ HTS.out rfl rfl (by omega) hsz ?_; intro u9 w9 hs9 hk9; have HS9 := Lib.hid hs9; have HK9 := Lib.hid (HK.out.own hk9 (fun g hg => (HTS.out.block hg).1)); clear hs9 hk9)
        go_roundw
        case rel => exact ⟨k + 1, k + 1, _, by omega, Nat.le_refl _, by go_num, by go_num, HS9.out, by rw [List.length_append]; show ps.length + 1 ≤ k + 1; omega, HNX.out, HK9.out⟩
        case measure => simp [intOf]; omega
      · have d1 : ((s[k].toNat : Int) == (sep : Int)) = false := beq_eq_false_iff_ne.2 (by omega)
        have HNX : Hid (Nt.cut sep (tx s) = ps.map tx ++ Nt.cutFrom sep (((tx s).take (k + 1)).drop f) ((tx s).drop (k + 1))) := Lib.hid (by
          rw [HCUT.out, cut_more hf (by rw [HL.out]; exact hlt) (by rw [HX.out]; exact hh)])
        clear hh
        go_wp2
        go_roundw
        case rel => exact ⟨k + 1, f, ps, by omega, by omega, by go_num, rfl, HTS.out, by omega, HNX.out, HK.out⟩
        case measure => simp [intOf]; omega
    · have hk' : s.size = k := by omega
      subst hk'
      have HEND : Hid ((ps ++ [s.extract f s.size]).map tx = Nt.cut sep (tx s)) := Lib.hid (by
        have e : (tx s).drop s.size = [] := List.drop_eq_nil_of_le (by rw [HL.out]; exact Nat.le_refl _)
        rw [HCUT.out, e, List.map_append, List.map_singleton, tx_part]
        rfl)
      go_wp2_with (at_builtin; refine app_text _ rfl _ _ rfl w.heap.size _ _ HTS.out rfl rfl (by omega) hsz ?_; intro u9 w9 hs9 hk9; have HS9 := Lib.hid hs9; have HK9 := Lib.hid (HK.out.own hk9 (fun g hg => (HTS.out.block hg).1)); clear hs9 hk9)
      go_ret
      exact ⟨_, _, rfl, HS9.out, HEND.out, HK9.out⟩

theorem l1Cut32_any (s : ByteArray) (hs : s.size ≤ 1100000) (w : World) :
    Calls Tryz.prog 109 #[.string s, .int .u8 32] w fun e w' => ∃ u ps, e = .returned u ∧ Ts w' w.heap.size u ps ∧ ps.map tx = Nt.cut 32 (tx s) ∧ Kept [] w w' := by
  have h := l1CutT_any s 32 hs w
  have e : ((32 : Nat) : Int) = 32 := rfl
  rw [e] at h
  exact h

theorem l1Cut44_any (s : ByteArray) (hs : s.size ≤ 1100000) (w : World) :
    Calls Tryz.prog 109 #[.string s, .int .u8 44] w fun e w' => ∃ u ps, e = .returned u ∧ Ts w' w.heap.size u ps ∧ ps.map tx = Nt.cut 44 (tx s) ∧ Kept [] w w' := by
  have h := l1CutT_any s 44 hs w
  have e : ((44 : Nat) : Int) = 44 := rfl
  rw [e] at h
  exact h

theorem cut_partT (sep : Nat) (t : List Nat) : ∀ p ∈ Nt.cut sep t, p.length ≤ t.length := by
  intro p hp
  have h1 := Nt.join_cut sep t
  have h3 : ∀ (ps : List (List Nat)) (q : List Nat), q ∈ ps → q.length ≤ (Nt.join sep ps).length := by
    intro ps
    induction ps with
    | nil => intro q hq; simp at hq
    | cons a r ih =>
      intro q hq
      cases r with
      | nil => simp at hq; rw [hq]; exact Nat.le_refl _
      | cons b r2 =>
        show q.length ≤ (a ++ sep :: Nt.join sep (b :: r2)).length
        rw [List.length_append, List.length_cons]
        rw [List.mem_cons] at hq
        rcases hq with rfl | hq
        · omega
        · have := ih q hq; omega
  have := h3 _ p hp
  rw [h1] at this
  exact this
/-- What the parts of a cut text are. -/
theorem cut_at {s : ByteArray} {sep : Nat} {ps : List ByteArray} (h : ps.map tx = Nt.cut sep (tx s)) : (Nt.cut sep (tx s)).length = ps.length ∧ ∀ k, k < ps.length → tx (atT ps k) = (Nt.cut sep (tx s)).getD k [] ∧ (atT ps k).size ≤ s.size := by
  refine ⟨by rw [← h, List.length_map], fun k hk => ?_⟩
  have e : (Nt.cut sep (tx s)).getD k [] = tx (atT ps k) := by
    rw [← h, List.getD_eq_getElem?_getD, List.getElem?_map, List.getElem?_eq_getElem hk, atT_get hk]; rfl
  refine ⟨e.symm, ?_⟩
  have h2 := cut_partT sep (tx s) (tx (atT ps k)) (by rw [← h, atT_get hk]; exact List.mem_map.2 ⟨_, List.getElem_mem hk, rfl⟩)
  rw [tx_length, tx_length] at h2
  exact h2
end Go.Proofs.YtnajdbnacdnnlaaGreatDoor
