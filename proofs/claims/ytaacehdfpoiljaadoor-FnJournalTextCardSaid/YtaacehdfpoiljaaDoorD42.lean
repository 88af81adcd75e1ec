/-
  Walks: the deeds drawn for a text.
-/
import Derived.Test.YtaacehdfpoiljaaDoorD34
import Derived.Test.YtaacehdfpoiljaaDoorD41
import Derived.Test.YtaacehdfpoiljaaDoorPD4
import Derived.ArgAppend
namespace Go.Proofs.YtaacehdfpoiljaaDoor
open Go.RowKit

/-- Append onto what may still be an empty slice without room, wherever that lies. -/
theorem app_triF {ops : Array Oper} {rest : List Oper} {o : Oper} {a : Act} {Q : Exit → Act → World → Prop} {w0 : World} (T TS : TypeId) (z : Value) (bytes : Nat) (ht : Tryd.prog.underlying TS = some (.slice T)) (hinfo : (Tryd.prog.info? T).map (fun i => (i.zero, i.size, i.bytes)) = some (some z, 3, bytes)) (hz : z.cells.size = 3) (hby : bytes ≤ 100)
    (xs ys : List (Value × Value × Value)) (h1 : ∀ u ∈ tri ys, u.oneCell' = true) (hgd : o.guard = none) (s y : Operand)
    (ho : o.op = .call { callee := .builtin .append, args := #[s, y], argTypes := #[TS, TS] })
    (base : Nat) (v : Value) (hown : (∃ b, v = .slice (some b) 0 0 ∧ xs = []) ∨ Tg T w0 base v xs) (hs : a.eval s = v) (m : Nat) (hm : ys.length = m) (hm0 : 0 < m) (hx : a.eval y = .slice (some ⟨w0.heap.size, 0, none⟩) m m)
    (hlen : xs.length + ys.length ≤ 2000000) (hbase : base ≤ w0.heap.size)
    (h : ∀ v' w' rows, Tg T w' base v' (xs ++ ys) → Kept rows w0 w' → (∀ g, g ∈ rows → base ≤ g) → wpList Tryd.prog ops Q rest (a.put o.dst v') w') :
    wpList Tryd.prog ops Q (o :: rest) a (w0.alloc (.cells (tri ys).toArray T)) := by
  rcases hown with ⟨b, rfl, rfl⟩ | hown
  · subst hm
    obtain ⟨i0, hi, hz0, hz1, hz2⟩ := info_parts hinfo
    simp only [List.length_nil, Nat.zero_add] at hlen
    have hbb : ys.length * bytes ≤ 2000000 * 100 := Nat.mul_le_mul hlen hby
    refine wpList_append_grows _ hgd s y _ ho T i0 z 3 bytes ht hi hz0 hz1 hz2 hz (by decide) (some b) 0 0 [] hs (by simp) (by simp) (by simp) ⟨w0.heap.size, 0, none⟩ ys.length ys.length (tri ys) hx (tri_length ys) ?_ h1 (by omega) (by unfold maxLen; omega) (by rw [Nat.zero_add]; omega) ?_
    · intro j u hj
      have e : (⟨w0.heap.size, 0, none⟩ : Addr).add j = ⟨w0.heap.size, j, none⟩ := by unfold Addr.add; split <;> simp_all
      rw [e]
      have hb := Bk.new w0 T (tri ys).toArray
      exact hb.cell j (by simpa using hj)
    · intro v' w' h1 h2
      refine h v' w' [] ?_ ?_ (by simp)
      · have h3 : Tg T w' (w0.alloc (.cells (tri ys).toArray T)).heap.size v' ys := by
          unfold Tg
          simpa using h1
        rw [List.nil_append]
        exact h3.mono (by simp; omega)
      · exact (Kept.refl [] _).alloc _ |>.grown h2 fun k hk => by simp at hk
  · exact app_tri T TS z bytes ht hinfo hz hby xs ys h1 hgd s y ho base v hown hs m hm hx hlen hbase fun v' w' k1 k2 => h v' w' _ k1 k2 (fun g hg => (hown.block (by simpa using hg)).1)

set_option maxHeartbeats 4000000 in
set_option maxRecDepth 100000 in
theorem written_any (B R P : Nat) (hP : P ≤ 70000) (w : World) (hr : Rd w B R P) :
    Calls Tryd.prog 73 #[.pointer (some ⟨R, 0, none⟩)] w fun e w' => ∃ u, ∃ l : List Nt.Dd, e = .returned u ∧ Dg w' w.heap.size u l ∧ l.length ≤ 5 ∧ Rd w' B R (P + 120) ∧ Kept [R] w w' := by
  have hlt := hr.lt
  have hBR := hr.1
  have hk0 : Kept [] w (w.alloc (.cells #[] 36)) := (Kept.refl _ _).alloc _
  have HDG : Hid (Dg (w.alloc (.cells #[] 36)) w.heap.size (.slice (some ⟨w.heap.size, 0, none⟩) 0 0) []) := Lib.hid (Tg.lit 36 w [] (by simp))
  have HR := Lib.hid (hr.kept hk0 (by simp))
  have HK := Lib.hid (Kept.weak [R] hk0)
  have HZ0 : Hid (w.heap.size < (w.alloc (.cells #[] 36)).heap.size) := Lib.hid (by simp)
  clear hk0 hr
  go_enter Tryd.func73, Tryd.ntmps73
  go_wp2_with fail
  generalize (w.alloc (.cells #[] 36)) = W0 at *
  refine (place_any B R P (by omega) 0 (by omega) (by omega) _ HR.out).mono ?_
  rintro e w1 ⟨y, p, rfl, hs, hl6, hr1, hk1⟩
  have HS := Lib.hid hs
  have HR1 := Lib.hid hr1
  have HDG1 : Hid (Dg w1 w.heap.size (.slice (some ⟨w.heap.size, 0, none⟩) 0 0) []) := Lib.hid (HDG.out.kept hk1 (fun g hg hm => by have := (Tg.block HDG.out hg).1; simp at hm; omega))
  have HK1 := Lib.hid (HK.out.trans hk1 (by simp))
  have HZ1 : Hid (w.heap.size < w1.heap.size) := Lib.hid (Nat.lt_of_lt_of_le HZ0.out hk1.size)
  obtain ⟨b1, n1, q1, b2, n2, q2, rfl⟩ := hs.form
  have hn := place_short HS.out hl6
  clear hs hr1 hk1 HR HK HDG HZ0 hl6
  go_wp2_with fail
  refine (deeds_any B R _ (by omega) _ HR1.out b1 b2 n1 q1 n2 q2 p.c hn).mono ?_
  rintro e w2 ⟨v, ds, rfl, hdg, hdl, hr2, hk2⟩
  have HR2 := Lib.hid hr2
  have HDG2 : Hid (Dg w2 w.heap.size (.slice (some ⟨w.heap.size, 0, none⟩) 0 0) []) := Lib.hid (HDG1.out.kept hk2 (fun g hg hm => by have := (Tg.block HDG1.out hg).1; simp at hm; omega))
  have HK2 := Lib.hid (HK1.out.trans hk2 (by simp))
  have HZ2 : Hid (w.heap.size < w2.heap.size) := Lib.hid (Nat.lt_of_lt_of_le HZ1.out hk2.size)
  obtain ⟨av, cv, rfl, hc⟩ := hdg.rows
  have HC := Lib.hid hc
  obtain ⟨n, hn5⟩ : ∃ n, n = ds.length := ⟨_, rfl⟩
  rw [← hn5] at HC hdl ⊢
  clear hdg hr2 hk2 hc HS HR1 HDG1 HK1 HZ1 hn hn5
  go_wp2_with fail
  go_loopw [3, 5] (fun u q wr => ∃ (k : Nat) (l : List Nt.Dd), k ≤ n ∧ q = .int .i64 k ∧ ((∃ b, u = .slice (some b) 0 0 ∧ b = ⟨w.heap.size, 0, none⟩ ∧ l = []) ∨ Dg wr w2.heap.size u l) ∧ l.length ≤ k ∧ Kept [] w2 wr) (fun _ q _ => n - (intOf q).toNat)
  case atStart => exact ⟨0, [], Nat.zero_le _, rfl, .inl ⟨_, rfl, rfl, rfl⟩, by simp, Kept.refl _ _⟩
  case round =>
    obtain ⟨k, l, hk, rfl, hdg, hll, hkept⟩ := hrel
    have HDG := Lib.hid hdg
    have HLL := Lib.hid hll
    have HK := Lib.hid hkept
    by_cases hlt : k < n
    · obtain ⟨g, rfl, hg, c0, c1, c2⟩ := HC.out k hlt
      have k0 := (hkept.cell (p := ⟨g, k * 3, none⟩) hg (by simp)).trans c0
      have k1 := (hkept.cell (p := ⟨g, k * 3 + 1, none⟩) hg (by simp)).trans c1
      have k2 := (hkept.cell (p := ⟨g, k * 3 + 2, none⟩) hg (by simp)).trans c2
      have HG := Lib.hid hg
      have HC0 := Lib.hid c0
      have HC1 := Lib.hid c1
      have HC2 := Lib.hid c2
      have HLT := Lib.hid hlt
      generalize jdAt ds k = d at *
      obtain ⟨dk, da, db⟩ := d
      simp only at k0 k1 k2 HC0 HC1 HC2
      clear hdg hll hkept c0 c1 c2
      go_wp2_with fail
      refine (sDeedText_any dk da db _).mono ?_
      rintro e w3 ⟨z, rfl, _, hk3⟩
      have HK3 := Lib.hid (HK.out.trans hk3 (by simp))
      have HDG3 := Lib.hid (HDG.out.imp id (fun h => Tg.stay h hk3))
      clear hk3 k0 k1 k2 HDG HK
      by_cases h0 : tx z = []
      · have hem := empty_yes (s := z) h0
        clear h0
        go_wp2
        go_roundw
        case rel => exact ⟨k + 1, l, by have := HLT.out; omega, by go_num, HDG3.out, by have := HLL.out; omega, HK3.out⟩
        case measure => have := HLT.out; simp [intOf]; omega
      · have hem := empty_no (s := z) h0
        clear h0
        have k0 := (HK3.out.cell (p := ⟨g, k * 3, none⟩) HG.out (by simp)).trans HC0.out
        have k1 := (HK3.out.cell (p := ⟨g, k * 3 + 1, none⟩) HG.out (by simp)).trans HC1.out
        have k2 := (HK3.out.cell (p := ⟨g, k * 3 + 2, none⟩) HG.out (by simp)).trans HC2.out
        have hsz : w2.heap.size ≤ w3.heap.size := HK3.out.size
        have hll6 : l.length ≤ 6 := by have := HLL.out; omega
        go_wp2_with (at_builtin; refine app_triF 36 41 (.agg #[.int .i64 0, .int .i64 0, .int .i64 0]) 24 Tryd.underlying41 info_deed rfl (by omega) (l.map d3) ([(⟨dk, da, db⟩ : Nt.Dd)].map d3) (d3_one _) rfl _ _ rfl w2.heap.size _ (HDG3.out.imp (fun ⟨b, h1, _, h3⟩ => ⟨b, h1, by rw [h3]; rfl⟩) id) rfl 1 rfl (by omega) rfl (by simp; omega) hsz ?_; intro u9 w9 rows9 hs9 hk9 hr9; have HDG9 : Hid (Dg w9 w2.heap.size u9 (l ++ [⟨dk, da, db⟩])) := Lib.hid (by unfold Dg; rw [List.map_append]; exact hs9); have HK9 := Lib.hid (HK3.out.trans hk9 (fun q hq => .inr (hr9 q hq))); clear hs9 hk9 hr9)
        go_roundw
        case rel => exact ⟨k + 1, _, by have := HLT.out; omega, by go_num, .inr HDG9.out, by have := HLL.out; simp; omega, HK9.out⟩
        case measure => have := HLT.out; simp [intOf]; omega
    · have hk' : n = k := by omega
      subst hk'
      clear hlt hdg hll hkept
      go_wp2
      go_ret
      refine ⟨_, l, rfl, ?_, by have := HLL.out; omega, (HR2.out.kept HK.out (by simp)).mono (by omega), HK2.out.trans HK.out (by simp)⟩
      rcases HDG.out with ⟨b, rfl, rfl, rfl⟩ | h
      · exact Tg.stay HDG2.out HK.out
      · exact Tg.mono h (Nat.le_of_lt HZ2.out)

set_option maxHeartbeats 4000000 in
set_option maxRecDepth 100000 in
theorem drawJournalText_any (w : World) (v : Value) (ha : ArgB w v) : Calls Tryd.prog 29 #[v] w fun e w' => ∃ u, ∃ l : List Nt.Dd, e = .returned u ∧ Dg w' w.heap.size u l ∧ l.length ≤ 6 ∧ Kept [] w w' := by
  have HA := Lib.hid ha
  obtain ⟨a, n, cap, rfl, _, _, _⟩ := ha
  go_enter Tryd.func29, Tryd.ntmps29
  go_wp2_with fail
  refine (open_any _ _ HA.out).mono ?_
  rintro e w1 ⟨rfl, hr, hk⟩
  have HR := Lib.hid hr
  have HK := Lib.hid hk
  have HZ : Hid (w.heap.size ≤ w1.heap.size) := Lib.hid hk.size
  clear hr hk
  go_wp2_with fail
  refine (written_any _ _ _ (by omega) _ HR.out).mono ?_
  rintro e w2 ⟨u, l, rfl, hdg, hl, hr2, hk2⟩
  have HDG := Lib.hid hdg
  have HR2 := Lib.hid hr2
  have HK2 := Lib.hid (HK.out.trans hk2 (fun x hx => by right; have := HZ.out; simp at hx; omega))
  have HB2 : Hid (∀ g, u.ownBlock = some g → w1.heap.size ≤ g) := Lib.hid (fun g hg => (Tg.block hdg hg).1)
  have HZ12 : Hid (w1.heap.size ≤ w2.heap.size) := Lib.hid hk2.size
  have HRL : Hid (w.heap.size < w1.heap.size) := Lib.hid (by have := HR.out.lt; omega)
  clear hdg hr2 hk2 HR HK
  go_wp2_with fail
  refine (odd_any _ _ _ (by omega) 12 (by omega) (by omega) _ HR2.out).mono ?_
  rintro e w3 ⟨x, rfl, _, hk3⟩
  have HDG3 : Hid (Dg w3 w1.heap.size u l) := Lib.hid (Tg.kept HDG.out hk3 (fun g hg hm => by have := HB2.out g hg; have := HRL.out; simp at hm; omega))
  have HK3 := Lib.hid (HK2.out.trans hk3 (fun x hx => by right; have := HZ.out; simp at hx; omega))
  have hsz : w1.heap.size ≤ w3.heap.size := Nat.le_trans HZ12.out hk3.size
  clear hk3 HDG HR2 HK2
  cases x
  · go_wp2
    go_ret
    exact ⟨u, l, rfl, Tg.mono HDG3.out HZ.out, by omega, HK3.out⟩
  · go_wp2_with (at_builtin; refine app_tri 36 41 (.agg #[.int .i64 0, .int .i64 0, .int .i64 0]) 24 Tryd.underlying41 info_deed rfl (by omega) (l.map d3) ([(⟨9, 0, 0⟩ : Nt.Dd)].map d3) (d3_one _) rfl _ _ rfl w1.heap.size _ HDG3.out rfl 1 rfl rfl (by simp; omega) hsz ?_; intro u9 w9 hs9 hk9; have HDG9 : Hid (Dg w9 w1.heap.size u9 (l ++ [⟨9, 0, 0⟩])) := Lib.hid (by unfold Dg; rw [List.map_append]; exact hs9); have HK9 := Lib.hid (HK3.out.trans hk9 (fun q hq => .inr (Nat.le_trans HZ.out (HB2.out q (by simpa using hq))))); clear hs9 hk9)
    go_ret
    exact ⟨u9, _, rfl, Tg.mono HDG9.out HZ.out, by simp; omega, HK9.out⟩
end Go.Proofs.YtaacehdfpoiljaaDoor
