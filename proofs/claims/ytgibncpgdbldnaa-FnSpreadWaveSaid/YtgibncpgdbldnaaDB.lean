/-
  Walks: what the laws draw.
  Walks: a net and a set drawn.
  Walks: a net and a node drawn; two nets drawn.
  Walks: an order drawn.
  Walks: a net and an order drawn.
-/
import Derived.Test.YtgibncpgdbldnaaDA
import Derived.Deep.RegionWith
import Derived.Test.YtgibncpgdbldnaaKA
namespace Go.Proofs.Ytgibncpgdbldnaa
open Go.RowKit

/-- A list of at most six numbers, and nothing else has turned. -/
def DrawnNet (w : World) (e : Ending) (w' : World) : Prop :=
  ∃ u xs, e = .returned u ∧ Sl w' w.heap.size u xs ∧ xs.length ≤ 6 ∧ Kept [] w w'

/-- A small number is drawn. -/
def DrawnInt (lo hi : Int) (w : World) (e : Ending) (w' : World) : Prop :=
  ∃ x : Int, e = .returned (.int .i64 x) ∧ lo ≤ x ∧ x ≤ hi ∧ Kept [] w w'

end Go.Proofs.Ytgibncpgdbldnaa

namespace Go.Proofs.Ytgibncpgdbldnaa
open Go.RowKit

/-- A reader, and nothing else has turned since w0. -/
def RdK (w0 w : World) (B R P : Nat) : Prop := Rd w B R P ∧ Kept [R] w0 w

theorem pick_of {w0 w : World} {B R P : Nat} (hr : RdK w0 w B R P) (m : Int) (hm : m ≤ 1000000) (hP : P ≤ 100000) :
    Calls Try.prog 67 #[.pointer (some ⟨R, 0, none⟩), .int .i64 m] w fun e w' => ∃ x : Int, e = .returned (.int .i64 x) ∧ 0 ≤ x ∧ (x = 0 ∨ x < m) ∧ RdK w0 w' B R (P + 1) :=
  (pick_any B R P hP m hm w hr.1).mono fun _ _ h => by
    obtain ⟨x, h1, h2, h3, h4, h5⟩ := h
    exact ⟨x, h1, h2, h3, h4, hr.2.trans h5 (by simp)⟩

/-- A list of at most six numbers, and a number. -/
def DrawsTwo (w : World) (B R P : Nat) (e : Ending) (w' : World) : Prop :=
  ∃ u xs, ∃ x : Int, e = .returned (.tuple #[u, .int .i64 x]) ∧ Sl w' w.heap.size u xs ∧ xs.length ≤ 6 ∧ Rd w' B R (P + 30) ∧ Kept [R] w w'

set_option maxHeartbeats 2000000 in
set_option maxRecDepth 100000 in
theorem set_any (B R P : Nat) (hP : P ≤ 80000) (m : Int) (hm : m ≤ 1000) (hm0 : 0 ≤ m) (w : World) (hr : Rd w B R P) :
    Calls Try.prog 52 #[.pointer (some ⟨R, 0, none⟩), .int .i64 m] w (DrawsTwo w B R P) := by
  have HR := Lib.hid hr
  have hlt := hr.lt
  clear hr
  go_enter Try.func52, Try.ntmps52
  go_wp2_with fail
  refine (net_any B R P (by omega) m hm hm0 _ HR.out).mono ?_
  rintro e w1 ⟨u, xs, rfl, hs, hl, hr1, hk1⟩
  obtain ⟨b, cap1, rfl, _, _, _⟩ := hs.any
  have HS := Lib.hid hs
  have HK := Lib.hid hk1
  have q0 : RdK w1 w1.drew B R (P + 20) := ⟨hr1.kept (Kept.refl [] w1).drew (by simp), (Kept.refl _ _).drew⟩
  have e1 : wrap64 (2 ^ xs.length) ≤ 1000000 := by
    have h := wrap_pow xs.length (by omega) (by omega)
    rw [Int.toNat_natCast] at h
    have h2 : (2 : Nat) ^ xs.length ≤ 2 ^ 6 := Nat.pow_le_pow_right (by omega) hl
    have h3 : (2 : Int) ^ xs.length = ((2 ^ xs.length : Nat) : Int) := (Int.natCast_pow 2 _).symm
    rw [h, h3]
    omega
  have e2 : IntKind.i64.wrap (2 ^ xs.length) ≤ 1000000 := by rw [IntWalk.i64_left]; exact e1
  clear hs hk1 HR hr1
  go_wp2_with fail
  go_region_with ((go_at_call 67; refine (pick_of (by assumption) _ (by first | assumption | omega) (by omega)).mono ?_; rintro e w' ⟨x, rfl, hx0, hx, hr'⟩))
  have HR' := Lib.hid hr'
  clear hr' hx q0 e1 e2
  go_wp2
  go_ret2
  exact ⟨_, xs, _, rfl, HS.out.kept HR'.out.2 (fun g hg hm => by have := (HS.out.block hg).1; simp at hm; omega), hl, HR'.out.1.mono (by omega), HK.out.trans HR'.out.2 (by simp)⟩

/-- A list of at most six numbers and a number, and nothing else has turned. -/
def DrawnTwo (w : World) (e : Ending) (w' : World) : Prop :=
  ∃ u xs, ∃ x : Int, e = .returned (.tuple #[u, .int .i64 x]) ∧ Sl w' w.heap.size u xs ∧ xs.length ≤ 6 ∧ Kept [] w w'

end Go.Proofs.Ytgibncpgdbldnaa

namespace Go.Proofs.Ytgibncpgdbldnaa
open Go.RowKit

/-- A list of at most six numbers and a number, and nothing else has turned. -/
def DrawnIx (w : World) (e : Ending) (w' : World) : Prop :=
  ∃ u xs, ∃ x : Int, e = .returned (.tuple #[u, .int .i64 x]) ∧ Sl w' w.heap.size u xs ∧ xs.length ≤ 6 ∧ Kept [] w w'

theorem tdiv39 {z : Int} (h0 : 0 ≤ z) (h : z ≤ 40) : 0 ≤ z.tdiv 39 ∧ z.tdiv 39 ≤ 1 := by
  rw [Int.tdiv_eq_ediv_of_nonneg h0]
  omega

/-- Two lists of numbers, and nothing else has turned. -/
def DrawnPair (w : World) (e : Ending) (w' : World) : Prop :=
  ∃ u xs, ∃ v ys, e = .returned (.tuple #[u, v]) ∧ Sl w' w.heap.size u xs ∧ Sl w' w.heap.size v ys ∧ xs.length ≤ 6 ∧ Kept [] w w'

end Go.Proofs.Ytgibncpgdbldnaa

namespace Go.Proofs.Ytgibncpgdbldnaa
open Go.RowKit

/-- 'append(out, ys...)', wherever ys lies. -/
theorem app_cut {ops : Array Oper} {rest : List Oper} {o : Oper} {a : Act} {Q : Exit → Act → World → Prop} {w0 : World} (hgd : o.guard = none) (s y : Operand)
    (ho : o.op = .call { callee := .builtin .append, args := #[s, y], argTypes := #[23, 23] })
    (base : Nat) (v : Value) (xs : List Int) (hown : Sl w0 base v xs) (hs : a.eval s = v) (b off m c : Nat) (ys : List Int) (hyl : ys.length = m) (hx : a.eval y = .slice (some ⟨b, off, none⟩) m c)
    (hcell : ∀ j, j < m → w0.cell? ⟨b, off + j, none⟩ = some (.int .i64 (ys.getD j 0)))
    (hlen : xs.length + m ≤ 1000000) (hbase : base ≤ w0.heap.size)
    (h : ∀ v' w', Sl w' base v' (xs ++ ys) → Kept v.ownBlock.toList w0 w' → wpList Try.prog ops Q rest (a.put o.dst v') w') :
    wpList Try.prog ops Q (o :: rest) a w0 := by
  obtain ⟨i0, hi, hz0, hz1, hz2⟩ := info_parts info_int
  subst hyl
  refine wpList_append_own _ hgd s y _ ho base 3 i0 (.int .i64 0) 1 8 Try.underlying23 hi hz0 hz1 hz2 rfl (by decide) v xs.length (ints xs) hs hown
    ⟨b, off, none⟩ ys.length c (ints ys) hx (by simp [ints]) ?_ (ints_oneCell _ _) (by unfold maxLen; omega) (by omega) hbase ?_
  · intro j z hz
    have hj : j < ys.length := by
      have := (List.getElem?_eq_some_iff.1 hz).1
      simpa [ints] using this
    rw [ints_get ys j hj] at hz
    have e : (⟨b, off, none⟩ : Addr).add j = ⟨b, off + j, none⟩ := by unfold Addr.add; split <;> simp_all
    rw [e, hcell j hj, hz]
  · intro v' w' h1 h2 _
    refine h v' w' ?_ ?_
    · unfold Sl
      rw [List.length_append, ints_append]
      exact h1
    · exact (Kept.refl _ _).grown h2 fun k hk => .inl (by rw [hk]; simp)

theorem Sl.caps {w : World} {base n cap : Nat} {a : Option Addr} {xs : List Int} (h : Sl w base (.slice a n cap) xs) : n ≤ cap ∧ cap ≤ 9223372036854775807 := by
  rcases h.form with ⟨e, _⟩ | ⟨g, c, e, _, _, h1, h2, _⟩
  · simp at e; omega
  · simp at e; obtain ⟨_, rfl, rfl⟩ := e; exact ⟨h1, h2⟩

/-- A list of numbers is drawn, as long as asked, or longer by one. -/
def DrawsOrder (w : World) (B R P many : Nat) (e : Ending) (w' : World) : Prop :=
  ∃ u xs, e = .returned u ∧ Sl w' w.heap.size u xs ∧ xs.length ≤ many + 1 ∧ Rd w' B R (P + many + 1) ∧ Kept [R] w w'

theorem take_get (xs : List Int) {j n : Nat} (h : j < n) : (xs.take n).getD j 0 = xs.getD j 0 := by
  simp [List.getD_eq_getElem?_getD, h]
theorem drop_get (xs : List Int) (j n : Nat) : (xs.drop n).getD j 0 = xs.getD (n + j) 0 := by
  simp [List.getD_eq_getElem?_getD]

set_option maxHeartbeats 2000000 in
set_option maxRecDepth 100000 in
theorem order_any (B R P : Nat) (hP : P ≤ 90000) (many : Nat) (hmany : many ≤ 20) (m : Int) (hm : m ≤ 1000) (hm0 : 0 ≤ m) (w : World) (hr : Rd w B R P) :
    Calls Try.prog 61 #[.pointer (some ⟨R, 0, none⟩), .int .i64 (many : Int), .int .i64 m] w (DrawsOrder w B R P many) := by
  have HR := Lib.hid hr
  have hlt := hr.lt
  have hBR := hr.1
  clear hr
  go_enter Try.func61, Try.ntmps61
  go_wp2
  go_loopw [7, 8, 9, 10] (fun u i _ _ wr => ∃ (k : Nat) (xs : List Int) (g cap : Nat), k ≤ many ∧ i = .int .i64 k ∧ u = .slice (some ⟨g, 0, none⟩) k cap ∧ k ≤ cap ∧ cap ≤ 9223372036854775807 ∧ w.heap.size ≤ g ∧ g < wr.heap.size ∧ xs.length = k ∧ Sl wr w.heap.size u xs ∧ Rd wr B R (P + k) ∧ Kept [R] w wr) (fun _ i _ _ _ => many - (intOf i).toNat)
  case atStart => exact ⟨0, [], w.heap.size, 0, Nat.zero_le _, rfl, rfl, Nat.le_refl _, by omega, Nat.le_refl _, by simp, rfl, Sl.empty3 w, HR.out.kept ((Kept.refl [] _).alloc _) (by simp), (Kept.refl _ _).alloc _⟩
  case round =>
    obtain ⟨k, xs, g, cap, hk, rfl, rfl, hcap, hcm, hg, hgs, hxl, hsl, hrd, hkept⟩ := hrel
    have HSL := Lib.hid hsl
    have HRD := Lib.hid hrd
    have HK := Lib.hid hkept
    have HXL := Lib.hid hxl
    clear hsl hrd hkept hxl
    by_cases hlk : k < many
    · go_wp2_with fail
      refine (pick_any B R (P + k) (by omega) ((k : Int) + 1) (by omega) _ HRD.out).mono ?_
      rintro e w1 ⟨x, rfl, hx0, hx, hr1, hk1⟩
      obtain ⟨at0, rfl⟩ := Int.eq_ofNat_of_zero_le hx0
      have hat : at0 ≤ k := by omega
      have hgR : g ≠ R := by omega
      have HR1 := Lib.hid hr1
      have hs1 := HSL.out.kept hk1 (fun g' hg' hm => by simp [Value.ownBlock] at hg'; simp at hm; omega)
      have HC1 := Lib.hid (fun j (hj : j < k) => (hs1.at j (by rw [HXL.out]; exact hj)).1)
      have HK1 := Lib.hid (HK.out.trans hk1 (by simp))
      have hgs1 : g < w1.heap.size := Nat.lt_of_lt_of_le hgs hk1.size
      have hR1 : R < w1.heap.size := hr1.lt
      have hws : w.heap.size ≤ w1.heap.size := HK1.out.size
      clear hr1 hk1 hx hx0 hs1 HSL HRD HK hgs
      have HE1 : Hid (Sl (w1.alloc (.cells #[] 3)) w1.heap.size (.slice (some ⟨w1.heap.size, 0, none⟩) 0 0) []) := Lib.hid (Sl.empty3 w1)
      have hca : ∀ j, j < at0 → (w1.alloc (.cells #[] 3)).cell? ⟨g, 0 + j, none⟩ = some (.int .i64 ((xs.take at0).getD j 0)) := by
        intro j hj
        rw [take_get xs hj, Nat.zero_add]
        exact (((Kept.refl [] w1).alloc (.cells #[] 3)).cell (p := ⟨g, j, none⟩) hgs1 (by simp)).trans (HC1.out j (by omega))
      have HCA := Lib.hid hca
      clear hca
      have HTL : Hid ((xs.take at0).length = at0) := Lib.hid (by rw [List.length_take, HXL.out]; omega)
      have HDL : Hid ((xs.drop at0).length = k - at0) := Lib.hid (by rw [List.length_drop, HXL.out])
      have hle : at0 ≤ cap := by omega
      have tok1 : True := trivial
      have tok2 : True := trivial
      have tok3 : True := trivial
      have HSUM : Hid ((([] : List Int) ++ xs.take at0 ++ [(k : Int)]).length + (k - at0) ≤ 1000000) := Lib.hid (by simp [HTL.out]; omega)
      by_cases hc0 : at0 = cap
      · have hca0 : cap = k := by omega
        have hak : at0 = k := by omega
        clear hc0
        subst hca0 hak
        have hkk : at0 - at0 = 0 := Nat.sub_self _
        go_wp2_with (first
          | (at_builtin; have _t := tok1; refine app_cut rfl _ _ rfl w1.heap.size _ [] HE1.out rfl g 0 at0 at0 (xs.take at0) HTL.out rfl HCA.out (by simp; omega) (by simp) ?_; clear tok1 _t; intro v1 w2 hs2 hk2; have HS2 := Lib.hid hs2; have HK2 := Lib.hid ((((Kept.refl [] w1).alloc (.cells #[] 3)).own hk2 (fun g' hg' => by simp [Value.ownBlock] at hg'; omega))); clear hs2 hk2)
          | (at_builtin; have _t := tok2; refine app_int _ rfl _ _ rfl w1.heap.size _ _ HS2.out rfl rfl (by rw [List.nil_append, HTL.out]; omega) HK2.out.size ?_; clear tok2 _t; intro v2 w3 hs3 hk3; have HS3 := Lib.hid hs3; have HK3 := Lib.hid (HK2.out.own hk3 (fun g' hg' => (HS2.out.block hg').1)); clear hs3 hk3)
          | (at_builtin; have _t := tok3; refine app_cut rfl _ _ rfl w1.heap.size _ _ HS3.out rfl g 0 0 0 [] rfl rfl (fun j hj => absurd hj (by omega)) (by have := HSUM.out; omega) HK3.out.size ?_; clear tok3 _t; intro v3 w4 hs4 hk4; have HS4 := Lib.hid hs4; have HK4 := Lib.hid (HK3.out.own hk4 (fun g' hg' => (HS3.out.block hg').1)); clear hs4 hk4))
        obtain ⟨g5, cap5, rfl, hg5, hgs5⟩ := HS4.out.shape (n := at0 + 1) (by simp [HTL.out]) (by omega)
        obtain ⟨hcc5, hcm5⟩ := HS4.out.caps
        go_roundw
        case rel => exact ⟨at0 + 1, _, g5, cap5, by omega, by go_num, rfl, hcc5, hcm5, by omega, hgs5, by simp [HTL.out], HS4.out.mono hws, (HR1.out.kept HK4.out (by simp)).mono (by omega), HK1.out.trans HK4.out (by simp)⟩
        case measure => simp [intOf]; omega
      · have hc1 : ¬ cap = at0 := by omega
        go_wp2_with (first
          | (at_builtin; have _t := tok1; refine app_cut rfl _ _ rfl w1.heap.size _ [] HE1.out rfl g 0 at0 cap (xs.take at0) HTL.out rfl HCA.out (by simp; omega) (by simp) ?_; clear tok1 _t; intro v1 w2 hs2 hk2; have HS2 := Lib.hid hs2; have HK2 := Lib.hid ((((Kept.refl [] w1).alloc (.cells #[] 3)).own hk2 (fun g' hg' => by simp [Value.ownBlock] at hg'; omega))); clear hs2 hk2)
          | (at_builtin; have _t := tok2; refine app_int _ rfl _ _ rfl w1.heap.size _ _ HS2.out rfl rfl (by rw [List.nil_append, HTL.out]; omega) HK2.out.size ?_; clear tok2 _t; intro v2 w3 hs3 hk3; have HS3 := Lib.hid hs3; have HK3 := Lib.hid (HK2.out.own hk3 (fun g' hg' => (HS2.out.block hg').1)); clear hs3 hk3)
          | (at_builtin; have _t := tok3; refine app_cut rfl _ _ rfl w1.heap.size _ _ HS3.out rfl g at0 (k - at0) (cap - at0) (xs.drop at0) HDL.out rfl (fun j hj => (HK3.out.cell (p := ⟨g, at0 + j, none⟩) hgs1 (by simp)).trans (by rw [HC1.out _ (by omega), drop_get])) HSUM.out HK3.out.size ?_; clear tok3 _t; intro v3 w4 hs4 hk4; have HS4 := Lib.hid hs4; have HK4 := Lib.hid (HK3.out.own hk4 (fun g' hg' => (HS3.out.block hg').1)); clear hs4 hk4))
        obtain ⟨g5, cap5, rfl, hg5, hgs5⟩ := HS4.out.shape (n := k + 1) (by simp [HTL.out, HDL.out]; omega) (by omega)
        obtain ⟨hcc5, hcm5⟩ := HS4.out.caps
        go_roundw
        case rel => exact ⟨k + 1, _, g5, cap5, by omega, by go_num, rfl, hcc5, hcm5, by omega, hgs5, by simp [HTL.out, HDL.out]; omega, HS4.out.mono hws, (HR1.out.kept HK4.out (by simp)).mono (by omega), HK1.out.trans HK4.out (by simp)⟩
        case measure => simp [intOf]; omega
    · have hk' : k = many := by omega
      subst hk'
      go_wp2_with fail
      refine (odd_any B R (P + k) (by omega) m (by omega) hm0 _ HRD.out).mono ?_
      rintro e w2 ⟨o, rfl, hr2, hk2⟩
      have HR2 := Lib.hid hr2
      have HS2 := Lib.hid (HSL.out.kept hk2 (fun g' hg' hm => by simp [Value.ownBlock] at hg'; simp at hm; omega))
      have HK2 := Lib.hid (HK.out.trans hk2 (by simp))
      have hws : w.heap.size ≤ w2.heap.size := HK2.out.size
      clear hr2 hk2
      cases o
      · go_wp2
        go_ret
        exact ⟨_, xs, rfl, HS2.out, by rw [HXL.out]; omega, HR2.out, HK2.out⟩
      · go_wp2_with (at_builtin; refine app_int _ rfl _ _ rfl w.heap.size _ _ HS2.out rfl rfl (by rw [HXL.out]; omega) hws ?_; intro v3 w3 hs3 hk3; have HS3 := Lib.hid hs3; have HK3 := Lib.hid hk3; clear hs3 hk3)
        go_ret
        exact ⟨_, _, rfl, HS3.out, by rw [List.length_append, HXL.out]; simp, HR2.out.kept HK3.out (fun x hx => by simp [Value.ownBlock] at hx; omega), HK2.out.trans HK3.out (fun x hx => by right; simp [Value.ownBlock] at hx; omega)⟩
end Go.Proofs.Ytgibncpgdbldnaa

namespace Go.Proofs.Ytgibncpgdbldnaa
open Go.RowKit

end Go.Proofs.Ytgibncpgdbldnaa
