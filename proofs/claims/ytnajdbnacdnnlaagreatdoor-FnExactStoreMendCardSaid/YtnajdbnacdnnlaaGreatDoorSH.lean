/-
  The library's functions on texts, in words of bytes as numbers.
-/
import Derived.Test.YtnajdbnacdnnlaaGreatDoorSh
import Derived.Test.YtnajdbnacdnnlaaGreatDoorTxB
import Derived.Test.YtnajdbnacdnnlaaGreatDoorTsB
namespace Go.Proofs.YtnajdbnacdnnlaaGreatDoor
open Go.RowKit

theorem find_at (c : UInt8) : ∀ (a b : List UInt8), c ∉ a → Lib.indexByte (a ++ c :: b) c = (a.length : Int)
  | [], b, _ => by
    show (if c == c then (0 : Int) else _) = _
    rw [if_pos (by simp)]; rfl
  | x :: a, b, h => by
    have hx : ¬ (x == c) = true := fun e => h (by rw [eq_of_beq e]; simp)
    have ih := find_at c a b (fun e => h (List.mem_cons_of_mem _ e))
    show (if x == c then (0 : Int) else if Lib.indexByte (a ++ c :: b) c == -1 then -1 else Lib.indexByte (a ++ c :: b) c + 1) = _
    rw [if_neg hx, ih, if_neg (by simp only [beq_iff_eq]; omega), List.length_cons]
    omega
theorem find_not (c : UInt8) : ∀ (a : List UInt8), c ∉ a → Lib.indexByte a c = -1
  | [], _ => rfl
  | x :: a, h => by
    have hx : ¬ (x == c) = true := fun e => h (by rw [eq_of_beq e]; simp)
    have ih := find_not c a (fun e => h (List.mem_cons_of_mem _ e))
    show (if x == c then (0 : Int) else if Lib.indexByte a c == -1 then -1 else Lib.indexByte a c + 1) = _
    rw [if_neg hx, ih, if_pos (by simp)]
theorem parted (c : UInt8) : ∀ (l : List UInt8), c ∉ l ∨ ∃ a b, c ∉ a ∧ l = a ++ c :: b
  | [] => .inl (by simp)
  | x :: l => by
    by_cases h : x = c
    · exact .inr ⟨[], l, by simp, by rw [h]; rfl⟩
    · rcases parted c l with h1 | ⟨a, b, h1, h2⟩
      · exact .inl (by simp only [List.mem_cons]; rintro (e | e); exact h e.symm; exact h1 e)
      · exact .inr ⟨x :: a, b, by simp only [List.mem_cons]; rintro (e | e); exact h e.symm; exact h1 e, by rw [h2]; rfl⟩
theorem num_mem {c : UInt8} {a : List UInt8} (h : c ∉ a) : c.toNat ∉ a.map UInt8.toNat := fun e => by
  obtain ⟨x, hx, hc⟩ := List.mem_map.1 e
  exact h (UInt8.toNat_inj.1 hc ▸ hx)
theorem split_list (c : UInt8) : ∀ (n : Nat) (l : List UInt8), l.length ≤ n → (Lib.splitK [c] 0 (l.count c) l).map (List.map UInt8.toNat) = Nt.cut c.toNat (l.map UInt8.toNat) := by
  intro n
  induction n with
  | zero =>
    intro l hl
    have : l = [] := List.eq_nil_of_length_eq_zero (by omega)
    subst this
    rfl
  | succ n ih =>
    intro l hl
    rcases parted c l with h | ⟨a, b, h, rfl⟩
    · rw [List.count_eq_zero.2 h]
      show [l.map UInt8.toNat] = Nt.cutFrom c.toNat [] (l.map UInt8.toNat)
      have := Nt.cutFrom_free c.toNat (l.map UInt8.toNat) [] [] (num_mem h)
      rw [List.append_nil, List.nil_append] at this
      rw [this]; rfl
    · have hc : (a ++ c :: b).count c = b.count c + 1 := by
        rw [List.count_append, List.count_eq_zero.2 h, List.count_cons_self]; omega
      have hi : Lib.index (a ++ c :: b) [c] = (a.length : Int) := by rw [Lib.index_one]; exact find_at c a b h
      rw [hc]
      unfold Lib.splitK
      rw [hi, if_neg (by simp only [beq_iff_eq]; omega), List.map_cons]
      have e1 : (a ++ c :: b).take (((a.length : Nat) : Int).toNat + 0) = a := by simp
      have e2 : (a ++ c :: b).drop (((a.length : Nat) : Int).toNat + [c].length) = b := by
        rw [Int.toNat_natCast, List.length_singleton, ← List.drop_drop, List.drop_left]; rfl
      rw [e1, e2, ih b (by simp at hl; omega), List.map_append, List.map_cons]
      show _ = Nt.cutFrom c.toNat [] _
      rw [Nt.cutFrom_free c.toNat _ _ [] (num_mem h), List.nil_append, Nt.cutFrom, if_pos rfl]
      rfl
theorem split_tx (c : UInt8) (s : ByteArray) : (Lib.splitB ⟨#[c]⟩ 0 (Lib.countB s ⟨#[c]⟩) s).map tx = Nt.cut c.toNat (tx s) := by
  have h1 := Lib.splitB_data ⟨#[c]⟩ 0 (Lib.countB s ⟨#[c]⟩) s
  have h2 : Lib.countB s ⟨#[c]⟩ = s.data.toList.count c := Lib.count_one c s.data.toList
  have h3 := split_list c s.data.toList.length s.data.toList (Nat.le_refl _)
  rw [show (⟨#[c]⟩ : ByteArray).data.toList = [c] from rfl] at h1
  rw [← h2, ← h1, List.map_map] at h3
  exact h3
theorem cut_list (c : UInt8) (a b : List UInt8) (h : c ∉ a) : Lib.cut (a ++ c :: b) [c] = (a, b, true) := by
  have hi : Lib.index (a ++ c :: b) [c] = (a.length : Int) := by rw [Lib.index_one]; exact find_at c a b h
  unfold Lib.cut
  rw [hi, if_pos (by omega)]
  have e1 : (a ++ c :: b).take (((a.length : Nat) : Int).toNat) = a := by simp
  have e2 : (a ++ c :: b).drop (((a.length : Nat) : Int).toNat + [c].length) = b := by
    rw [Int.toNat_natCast, List.length_singleton, ← List.drop_drop, List.drop_left]; rfl
  rw [e1, e2]
/-- The bytes of a text that numbers tell. -/
def bts (t : List Nat) : List UInt8 := t.map UInt8.ofNat
theorem bts_tx (s : ByteArray) : s.data.toList = bts (tx s) := by
  unfold bts tx
  rw [List.map_map]
  exact ((List.map_congr_left (fun x _ => by simp)).trans (List.map_id _)).symm
theorem bts_append (a b : List Nat) : bts (a ++ b) = bts a ++ bts b := by simp [bts]
theorem bts_mem {x : Nat} (hx : x < 256) {t : List Nat} (ht : ∀ y ∈ t, y < 256) (h : x ∉ t) : UInt8.ofNat x ∉ bts t := fun e => by
  obtain ⟨y, hy, e2⟩ := List.mem_map.1 e
  have h1 := congrArg UInt8.toNat e2
  rw [UInt8.toNat_ofNat', UInt8.toNat_ofNat', Nat.mod_eq_of_lt (ht y hy), Nat.mod_eq_of_lt hx] at h1
  exact h (h1 ▸ hy)
theorem tx_bts {t : List Nat} (ht : ∀ y ∈ t, y < 256) : (bts t).map UInt8.toNat = t := by
  unfold bts
  rw [List.map_map]
  refine (List.map_congr_left (fun y hy => ?_)).trans (List.map_id _)
  simp only [Function.comp, UInt8.toNat_ofNat']
  exact Nat.mod_eq_of_lt (ht y hy)
theorem digs_two {n : Nat} (h : n < 100) : Nt.digs n = if n < 10 then [48 + n] else [48 + n / 10, 48 + n % 10] := by
  by_cases h1 : n < 10
  · rw [if_pos h1, Nt.digs_small h1]
  · rw [if_neg h1, Nt.digs_more h1, Nt.digs_small (by omega)]; rfl
theorem atoi_digs : ∀ n, n < 60 → Lib.atoiAll (bts (Nt.digs n)) = .ok (n : Int) := by
  have h : ∀ n : Fin 60, Lib.atoiAll (bts (if n.val < 10 then [48 + n.val] else [48 + n.val / 10, 48 + n.val % 10])) = .ok (n.val : Int) := by decide +kernel
  intro n hn
  rw [digs_two (by omega)]
  exact h ⟨n, hn⟩
theorem dec_digs {n : Nat} (h : n < 100) : Lib.decDigits n = bts (Nt.digs n) := by
  rw [digs_two h]
  by_cases h1 : n < 10
  · rw [if_pos h1, Lib.decDigits_one h1]; rfl
  · rw [if_neg h1, Lib.decDigits_two h1 h]; rfl
theorem digs_lt (n : Nat) : ∀ y ∈ Nt.digs n, y < 256 := fun y hy => by have := Nt.digs_digit n y hy; omega
theorem join_list : ∀ (ps : List (List UInt8)), (Lib.join ps [44]).map UInt8.toNat = Nt.join 44 (ps.map (List.map UInt8.toNat))
  | [] => rfl
  | [p] => by rw [Lib.join_one]; rfl
  | p :: q :: r => by
    have ih := join_list (q :: r)
    rw [Lib.join_cons] at ih
    rw [Lib.join_cons, show Lib.joinTail [44] (q :: r) = 44 :: (q ++ Lib.joinTail [44] r) by simp [Lib.joinTail], List.map_append, List.map_cons, ih]
    rfl
theorem join_tx (ps : List ByteArray) : (Lib.join (ps.map (·.data.toList)) [44]).map UInt8.toNat = Nt.join 44 (ps.map tx) := by
  rw [join_list, List.map_map]
  rfl

/-- What the library reads of its variables. -/
def ErrW (w : World) : Prop := (∃ m, w.cell? ⟨0, 0, none⟩ = some (.int .i64 m)) ∧ (∃ te pe, w.cell? ⟨2, 0, none⟩ = some (.iface te pe)) ∧ ∃ te pe, w.cell? ⟨3, 0, none⟩ = some (.iface te pe)
theorem ErrW.stay {w w' : World} (h : ErrW w) (hk : Kept [] w w') : ErrW w' := by
  obtain ⟨⟨m, h1⟩, ⟨te, pe, h2⟩, ⟨te', pe', h3⟩⟩ := h
  exact ⟨⟨m, (hk.cell (World.block_lt_of_cell? w _ h1) (by simp)).trans h1⟩, ⟨te, pe, (hk.cell (World.block_lt_of_cell? w _ h2) (by simp)).trans h2⟩, ⟨te', pe', (hk.cell (World.block_lt_of_cell? w _ h3) (by simp)).trans h3⟩⟩

theorem split_any (s : ByteArray) (hs : s.size ≤ 2000000) (w : World) (he : ErrW w) :
    Calls Tryz.prog 81 #[.string s, .string ⟨#[44]⟩] w fun e w' => ∃ (g n : Nat) (ps : List ByteArray), e = .returned (.slice (some ⟨g, 0, none⟩) n n) ∧ Ts w' w.heap.size (.slice (some ⟨g, 0, none⟩) n n) ps ∧ ps.length = n ∧ ps.map tx = Nt.cut 44 (tx s) ∧ Kept [] w w' := by
  obtain ⟨⟨m, hm⟩, _, _⟩ := he
  refine (Tryz.strings_Split s ⟨#[44]⟩ m w (by omega) hm (by decide)).mono ?_
  rintro e w' ⟨rfl, rfl⟩
  have hl : (Lib.splitB ⟨#[44]⟩ 0 (Lib.countB s ⟨#[44]⟩) s).length = Lib.countB s ⟨#[44]⟩ + 1 := Lib.splitB_all ⟨#[44]⟩ (by decide) 0 _ s rfl
  have hc := Lib.countB_le ⟨#[44]⟩ (by decide) s.size s (Nat.le_refl _)
  refine ⟨_, _, _, rfl, ?_, hl, split_tx 44 s, (Kept.refl _ _).alloc _⟩
  have h := World.ownsRow_lit (base := w.heap.size) (e := 9) (size := 1) w ((Lib.splitB ⟨#[44]⟩ 0 (Lib.countB s ⟨#[44]⟩) s).map Value.string).toArray (Lib.countB s ⟨#[44]⟩ + 1) (Nat.le_refl _) (by unfold maxLen; omega) (by simp [hl])
  unfold Ts
  rw [hl]
  exact h

theorem cut_any (s : ByteArray) (hs : s.size ≤ 2000000) (w : World) (he : ErrW w) :
    Calls Tryz.prog 58 #[.string s, .string ⟨#[58]⟩] w fun e w' => ∃ (p q : ByteArray) (ok : Bool), e = .returned (.tuple #[.string p, .string q, .bool ok]) ∧ p.size ≤ 2000000 ∧ q.size ≤ 2000000 ∧ (∀ a b : Nat, tx s = Nt.digs a ++ 58 :: Nt.digs b → tx p = Nt.digs a ∧ tx q = Nt.digs b) ∧ (tx s = [] → tx p = []) ∧ Qt w w' := by
  obtain ⟨⟨m, hm⟩, _, _⟩ := he
  refine (Tryz.strings_Cut s ⟨#[58]⟩ m w (by omega) hm).mono ?_
  rintro e w' ⟨rfl, n, rfl⟩
  have hsz : s.data.toList.length ≤ 2000000 := by simpa using hs
  refine ⟨_, _, _, rfl, ?_, ?_, fun a b h => ?_, fun h => ?_, ⟨n, rfl⟩⟩
  · show ((Lib.cut s.data.toList [58]).1.toArray).size ≤ _
    rw [List.size_toArray]
    unfold Lib.cut
    split
    · simp only [List.length_take]; omega
    · exact hsz
  · show ((Lib.cut s.data.toList [58]).2.1.toArray).size ≤ _
    rw [List.size_toArray]
    unfold Lib.cut
    split
    · simp only [List.length_drop]; omega
    · simp
  · have h1 : s.data.toList = bts (Nt.digs a) ++ 58 :: bts (Nt.digs b) := by
      rw [bts_tx, h, bts_append]; rfl
    have h2 : (58 : UInt8) ∉ bts (Nt.digs a) := bts_mem (x := 58) (by omega) (digs_lt a) (Nt.digs_free (.inr (by omega)))
    have h3 : Lib.cut s.data.toList (⟨#[58]⟩ : ByteArray).data.toList = (bts (Nt.digs a), bts (Nt.digs b), true) := by
      rw [h1]; exact cut_list 58 _ _ h2
    rw [h3]
    exact ⟨by rw [tx_mk]; exact tx_bts (digs_lt a), by rw [tx_mk]; exact tx_bts (digs_lt b)⟩
  · have h1 : s.data.toList = [] := by rw [bts_tx, h]; rfl
    rw [h1]
    rfl

theorem atoi_any (s : ByteArray) (hs : s.size ≤ 2000000) (w : World) (he : ErrW w) :
    Calls Tryz.prog 142 #[.string s] w fun e w' => ∃ (v : Int) (ev : Value), e = .returned (.tuple #[.int .i64 v, ev]) ∧ (ev = .nilIface ∨ ∃ t p, ev = .iface t p) ∧ (∀ n : Nat, n < 60 → tx s = Nt.digs n → ev = .nilIface ∧ v = (n : Int)) ∧ (tx s = [] → ∃ t p, ev = .iface t p) ∧ Kept [] w w' := by
  obtain ⟨_, ⟨te, pe, h1⟩, ⟨te', pe', h2⟩⟩ := he
  have hd : ∀ n : Nat, n < 60 → tx s = Nt.digs n → Lib.atoiAll s.data.toList = .ok (n : Int) := fun n hn h => by rw [bts_tx, h]; exact atoi_digs n hn
  have h0 : tx s = [] → Lib.atoiAll s.data.toList = .syntax := fun h => by rw [bts_tx, h]; rfl
  cases hr : Lib.atoiAll s.data.toList with
  | ok v =>
    refine (Tryz.strconv_Atoi_ok s (by omega) v hr w).mono ?_
    rintro e w' ⟨rfl, hw⟩
    refine ⟨v, _, rfl, .inl rfl, fun n hn h => ⟨rfl, ?_⟩, fun h => ?_, ?_⟩
    · have := hd n hn h
      rw [hr] at this
      exact Lib.NumEnd.ok.inj this
    · rw [h0 h] at hr; cases hr
    · rcases hw with rfl | ⟨t, rfl⟩
      · exact Kept.refl _ _
      · exact Kept.of_below (Lib.bytesWorld_below _ _ _)
  | «syntax» =>
    refine (Tryz.strconv_Atoi_syntax s (by omega) hr _ w h1 (.inr ⟨te, pe, rfl⟩)).mono ?_
    rintro e w' ⟨N, rfl, _, _, hb⟩
    exact ⟨0, _, rfl, .inr ⟨_, _, rfl⟩, fun n hn h => (by rw [hd n hn h] at hr; cases hr), fun _ => ⟨_, _, rfl⟩, Kept.of_below hb⟩
  | range =>
    refine (Tryz.strconv_Atoi_range s (by omega) hr _ w h2 (.inr ⟨te', pe', rfl⟩)).mono ?_
    rintro e w' ⟨N, rfl, _, _, hb⟩
    exact ⟨_, _, rfl, .inr ⟨_, _, rfl⟩, fun n hn h => (by rw [hd n hn h] at hr; cases hr), fun _ => ⟨_, _, rfl⟩, Kept.of_below hb⟩

theorem itoa_any (n : Nat) (hn : n < 100) (w : World) :
    Calls Tryz.prog 70 #[.int .i64 (n : Int)] w fun e w' => ∃ z, e = .returned (.string z) ∧ tx z = Nt.digs n ∧ w = w' := by
  refine (Tryz.strconv_Itoa_small n hn w).mono ?_
  rintro e w' ⟨rfl, rfl⟩
  exact ⟨_, rfl, by rw [tx_mk, dec_digs hn]; exact tx_bts (digs_lt n), rfl⟩

/-- A number's text. -/
def itoaZ (n : Nat) : ByteArray := ⟨(Lib.decDigits n).toArray⟩
theorem tx_itoaZ {n : Nat} (hn : n < 100) : tx (itoaZ n) = Nt.digs n := by
  unfold itoaZ
  rw [tx_mk, dec_digs hn]; exact tx_bts (digs_lt n)
theorem itoaZ_any (n : Nat) (hn : n < 100) (w : World) :
    Calls Tryz.prog 70 #[.int .i64 (n : Int)] w fun e w' => e = .returned (.string (itoaZ n)) ∧ w = w' :=
  (Tryz.strconv_Itoa_small n hn w).mono fun _ _ h => ⟨h.1, h.2.symm⟩
def lightZ (l : Nat × Nat) : ByteArray := itoaZ l.1 ++ ⟨#[58]⟩ ++ itoaZ l.2
theorem tx_lightZ {l : Nat × Nat} (h1 : l.1 < 100) (h2 : l.2 < 100) : tx (lightZ l) = Nt.lightT l := by
  unfold lightZ Nt.lightT
  rw [tx_append, tx_append, tx_itoaZ h1, tx_itoaZ h2, List.append_assoc]
  rfl
/-- The texts of lights, laid up to k. -/
def textsTo (sc : List (Nat × Nat)) (k : Nat) : List ByteArray := (List.range sc.length).map fun i => if i < k then lightZ (sc.getD i (0, 0)) else ByteArray.empty
theorem textsTo_length (sc : List (Nat × Nat)) (k : Nat) : (textsTo sc k).length = sc.length := by simp [textsTo]
theorem textsTo_zero (sc : List (Nat × Nat)) : textsTo sc 0 = List.replicate sc.length ByteArray.empty := by
  unfold textsTo
  apply List.ext_getElem (by simp)
  intro i h1 h2
  simp
theorem textsTo_succ (sc : List (Nat × Nat)) (k : Nat) : textsTo sc (k + 1) = (textsTo sc k).set k (lightZ (sc.getD k (0, 0))) := by
  unfold textsTo
  apply List.ext_getElem (by simp)
  intro i h1 h2
  rw [List.getElem_set]
  simp only [List.getElem_map, List.getElem_range]
  by_cases e1 : k = i
  · subst e1; simp
  · rw [if_neg e1]
    by_cases h : i < k
    · rw [if_pos h, if_pos (by omega)]
    · rw [if_neg h, if_neg (by omega)]
theorem textsTo_all {m : Nat} {sc : List (Nat × Nat)} (so : Nt.SOk m sc) : (textsTo sc sc.length).map tx = sc.map Nt.lightT := by
  unfold textsTo
  rw [List.map_map]
  apply List.ext_getElem (by simp)
  intro i h1 h2
  have hi : i < sc.length := by simpa using h1
  simp only [List.getElem_map, List.getElem_range, Function.comp]
  rw [if_pos hi, List.getD_eq_getElem?_getD, List.getElem?_eq_getElem hi, Option.getD_some]
  have ht := so.time _ (List.getElem_mem hi)
  have hn := so.node _ (List.getElem_mem hi)
  have h6 := so.n6
  exact tx_lightZ (by omega) (by omega)
theorem tcells_set (xs : List ByteArray) (k : Nat) (x : ByteArray) : (tcells xs).set k (.string x) = tcells (xs.set k x) := by simp [tcells, List.map_set]
theorem Ts.set {w : World} {base g cap n : Nat} {xs : List ByteArray} (h : Ts w base (.slice (some ⟨g, 0, none⟩) n cap) xs) (hn : n = xs.length) (k : Nat) (x : ByteArray) :
    Ts (w.setCell ⟨g, k, none⟩ (.string x)) base (.slice (some ⟨g, 0, none⟩) n cap) (xs.set k x) := by
  subst hn
  have := (World.ownsRow.stored h k (.string x)).1
  unfold Ts
  rw [List.length_set, ← tcells_set]
  exact this
theorem Ts.at {w : World} {base g cap n : Nat} {xs : List ByteArray} (h : Ts w base (.slice (some ⟨g, 0, none⟩) n cap) xs) (k : Nat) (hk : k < xs.length) :
    w.cell? ⟨g, k, none⟩ = some (.string (atT xs k)) ∧ w.frozen? ⟨g, k, none⟩ = false := by
  rcases h.form with ⟨h1, rfl⟩ | ⟨g', cap', e, _, _, _, _, hcell, hfr⟩
  · simp at hk
  · simp only [Value.slice.injEq, Option.some.injEq, Addr.mk.injEq] at e
    obtain ⟨⟨rfl, _, _⟩, _, _⟩ := e
    exact ⟨hcell k hk, hfr k⟩
/-- 'make([]string, n)'. -/
theorem make_text {ops : Array Oper} {rest : List Oper} {o : Oper} {a : Act} {Q : Exit → Act → World → Prop} (w : World) (n : Nat)
    (hg : o.guard = none) (l c : Operand) (hop : o.op = Op.makeSlice 50 l c) (hl : a.eval l = .int .i64 n) (hc : a.eval c = .int .i64 n) (hn : n ≤ 4000000)
    (h : ∀ w', Ts w' w.heap.size (.slice (some ⟨w.heap.size, 0, none⟩) n n) (List.replicate n ByteArray.empty) → Kept [] w w' → w.heap.size < w'.heap.size →
      wpList Tryz.prog ops Q rest (a.put o.dst (.slice (some ⟨w.heap.size, 0, none⟩) n n)) w') : wpList Tryz.prog ops Q (o :: rest) a w := by
  obtain ⟨i0, hi, hz0, hz1, hz2⟩ := info_parts info_text
  refine wpList_make_full w hg l c _ hop w.heap.size 9 i0 (.string ByteArray.empty) 1 Tryz.underlying50 hi hz0 hz1 .i64 .i64 n n n hl hc rfl rfl (by rw [hz2]; omega) (by unfold maxLen; omega) (Nat.le_refl _) ?_
  intro w' h1 h2
  have hs : Ts w' w.heap.size (.slice (some ⟨w.heap.size, 0, none⟩) n n) (List.replicate n ByteArray.empty) := by
    unfold Ts
    have e : tcells (List.replicate n ByteArray.empty) = (madeCells (Value.string ByteArray.empty).cells (n * 1)).toList := by
      rw [show (Value.string ByteArray.empty).cells = #[Value.string ByteArray.empty] from rfl, toList_madeCells_one]
      simp [tcells]
    rw [List.length_replicate, e]
    exact h1
  exact h w' hs ((Kept.refl _ _).grown h2 (by simp)) (hs.block (g := w.heap.size) rfl).2

theorem join_any (ps : List ByteArray) (n : Nat) (hn : ps.length = n) (h1000 : n ≤ 1000) (hl : (Nt.join 44 (ps.map tx)).length ≤ 100000) (w : World) (base g cap : Nat) (hs : Ts w base (.slice (some ⟨g, 0, none⟩) n cap) ps) (hp : 0 < n) :
    Calls Tryz.prog 72 #[.slice (some ⟨g, 0, none⟩) n cap, .string ⟨#[44]⟩] w fun e w' => ∃ z, e = .returned (.string z) ∧ tx z = Nt.join 44 (ps.map tx) ∧ Kept [] w w' := by
  subst hn
  have hcap : ps.length ≤ cap := by
    obtain ⟨a, c, e, h, _, _⟩ := hs.any
    simp at e
    omega
  refine (Tryz.strings_Join g 0 cap ps ⟨#[44]⟩ w (fun j x hj => ?_) (hs.block (g := g) rfl).2 (by omega) hcap ?_).mono ?_
  · have hj' : j < ps.length := (List.getElem?_eq_some_iff.1 hj).1
    rw [Nat.zero_add, (hs.at j hj').1, atT_get hj']
    rw [List.getElem?_eq_getElem hj'] at hj
    rw [Option.some.inj hj]
  · have h := congrArg List.length (join_tx ps)
    rw [List.length_map] at h
    show (Lib.join (ps.map (·.data.toList)) [44]).length ≤ _
    omega
  · rintro e w' ⟨rfl, hb⟩
    exact ⟨_, rfl, by rw [tx_mk]; exact join_tx ps, Kept.of_below hb⟩
theorem cut_part (sep : Nat) (s : List Nat) : ∀ p ∈ Nt.cut sep s, p.length ≤ s.length := by
  have h : ∀ (s seen : List Nat), ∀ p ∈ Nt.cutFrom sep seen s, p.length ≤ seen.length + s.length := by
    intro s
    induction s with
    | nil => intro seen p hp; simp [Nt.cutFrom] at hp; rw [hp]; simp
    | cons x r ih =>
      intro seen p hp
      unfold Nt.cutFrom at hp
      split at hp
      · rw [List.mem_cons] at hp
        rcases hp with rfl | hp
        · omega
        · have := ih [] p hp; simp at this ⊢; omega
      · have := ih _ p hp; simp at this ⊢; omega
  intro p hp
  have := h s [] p hp
  simpa using this
end Go.Proofs.YtnajdbnacdnnlaaGreatDoor
