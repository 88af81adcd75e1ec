/-
  The library's functions on texts, in words of bytes as numbers.
  The library's functions on texts, for places and deeds: parted at a space or a newline, numbers of one or two digits, texts put together.
  Rows of numbers and pairs of neighbours as texts, by the program.
-/
import Derived.Test.YtnajdbnacdnnlaaGreatDoorSh
import Derived.Test.YtnajdbnacdnnlaaGreatDoorQA
import Derived.Test.YtnajdbnacdnnlaaGreatDoorPJ
import Derived.Test.YtnajdbnacdnnlaaGreatDoorKA
namespace Go.Proofs.YtnajdbnacdnnlaaGreatDoor
open Go.RowKit

theorem find_at (c : UInt8) : ∀ (a b : List UInt8), c ∉ a → Lib.indexByte (a ++ c :: b) c = (a.length : Int)
  | [], b, _ => by
    show (if c == c then (0 : Int) else _) = _
    rw [if_pos (by simp)]; rfl
  | x :: a, b, h => by
    have hx : ¬ (x == c) = true := fun e => h (by rw [eq_of_beq e]; simp)
    have ih := find_at c a b (fun e => h (List.mem_cons_of_mem _ e))
    show (if x == c then (0 : Int) else if Lib.indexByte (a ++ c :: b) c == -1 then -1 else Lib.indexByte (a ++ c :: b) c + 1) = _
    rw [if_neg hx, ih, if_neg (by simp only [beq_iff_eq]; omega), List.length_cons]
    omega
theorem find_not (c : UInt8) : ∀ (a : List UInt8), c ∉ a → Lib.indexByte a c = -1
  | [], _ => rfl
  | x :: a, h => by
    have hx : ¬ (x == c) = true := fun e => h (by rw [eq_of_beq e]; simp)
    have ih := find_not c a (fun e => h (List.mem_cons_of_mem _ e))
    show (if x == c then (0 : Int) else if Lib.indexByte a c == -1 then -1 else Lib.indexByte a c + 1) = _
    rw [if_neg hx, ih, if_pos (by simp)]
theorem parted (c : UInt8) : ∀ (l : List UInt8), c ∉ l ∨ ∃ a b, c ∉ a ∧ l = a ++ c :: b
  | [] => .inl (by simp)
  | x :: l => by
    by_cases h : x = c
    · exact .inr ⟨[], l, by simp, by rw [h]; rfl⟩
    · rcases parted c l with h1 | ⟨a, b, h1, h2⟩
      · exact .inl (by simp only [List.mem_cons]; rintro (e | e); exact h e.symm; exact h1 e)
      · exact .inr ⟨x :: a, b, by simp only [List.mem_cons]; rintro (e | e); exact h e.symm; exact h1 e, by rw [h2]; rfl⟩
theorem num_mem {c : UInt8} {a : List UInt8} (h : c ∉ a) : c.toNat ∉ a.map UInt8.toNat := fun e => by
  obtain ⟨x, hx, hc⟩ := List.mem_map.1 e
  exact h (UInt8.toNat_inj.1 hc ▸ hx)
theorem split_list (c : UInt8) : ∀ (n : Nat) (l : List UInt8), l.length ≤ n → (Lib.splitK [c] 0 (l.count c) l).map (List.map UInt8.toNat) = Nt.cut c.toNat (l.map UInt8.toNat) := by
  intro n
  induction n with
  | zero =>
    intro l hl
    have : l = [] := List.eq_nil_of_length_eq_zero (by omega)
    subst this
    rfl
  | succ n ih =>
    intro l hl
    rcases parted c l with h | ⟨a, b, h, rfl⟩
    · rw [List.count_eq_zero.2 h]
      show [l.map UInt8.toNat] = Nt.cutFrom c.toNat [] (l.map UInt8.toNat)
      have := Nt.cutFrom_free c.toNat (l.map UInt8.toNat) [] [] (num_mem h)
      rw [List.append_nil, List.nil_append] at this
      rw [this]; rfl
    · have hc : (a ++ c :: b).count c = b.count c + 1 := by
        rw [List.count_append, List.count_eq_zero.2 h, List.count_cons_self]; omega
      have hi : Lib.index (a ++ c :: b) [c] = (a.length : Int) := by rw [Lib.index_one]; exact find_at c a b h
      rw [hc]
      unfold Lib.splitK
      rw [hi, if_neg (by simp only [beq_iff_eq]; omega), List.map_cons]
      have e1 : (a ++ c :: b).take (((a.length : Nat) : Int).toNat + 0) = a := by simp
      have e2 : (a ++ c :: b).drop (((a.length : Nat) : Int).toNat + [c].length) = b := by
        rw [Int.toNat_natCast, List.length_singleton, ← List.drop_drop, List.drop_left]; rfl
      rw [e1, e2, ih b (by simp at hl; omega), List.map_append, List.map_cons]
      show _ = Nt.cutFrom c.toNat [] _
      rw [Nt.cutFrom_free c.toNat _ _ [] (num_mem h), List.nil_append, Nt.cutFrom, if_pos rfl]
      rfl
theorem split_tx (c : UInt8) (s : ByteArray) : (Lib.splitB ⟨#[c]⟩ 0 (Lib.countB s ⟨#[c]⟩) s).map tx = Nt.cut c.toNat (tx s) := by
  have h1 := Lib.splitB_data ⟨#[c]⟩ 0 (Lib.countB s ⟨#[c]⟩) s
  have h2 : Lib.countB s ⟨#[c]⟩ = s.data.toList.count c := Lib.count_one c s.data.toList
  have h3 := split_list c s.data.toList.length s.data.toList (Nat.le_refl _)
  rw [show (⟨#[c]⟩ : ByteArray).data.toList = [c] from rfl] at h1
  rw [← h2, ← h1, List.map_map] at h3
  exact h3
theorem cut_list (c : UInt8) (a b : List UInt8) (h : c ∉ a) : Lib.cut (a ++ c :: b) [c] = (a, b, true) := by
  have hi : Lib.index (a ++ c :: b) [c] = (a.length : Int) := by rw [Lib.index_one]; exact find_at c a b h
  unfold Lib.cut
  rw [hi, if_pos (by omega)]
  have e1 : (a ++ c :: b).take (((a.length : Nat) : Int).toNat) = a := by simp
  have e2 : (a ++ c :: b).drop (((a.length : Nat) : Int).toNat + [c].length) = b := by
    rw [Int.toNat_natCast, List.length_singleton, ← List.drop_drop, List.drop_left]; rfl
  rw [e1, e2]
/-- The bytes of a text that numbers tell. -/
def bts (t : List Nat) : List UInt8 := t.map UInt8.ofNat
theorem bts_tx (s : ByteArray) : s.data.toList = bts (tx s) := by
  unfold bts tx
  rw [List.map_map]
  exact ((List.map_congr_left (fun x _ => by simp)).trans (List.map_id _)).symm
theorem bts_append (a b : List Nat) : bts (a ++ b) = bts a ++ bts b := by simp [bts]
theorem bts_mem {x : Nat} (hx : x < 256) {t : List Nat} (ht : ∀ y ∈ t, y < 256) (h : x ∉ t) : UInt8.ofNat x ∉ bts t := fun e => by
  obtain ⟨y, hy, e2⟩ := List.mem_map.1 e
  have h1 := congrArg UInt8.toNat e2
  rw [UInt8.toNat_ofNat', UInt8.toNat_ofNat', Nat.mod_eq_of_lt (ht y hy), Nat.mod_eq_of_lt hx] at h1
  exact h (h1 ▸ hy)
theorem tx_bts {t : List Nat} (ht : ∀ y ∈ t, y < 256) : (bts t).map UInt8.toNat = t := by
  unfold bts
  rw [List.map_map]
  refine (List.map_congr_left (fun y hy => ?_)).trans (List.map_id _)
  simp only [Function.comp, UInt8.toNat_ofNat']
  exact Nat.mod_eq_of_lt (ht y hy)
theorem digs_two {n : Nat} (h : n < 100) : Nt.digs n = if n < 10 then [48 + n] else [48 + n / 10, 48 + n % 10] := by
  by_cases h1 : n < 10
  · rw [if_pos h1, Nt.digs_small h1]
  · rw [if_neg h1, Nt.digs_more h1, Nt.digs_small (by omega)]; rfl
theorem atoi_digs : ∀ n, n < 60 → Lib.atoiAll (bts (Nt.digs n)) = .ok (n : Int) := by
  have h : ∀ n : Fin 60, Lib.atoiAll (bts (if n.val < 10 then [48 + n.val] else [48 + n.val / 10, 48 + n.val % 10])) = .ok (n.val : Int) := by decide +kernel
  intro n hn
  rw [digs_two (by omega)]
  exact h ⟨n, hn⟩
theorem dec_digs {n : Nat} (h : n < 100) : Lib.decDigits n = bts (Nt.digs n) := by
  rw [digs_two h]
  by_cases h1 : n < 10
  · rw [if_pos h1, Lib.decDigits_one h1]; rfl
  · rw [if_neg h1, Lib.decDigits_two h1 h]; rfl
theorem digs_lt (n : Nat) : ∀ y ∈ Nt.digs n, y < 256 := fun y hy => by have := Nt.digs_digit n y hy; omega
theorem join_list : ∀ (ps : List (List UInt8)), (Lib.join ps [44]).map UInt8.toNat = Nt.join 44 (ps.map (List.map UInt8.toNat))
  | [] => rfl
  | [p] => by rw [Lib.join_one]; rfl
  | p :: q :: r => by
    have ih := join_list (q :: r)
    rw [Lib.join_cons] at ih
    rw [Lib.join_cons, show Lib.joinTail [44] (q :: r) = 44 :: (q ++ Lib.joinTail [44] r) by simp [Lib.joinTail], List.map_append, List.map_cons, ih]
    rfl
theorem join_tx (ps : List ByteArray) : (Lib.join (ps.map (·.data.toList)) [44]).map UInt8.toNat = Nt.join 44 (ps.map tx) := by
  rw [join_list, List.map_map]
  rfl

/-- What the library reads of its variables. -/
def ErrW (w : World) : Prop := (∃ m, w.cell? ⟨0, 0, none⟩ = some (.int .i64 m)) ∧ (∃ te pe, w.cell? ⟨2, 0, none⟩ = some (.iface te pe)) ∧ ∃ te pe, w.cell? ⟨3, 0, none⟩ = some (.iface te pe)
theorem ErrW.stay {w w' : World} (h : ErrW w) (hk : Kept [] w w') : ErrW w' := by
  obtain ⟨⟨m, h1⟩, ⟨te, pe, h2⟩, ⟨te', pe', h3⟩⟩ := h
  exact ⟨⟨m, (hk.cell (World.block_lt_of_cell? w _ h1) (by simp)).trans h1⟩, ⟨te, pe, (hk.cell (World.block_lt_of_cell? w _ h2) (by simp)).trans h2⟩, ⟨te', pe', (hk.cell (World.block_lt_of_cell? w _ h3) (by simp)).trans h3⟩⟩

theorem split_any (s : ByteArray) (hs : s.size ≤ 2000000) (w : World) (he : ErrW w) :
    Calls Tryz.prog 81 #[.string s, .string ⟨#[44]⟩] w fun e w' => ∃ (g n : Nat) (ps : List ByteArray), e = .returned (.slice (some ⟨g, 0, none⟩) n n) ∧ Ts w' w.heap.size (.slice (some ⟨g, 0, none⟩) n n) ps ∧ ps.length = n ∧ ps.map tx = Nt.cut 44 (tx s) ∧ Kept [] w w' := by
  obtain ⟨⟨m, hm⟩, _, _⟩ := he
  refine (Tryz.strings_Split s ⟨#[44]⟩ m w (by omega) hm (by decide)).mono ?_
  rintro e w' ⟨rfl, rfl⟩
  have hl : (Lib.splitB ⟨#[44]⟩ 0 (Lib.countB s ⟨#[44]⟩) s).length = Lib.countB s ⟨#[44]⟩ + 1 := Lib.splitB_all ⟨#[44]⟩ (by decide) 0 _ s rfl
  have hc := Lib.countB_le ⟨#[44]⟩ (by decide) s.size s (Nat.le_refl _)
  refine ⟨_, _, _, rfl, ?_, hl, split_tx 44 s, (Kept.refl _ _).alloc _⟩
  have h := World.ownsRow_lit (base := w.heap.size) (e := 9) (size := 1) w ((Lib.splitB ⟨#[44]⟩ 0 (Lib.countB s ⟨#[44]⟩) s).map Value.string).toArray (Lib.countB s ⟨#[44]⟩ + 1) (Nat.le_refl _) (by unfold maxLen; omega) (by simp [hl])
  unfold Ts
  rw [hl]
  exact h

theorem cut_any (s : ByteArray) (hs : s.size ≤ 2000000) (w : World) (he : ErrW w) :
    Calls Tryz.prog 58 #[.string s, .string ⟨#[58]⟩] w fun e w' => ∃ (p q : ByteArray) (ok : Bool), e = .returned (.tuple #[.string p, .string q, .bool ok]) ∧ p.size ≤ 2000000 ∧ q.size ≤ 2000000 ∧ (∀ a b : Nat, tx s = Nt.digs a ++ 58 :: Nt.digs b → tx p = Nt.digs a ∧ tx q = Nt.digs b) ∧ (tx s = [] → tx p = []) ∧ Qt w w' := by
  obtain ⟨⟨m, hm⟩, _, _⟩ := he
  refine (Tryz.strings_Cut s ⟨#[58]⟩ m w (by omega) hm).mono ?_
  rintro e w' ⟨rfl, n, rfl⟩
  have hsz : s.data.toList.length ≤ 2000000 := by simpa using hs
  refine ⟨_, _, _, rfl, ?_, ?_, fun a b h => ?_, fun h => ?_, ⟨n, rfl⟩⟩
  · show ((Lib.cut s.data.toList [58]).1.toArray).size ≤ _
    rw [List.size_toArray]
    unfold Lib.cut
    split
    · simp only [List.length_take]; omega
    · exact hsz
  · show ((Lib.cut s.data.toList [58]).2.1.toArray).size ≤ _
    rw [List.size_toArray]
    unfold Lib.cut
    split
    · simp only [List.length_drop]; omega
    · simp
  · have h1 : s.data.toList = bts (Nt.digs a) ++ 58 :: bts (Nt.digs b) := by
      rw [bts_tx, h, bts_append]; rfl
    have h2 : (58 : UInt8) ∉ bts (Nt.digs a) := bts_mem (x := 58) (by omega) (digs_lt a) (Nt.digs_free (.inr (by omega)))
    have h3 : Lib.cut s.data.toList (⟨#[58]⟩ : ByteArray).data.toList = (bts (Nt.digs a), bts (Nt.digs b), true) := by
      rw [h1]; exact cut_list 58 _ _ h2
    rw [h3]
    exact ⟨by rw [tx_mk]; exact tx_bts (digs_lt a), by rw [tx_mk]; exact tx_bts (digs_lt b)⟩
  · have h1 : s.data.toList = [] := by rw [bts_tx, h]; rfl
    rw [h1]
    rfl

theorem atoi_any (s : ByteArray) (hs : s.size ≤ 2000000) (w : World) (he : ErrW w) :
    Calls Tryz.prog 142 #[.string s] w fun e w' => ∃ (v : Int) (ev : Value), e = .returned (.tuple #[.int .i64 v, ev]) ∧ (ev = .nilIface ∨ ∃ t p, ev = .iface t p) ∧ (∀ n : Nat, n < 60 → tx s = Nt.digs n → ev = .nilIface ∧ v = (n : Int)) ∧ (tx s = [] → ∃ t p, ev = .iface t p) ∧ Kept [] w w' := by
  obtain ⟨_, ⟨te, pe, h1⟩, ⟨te', pe', h2⟩⟩ := he
  have hd : ∀ n : Nat, n < 60 → tx s = Nt.digs n → Lib.atoiAll s.data.toList = .ok (n : Int) := fun n hn h => by rw [bts_tx, h]; exact atoi_digs n hn
  have h0 : tx s = [] → Lib.atoiAll s.data.toList = .syntax := fun h => by rw [bts_tx, h]; rfl
  cases hr : Lib.atoiAll s.data.toList with
  | ok v =>
    refine (Tryz.strconv_Atoi_ok s (by omega) v hr w).mono ?_
    rintro e w' ⟨rfl, hw⟩
    refine ⟨v, _, rfl, .inl rfl, fun n hn h => ⟨rfl, ?_⟩, fun h => ?_, ?_⟩
    · have := hd n hn h
      rw [hr] at this
      exact Lib.NumEnd.ok.inj this
    · rw [h0 h] at hr; cases hr
    · rcases hw with rfl | ⟨t, rfl⟩
      · exact Kept.refl _ _
      · exact Kept.of_below (Lib.bytesWorld_below _ _ _)
  | «syntax» =>
    refine (Tryz.strconv_Atoi_syntax s (by omega) hr _ w h1 (.inr ⟨te, pe, rfl⟩)).mono ?_
    rintro e w' ⟨N, rfl, _, _, hb⟩
    exact ⟨0, _, rfl, .inr ⟨_, _, rfl⟩, fun n hn h => (by rw [hd n hn h] at hr; cases hr), fun _ => ⟨_, _, rfl⟩, Kept.of_below hb⟩
  | range =>
    refine (Tryz.strconv_Atoi_range s (by omega) hr _ w h2 (.inr ⟨te', pe', rfl⟩)).mono ?_
    rintro e w' ⟨N, rfl, _, _, hb⟩
    exact ⟨_, _, rfl, .inr ⟨_, _, rfl⟩, fun n hn h => (by rw [hd n hn h] at hr; cases hr), fun _ => ⟨_, _, rfl⟩, Kept.of_below hb⟩

theorem itoa_any (n : Nat) (hn : n < 100) (w : World) :
    Calls Tryz.prog 70 #[.int .i64 (n : Int)] w fun e w' => ∃ z, e = .returned (.string z) ∧ tx z = Nt.digs n ∧ w = w' := by
  refine (Tryz.strconv_Itoa_small n hn w).mono ?_
  rintro e w' ⟨rfl, rfl⟩
  exact ⟨_, rfl, by rw [tx_mk, dec_digs hn]; exact tx_bts (digs_lt n), rfl⟩

/-- A number's text. -/
def itoaZ (n : Nat) : ByteArray := ⟨(Lib.decDigits n).toArray⟩
theorem tx_itoaZ {n : Nat} (hn : n < 100) : tx (itoaZ n) = Nt.digs n := by
  unfold itoaZ
  rw [tx_mk, dec_digs hn]; exact tx_bts (digs_lt n)
theorem itoaZ_any (n : Nat) (hn : n < 100) (w : World) :
    Calls Tryz.prog 70 #[.int .i64 (n : Int)] w fun e w' => e = .returned (.string (itoaZ n)) ∧ w = w' :=
  (Tryz.strconv_Itoa_small n hn w).mono fun _ _ h => ⟨h.1, h.2.symm⟩
def lightZ (l : Nat × Nat) : ByteArray := itoaZ l.1 ++ ⟨#[58]⟩ ++ itoaZ l.2
theorem tx_lightZ {l : Nat × Nat} (h1 : l.1 < 100) (h2 : l.2 < 100) : tx (lightZ l) = Nt.lightT l := by
  unfold lightZ Nt.lightT
  rw [tx_append, tx_append, tx_itoaZ h1, tx_itoaZ h2, List.append_assoc]
  rfl
/-- The texts of lights, laid up to k. -/
def textsTo (sc : List (Nat × Nat)) (k : Nat) : List ByteArray := (List.range sc.length).map fun i => if i < k then lightZ (sc.getD i (0, 0)) else ByteArray.empty
theorem textsTo_length (sc : List (Nat × Nat)) (k : Nat) : (textsTo sc k).length = sc.length := by simp [textsTo]
theorem textsTo_zero (sc : List (Nat × Nat)) : textsTo sc 0 = List.replicate sc.length ByteArray.empty := by
  unfold textsTo
  apply List.ext_getElem (by simp)
  intro i h1 h2
  simp
theorem textsTo_succ (sc : List (Nat × Nat)) (k : Nat) : textsTo sc (k + 1) = (textsTo sc k).set k (lightZ (sc.getD k (0, 0))) := by
  unfold textsTo
  apply List.ext_getElem (by simp)
  intro i h1 h2
  rw [List.getElem_set]
  simp only [List.getElem_map, List.getElem_range]
  by_cases e1 : k = i
  · subst e1; simp
  · rw [if_neg e1]
    by_cases h : i < k
    · rw [if_pos h, if_pos (by omega)]
    · rw [if_neg h, if_neg (by omega)]
theorem textsTo_all {m : Nat} {sc : List (Nat × Nat)} (so : Nt.SOk m sc) : (textsTo sc sc.length).map tx = sc.map Nt.lightT := by
  unfold textsTo
  rw [List.map_map]
  apply List.ext_getElem (by simp)
  intro i h1 h2
  have hi : i < sc.length := by simpa using h1
  simp only [List.getElem_map, List.getElem_range, Function.comp]
  rw [if_pos hi, List.getD_eq_getElem?_getD, List.getElem?_eq_getElem hi, Option.getD_some]
  have ht := so.time _ (List.getElem_mem hi)
  have hn := so.node _ (List.getElem_mem hi)
  have h6 := so.n6
  exact tx_lightZ (by omega) (by omega)
theorem tcells_set (xs : List ByteArray) (k : Nat) (x : ByteArray) : (tcells xs).set k (.string x) = tcells (xs.set k x) := by simp [tcells, List.map_set]
theorem Ts.set {w : World} {base g cap n : Nat} {xs : List ByteArray} (h : Ts w base (.slice (some ⟨g, 0, none⟩) n cap) xs) (hn : n = xs.length) (k : Nat) (x : ByteArray) :
    Ts (w.setCell ⟨g, k, none⟩ (.string x)) base (.slice (some ⟨g, 0, none⟩) n cap) (xs.set k x) := by
  subst hn
  have := (World.ownsRow.stored h k (.string x)).1
  unfold Ts
  rw [List.length_set, ← tcells_set]
  exact this
theorem Ts.at {w : World} {base g cap n : Nat} {xs : List ByteArray} (h : Ts w base (.slice (some ⟨g, 0, none⟩) n cap) xs) (k : Nat) (hk : k < xs.length) :
    w.cell? ⟨g, k, none⟩ = some (.string (atT xs k)) ∧ w.frozen? ⟨g, k, none⟩ = false := by
  rcases h.form with ⟨h1, rfl⟩ | ⟨g', cap', e, _, _, _, _, hcell, hfr⟩
  · simp at hk
  · simp only [Value.slice.injEq, Option.some.injEq, Addr.mk.injEq] at e
    obtain ⟨⟨rfl, _, _⟩, _, _⟩ := e
    exact ⟨hcell k hk, hfr k⟩
/-- 'make([]string, n)'. -/
theorem make_text {ops : Array Oper} {rest : List Oper} {o : Oper} {a : Act} {Q : Exit → Act → World → Prop} (w : World) (n : Nat)
    (hg : o.guard = none) (l c : Operand) (hop : o.op = Op.makeSlice 50 l c) (hl : a.eval l = .int .i64 n) (hc : a.eval c = .int .i64 n) (hn : n ≤ 4000000)
    (h : ∀ w', Ts w' w.heap.size (.slice (some ⟨w.heap.size, 0, none⟩) n n) (List.replicate n ByteArray.empty) → Kept [] w w' → w.heap.size < w'.heap.size →
      wpList Tryz.prog ops Q rest (a.put o.dst (.slice (some ⟨w.heap.size, 0, none⟩) n n)) w') : wpList Tryz.prog ops Q (o :: rest) a w := by
  obtain ⟨i0, hi, hz0, hz1, hz2⟩ := info_parts info_text
  refine wpList_make_full w hg l c _ hop w.heap.size 9 i0 (.string ByteArray.empty) 1 Tryz.underlying50 hi hz0 hz1 .i64 .i64 n n n hl hc rfl rfl (by rw [hz2]; omega) (by unfold maxLen; omega) (Nat.le_refl _) ?_
  intro w' h1 h2
  have hs : Ts w' w.heap.size (.slice (some ⟨w.heap.size, 0, none⟩) n n) (List.replicate n ByteArray.empty) := by
    unfold Ts
    have e : tcells (List.replicate n ByteArray.empty) = (madeCells (Value.string ByteArray.empty).cells (n * 1)).toList := by
      rw [show (Value.string ByteArray.empty).cells = #[Value.string ByteArray.empty] from rfl, toList_madeCells_one]
      simp [tcells]
    rw [List.length_replicate, e]
    exact h1
  exact h w' hs ((Kept.refl _ _).grown h2 (by simp)) (hs.block (g := w.heap.size) rfl).2

theorem join_any (ps : List ByteArray) (n : Nat) (hn : ps.length = n) (h1000 : n ≤ 1000) (hl : (Nt.join 44 (ps.map tx)).length ≤ 100000) (w : World) (base g cap : Nat) (hs : Ts w base (.slice (some ⟨g, 0, none⟩) n cap) ps) (hp : 0 < n) :
    Calls Tryz.prog 72 #[.slice (some ⟨g, 0, none⟩) n cap, .string ⟨#[44]⟩] w fun e w' => ∃ z, e = .returned (.string z) ∧ tx z = Nt.join 44 (ps.map tx) ∧ Kept [] w w' := by
  subst hn
  have hcap : ps.length ≤ cap := by
    obtain ⟨a, c, e, h, _, _⟩ := hs.any
    simp at e
    omega
  refine (Tryz.strings_Join g 0 cap ps ⟨#[44]⟩ w (fun j x hj => ?_) (hs.block (g := g) rfl).2 (by omega) hcap ?_).mono ?_
  · have hj' : j < ps.length := (List.getElem?_eq_some_iff.1 hj).1
    rw [Nat.zero_add, (hs.at j hj').1, atT_get hj']
    rw [List.getElem?_eq_getElem hj'] at hj
    rw [Option.some.inj hj]
  · have h := congrArg List.length (join_tx ps)
    rw [List.length_map] at h
    show (Lib.join (ps.map (·.data.toList)) [44]).length ≤ _
    omega
  · rintro e w' ⟨rfl, hb⟩
    exact ⟨_, rfl, by rw [tx_mk]; exact join_tx ps, Kept.of_below hb⟩
theorem cut_part (sep : Nat) (s : List Nat) : ∀ p ∈ Nt.cut sep s, p.length ≤ s.length := by
  have h : ∀ (s seen : List Nat), ∀ p ∈ Nt.cutFrom sep seen s, p.length ≤ seen.length + s.length := by
    intro s
    induction s with
    | nil => intro seen p hp; simp [Nt.cutFrom] at hp; rw [hp]; simp
    | cons x r ih =>
      intro seen p hp
      unfold Nt.cutFrom at hp
      split at hp
      · rw [List.mem_cons] at hp
        rcases hp with rfl | hp
        · omega
        · have := ih [] p hp; simp at this ⊢; omega
      · have := ih _ p hp; simp at this ⊢; omega
  intro p hp
  have := h s [] p hp
  simpa using this
end Go.Proofs.YtnajdbnacdnnlaaGreatDoor

namespace Go.Proofs.YtnajdbnacdnnlaaGreatDoor
open Go.RowKit

theorem cut_gone (c : UInt8) (l : List UInt8) (h : c ∉ l) : Lib.cut l [c] = (l, [], false) := by
  have hi : Lib.index l [c] = -1 := by rw [Lib.index_one]; exact find_not c l h
  unfold Lib.cut
  rw [hi, if_neg (by omega)]
theorem cut_parted (c : UInt8) (s : ByteArray) : Nt.Parted c.toNat (tx s) (tx ⟨(Lib.cut s.data.toList [c]).1.toArray⟩) (tx ⟨(Lib.cut s.data.toList [c]).2.1.toArray⟩) (Lib.cut s.data.toList [c]).2.2 := by
  rcases parted c s.data.toList with h | ⟨a, b, h, e⟩
  · rw [cut_gone c _ h]
    exact .inr ⟨rfl, num_mem h, tx_mk _, tx_mk _⟩
  · have e2 : tx s = a.map UInt8.toNat ++ c.toNat :: b.map UInt8.toNat := by unfold tx; rw [e]; simp
    rw [e, cut_list c a b h]
    refine .inl ⟨rfl, ?_, ?_⟩
    · show c.toNat ∉ tx ⟨a.toArray⟩
      rw [tx_mk]; exact num_mem h
    · show tx s = tx ⟨a.toArray⟩ ++ c.toNat :: tx ⟨b.toArray⟩
      rw [e2, tx_mk, tx_mk]

theorem cut32_any (s : ByteArray) (hs : s.size ≤ 2000000) (w : World) (he : ErrW w) :
    Calls Tryz.prog 58 #[.string s, .string ⟨#[32]⟩] w fun e w' => ∃ (p q : ByteArray) (ok : Bool), e = .returned (.tuple #[.string p, .string q, .bool ok]) ∧ Nt.Parted 32 (tx s) (tx p) (tx q) ok ∧ Qt w w' := by
  obtain ⟨⟨m, hm⟩, _, _⟩ := he
  refine (Tryz.strings_Cut s ⟨#[32]⟩ m w (by omega) hm).mono ?_
  rintro e w' ⟨rfl, n, rfl⟩
  exact ⟨_, _, _, rfl, cut_parted 32 s, ⟨n, rfl⟩⟩

theorem cut10_any (s : ByteArray) (hs : s.size ≤ 2000000) (w : World) (he : ErrW w) :
    Calls Tryz.prog 58 #[.string s, .string ⟨#[10]⟩] w fun e w' => ∃ (p q : ByteArray) (ok : Bool), e = .returned (.tuple #[.string p, .string q, .bool ok]) ∧ Nt.Parted 10 (tx s) (tx p) (tx q) ok ∧ Qt w w' := by
  obtain ⟨⟨m, hm⟩, _, _⟩ := he
  refine (Tryz.strings_Cut s ⟨#[10]⟩ m w (by omega) hm).mono ?_
  rintro e w' ⟨rfl, n, rfl⟩
  exact ⟨_, _, _, rfl, cut_parted 10 s, ⟨n, rfl⟩⟩

theorem split32_any (s : ByteArray) (hs : s.size ≤ 2000000) (w : World) (he : ErrW w) :
    Calls Tryz.prog 81 #[.string s, .string ⟨#[32]⟩] w fun e w' => ∃ (g n : Nat) (ps : List ByteArray), e = .returned (.slice (some ⟨g, 0, none⟩) n n) ∧ Ts w' w.heap.size (.slice (some ⟨g, 0, none⟩) n n) ps ∧ ps.length = n ∧ ps.map tx = Nt.cut 32 (tx s) ∧ Kept [] w w' := by
  obtain ⟨⟨m, hm⟩, _, _⟩ := he
  refine (Tryz.strings_Split s ⟨#[32]⟩ m w (by omega) hm (by decide)).mono ?_
  rintro e w' ⟨rfl, rfl⟩
  have hl : (Lib.splitB ⟨#[32]⟩ 0 (Lib.countB s ⟨#[32]⟩) s).length = Lib.countB s ⟨#[32]⟩ + 1 := Lib.splitB_all ⟨#[32]⟩ (by decide) 0 _ s rfl
  have hc := Lib.countB_le ⟨#[32]⟩ (by decide) s.size s (Nat.le_refl _)
  refine ⟨_, _, _, rfl, ?_, hl, split_tx 32 s, (Kept.refl _ _).alloc _⟩
  have h := World.ownsRow_lit (base := w.heap.size) (e := 9) (size := 1) w ((Lib.splitB ⟨#[32]⟩ 0 (Lib.countB s ⟨#[32]⟩) s).map Value.string).toArray (Lib.countB s ⟨#[32]⟩ + 1) (Nat.le_refl _) (by unfold maxLen; omega) (by simp [hl])
  unfold Ts
  rw [hl]
  exact h

theorem atoi_digs99 : ∀ n, n < 100 → Lib.atoiAll (bts (Nt.digs n)) = .ok (n : Int) := by
  have h : ∀ n : Fin 100, Lib.atoiAll (bts (if n.val < 10 then [48 + n.val] else [48 + n.val / 10, 48 + n.val % 10])) = .ok (n.val : Int) := by decide +kernel
  intro n hn
  rw [digs_two hn]
  exact h ⟨n, hn⟩

theorem atoiN_any (s : ByteArray) (hs : s.size ≤ 2000000) (w : World) (he : ErrW w) :
    Calls Tryz.prog 142 #[.string s] w fun e w' => ∃ (v : Int) (ev : Value), e = .returned (.tuple #[.int .i64 v, ev]) ∧ (ev = .nilIface ∨ ∃ t p, ev = .iface t p) ∧ Nt.NumOf (tx s) v ∧ Kept [] w w' := by
  obtain ⟨_, ⟨te, pe, h1⟩, ⟨te', pe', h2⟩⟩ := he
  have hd : ∀ n : Nat, n < 100 → tx s = Nt.digs n → Lib.atoiAll s.data.toList = .ok (n : Int) := fun n hn h => by rw [bts_tx, h]; exact atoi_digs99 n hn
  have h0 : tx s = [] → Lib.atoiAll s.data.toList = .syntax := fun h => by rw [bts_tx, h]; rfl
  cases hr : Lib.atoiAll s.data.toList with
  | ok v =>
    refine (Tryz.strconv_Atoi_ok s (by omega) v hr w).mono ?_
    rintro e w' ⟨rfl, hw⟩
    refine ⟨v, _, rfl, .inl rfl, ⟨fun n hn h => ?_, fun h => ?_⟩, ?_⟩
    · have := hd n hn h
      rw [hr] at this
      exact Lib.NumEnd.ok.inj this
    · rw [h0 h] at hr; cases hr
    · rcases hw with rfl | ⟨t, rfl⟩
      · exact Kept.refl _ _
      · exact Kept.of_below (Lib.bytesWorld_below _ _ _)
  | «syntax» =>
    refine (Tryz.strconv_Atoi_syntax s (by omega) hr _ w h1 (.inr ⟨te, pe, rfl⟩)).mono ?_
    rintro e w' ⟨N, rfl, _, _, hb⟩
    exact ⟨0, _, rfl, .inr ⟨_, _, rfl⟩, ⟨fun n hn h => (by rw [hd n hn h] at hr; cases hr), fun _ => rfl⟩, Kept.of_below hb⟩
  | range =>
    refine (Tryz.strconv_Atoi_range s (by omega) hr _ w h2 (.inr ⟨te', pe', rfl⟩)).mono ?_
    rintro e w' ⟨N, rfl, _, _, hb⟩
    exact ⟨_, _, rfl, .inr ⟨_, _, rfl⟩, ⟨fun n hn h => (by rw [hd n hn h] at hr; cases hr), fun h => (by rw [h0 h] at hr; cases hr)⟩, Kept.of_below hb⟩

/-! Texts put together: with a sign between two, or with nothing. -/
theorem join_listC (c : UInt8) : ∀ (ps : List (List UInt8)), (Lib.join ps [c]).map UInt8.toNat = Nt.join c.toNat (ps.map (List.map UInt8.toNat))
  | [] => rfl
  | [p] => by rw [Lib.join_one]; rfl
  | p :: q :: r => by
    have ih := join_listC c (q :: r)
    rw [Lib.join_cons] at ih
    rw [Lib.join_cons, show Lib.joinTail [c] (q :: r) = c :: (q ++ Lib.joinTail [c] r) by simp [Lib.joinTail], List.map_append, List.map_cons, ih]
    rfl
theorem join_list0 (ps : List (List UInt8)) : (Lib.join ps []).map UInt8.toNat = (ps.map (List.map UInt8.toNat)).flatten := by
  cases ps with
  | nil => rfl
  | cons p r =>
    rw [Lib.join_cons]
    unfold Lib.joinTail
    simp [List.map_flatten]
/-- What a text put between texts makes of them. -/
def JoinAs (sep : ByteArray) (J : List (List Nat) → List Nat) : Prop := ∀ ps : List (List UInt8), (Lib.join ps sep.data.toList).map UInt8.toNat = J (ps.map (List.map UInt8.toNat))
theorem joinAs32 : JoinAs ⟨#[32]⟩ (Nt.join 32) := join_listC 32
theorem joinAs44 : JoinAs ⟨#[44]⟩ (Nt.join 44) := join_listC 44
theorem joinAs0 : JoinAs ⟨#[]⟩ List.flatten := join_list0
theorem joinG_any {sep : ByteArray} {J : List (List Nat) → List Nat} (hJ : JoinAs sep J) (ps : List ByteArray) (n : Nat) (hn : ps.length = n) (h1000 : n ≤ 4000000) (hl : (J (ps.map tx)).length ≤ 1000000000) (w : World) (base g cap : Nat) (hs : Ts w base (.slice (some ⟨g, 0, none⟩) n cap) ps) :
    Calls Tryz.prog 72 #[.slice (some ⟨g, 0, none⟩) n cap, .string sep] w fun e w' => ∃ z, e = .returned (.string z) ∧ tx z = J (ps.map tx) ∧ Kept [] w w' := by
  subst hn
  have hcap : ps.length ≤ cap := by
    obtain ⟨a, c, e, h, _, _⟩ := hs.any
    simp at e
    omega
  have hj := hJ (ps.map (·.data.toList))
  rw [List.map_map] at hj
  refine (Tryz.strings_Join g 0 cap ps sep w (fun j x hj => ?_) (hs.block (g := g) rfl).2 (by omega) hcap ?_).mono ?_
  · have hj' : j < ps.length := (List.getElem?_eq_some_iff.1 hj).1
    rw [Nat.zero_add, (hs.at j hj').1, atT_get hj']
    rw [List.getElem?_eq_getElem hj'] at hj
    rw [Option.some.inj hj]
  · have h := congrArg List.length hj
    rw [List.length_map] at h
    have h2 : (J (ps.map tx)).length = (J (List.map (List.map UInt8.toNat ∘ fun x => x.data.toList) ps)).length := rfl
    omega
  · rintro e w' ⟨rfl, hb⟩
    exact ⟨_, rfl, by rw [tx_mk]; exact hj, Kept.of_below hb⟩
theorem Ts.tx_all {w : World} {base : Nat} {v : Value} {ps : List ByteArray} (_h : Ts w base v ps) {n : Nat} (hn : ps.length = n) {T : Nat → List Nat} (hT : ∀ k, k < n → tx (atT ps k) = T k) : ps.map tx = (List.range n).map T := by
  apply List.ext_getElem (by simp [hn])
  intro i h1 h2
  have hi : i < ps.length := by simpa using h1
  rw [List.getElem_map, List.getElem_map, List.getElem_range, ← hT i (by omega), atT_get hi]
theorem flat_length {ps : List (List Nat)} {m : Nat} (h : ∀ p ∈ ps, p.length ≤ m) : ps.flatten.length ≤ ps.length * m := by
  induction ps with
  | nil => simp
  | cons p r ih =>
    have h1 := h p (by simp)
    have h2 := ih (fun q hq => h q (by simp [hq]))
    rw [List.flatten_cons, List.length_append, List.length_cons, Nat.succ_mul]
    omega
theorem atT_set {ps : List ByteArray} {k j : Nat} {x : ByteArray} (hk : k < ps.length) : atT (ps.set k x) j = if j = k then x else atT ps j := by
  unfold atT
  rw [List.getD_eq_getElem?_getD, List.getElem?_set]
  by_cases h : k = j
  · subst h; simp [hk]
  · rw [if_neg h, if_neg (fun e => h e.symm), List.getD_eq_getElem?_getD]
end Go.Proofs.YtnajdbnacdnnlaaGreatDoor

namespace Go.Proofs.YtnajdbnacdnnlaaGreatDoor
open Go.RowKit

set_option maxHeartbeats 2000000 in
set_option maxRecDepth 100000 in
theorem joinedNumbers_any (xs : List Int) (n : Nat) (hn : xs.length = n) (h1000 : n ≤ 1000) (T : Nat → List Nat) {sep : ByteArray} {J : List (List Nat) → List Nat} (hJ : JoinAs sep J) (hJL : (J ((List.range n).map T)).length ≤ 1000000000)
    (w : World) (v : Value) (base : Nat) (hs : Sl w base v xs)
    (hI : ∀ k, k < n → ∀ W, Kept [] w W → Calls Tryz.prog 70 #[.int .i64 (xs.getD k 0)] W fun e w' => ∃ z, e = .returned (.string z) ∧ tx z = T k ∧ Kept [] W w') :
    Calls Tryz.prog 144 #[v, .string sep] w fun e w' => ∃ z, e = .returned (.string z) ∧ tx z = J ((List.range n).map T) ∧ Kept [] w w' := by
  have HI := Lib.hid hI
  have HJ := Lib.hid hJ
  have HJL := Lib.hid hJL
  obtain ⟨a, cap, rfl, _, hm, hc⟩ := hs.any
  rw [hn] at hc hm ⊢
  have HC := Lib.hid hc
  clear hs hI hJ hJL hc hn
  go_enter Tryz.func144, Tryz.ntmps144
  go_wp2_with (at_make; refine make_text _ n rfl _ _ rfl rfl rfl (by omega) ?_; intro w2 hs2 hk2 _; have HT2 := Lib.hid hs2; have HK2 := Lib.hid hk2; clear hs2 hk2)
  go_loopw [13] (fun i wr => ∃ (k : Nat) (ps : List ByteArray), k ≤ n ∧ i = .int .i64 k ∧ Ts wr w.heap.size (.slice (some ⟨w.heap.size, 0, none⟩) n n) ps ∧ ps.length = n ∧ (∀ j, j < k → tx (atT ps j) = T j) ∧ Kept [] w wr) (fun i _ => n - (intOf i).toNat)
  case atStart => exact ⟨0, _, Nat.zero_le _, rfl, HT2.out, by simp, fun j hj => absurd hj (by omega), HK2.out⟩
  case round =>
    clear HT2 HK2
    obtain ⟨k, ps, hk, rfl, hts, hpl, hpt, hkept⟩ := hrel
    have HTS := Lib.hid hts
    have HPL := Lib.hid hpl
    have HPT := Lib.hid hpt
    have HK := Lib.hid hkept
    by_cases hlt : k < n
    · obtain ⟨g, rfl, _, hg, c1, _⟩ := HC.out k hlt
      have k1 := (hkept.cell (p := ⟨g, k, none⟩) hg (by simp)).trans c1
      have HI1 := Lib.hid (HI.out k hlt)
      generalize xs.getD k 0 = x at *
      clear hts hpl hpt hkept c1
      go_wp2_with fail
      refine (HI1.out _ HK.out).mono ?_
      rintro e w3 ⟨z, rfl, hz, hk3⟩
      have HZ := Lib.hid hz
      have HK3 := Lib.hid (HK.out.trans hk3 (by simp))
      have HTS3 := Lib.hid (HTS.out.stay hk3)
      obtain ⟨q1, q2⟩ := HTS3.out.at k (by rw [HPL.out]; exact hlt)
      have HNX : Hid (∀ j, j < k + 1 → tx (atT (ps.set k z) j) = T j) := Lib.hid (fun j hj => by
        rw [atT_set (by rw [HPL.out]; exact hlt)]
        by_cases e : j = k
        · rw [if_pos e, e]; exact HZ.out
        · rw [if_neg e]; exact HPT.out j (by omega))
      clear hz hk3 k1
      go_wp2
      go_roundw
      case rel => exact ⟨k + 1, ps.set k z, by omega, by go_num, HTS3.out.set HPL.out.symm k z, by rw [List.length_set]; exact HPL.out, HNX.out, HK3.out.setCell (.inr (Nat.le_refl _)) _⟩
      case measure => simp [intOf]; omega
    · have hk' : n = k := by omega
      subst hk'
      have HM : Hid (ps.map tx = (List.range n).map T) := Lib.hid (hts.tx_all hpl hpt)
      clear hts hpl hpt hkept
      go_wp2_with fail
      refine (joinG_any HJ.out ps n HPL.out (by omega) (by rw [HM.out]; exact HJL.out) _ _ _ _ HTS.out).mono ?_
      rintro e w7 ⟨z, rfl, hz, hk7⟩
      have HZ := Lib.hid hz
      have HK7 := Lib.hid (HK.out.trans hk7 (by simp))
      clear hz hk7
      go_wp2
      go_ret
      exact ⟨_, rfl, by rw [HZ.out, HM.out], HK7.out⟩

/-- The same of small numbers. -/
theorem itoaS_any (n : Nat) (hn : n < 100) (w : World) :
    Calls Tryz.prog 70 #[.int .i64 (n : Int)] w fun e w' => ∃ z, e = .returned (.string z) ∧ tx z = Nt.digs n ∧ Kept [] w w' :=
  (itoa_any n hn w).mono fun _ _ h => by obtain ⟨z, h1, h2, rfl⟩ := h; exact ⟨z, h1, h2, Kept.refl _ _⟩
theorem flat_kind {ks : List Nat} (h : ∀ k, k < ks.length → ks.getD k 0 < 10) : ((List.range ks.length).map fun k => Nt.digs (ks.getD k 0)).flatten = Nt.kindT ks := by
  have e : ((List.range ks.length).map fun k => Nt.digs (ks.getD k 0)) = ks.map fun x => [48 + x] := by
    apply List.ext_getElem (by simp)
    intro i h1 h2
    have hi : i < ks.length := by simpa using h1
    have h3 := h i hi
    rw [List.getD_eq_getElem?_getD, List.getElem?_eq_getElem hi, Option.getD_some] at h3
    simp only [List.getElem_map, List.getElem_range]
    rw [List.getD_eq_getElem?_getD, List.getElem?_eq_getElem hi, Option.getD_some, Nt.digs_small h3]
  rw [e]
  unfold Nt.kindT
  induction ks with
  | nil => rfl
  | cons x r ih =>
    rw [List.map_cons, List.flatten_cons, List.map_cons]
    have h2 : ∀ k, k < r.length → r.getD k 0 < 10 := fun k hk => by simpa using h (k + 1) (by simpa using hk)
    have e2 : ((List.range r.length).map fun k => Nt.digs (r.getD k 0)) = r.map fun x => [48 + x] := by
      apply List.ext_getElem (by simp)
      intro i h1 h3
      have hi : i < r.length := by simpa using h1
      have h4 := h2 i hi
      rw [List.getD_eq_getElem?_getD, List.getElem?_eq_getElem hi, Option.getD_some] at h4
      simp only [List.getElem_map, List.getElem_range]
      rw [List.getD_eq_getElem?_getD, List.getElem?_eq_getElem hi, Option.getD_some, Nt.digs_small h4]
    rw [ih h2 e2]; rfl
/-- Digits one behind the other. -/
theorem kinds_any (ks : List Nat) (hl : ks.length ≤ 1000) (h : ∀ k, k < ks.length → ks.getD k 0 < 10) (w : World) (v : Value) (base : Nat) (hs : Sl w base v (Nt.nats ks)) :
    Calls Tryz.prog 144 #[v, .string ⟨#[]⟩] w fun e w' => ∃ z, e = .returned (.string z) ∧ tx z = Nt.kindT ks ∧ Kept [] w w' := by
  have hm : ∀ p ∈ (List.range ks.length).map (fun k => Nt.digs (ks.getD k 0)), p.length ≤ 1 := by
    intro p hp
    obtain ⟨k, hk, rfl⟩ := List.mem_map.1 hp
    rw [Nt.digs_small (h k (List.mem_range.1 hk))]; simp
  have h1 := joinedNumbers_any (Nt.nats ks) ks.length (Nt.nats_length ks) hl (fun k => Nt.digs (ks.getD k 0)) joinAs0 (by
    have := flat_length hm
    rw [List.length_map, List.length_range] at this
    omega) w v base hs (fun k hk W _ => by rw [Nt.nats_get]; exact itoaS_any _ (by have := h k hk; omega) W)
  rw [flat_kind h] at h1
  exact h1

set_option maxHeartbeats 4000000 in
set_option maxRecDepth 100000 in
theorem pairsText_any (ns : List Nat) (ok : Nt.Ok ns) (w : World) (v : Value) (base : Nat) (hs : Sl w base v (Nt.nats ns)) :
    Calls Tryz.prog 143 #[v] w fun e w' => ∃ z, e = .returned (.string z) ∧ tx z = Nt.wireT ns ∧ Kept [] w w' := by
  obtain ⟨n, hn⟩ : ∃ n, n = ns.length := ⟨_, rfl⟩
  have hp : 0 < n := by rw [hn]; exact ok.some
  have h6 : n ≤ 6 := by rw [hn]; exact ok.few
  obtain ⟨g1, q1, rfl, hg1, hc1⟩ := hs.row (n := n) (by rw [hn]) hp
  have HC1 := Lib.hid hc1
  have HWS := Lib.hid (fun k => Nt.wsTo_first ns k)
  have HWE : Hid (∀ k, Nt.wsTo ns k n = Nt.wiresL ns (k + 1)) := Lib.hid (fun k => by rw [hn]; exact Nt.wsTo_end ns k)
  have HWY := Lib.hid (fun k j => @Nt.wsTo_yes ns k j)
  have HWN := Lib.hid (fun k j => @Nt.wsTo_no ns k j)
  have HWL : Hid (∀ k j, k ≤ 6 → j ≤ 6 → (Nt.wsTo ns k j).length ≤ 42) := Lib.hid (fun k j hk hj => by
    have h2 := Nt.wiresL_length ns k
    have h3 := Nt.rowW_length ns k j
    have : k * ns.length ≤ 6 * 6 := Nat.mul_le_mul hk (by omega)
    unfold Nt.wsTo
    rw [List.length_append]
    omega)
  have HWA : Hid (Nt.wireT ns = if Nt.wiresL ns n = [] then [46] else Nt.join 44 (Nt.wiresL ns n)) := Lib.hid (by rw [hn]; rfl)
  have HJL : Hid ((Nt.join 44 (Nt.wiresL ns n)).length ≤ 200) := Lib.hid (by
    have h := Nt.wjoin_small ns (by omega) (k := n - 1) (j := n) (by omega) (by omega)
    rw [HWE.out, show n - 1 + 1 = n by omega] at h
    exact h)
  have HT0 := Lib.hid (Ts.empty w)
  have HA0 := Lib.hid ((Kept.refl [] w).alloc (.cells #[] 9))
  clear hs hc1 hn ok
  go_enter Tryz.func143, Tryz.ntmps143
  go_wp2
  go_loopw [3, 10] (fun u i wr => ∃ (k : Nat) (ps : List ByteArray), k ≤ n ∧ i = .int .i64 k ∧ Ts wr w.heap.size u ps ∧ ps.map tx = Nt.wiresL ns k ∧ Kept [] w wr) (fun _ i _ => n - (intOf i).toNat)
  case atStart => exact ⟨0, [], Nat.zero_le _, rfl, HT0.out, rfl, HA0.out⟩
  case round =>
    clear HT0 HA0
    obtain ⟨k, ps, hk, rfl, hts, hpm, hkept⟩ := hrel
    have HTS := Lib.hid hts
    have HPM := Lib.hid hpm
    have HK := Lib.hid hkept
    by_cases hlt : k < n
    · have ck := (hkept.cell (p := ⟨g1, k, none⟩) hg1 (by simp)).trans (HC1.out k hlt)
      have HNY := Lib.hid (fun j (hj : k < j) => HWY.out k j hj)
      have HNN := Lib.hid (fun j (hj : k < j) => HWN.out k j hj)
      generalize ns.getD k 0 = r at *
      have HLT := Lib.hid hlt
      clear hts hpm hkept
      obtain ⟨wo, hwo⟩ : ∃ wo : World, wo = wr := ⟨_, rfl⟩
      subst hwo
      go_wp2_with fail
      go_loopw [3, 6] (fun u i wr => ∃ (j : Nat) (ps : List ByteArray), k + 1 ≤ j ∧ j ≤ n ∧ i = .int .i64 j ∧ Ts wr w.heap.size u ps ∧ ps.map tx = Nt.wsTo ns k j ∧ Kept [] w wr) (fun _ i _ => n - (intOf i).toNat)
      case atStart => exact ⟨k + 1, ps, Nat.le_refl _, by omega, by go_num, HTS.out, by rw [HWS.out]; exact HPM.out, HK.out⟩
      case round =>
        clear HTS HPM HK
        obtain ⟨j, ps, hkj, hj, rfl, hts, hpm, hkept⟩ := hrel
        have HTS := Lib.hid hts
        have HPM := Lib.hid hpm
        have HK := Lib.hid hkept
        obtain ⟨ua, ucap, rfl, _, _, _⟩ := hts.any
        by_cases hlj : j < n
        · have HPL : Hid (ps.length ≤ 42) := Lib.hid (by rw [← List.length_map tx, hpm]; exact HWL.out k j (by omega) (by omega))
          have hpl : ps.length ≤ 42 := HPL.out
          clear hts hpm hkept
          go_wp2_with fail
          refine (hasNode_nat r j _ (by omega)).mono ?_
          rintro e w' ⟨rfl, rfl⟩
          cases hb : r.testBit j
          · have HE := Lib.hid (HNN.out j (by omega) hb)
            clear hb
            go_wp2
            go_roundw
            case rel => exact ⟨j + 1, ps, by omega, by omega, by go_num, HTS.out, by rw [HE.out]; exact HPM.out, HK.out⟩
            case measure => simp [intOf]; omega
          · have HE := Lib.hid (HNY.out j (by omega) hb)
            have hlit := Sl.lit wr (Nt.nats [k, j]) (by simp [Nt.nats])
            have hkl : Kept [] wr (wr.alloc (.cells (ints (Nt.nats [k, j])).toArray 3)) := (Kept.refl [] wr).alloc _
            have HLIT := Lib.hid hlit
            have HTS1 := Lib.hid (HTS.out.stay hkl)
            have HK1 := Lib.hid (HK.out.trans hkl (by simp))
            clear hb hlit hkl
            go_wp2_with fail
            refine (kinds_any [k, j] (by simp) (fun i hi => by
              have : i = 0 ∨ i = 1 := by simp at hi; omega
              rcases this with rfl | rfl
              · simp; omega
              · simp; omega) _ _ _ HLIT.out).mono ?_
            rintro e w5 ⟨z, rfl, hz, hk5⟩
            have HZ : Hid (tx z = [48 + k, 48 + j]) := Lib.hid hz
            have HTS5 := Lib.hid (HTS1.out.stay hk5)
            have HK5 := Lib.hid (HK1.out.trans hk5 (by simp))
            have hsz := HK5.out.size
            clear hz hk5
            go_wp2_with (at_builtin; refine app_text _ rfl _ _ rfl w.heap.size _ _ HTS5.out rfl rfl (by omega) hsz ?_; intro u9 w9 hs9 hk9; have HS9 := Lib.hid hs9; have HK9 := Lib.hid (HK5.out.own hk9 (fun g hg => (HTS5.out.block hg).1)); clear hs9 hk9)
            go_roundw
            case rel => exact ⟨j + 1, _, by omega, by omega, by go_num, HS9.out, by rw [HE.out, List.map_append, HPM.out, List.map_singleton, HZ.out], HK9.out⟩
            case measure => simp [intOf]; omega
        · have hj' : n = j := by omega
          subst hj'
          clear hts hpm hkept
          go_wp2
          go_roundw
          case rel => exact ⟨k + 1, ps, by have := HLT.out; omega, by go_num, HTS.out, by rw [← HWE.out]; exact HPM.out, HK.out⟩
          case measure => simp [intOf]; omega
    · have hk' : n = k := by omega
      subst hk'
      obtain ⟨L, hL⟩ : ∃ L, ps.length = L := ⟨_, rfl⟩
      obtain ⟨ua, ucap, rfl, _, _, hcu⟩ := hts.any
      rw [hL] at hcu HTS ⊢
      by_cases h0 : L = 0
      · have hps : ps = [] := List.eq_nil_of_length_eq_zero (by omega)
        have HW : Hid (tx ⟨#[46]⟩ = Nt.wireT ns) := Lib.hid (by rw [HWA.out, if_pos (by rw [← hpm, hps]; rfl)]; rfl)
        subst h0
        clear hts hpm hkept hps hL hcu
        go_wp2
        go_ret
        exact ⟨_, rfl, HW.out, HK.out⟩
      · obtain ⟨gu, rfl, _⟩ := hcu 0 (by omega)
        have hne0 : ((L : Int) == 0) = false := beq_eq_false_iff_ne.2 (by omega)
        have HW : Hid (Nt.join 44 (ps.map tx) = Nt.wireT ns) := Lib.hid (by rw [HWA.out, if_neg (fun e => h0 (by rw [← hL, ← List.length_map tx, hpm, e]; rfl)), hpm])
        have HL42 : Hid (L ≤ 42) := Lib.hid (by
          have h := HWL.out (n - 1) n (by omega) (by omega)
          rw [HWE.out, show n - 1 + 1 = n by omega, ← hpm, List.length_map] at h
          omega)
        have HJ2 : Hid ((Nt.join 44 (ps.map tx)).length ≤ 1000000000) := Lib.hid (by rw [hpm]; exact Nat.le_trans HJL.out (by omega))
        have HLL := Lib.hid hL
        clear hts hpm hkept hL hcu h0
        go_wp2_with fail
        refine (joinG_any joinAs44 ps L HLL.out (by have := HL42.out; omega) HJ2.out _ _ _ _ HTS.out).mono ?_
        rintro e w7 ⟨z, rfl, hz, hk7⟩
        have HZ := Lib.hid hz
        have HK7 := Lib.hid (HK.out.trans hk7 (by simp))
        clear hz hk7
        go_wp2
        go_ret
        exact ⟨_, rfl, by rw [HZ.out, HW.out], HK7.out⟩
end Go.Proofs.YtnajdbnacdnnlaaGreatDoor
