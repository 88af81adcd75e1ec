/-
  The library's functions on texts, for places and deeds: parted at a space or a newline, numbers of one or two digits, texts put together.
-/
import Derived.Test.YtnajdbnacdnnlaaGreatDoorSH
import Derived.Test.YtnajdbnacdnnlaaGreatDoorPureJL
namespace Go.Proofs.YtnajdbnacdnnlaaGreatDoor
open Go.RowKit

theorem cut_gone (c : UInt8) (l : List UInt8) (h : c ∉ l) : Lib.cut l [c] = (l, [], false) := by
  have hi : Lib.index l [c] = -1 := by rw [Lib.index_one]; exact find_not c l h
  unfold Lib.cut
  rw [hi, if_neg (by omega)]
theorem cut_parted (c : UInt8) (s : ByteArray) : Nt.Parted c.toNat (tx s) (tx ⟨(Lib.cut s.data.toList [c]).1.toArray⟩) (tx ⟨(Lib.cut s.data.toList [c]).2.1.toArray⟩) (Lib.cut s.data.toList [c]).2.2 := by
  rcases parted c s.data.toList with h | ⟨a, b, h, e⟩
  · rw [cut_gone c _ h]
    exact .inr ⟨rfl, num_mem h, tx_mk _, tx_mk _⟩
  · have e2 : tx s = a.map UInt8.toNat ++ c.toNat :: b.map UInt8.toNat := by unfold tx; rw [e]; simp
    rw [e, cut_list c a b h]
    refine .inl ⟨rfl, ?_, ?_⟩
    · show c.toNat ∉ tx ⟨a.toArray⟩
      rw [tx_mk]; exact num_mem h
    · show tx s = tx ⟨a.toArray⟩ ++ c.toNat :: tx ⟨b.toArray⟩
      rw [e2, tx_mk, tx_mk]

theorem cut32_any (s : ByteArray) (hs : s.size ≤ 2000000) (w : World) (he : ErrW w) :
    Calls Tryz.prog 58 #[.string s, .string ⟨#[32]⟩] w fun e w' => ∃ (p q : ByteArray) (ok : Bool), e = .returned (.tuple #[.string p, .string q, .bool ok]) ∧ Nt.Parted 32 (tx s) (tx p) (tx q) ok ∧ Qt w w' := by
  obtain ⟨⟨m, hm⟩, _, _⟩ := he
  refine (Tryz.strings_Cut s ⟨#[32]⟩ m w (by omega) hm).mono ?_
  rintro e w' ⟨rfl, n, rfl⟩
  exact ⟨_, _, _, rfl, cut_parted 32 s, ⟨n, rfl⟩⟩

theorem cut10_any (s : ByteArray) (hs : s.size ≤ 2000000) (w : World) (he : ErrW w) :
    Calls Tryz.prog 58 #[.string s, .string ⟨#[10]⟩] w fun e w' => ∃ (p q : ByteArray) (ok : Bool), e = .returned (.tuple #[.string p, .string q, .bool ok]) ∧ Nt.Parted 10 (tx s) (tx p) (tx q) ok ∧ Qt w w' := by
  obtain ⟨⟨m, hm⟩, _, _⟩ := he
  refine (Tryz.strings_Cut s ⟨#[10]⟩ m w (by omega) hm).mono ?_
  rintro e w' ⟨rfl, n, rfl⟩
  exact ⟨_, _, _, rfl, cut_parted 10 s, ⟨n, rfl⟩⟩

theorem split32_any (s : ByteArray) (hs : s.size ≤ 2000000) (w : World) (he : ErrW w) :
    Calls Tryz.prog 81 #[.string s, .string ⟨#[32]⟩] w fun e w' => ∃ (g n : Nat) (ps : List ByteArray), e = .returned (.slice (some ⟨g, 0, none⟩) n n) ∧ Ts w' w.heap.size (.slice (some ⟨g, 0, none⟩) n n) ps ∧ ps.length = n ∧ ps.map tx = Nt.cut 32 (tx s) ∧ Kept [] w w' := by
  obtain ⟨⟨m, hm⟩, _, _⟩ := he
  refine (Tryz.strings_Split s ⟨#[32]⟩ m w (by omega) hm (by decide)).mono ?_
  rintro e w' ⟨rfl, rfl⟩
  have hl : (Lib.splitB ⟨#[32]⟩ 0 (Lib.countB s ⟨#[32]⟩) s).length = Lib.countB s ⟨#[32]⟩ + 1 := Lib.splitB_all ⟨#[32]⟩ (by decide) 0 _ s rfl
  have hc := Lib.countB_le ⟨#[32]⟩ (by decide) s.size s (Nat.le_refl _)
  refine ⟨_, _, _, rfl, ?_, hl, split_tx 32 s, (Kept.refl _ _).alloc _⟩
  have h := World.ownsRow_lit (base := w.heap.size) (e := 9) (size := 1) w ((Lib.splitB ⟨#[32]⟩ 0 (Lib.countB s ⟨#[32]⟩) s).map Value.string).toArray (Lib.countB s ⟨#[32]⟩ + 1) (Nat.le_refl _) (by unfold maxLen; omega) (by simp [hl])
  unfold Ts
  rw [hl]
  exact h

theorem atoi_digs99 : ∀ n, n < 100 → Lib.atoiAll (bts (Nt.digs n)) = .ok (n : Int) := by
  have h : ∀ n : Fin 100, Lib.atoiAll (bts (if n.val < 10 then [48 + n.val] else [48 + n.val / 10, 48 + n.val % 10])) = .ok (n.val : Int) := by decide +kernel
  intro n hn
  rw [digs_two hn]
  exact h ⟨n, hn⟩

theorem atoiN_any (s : ByteArray) (hs : s.size ≤ 2000000) (w : World) (he : ErrW w) :
    Calls Tryz.prog 142 #[.string s] w fun e w' => ∃ (v : Int) (ev : Value), e = .returned (.tuple #[.int .i64 v, ev]) ∧ (ev = .nilIface ∨ ∃ t p, ev = .iface t p) ∧ Nt.NumOf (tx s) v ∧ Kept [] w w' := by
  obtain ⟨_, ⟨te, pe, h1⟩, ⟨te', pe', h2⟩⟩ := he
  have hd : ∀ n : Nat, n < 100 → tx s = Nt.digs n → Lib.atoiAll s.data.toList = .ok (n : Int) := fun n hn h => by rw [bts_tx, h]; exact atoi_digs99 n hn
  have h0 : tx s = [] → Lib.atoiAll s.data.toList = .syntax := fun h => by rw [bts_tx, h]; rfl
  cases hr : Lib.atoiAll s.data.toList with
  | ok v =>
    refine (Tryz.strconv_Atoi_ok s (by omega) v hr w).mono ?_
    rintro e w' ⟨rfl, hw⟩
    refine ⟨v, _, rfl, .inl rfl, ⟨fun n hn h => ?_, fun h => ?_⟩, ?_⟩
    · have := hd n hn h
      rw [hr] at this
      exact Lib.NumEnd.ok.inj this
    · rw [h0 h] at hr; cases hr
    · rcases hw with rfl | ⟨t, rfl⟩
      · exact Kept.refl _ _
      · exact Kept.of_below (Lib.bytesWorld_below _ _ _)
  | «syntax» =>
    refine (Tryz.strconv_Atoi_syntax s (by omega) hr _ w h1 (.inr ⟨te, pe, rfl⟩)).mono ?_
    rintro e w' ⟨N, rfl, _, _, hb⟩
    exact ⟨0, _, rfl, .inr ⟨_, _, rfl⟩, ⟨fun n hn h => (by rw [hd n hn h] at hr; cases hr), fun _ => rfl⟩, Kept.of_below hb⟩
  | range =>
    refine (Tryz.strconv_Atoi_range s (by omega) hr _ w h2 (.inr ⟨te', pe', rfl⟩)).mono ?_
    rintro e w' ⟨N, rfl, _, _, hb⟩
    exact ⟨_, _, rfl, .inr ⟨_, _, rfl⟩, ⟨fun n hn h => (by rw [hd n hn h] at hr; cases hr), fun h => (by rw [h0 h] at hr; cases hr)⟩, Kept.of_below hb⟩

/-! Texts put together: with a sign between two, or with nothing. -/
theorem join_listC (c : UInt8) : ∀ (ps : List (List UInt8)), (Lib.join ps [c]).map UInt8.toNat = Nt.join c.toNat (ps.map (List.map UInt8.toNat))
  | [] => rfl
  | [p] => by rw [Lib.join_one]; rfl
  | p :: q :: r => by
    have ih := join_listC c (q :: r)
    rw [Lib.join_cons] at ih
    rw [Lib.join_cons, show Lib.joinTail [c] (q :: r) = c :: (q ++ Lib.joinTail [c] r) by simp [Lib.joinTail], List.map_append, List.map_cons, ih]
    rfl
theorem join_list0 (ps : List (List UInt8)) : (Lib.join ps []).map UInt8.toNat = (ps.map (List.map UInt8.toNat)).flatten := by
  cases ps with
  | nil => rfl
  | cons p r =>
    rw [Lib.join_cons]
    unfold Lib.joinTail
    simp [List.map_flatten]
/-- What a text put between texts makes of them. -/
def JoinAs (sep : ByteArray) (J : List (List Nat) → List Nat) : Prop := ∀ ps : List (List UInt8), (Lib.join ps sep.data.toList).map UInt8.toNat = J (ps.map (List.map UInt8.toNat))
theorem joinAs32 : JoinAs ⟨#[32]⟩ (Nt.join 32) := join_listC 32
theorem joinAs44 : JoinAs ⟨#[44]⟩ (Nt.join 44) := join_listC 44
theorem joinAs0 : JoinAs ⟨#[]⟩ List.flatten := join_list0
theorem joinG_any {sep : ByteArray} {J : List (List Nat) → List Nat} (hJ : JoinAs sep J) (ps : List ByteArray) (n : Nat) (hn : ps.length = n) (h1000 : n ≤ 4000000) (hl : (J (ps.map tx)).length ≤ 1000000000) (w : World) (base g cap : Nat) (hs : Ts w base (.slice (some ⟨g, 0, none⟩) n cap) ps) :
    Calls Tryz.prog 72 #[.slice (some ⟨g, 0, none⟩) n cap, .string sep] w fun e w' => ∃ z, e = .returned (.string z) ∧ tx z = J (ps.map tx) ∧ Kept [] w w' := by
  subst hn
  have hcap : ps.length ≤ cap := by
    obtain ⟨a, c, e, h, _, _⟩ := hs.any
    simp at e
    omega
  have hj := hJ (ps.map (·.data.toList))
  rw [List.map_map] at hj
  refine (Tryz.strings_Join g 0 cap ps sep w (fun j x hj => ?_) (hs.block (g := g) rfl).2 (by omega) hcap ?_).mono ?_
  · have hj' : j < ps.length := (List.getElem?_eq_some_iff.1 hj).1
    rw [Nat.zero_add, (hs.at j hj').1, atT_get hj']
    rw [List.getElem?_eq_getElem hj'] at hj
    rw [Option.some.inj hj]
  · have h := congrArg List.length hj
    rw [List.length_map] at h
    have h2 : (J (ps.map tx)).length = (J (List.map (List.map UInt8.toNat ∘ fun x => x.data.toList) ps)).length := rfl
    omega
  · rintro e w' ⟨rfl, hb⟩
    exact ⟨_, rfl, by rw [tx_mk]; exact hj, Kept.of_below hb⟩
theorem Ts.tx_all {w : World} {base : Nat} {v : Value} {ps : List ByteArray} (_h : Ts w base v ps) {n : Nat} (hn : ps.length = n) {T : Nat → List Nat} (hT : ∀ k, k < n → tx (atT ps k) = T k) : ps.map tx = (List.range n).map T := by
  apply List.ext_getElem (by simp [hn])
  intro i h1 h2
  have hi : i < ps.length := by simpa using h1
  rw [List.getElem_map, List.getElem_map, List.getElem_range, ← hT i (by omega), atT_get hi]
theorem flat_length {ps : List (List Nat)} {m : Nat} (h : ∀ p ∈ ps, p.length ≤ m) : ps.flatten.length ≤ ps.length * m := by
  induction ps with
  | nil => simp
  | cons p r ih =>
    have h1 := h p (by simp)
    have h2 := ih (fun q hq => h q (by simp [hq]))
    rw [List.flatten_cons, List.length_append, List.length_cons, Nat.succ_mul]
    omega
theorem atT_set {ps : List ByteArray} {k j : Nat} {x : ByteArray} (hk : k < ps.length) : atT (ps.set k x) j = if j = k then x else atT ps j := by
  unfold atT
  rw [List.getD_eq_getElem?_getD, List.getElem?_set]
  by_cases h : k = j
  · subst h; simp [hk]
  · rw [if_neg h, if_neg (fun e => h e.symm), List.getD_eq_getElem?_getD]
end Go.Proofs.YtnajdbnacdnnlaaGreatDoor
