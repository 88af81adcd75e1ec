/-
  Plain mathematics: what the program reads: journals line by line, deeds and places out of words.
-/
import Derived.Test.YtnajdbnacdnnlaaGreatDoorPureAF
import Derived.Test.YtnajdbnacdnnlaaGreatDoorPureRP
namespace Go.Proofs.YtnajdbnacdnnlaaGreatDoor
namespace Nt

/-! A text parted at the first sign. -/
/-- What stands ahead of the first sign and behind it, and whether there is one. -/
def Parted (c : Nat) (s p q : List Nat) (ok : Bool) : Prop := (ok = true ∧ c ∉ p ∧ s = p ++ c :: q) ∨ (ok = false ∧ c ∉ s ∧ p = s ∧ q = [])
theorem parted_one {c : Nat} : ∀ {p p' q q' : List Nat}, c ∉ p → c ∉ p' → p ++ c :: q = p' ++ c :: q' → p = p' ∧ q = q'
  | [], [], q, q', _, _, e => by simp at e; exact ⟨rfl, e⟩
  | [], y :: p', q, q', _, h, e => by
    rw [List.nil_append, List.cons_append, List.cons.injEq] at e
    exact absurd (by rw [e.1]; simp) h
  | x :: p, [], q, q', h, _, e => by
    rw [List.nil_append, List.cons_append, List.cons.injEq] at e
    exact absurd (by rw [← e.1]; simp) h
  | x :: p, y :: p', q, q', h, h', e => by
    rw [List.cons_append, List.cons_append, List.cons.injEq] at e
    obtain ⟨h1, h2⟩ := parted_one (fun k => h (by simp [k])) (fun k => h' (by simp [k])) e.2
    exact ⟨by rw [e.1, h1], h2⟩
theorem Parted.at {c : Nat} {s p q a b : List Nat} {ok : Bool} (h : Parted c s p q ok) (ha : c ∉ a) (e : s = a ++ c :: b) : p = a ∧ q = b ∧ ok = true := by
  rcases h with ⟨h1, h2, h3⟩ | ⟨_, h2, _⟩
  · obtain ⟨e1, e2⟩ := parted_one h2 ha (h3.symm.trans e)
    exact ⟨e1, e2, h1⟩
  · rw [e] at h2; exact absurd (by simp) h2
theorem Parted.no {c : Nat} {s p q : List Nat} {ok : Bool} (h : Parted c s p q ok) (hn : c ∉ s) : p = s ∧ q = [] ∧ ok = false := by
  rcases h with ⟨_, _, h3⟩ | ⟨h1, _, h3, h4⟩
  · rw [h3] at hn; exact absurd (by simp) hn
  · exact ⟨h3, h4, h1⟩
theorem Parted.len {c : Nat} {s p q : List Nat} {ok : Bool} (h : Parted c s p q ok) : p.length ≤ s.length ∧ q.length ≤ s.length ∧ (ok = true → p.length + 1 ≤ s.length ∧ s.drop (p.length + 1) = q ∧ s = p ++ c :: q) := by
  rcases h with ⟨_, _, h3⟩ | ⟨h1, _, h3, h4⟩
  · subst h3
    refine ⟨by rw [List.length_append]; omega, by rw [List.length_append, List.length_cons]; omega, fun _ => ⟨by rw [List.length_append, List.length_cons]; omega, ?_, rfl⟩⟩
    rw [← List.drop_drop, List.drop_left]; rfl
  · subst h3; subst h4
    refine ⟨Nat.le_refl _, by simp, fun h => ?_⟩
    rw [h1] at h; cases h

/-! Journals. -/
theorem jline_no {s p q : List Nat} {ok : Bool} (h : Parted 10 s p q ok) (hn : ok = false) : jgo [] s = [] ∧ jlen [] s = 0 := by
  rcases h with ⟨h1, _, _⟩ | ⟨_, h2, _, _⟩
  · rw [h1] at hn; cases hn
  · have := jgo_free s [] [] h2
    rw [List.append_nil] at this
    exact this
theorem jline_bad {s p q : List Nat} (h : Parted 10 s p q true) (hr : readD p = none) : jgo [] s = [] ∧ jlen [] s = 0 := by
  rcases h with ⟨_, h2, h3⟩ | ⟨h1, _, _, _⟩
  · have := jgo_free p (10 :: q) [] h2
    rw [← h3, List.nil_append] at this
    rw [this.1, this.2]
    exact jgo_stop hr q
  · cases h1
theorem jline_go {s p q : List Nat} (h : Parted 10 s p q true) {d : Dd} (hr : readD p = some d) : jgo [] s = d :: jgo [] q ∧ jlen [] s = p.length + 1 + jlen [] q := by
  rcases h with ⟨_, h2, h3⟩ | ⟨h1, _, _, _⟩
  · have := jgo_free p (10 :: q) [] h2
    rw [← h3, List.nil_append] at this
    rw [this.1, this.2]
    exact jgo_nl hr q
  · cases h1
theorem readD_line {s : List Nat} {d : Dd} (h : readD s = some d) : s.length ≤ 11 := by
  have hd := readD_ok h
  obtain ⟨rfl, _⟩ := readD_some.1 h
  have d2 : ∀ n : Nat, n ≤ 99 → (digs n).length ≤ 2 := fun n hn => digs_length 1 (by simp; omega)
  rcases hd.cases with ⟨a, b, ha, hb, rfl⟩ | ⟨a, ha, rfl⟩ | ⟨a, ha, rfl⟩ | rfl | rfl
  · have h1 := d2 a ha
    have h2 := d2 b hb
    unfold deedT
    rw [deedW_join ha hb]
    simp [join, wJoin]; omega
  · have h1 := d2 a ha
    unfold deedT
    rw [deedW_light ha]
    simp [join, wLight]; omega
  · have h1 := d2 a ha
    unfold deedT
    rw [deedW_kinds ha]
    simp [join, wKinds]; omega
  · decide
  · decide

/-! Deeds. -/
def kindW (w : List Nat) : Int := if w = wJoin then 0 else if w = wLight then 1 else if w = wStep then 2 else if w = wKinds then 3 else if w = wBack then 4 else -1
/-- A number that is told of a text, if it is one; 0 of none. -/
def NumOf (t : List Nat) (v : Int) : Prop := (∀ n : Nat, n < 100 → t = digs n → v = (n : Int)) ∧ (t = [] → v = 0)
theorem readD_cand {s word behind a b : List Nat} {ok ok' : Bool} (h1 : Parted 32 s word behind ok) (h2 : Parted 32 behind a b ok') {va vb : Int} (ha : NumOf a va) (hb : NumOf b vb) {d : Dd} (h : readD s = some d) : d = ⟨kindW word, va, vb⟩ := by
  have hd := readD_ok h
  obtain ⟨rfl, _⟩ := readD_some.1 h
  have f : ∀ n : Nat, 32 ∉ digs n := fun n => digs_free (.inl (by omega))
  rcases hd.cases with ⟨x, y, hx, hy, rfl⟩ | ⟨x, hx, rfl⟩ | ⟨x, hx, rfl⟩ | rfl | rfl
  · have e : deedT ⟨0, x, y⟩ = wJoin ++ 32 :: (digs x ++ 32 :: digs y) := by unfold deedT; rw [deedW_join hx hy]; rfl
    obtain ⟨rfl, rfl, _⟩ := h1.at (by decide) e
    obtain ⟨rfl, rfl, _⟩ := h2.at (f x) rfl
    rw [ha.1 x (by omega) rfl, hb.1 y (by omega) rfl]; rfl
  · have e : deedT ⟨1, x, 0⟩ = wLight ++ 32 :: digs x := by unfold deedT; rw [deedW_light hx]; rfl
    obtain ⟨rfl, rfl, _⟩ := h1.at (by decide) e
    obtain ⟨rfl, rfl, _⟩ := h2.no (f x)
    rw [ha.1 x (by omega) rfl, hb.2 rfl]; rfl
  · have e : deedT ⟨3, x, 0⟩ = wKinds ++ 32 :: digs x := by unfold deedT; rw [deedW_kinds hx]; rfl
    obtain ⟨rfl, rfl, _⟩ := h1.at (by decide) e
    obtain ⟨rfl, rfl, _⟩ := h2.no (f x)
    rw [ha.1 x (by omega) rfl, hb.2 rfl]; rfl
  · have e : deedT ⟨2, 0, 0⟩ = wStep := by unfold deedT; rw [deedW_step]; rfl
    rw [e] at h1
    obtain ⟨rfl, rfl, _⟩ := h1.no (by decide)
    obtain ⟨rfl, rfl, _⟩ := h2.no (by simp)
    rw [ha.2 rfl, hb.2 rfl]; rfl
  · have e : deedT ⟨4, 0, 0⟩ = wBack := by unfold deedT; rw [deedW_back]; rfl
    rw [e] at h1
    obtain ⟨rfl, rfl, _⟩ := h1.no (by decide)
    obtain ⟨rfl, rfl, _⟩ := h2.no (by simp)
    rw [ha.2 rfl, hb.2 rfl]; rfl
/-- What the program says of a candidate. -/
theorem readD_is {s : List Nat} {d : Dd} (hc : ∀ d', readD s = some d' → d' = d) : readD s = if s ≠ [] ∧ deedT d = s then some d else none := by
  cases e : readD s with
  | none =>
    rw [if_neg]
    rintro ⟨h1, h2⟩
    rw [readD_some.2 ⟨h2, h1⟩] at e
    cases e
  | some d' =>
    obtain rfl := hc d' e
    obtain ⟨h1, h2⟩ := readD_some.1 e
    rw [if_pos ⟨h2, h1⟩]

/-! Places. -/
/-- Nets laid pair by pair, what is no pair left out. -/
def layP (many : Nat) (ns : List Nat) : List (List Nat) → List Nat
  | [] => ns
  | p :: rest => layP many (if p.length = 2 ∧ (48 ≤ p.getD 0 0 ∧ p.getD 0 0 < 48 + many) ∧ (48 ≤ p.getD 1 0 ∧ p.getD 1 0 < 48 + many) then wire ns (p.getD 0 0 - 48) (p.getD 1 0 - 48) else ns) rest
theorem layP_snoc (many : Nat) : ∀ (ps : List (List Nat)) (ns : List Nat) (p : List Nat), layP many ns (ps ++ [p]) = (if p.length = 2 ∧ (48 ≤ p.getD 0 0 ∧ p.getD 0 0 < 48 + many) ∧ (48 ≤ p.getD 1 0 ∧ p.getD 1 0 < 48 + many) then wire (layP many ns ps) (p.getD 0 0 - 48) (p.getD 1 0 - 48) else layP many ns ps)
  | [], _, _ => rfl
  | _ :: ps, _, p => layP_snoc many ps _ p
theorem layP_length (many : Nat) : ∀ (ps : List (List Nat)) (ns : List Nat), (layP many ns ps).length = ns.length
  | [], _ => rfl
  | p :: ps, ns => by
    unfold layP
    rw [layP_length many ps]
    split
    · exact wire_length _ _ _
    · rfl
theorem layP_lay (many : Nat) : ∀ (ps : List (List Nat)) (ns : List Nat), (∀ p ∈ ps, ∃ a b, a < b ∧ b < many ∧ p = [48 + a, 48 + b]) → layP many ns ps = layW ns ps
  | [], _, _ => rfl
  | p :: ps, ns, h => by
    obtain ⟨a, b, hab, hb, rfl⟩ := h p (by simp)
    show layP many _ ps = layW (wire ns _ _) ps
    rw [if_pos ⟨rfl, ⟨by simp, by simp; omega⟩, ⟨by simp, by simp; omega⟩⟩]
    exact layP_lay many ps _ (fun p hp => h p (by simp [hp]))
/-- Of the text of a net its net is read. -/
theorem layP_net {ns : List Nat} (ok : Ok ns) : layP ns.length (List.replicate ns.length 0) (cut 44 (wireT ns)) = ns := by
  by_cases h0 : wiresAll ns = []
  · rw [(wireT_dot ok.few).2 h0]
    have h1 := layW_all ok
    rw [h0] at h1
    exact h1
  · rw [cut_wireT ok.few h0, layP_lay]
    · exact layW_all ok
    · intro p hp
      obtain ⟨a, b, _, h2, h3, _, h5⟩ := (mem_wiresL _).1 hp
      exact ⟨a, b, h3, h2, h5⟩
/-- What the program makes of the words of a text. -/
def candP (many c : Int) (ws : List (List Nat)) : Pi := ⟨if 1 ≤ many ∧ many ≤ 6 then nats (layP many.toNat (List.replicate many.toNat 0) (cut 44 (ws.getD 1 []))) else [], c, (ws.getD 3 []).map fun (x : Nat) => (x : Int) - 48⟩
theorem readP_cand2 {t : List Nat} {many c : Int} (hm : NumOf ((cut 32 t).getD 0 []) many) (hc : NumOf ((cut 32 t).getD 2 []) c) {q : Pl} (h : readP t = some q) : candP many c (cut 32 t) = q.i := by
  obtain ⟨hq, hw⟩ := readP_words h
  rw [hw] at hm hc ⊢
  have h6 := hq.ok.few
  have h1 := hq.ok.some
  have h5 := hq.st.c5
  have e1 := hm.1 q.ns.length (by omega) rfl
  have e2 := hc.1 q.c (by omega) rfl
  unfold candP Pl.i
  rw [e1, e2, if_pos ⟨by omega, by omega⟩, Int.toNat_natCast]
  show (⟨nats (layP q.ns.length (List.replicate q.ns.length 0) (cut 44 (wireT q.ns))), (q.c : Int), (kindT q.ks).map fun (x : Nat) => (x : Int) - 48⟩ : Pi) = _
  rw [layP_net hq.ok]
  congr 1
  unfold kindT nats
  rw [List.map_map]
  refine List.map_congr_left (fun x _ => ?_)
  show ((48 + x : Nat) : Int) - 48 = (x : Int)
  omega
/-- What the program says of a candidate. -/
theorem readP_prog {t : List Nat} {x : Pi} (hl : (cut 32 t).length = 4) (hc : ∀ q, readP t = some q → x = q.i) : (readPB t = decide (ptxt x = t)) ∧ (ptxt x = t → readPI t = x) := by
  have hne : t ≠ [] := fun e => by rw [e] at hl; simp [cut, cutFrom] at hl
  by_cases h : ptxt x = t
  · obtain ⟨q, rfl, hr⟩ := readP_cand h hne
    rw [decide_eq_true h]
    exact ⟨(readPI_some hr).2, fun _ => (readPI_some hr).1⟩
  · rw [decide_eq_false h]
    refine ⟨?_, fun e => absurd e h⟩
    cases e : readP t with
    | none => exact (readPI_none e).2
    | some q =>
      have h1 := hc q e
      obtain ⟨h2, h3⟩ := readP_some.1 e
      rw [h1, ptxt_ok h2] at h
      exact absurd h3 h
end Nt
end Go.Proofs.YtnajdbnacdnnlaaGreatDoor
