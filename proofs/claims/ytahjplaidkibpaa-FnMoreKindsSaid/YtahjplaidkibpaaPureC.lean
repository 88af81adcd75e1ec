/-
  Plain mathematics: steps from node to node; parts by labels that are merged; wires and parts; the triangle.
-/
import Derived.Test.YtahjplaidkibpaaPureB
namespace Go.Proofs.Ytahjplaidkibpaa
namespace Nt

/-- So many steps from a node to a node. -/
def Walk (net : List Nat) : Nat → Nat → Nat → Prop
  | 0, a, b => a = b ∧ a < net.length
  | t + 1, a, c => c < net.length ∧ ∃ b, Walk net t a b ∧ (net.getD b 0).testBit c = true

theorem Walk.here {net : List Nat} (a : Nat) (h : a < net.length) : Walk net 0 a a := ⟨rfl, h⟩
theorem Walk.step {net : List Nat} {t a b c : Nat} (h : Walk net t a b) (hc : c < net.length) (hb : (net.getD b 0).testBit c = true) : Walk net (t + 1) a c := ⟨hc, b, h, hb⟩
theorem Walk.lt2 {net : List Nat} : ∀ {t a b : Nat}, Walk net t a b → b < net.length
  | 0, _, _, h => h.1 ▸ h.2
  | _ + 1, _, _, h => h.1
theorem Walk.lt1 {net : List Nat} : ∀ {t a b : Nat}, Walk net t a b → a < net.length
  | 0, _, _, h => h.2
  | _ + 1, _, _, ⟨_, _, h, _⟩ => Walk.lt1 h
theorem Walk.trans {net : List Nat} {t a b : Nat} (h : Walk net t a b) : ∀ {s c : Nat}, Walk net s b c → Walk net (t + s) a c
  | 0, _, k => k.1 ▸ h
  | _ + 1, _, ⟨hc, _, k, hb⟩ => Walk.step (Walk.trans h k) hc hb
theorem Walk.back {net : List Nat} (ok : Ok net) : ∀ {t a b : Nat}, Walk net t a b → Walk net t b a
  | 0, _, _, h => ⟨h.1.symm, h.1 ▸ h.2⟩
  | t + 1, a, c, ⟨hc, b, h, hb⟩ => by
    have h1 : Walk net 1 c b := Walk.step (Walk.here c hc) h.lt2 (by rw [ok.both c b hc h.lt2]; exact hb)
    have h2 := h1.trans (Walk.back ok h)
    rwa [Nat.add_comm] at h2

theorem walk_of_dist {net : List Nat} (ok : Ok net) {set : Nat} : ∀ (t k : Nat), k < net.length → dist net set 64 k = (t : Int) → ∃ a, set.testBit a = true ∧ Walk net t a k
  | 0, k, hk, h => ⟨k, dist_zero.1 h, Walk.here k hk⟩
  | t + 1, k, hk, h => by
    obtain ⟨j, hj, hb, hd⟩ := dist_back ok hk h
    obtain ⟨a, ha, hw⟩ := walk_of_dist ok t j hj hd
    exact ⟨a, ha, Walk.step hw hk (by rw [ok.both j k hj hk]; exact hb)⟩

theorem dist_of_walk {net : List Nat} (ok : Ok net) {set : Nat} (hs : set < 2 ^ net.length) : ∀ {t a k : Nat}, Walk net t a k → set.testBit a = true →
    0 ≤ dist net set 64 k ∧ dist net set 64 k ≤ (t : Int)
  | 0, a, k, h, ha => by
    have e : a = k := h.1
    subst e
    rw [dist_zero.2 ha]; omega
  | t + 1, a, c, ⟨_, b, h, hb⟩, ha => by
    have ih := dist_of_walk ok hs h ha
    obtain ⟨s, hs'⟩ := Int.eq_ofNat_of_zero_le ih.1
    have h1 := ih.2
    have h2 := dist_near ok hs h.lt2 hb hs'
    omega

theorem bit_pow (a i : Nat) : (2 ^ a).testBit i = true ↔ a = i := by
  rw [Nat.testBit_two_pow]; simp

/-- From one node: come to exactly by some steps. -/
theorem conn_iff {net : List Nat} (ok : Ok net) {a b : Nat} (ha : a < net.length) (hb : b < net.length) : 0 ≤ dist net (2 ^ a) 64 b ↔ ∃ t, Walk net t a b := by
  constructor
  · intro h
    obtain ⟨t, ht⟩ := Int.eq_ofNat_of_zero_le h
    obtain ⟨c, hc, hw⟩ := walk_of_dist ok t b hb ht
    rw [bit_pow] at hc
    subst hc
    exact ⟨t, hw⟩
  · rintro ⟨t, hw⟩
    exact (dist_of_walk ok (two_pow_lt ha) hw ((bit_pow a a).2 rfl)).1

theorem conn_walk {net : List Nat} (ok : Ok net) {a b t : Nat} (_ha : a < net.length) (hb : b < net.length) (h : dist net (2 ^ a) 64 b = (t : Int)) : Walk net t a b := by
  obtain ⟨c, hc, hw⟩ := walk_of_dist ok t b hb h
  rw [bit_pow] at hc
  subst hc
  exact hw

theorem popTo_lt {a b n i : Nat} (hs : ∀ j, a.testBit j = true → b.testBit j = true) (ha : a.testBit i = false) (hb : b.testBit i = true) : i < n → popTo a n < popTo b n := by
  have mono : ∀ m, popTo a m ≤ popTo b m := by
    intro m
    induction m with
    | zero => exact Nat.le_refl _
    | succ m ih =>
      rw [popTo, popTo]
      by_cases h : a.testBit m = true
      · rw [if_pos h, if_pos (hs m h)]; omega
      · rw [if_neg h]; omega
  induction n with
  | zero => intro h; omega
  | succ n ih =>
    intro h
    rw [popTo, popTo]
    by_cases e : i = n
    · subst e
      have := mono i
      rw [ha, hb]
      simp only [Bool.false_eq_true, if_false, if_true]
      omega
    · have := ih (by omega)
      by_cases h : a.testBit n = true
      · rw [if_pos h, if_pos (hs n h)]; omega
      · rw [if_neg h]; omega

theorem come_many {net : List Nat} (ok : Ok net) {set : Nat} (hs : set < 2 ^ net.length) : ∀ t, (∀ s, s < t → front net set s ≠ 0) → t ≤ popTo (come net set t) net.length
  | 0, _ => Nat.zero_le _
  | t + 1, h => by
    have ih := come_many ok hs t fun s hs => h s (by omega)
    obtain ⟨i, hi⟩ := Nat.exists_testBit_of_ne_zero (h t (by omega))
    have hlt : i < net.length := by
      apply Classical.byContradiction
      intro hge
      rw [Nat.testBit_lt_two_pow (Nat.lt_of_lt_of_le (come_lt ok hs t).2 (Nat.pow_le_pow_right (by omega) (by omega)))] at hi
      exact absurd hi (by simp)
    have := popTo_lt (a := come net set t) (b := come net set (t + 1)) (n := net.length) (fun j hj => by rw [come_succ, Nat.testBit_or, hj]; rfl) (front_new t i hi) (by rw [come_succ, Nat.testBit_or, hi]; simp) hlt
    omega

/-- No node is as far as there are nodes. -/
theorem dist_few {net : List Nat} (ok : Ok net) {set : Nat} (hs : set < 2 ^ net.length) (k : Nat) : dist net set 64 k < net.length := by
  rcases dist_told (net := net) (set := set) (k := k) with ⟨h1, _⟩ | ⟨t, _, h1, h2⟩
  · have := ok.some; omega
  · have := come_many ok hs (t + 1) fun s hs' e => by
      rw [front_end e t (by omega)] at h2
      simp at h2
    have h3 := popTo_le (come net set (t + 1)) net.length
    omega

theorem farthest_ge {net : List Nat} {node j : Nat} (hj : j < net.length) : dist net (2 ^ node) 64 j ≤ farthest net node := by
  have := maxTo_ge (far net (2 ^ node)) net.length j hj
  rwa [far_get _ _ hj] at this

theorem farthest_few {net : List Nat} (ok : Ok net) {node : Nat} (hn : node < net.length) : farthest net node < net.length := by
  unfold farthest
  rcases maxTo_is (far net (2 ^ node)) net.length with h | ⟨i, hi, h⟩
  · have := ok.some; omega
  · rw [h, far_get _ _ hi]; exact dist_few ok (two_pow_lt hn) i

/-- No two nodes are farther apart than both from a third one. -/
theorem farthest_tri {net : List Nat} (ok : Ok net) {node k : Nat} (hn : node < net.length) (hk : k < net.length) (h : 0 ≤ dist net (2 ^ node) 64 k) :
    farthest net k ≤ farthest net node + dist net (2 ^ node) 64 k := by
  have h0 : 0 ≤ farthest net node := maxTo_nonneg _ _
  rcases maxTo_is (far net (2 ^ k)) net.length with e | ⟨j, hj, e⟩
  · show maxTo (far net (2 ^ k)) net.length ≤ _; omega
  · show maxTo (far net (2 ^ k)) net.length ≤ _
    rw [e, far_get _ _ hj]
    by_cases hd : 0 ≤ dist net (2 ^ k) 64 j
    · obtain ⟨d, hd'⟩ := Int.eq_ofNat_of_zero_le h
      obtain ⟨t, ht⟩ := Int.eq_ofNat_of_zero_le hd
      have w1 := conn_walk ok hn hk hd'
      have w2 := conn_walk ok hk hj ht
      have r1 := dist_of_walk ok (two_pow_lt hn) (w1.trans w2) ((bit_pow node node).2 rfl)
      obtain ⟨s, hs⟩ := Int.eq_ofNat_of_zero_le r1.1
      have w3 := conn_walk ok hn hj hs
      have r2 := dist_of_walk ok (two_pow_lt hk) ((w1.back ok).trans w3) ((bit_pow k k).2 rfl)
      have r3 := farthest_ge (net := net) (node := node) hj
      omega
    · omega

/-- Labels merged: both become the lesser one. -/
def mrg (x y l : Nat) : Nat := if l = x ∨ l = y then min x y else l
def merge (ls : List Nat) (x y : Nat) : List Nat := ls.map (mrg x y)
theorem merge_length (ls : List Nat) (x y : Nat) : (merge ls x y).length = ls.length := by simp [merge]
theorem merge_get (ls : List Nat) (x y i : Nat) (h : i < ls.length) : (merge ls x y).getD i 0 = mrg x y (ls.getD i 0) := by
  simp [merge, List.getD_eq_getElem?_getD, h]

/-- Merged up to a place. -/
def mergeTo (ls : List Nat) (x y k : Nat) : List Nat := (ls.take k).map (mrg x y) ++ ls.drop k
theorem mergeTo_zero (ls : List Nat) (x y : Nat) : mergeTo ls x y 0 = ls := by simp [mergeTo]
theorem mergeTo_end (ls : List Nat) (x y : Nat) : mergeTo ls x y ls.length = merge ls x y := by simp [mergeTo, merge]
theorem mergeTo_length (ls : List Nat) (x y k : Nat) : (mergeTo ls x y k).length = ls.length := by simp [mergeTo]; omega
theorem mergeTo_get (ls : List Nat) (x y k : Nat) (h : k < ls.length) : (mergeTo ls x y k).getD k 0 = ls.getD k 0 := by
  have : ((ls.take k).map (mrg x y)).length = k := by simp; omega
  unfold mergeTo
  rw [List.getD_eq_getElem?_getD, List.getElem?_append_right (by omega), this, Nat.sub_self, List.getElem?_drop]
  simp [List.getD_eq_getElem?_getD]
theorem mergeTo_set (ls : List Nat) (x y k : Nat) (h : k < ls.length) : (mergeTo ls x y k).set k (mrg x y (ls.getD k 0)) = mergeTo ls x y (k + 1) := by
  have hl : ((ls.take k).map (mrg x y)).length = k := by simp; omega
  unfold mergeTo
  rw [List.set_append_right _ _ (by omega), hl, Nat.sub_self, List.drop_eq_getElem_cons h, List.set_cons_zero, List.take_succ_eq_append_getElem h, List.map_append, List.append_assoc]
  simp [List.getD_eq_getElem?_getD, h]
theorem mergeTo_keep (ls : List Nat) (x y k : Nat) (h : k < ls.length) (hn : ¬ (ls.getD k 0 = x ∨ ls.getD k 0 = y)) : mergeTo ls x y k = mergeTo ls x y (k + 1) := by
  rw [← mergeTo_set ls x y k h]
  unfold mrg
  rw [if_neg hn, ← mergeTo_get ls x y k h]
  apply List.ext_getElem?
  intro i
  rw [List.getElem?_set]
  split
  · rename_i e
    subst e
    rw [if_pos (by rw [mergeTo_length]; exact h), List.getD_eq_getElem?_getD, List.getElem?_eq_getElem (by rw [mergeTo_length]; exact h)]
    rfl
  · rfl
theorem mrg_small {x y l : Nat} (hx : x < 64) (hl : l < 64) : mrg x y l < 64 := by unfold mrg; split <;> omega

/-- The labels while the wires of node k are gone through; and behind the first k nodes. -/
def labIn (net : List Nat) (k : Nat) (ls : List Nat) : Nat → List Nat
  | 0 => ls
  | j + 1 => if (net.getD k 0).testBit j then merge (labIn net k ls j) ((labIn net k ls j).getD k 0) ((labIn net k ls j).getD j 0) else labIn net k ls j
def labOut (net : List Nat) : Nat → List Nat
  | 0 => List.range net.length
  | k + 1 => labIn net k (labOut net k) k
def parts (net : List Nat) : List Nat := labOut net net.length

structure Lab (net ls : List Nat) : Prop where
  len : ls.length = net.length
  le : ∀ i, i < net.length → ls.getD i 0 ≤ i
  idem : ∀ i, i < net.length → ls.getD (ls.getD i 0) 0 = ls.getD i 0
  conn : ∀ i, i < net.length → ∃ t, Walk net t i (ls.getD i 0)

theorem Lab.merged {net ls : List Nat} (ok : Ok net) (h : Lab net ls) {a b : Nat} (ha : a < net.length) (hb : b < net.length) (hab : (net.getD a 0).testBit b = true) :
    Lab net (merge ls (ls.getD a 0) (ls.getD b 0)) := by
  have hg : ∀ i, i < net.length → (merge ls (ls.getD a 0) (ls.getD b 0)).getD i 0 = mrg (ls.getD a 0) (ls.getD b 0) (ls.getD i 0) := fun i hi => merge_get _ _ _ _ (by rw [h.len]; exact hi)
  have hla := h.le a ha
  have hlb := h.le b hb
  have hia := h.idem a ha
  have hib := h.idem b hb
  obtain ⟨ta, wa⟩ := h.conn a ha
  obtain ⟨tb, wb⟩ := h.conn b hb
  have wab : Walk net 1 a b := Walk.step (Walk.here a ha) hb hab
  generalize hx : ls.getD a 0 = x at *
  generalize hy : ls.getD b 0 = y at *
  have wxy : ∃ t, Walk net t x y := ⟨_, ((wa.back ok).trans wab).trans wb⟩
  have hm : ls.getD (min x y) 0 = min x y := by
    by_cases e : x ≤ y
    · rw [Nat.min_eq_left e]; exact hia
    · rw [Nat.min_eq_right (by omega)]; exact hib
  refine ⟨by rw [merge_length, h.len], fun i hi => ?_, fun i hi => ?_, fun i hi => ?_⟩
  · rw [hg i hi]
    have := h.le i hi
    unfold mrg
    split <;> omega
  · have hli := h.le i hi
    rw [hg i hi]
    unfold mrg
    split
    · rename_i e
      rw [hg _ (by omega), hm]
      unfold mrg
      split <;> rename_i e2
      · rfl
      · rfl
    · rename_i e
      rw [hg _ (by omega), h.idem i hi]
      unfold mrg
      rw [if_neg e]
  · obtain ⟨t, wi⟩ := h.conn i hi
    obtain ⟨s, wx⟩ := wxy
    rw [hg i hi]
    unfold mrg
    split
    · rename_i e
      by_cases exy : x ≤ y
      · rw [Nat.min_eq_left exy]
        rcases e with e | e
        · rw [e] at wi; exact ⟨_, wi⟩
        · rw [e] at wi; exact ⟨_, wi.trans (wx.back ok)⟩
      · rw [Nat.min_eq_right (by omega)]
        rcases e with e | e
        · rw [e] at wi; exact ⟨_, wi.trans wx⟩
        · rw [e] at wi; exact ⟨_, wi⟩
    · exact ⟨t, wi⟩

theorem lab_start {net : List Nat} : Lab net (List.range net.length) := by
  have hg : ∀ i, i < net.length → (List.range net.length).getD i 0 = i := fun i hi => by simp [List.getD_eq_getElem?_getD, hi]
  refine ⟨by simp, fun i hi => by rw [hg i hi]; exact Nat.le_refl _, fun i hi => by rw [hg i hi, hg i hi], fun i hi => ⟨0, by rw [hg i hi]; exact Walk.here i hi⟩⟩

theorem lab_in {net : List Nat} (ok : Ok net) {k : Nat} (hk : k < net.length) {ls : List Nat} (h : Lab net ls) : ∀ j, j ≤ k → Lab net (labIn net k ls j)
  | 0, _ => h
  | j + 1, hj => by
    have ih := lab_in ok hk h j (by omega)
    unfold labIn
    split
    · rename_i hb
      exact ih.merged ok hk (by omega) hb
    · exact ih

theorem lab_out {net : List Nat} (ok : Ok net) : ∀ k, k ≤ net.length → Lab net (labOut net k)
  | 0, _ => lab_start
  | k + 1, hk => lab_in ok (by omega) (lab_out ok k (by omega)) k (Nat.le_refl _)

/-- What was of one label stays so. -/
theorem in_keep {net : List Nat} {k : Nat} {ls : List Nat} {a b : Nat} (ha : a < ls.length) (hb : b < ls.length) (h : ls.getD a 0 = ls.getD b 0) : ∀ j, (labIn net k ls j).length = ls.length ∧ (labIn net k ls j).getD a 0 = (labIn net k ls j).getD b 0
  | 0 => ⟨rfl, h⟩
  | j + 1 => by
    have ih := in_keep (net := net) (k := k) ha hb h j
    unfold labIn
    split
    · refine ⟨by rw [merge_length]; exact ih.1, ?_⟩
      rw [merge_get _ _ _ _ (by rw [ih.1]; exact ha), merge_get _ _ _ _ (by rw [ih.1]; exact hb), ih.2]
    · exact ih

theorem in_done {net : List Nat} {k : Nat} {ls : List Nat} (hk : k < ls.length) : ∀ j, j ≤ k → (labIn net k ls j).length = ls.length ∧ ∀ b, b < j → (net.getD k 0).testBit b = true → (labIn net k ls j).getD k 0 = (labIn net k ls j).getD b 0
  | 0, _ => ⟨rfl, fun b hb => absurd hb (by omega)⟩
  | j + 1, hj => by
    obtain ⟨hl, ih⟩ := in_done hk j (by omega)
    unfold labIn
    split
    · rename_i hbit
      refine ⟨by rw [merge_length]; exact hl, fun b hb hbb => ?_⟩
      rw [merge_get _ _ _ _ (by rw [hl]; exact hk), merge_get _ _ _ _ (by rw [hl]; omega)]
      by_cases e : b = j
      · subst e; simp [mrg]
      · rw [ih b (by omega) hbb]
    · rename_i hbit
      refine ⟨hl, fun b hb hbb => ?_⟩
      have : b ≠ j := fun e => hbit (e ▸ hbb)
      exact ih b (by omega) hbb

theorem out_done {net : List Nat} (ok : Ok net) : ∀ k, k ≤ net.length → ∀ a b, b < a → a < k → (net.getD a 0).testBit b = true → (labOut net k).getD a 0 = (labOut net k).getD b 0
  | 0, _ => fun a b _ ha => absurd ha (by omega)
  | k + 1, hk => fun a b hba ha hb => by
    have hl := (lab_out ok k (by omega)).len
    unfold labOut
    by_cases e : a = k
    · subst e
      exact (in_done (by omega) a (Nat.le_refl _)).2 b hba hb
    · exact (in_keep (by omega) (by omega) (out_done ok k (by omega) a b hba (by omega) hb) k).2

theorem parts_wire {net : List Nat} (ok : Ok net) {a b : Nat} (ha : a < net.length) (hb : b < net.length) (h : (net.getD a 0).testBit b = true) : (parts net).getD a 0 = (parts net).getD b 0 := by
  rcases Nat.lt_trichotomy a b with hlt | e | hlt
  · exact (out_done ok _ (Nat.le_refl _) b a hlt hb (by rw [ok.both b a hb ha]; exact h)).symm
  · rw [e]
  · exact out_done ok _ (Nat.le_refl _) a b hlt ha h

theorem parts_walk {net : List Nat} (ok : Ok net) : ∀ {t a b : Nat}, Walk net t a b → (parts net).getD a 0 = (parts net).getD b 0
  | 0, _, _, h => by rw [h.1]
  | _ + 1, _, _, ⟨hc, _, h, hb⟩ => by rw [parts_walk ok h]; exact parts_wire ok h.lt2 hc hb

theorem parts_length {net : List Nat} (ok : Ok net) : (parts net).length = net.length := (lab_out ok _ (Nat.le_refl _)).len

theorem parts_iff {net : List Nat} (ok : Ok net) {a b : Nat} (ha : a < net.length) (hb : b < net.length) : 0 ≤ dist net (2 ^ a) 64 b ↔ (parts net).getD b 0 = (parts net).getD a 0 := by
  rw [conn_iff ok ha hb]
  have lab := lab_out ok _ (Nat.le_refl _)
  constructor
  · rintro ⟨t, h⟩
    exact (parts_walk ok h).symm
  · intro e
    obtain ⟨t, h1⟩ := lab.conn a ha
    obtain ⟨s, h2⟩ := lab.conn b hb
    unfold parts at e
    rw [e] at h2
    exact ⟨_, h1.trans (h2.back ok)⟩

theorem parts_le {net : List Nat} (ok : Ok net) {a : Nat} (ha : a < net.length) : (parts net).getD a 0 ≤ a := (lab_out ok _ (Nat.le_refl _)).le a ha

/-- The least node that is come to. -/
theorem parts_least {net : List Nat} (ok : Ok net) {k p : Nat} (hk : k < net.length) (hp : p ≤ k) (hc : 0 ≤ dist net (2 ^ k) 64 p) (hl : ∀ i, i ≤ k → 0 ≤ dist net (2 ^ k) 64 i → p ≤ i) : (parts net).getD k 0 = p := by
  have lab := lab_out ok _ (Nat.le_refl _)
  have h1 := lab.le k hk
  have h2 := (conn_iff ok hk (b := (parts net).getD k 0) (by unfold parts; omega)).2 (lab.conn k hk)
  have h3 := hl _ h1 h2
  have h4 := (parts_iff ok hk (b := p) (by omega)).1 hc
  have h5 := lab.le p (by omega)
  unfold parts at *
  omega

def partsOf (xs : List Int) : List Int := if okB xs = true then nats (parts (xs.map Int.toNat)) else []
theorem partsOf_ok {ns : List Nat} (h : Ok ns) : partsOf (nats ns) = nats (parts ns) := by
  unfold partsOf
  rw [if_pos (ok_okB h), nats_toNat]
theorem partsOf_no {xs : List Int} (h : okB xs = false) : partsOf xs = [] := by
  unfold partsOf
  rw [if_neg (by rw [h]; simp)]
theorem partsOf_small (xs : List Int) : (partsOf xs).length ≤ 2000000 := by
  by_cases h : okB xs = true
  · obtain ⟨ns, rfl, ok⟩ := okB_ok h
    rw [partsOf_ok ok, nats_length, parts_length ok]
    have := ok.few
    omega
  · rw [partsOf_no (by simpa using h)]; simp

/-- How many nodes bear their own label. -/
def reps (ls : List Nat) : Nat := sumTo (fun i => if ls.getD i 0 = i then 1 else 0) ls.length

theorem sumTo_mono {f g : Nat → Nat} : ∀ n, (∀ i, i < n → f i ≤ g i) → sumTo f n ≤ sumTo g n
  | 0, _ => Nat.le_refl _
  | n + 1, h => by
    have h1 := sumTo_mono n (fun i hi => h i (by omega))
    have h2 := h n (by omega)
    rw [sumTo, sumTo]; omega
theorem sumTo_single (M : Nat) : ∀ n, sumTo (fun i => if i = M then 1 else 0) n = if M < n then 1 else 0
  | 0 => by simp [sumTo]
  | n + 1 => by
    rw [sumTo, sumTo_single M n]
    by_cases e : n = M
    · subst e; simp
    · rw [if_neg e]
      by_cases h : M < n
      · rw [if_pos h, if_pos (by omega)]
      · rw [if_neg h, if_neg (by omega)]

theorem reps_merge (ls : List Nat) (x y : Nat) : reps ls ≤ reps (merge ls x y) + 1 := by
  unfold reps
  rw [merge_length]
  have h1 : sumTo (fun i => if ls.getD i 0 = i then 1 else 0) ls.length ≤ sumTo (fun i => (if (merge ls x y).getD i 0 = i then 1 else 0) + (if i = max x y then 1 else 0)) ls.length := by
    refine sumTo_mono _ fun i hi => ?_
    rw [merge_get ls x y i hi]
    by_cases e : ls.getD i 0 = i
    · rw [if_pos e, e]
      unfold mrg
      by_cases e2 : i = max x y
      · rw [if_pos e2]; omega
      · by_cases e3 : i = x ∨ i = y
        · rw [if_pos e3, if_pos (by omega)]; omega
        · rw [if_neg e3]; simp
    · rw [if_neg e]; omega
  rw [sumTo_add, sumTo_single] at h1
  have : (if max x y < ls.length then 1 else 0) ≤ 1 := by split <;> omega
  omega

theorem reps_in (net : List Nat) (k : Nat) (ls : List Nat) : ∀ j, reps ls ≤ reps (labIn net k ls j) + popTo (net.getD k 0) j
  | 0 => by simp [labIn, popTo]
  | j + 1 => by
    have ih := reps_in net k ls j
    unfold labIn
    rw [popTo]
    split
    · have := reps_merge (labIn net k ls j) ((labIn net k ls j).getD k 0) ((labIn net k ls j).getD j 0)
      omega
    · omega

theorem reps_out (net : List Nat) : ∀ k, net.length ≤ reps (labOut net k) + wiresTo net k
  | 0 => by
    have h : reps (List.range net.length) = sumTo (fun _ => 1) net.length := by
      unfold reps
      rw [List.length_range]
      exact sumTo_congr _ fun i hi => by simp [List.getD_eq_getElem?_getD, hi]
    have h2 : ∀ n, sumTo (fun _ => 1) n = n := by
      intro n
      induction n with
      | zero => rfl
      | succ n ih => rw [sumTo, ih]
    unfold labOut
    rw [h, h2]
    omega
  | k + 1 => by
    have ih := reps_out net k
    have := reps_in net k (labOut net k) k
    unfold labOut
    have e : wiresTo net (k + 1) = wiresTo net k + popTo (net.getD k 0) k := rfl
    omega

/-- At least as many wires as nodes less parts. -/
theorem wires_parts (net : List Nat) : net.length ≤ reps (parts net) + wires net := reps_out net net.length

theorem near_single {net : List Nat} {k : Nat} (hk : k < net.length) : near net (2 ^ k) = net.getD k 0 := by
  apply Nat.eq_of_testBit_eq
  intro j
  have h : (near net (2 ^ k)).testBit j = true ↔ (net.getD k 0).testBit j = true := by
    rw [testBit_near]
    constructor
    · rintro ⟨i, _, h1, h2⟩
      rw [bit_pow] at h1
      subst h1
      exact h2
    · intro h
      exact ⟨k, hk, (bit_pow k k).2 rfl, h⟩
  cases h1 : (net.getD k 0).testBit j
  · cases h2 : (near net (2 ^ k)).testBit j
    · rfl
    · rw [h.1 h2] at h1; cases h1
  · exact h.2 h1

end Nt
end Go.Proofs.Ytahjplaidkibpaa
