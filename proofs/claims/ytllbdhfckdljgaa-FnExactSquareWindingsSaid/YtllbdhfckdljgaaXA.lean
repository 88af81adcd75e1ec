/-
  Plain mathematics of heights and windings: what is flat dies and stands, what winds never does.
  Plain mathematics of windings, of tours done twice, and of nets without rounds.
  Plain mathematics: what the functions of heights and windings answer.
  Plain mathematics: heights laid out node by node.
  Plain mathematics: heights laid out wave by wave, and peaks laid out part by part.
-/
import Derived.Test.YtllbdhfckdljgaaTC
namespace Go.Proofs.Ytllbdhfckdljgaa
namespace Nt

/-- Heights that agree with all rises. -/
def Hts (net ks : List Nat) (H : Nat → Int) : Prop := ∀ k j, k < ks.length → j < ks.length → (net.getD k 0).testBit j = true → H j - H k = rise (ks.getD k 0) (ks.getD j 0)
def Flat (net ks : List Nat) : Prop := ∃ H, Hts net ks H

theorem hts_turns {net ks : List Nat} (ok : Ok net) (h : St 3 ks) (hl : ks.length = net.length) {H : Nat → Int} (hh : Hts net ks H) (t : Nat) : Hts net (turns net ks t) (fun k => H k + (turned net ks k t : Int)) := fun k j hk hj hb => by
  rw [turns_length] at hk hj
  have h1 := rise_turned ok h hl hk hj hb t
  have h2 := hh k j hk hj hb
  show H j + _ - (H k + _) = _
  omega
theorem turns_hts {net ks : List Nat} (ok : Ok net) (h : St 3 ks) (hl : ks.length = net.length) {H : Nat → Int} {t : Nat} (hh : Hts net (turns net ks t) H) : Hts net ks (fun k => H k - (turned net ks k t : Int)) := fun k j hk hj hb => by
  have h1 := rise_turned ok h hl hk hj hb t
  have h2 := hh k j (by rw [turns_length]; exact hk) (by rw [turns_length]; exact hj) hb
  show H j - _ - (H k - _) = _
  omega
theorem flat_turns {net ks : List Nat} (ok : Ok net) (h : St 3 ks) (hl : ks.length = net.length) (t : Nat) : Flat net (turns net ks t) ↔ Flat net ks :=
  ⟨fun ⟨_, hh⟩ => ⟨_, turns_hts ok h hl hh⟩, fun ⟨_, hh⟩ => ⟨_, hts_turns ok h hl hh t⟩⟩

/-- Whether a node goes on by firing. -/
def adv (net ks : List Nat) (k : Nat) : Nat := if 0 < ks.getD k 0 ∨ litB net ks k = true then 1 else 0
theorem rise_fired {net ks : List Nat} (ok : Ok net) (h : St 3 ks) (hl : ks.length = net.length) {k j : Nat} (hk : k < ks.length) (hj : j < ks.length) (hb : (net.getD k 0).testBit j = true) :
    rise ((step net 3 ks).getD k 0) ((step net 3 ks).getD j 0) = rise (ks.getD k 0) (ks.getD j 0) + (adv net ks j : Int) - (adv net ks k : Int) := by
  have hx := h.lt k hk
  have hy := h.lt j hj
  have hb2 : (net.getD j 0).testBit k = true := by rw [ok.both j k (by omega) (by omega)]; exact hb
  have p1 : ks.getD j 0 = 1 → litB net ks k = true := fun e => litB_iff.2 ⟨j, hj, hb, e⟩
  have p2 : ks.getD k 0 = 1 → litB net ks j = true := fun e => litB_iff.2 ⟨k, hk, hb2, e⟩
  rw [step_get _ _ _ hk, step_get _ _ _ hj]
  unfold adv
  generalize litB net ks k = a at *
  generalize litB net ks j = b at *
  generalize ks.getD k 0 = x at *
  generalize ks.getD j 0 = y at *
  unfold rise fireK
  have hx3 : x = 0 ∨ x = 1 ∨ x = 2 := by omega
  have hy3 : y = 0 ∨ y = 1 ∨ y = 2 := by omega
  rcases hx3 with rfl | rfl | rfl <;> rcases hy3 with rfl | rfl | rfl <;> cases a <;> cases b <;> simp at p1 p2 ⊢
theorem adv_le (net ks : List Nat) (k : Nat) : adv net ks k ≤ 1 := by unfold adv; split <;> omega
theorem step_adv {net ks : List Nat} (h : St 3 ks) {k : Nat} (hk : k < ks.length) : (step net 3 ks).getD k 0 = (ks.getD k 0 + adv net ks k) % 3 := by
  have hx := h.lt k hk
  rw [step_get _ _ _ hk]
  unfold adv fireK
  by_cases e : 0 < ks.getD k 0
  · rw [if_pos e, if_pos (Or.inl e)]
  · have e0 : ks.getD k 0 = 0 := by omega
    rw [e0]
    cases litB net ks k <;> simp
theorem hts_step {net ks : List Nat} (ok : Ok net) (h : St 3 ks) (hl : ks.length = net.length) {H : Nat → Int} (hh : Hts net ks H) : Hts net (step net 3 ks) (fun k => H k + (adv net ks k : Int)) := fun k j hk hj hb => by
  rw [step_length] at hk hj
  have h1 := rise_fired ok h hl hk hj hb
  have h2 := hh k j hk hj hb
  show H j + _ - (H k + _) = _
  omega
theorem step_hts {net ks : List Nat} (ok : Ok net) (h : St 3 ks) (hl : ks.length = net.length) {H : Nat → Int} (hh : Hts net (step net 3 ks) H) : Hts net ks (fun k => H k - (adv net ks k : Int)) := fun k j hk hj hb => by
  have h1 := rise_fired ok h hl hk hj hb
  have h2 := hh k j (by rw [step_length]; exact hk) (by rw [step_length]; exact hj) hb
  show H j - _ - (H k - _) = _
  omega
theorem flat_step {net ks : List Nat} (ok : Ok net) (h : St 3 ks) (hl : ks.length = net.length) : Flat net (step net 3 ks) ↔ Flat net ks :=
  ⟨fun ⟨_, hh⟩ => ⟨_, step_hts ok h hl hh⟩, fun ⟨_, hh⟩ => ⟨_, hts_step ok h hl hh⟩⟩
theorem flat_run {net ks : List Nat} (ok : Ok net) (h : St 3 ks) (hl : ks.length = net.length) : ∀ t, Flat net (run net 3 ks t) ↔ Flat net ks
  | 0 => Iff.rfl
  | t + 1 => by
    rw [run, flat_step ok (run_st net h t) (by rw [run_length]; exact hl), flat_run ok h hl t]
theorem flat_rest (net : List Nat) (n : Nat) : Flat net (rest n) := ⟨fun _ => 0, fun k j _ _ _ => by rw [rest_get, rest_get]; rfl⟩

theorem sumTo_lt {f g : Nat → Nat} {m : Nat} : ∀ n, (∀ i, i < n → f i ≤ g i) → m < n → f m < g m → sumTo f n < sumTo g n
  | 0, _, hm, _ => absurd hm (by omega)
  | n + 1, h, hm, hlt => by
    rw [sumTo, sumTo]
    by_cases e : m = n
    · subst e
      have := sumTo_mono m (fun i hi => h i (by omega))
      omega
    · have h1 := sumTo_lt n (fun i hi => h i (by omega)) (by omega) hlt
      have h2 := h n (by omega)
      omega
theorem bound_of (H : Nat → Int) : ∀ n, ∃ M : Int, ∀ k, k < n → H k ≤ 3 * M
  | 0 => ⟨0, fun k hk => absurd hk (by omega)⟩
  | n + 1 => by
    obtain ⟨M, hM⟩ := bound_of H n
    refine ⟨max M (H n).toNat, fun k hk => ?_⟩
    by_cases e : k = n
    · subst e; omega
    · have := hM k (by omega)
      omega
theorem hts_mod {net ks : List Nat} (h : St 3 ks) {H : Nat → Int} (hh : Hts net ks H) : ∃ G, Hts net ks G ∧ ∀ k, k < ks.length → G k % 3 = (ks.getD k 0 : Int) := by
  refine ⟨fun k => H k + ((ks.getD k 0 : Int) - H k) % 3, fun k j hk hj hb => ?_, fun k hk => ?_⟩
  · have h1 := hh k j hk hj hb
    have hx := h.lt k hk
    have hy := h.lt j hj
    show H j + ((ks.getD j 0 : Int) - H j) % 3 - (H k + ((ks.getD k 0 : Int) - H k) % 3) = _
    rw [← h1]
    unfold rise at h1
    omega
  · have hx := h.lt k hk
    show (H k + ((ks.getD k 0 : Int) - H k) % 3) % 3 = _
    omega

/-- What is flat comes to rest. -/
theorem dies {net : List Nat} (ok : Ok net) {M : Int} : ∀ (N : Nat) (ks : List Nat) (H : Nat → Int), St 3 ks → ks.length = net.length → Hts net ks H → (∀ k, k < ks.length → H k % 3 = (ks.getD k 0 : Int)) → (∀ k, k < ks.length → H k ≤ 3 * M) →
    sumTo (fun k => (3 * M - H k).toNat) ks.length < N → ∃ t, run net 3 ks t = rest ks.length
  | 0, _, _, _, _, _, _, _, hs => absurd hs (by omega)
  | N + 1, ks, H, h, hl, hh, hm, hb, hs => by
    by_cases e : ∀ k, k < ks.length → ks.getD k 0 = 0
    · exact ⟨0, eq_rest e⟩
    · obtain ⟨m, hm1, hm2⟩ : ∃ m, m < ks.length ∧ ks.getD m 0 ≠ 0 := by
        apply Classical.byContradiction
        intro hn
        exact e fun k hk => Classical.byContradiction fun h0 => hn ⟨k, hk, h0⟩
      have hb' : ∀ k, k < ks.length → H k + (adv net ks k : Int) ≤ 3 * M := fun k hk => by
        have h1 := hb k hk
        have h2 := hm k hk
        have h4 := h.lt k hk
        unfold adv
        split
        · rename_i hc
          rcases hc with hc | hc
          · omega
          · obtain ⟨j, hj, hbit, hf⟩ := litB_iff.1 hc
            by_cases e0 : ks.getD k 0 = 0
            · have h3 := hh k j hk hj hbit
              rw [e0, hf] at h3
              have h5 := hb j hj
              have h6 : rise 0 1 = 1 := by decide
              omega
            · omega
        · omega
      obtain ⟨t, ht⟩ := dies ok N (step net 3 ks) (fun k => H k + (adv net ks k : Int)) (step_st net h) (by rw [step_length]; exact hl) (hts_step ok h hl hh)
        (fun k hk => by
          rw [step_length] at hk
          have h2 := hm k hk
          have := adv_le net ks k
          rw [step_adv h hk]
          show (H k + (adv net ks k : Int)) % 3 = _
          omega)
        (fun k hk => by rw [step_length] at hk; exact hb' k hk)
        (by
          rw [step_length]
          have h7 : sumTo (fun k => (3 * M - (H k + (adv net ks k : Int))).toNat) ks.length < sumTo (fun k => (3 * M - H k).toNat) ks.length := by
            refine sumTo_lt (m := m) _ (fun k hk => ?_) hm1 ?_
            · show (3 * M - (H k + (adv net ks k : Int))).toNat ≤ (3 * M - H k).toNat
              omega
            · have h8 : adv net ks m = 1 := by unfold adv; rw [if_pos (Or.inl (by omega))]
              have h9 := hb' m hm1
              show (3 * M - (H m + (adv net ks m : Int))).toNat < (3 * M - H m).toNat
              omega
          omega)
      refine ⟨t + 1, ?_⟩
      rw [← run_one, ht, step_length]
theorem flat_dies {net ks : List Nat} (ok : Ok net) (h : St 3 ks) (hl : ks.length = net.length) : Flat net ks ↔ ∃ t, run net 3 ks t = rest ks.length := by
  constructor
  · rintro ⟨H, hh⟩
    obtain ⟨G, hg, hm⟩ := hts_mod h hh
    obtain ⟨M, hM⟩ := bound_of G ks.length
    exact dies ok (M := M) _ ks G h hl hg hm hM (Nat.lt_succ_self _)
  · rintro ⟨t, ht⟩
    rw [← flat_run ok h hl t, ht]
    exact flat_rest _ _

/-- If it is still neighbours have the same kind. -/
theorem still_near {net ks : List Nat} (ok : Ok net) (h : St 3 ks) (hl : ks.length = net.length) (e : turn net ks = ks) {k j : Nat} (hk : k < ks.length) (hj : j < ks.length) (hb : (net.getD k 0).testBit j = true) : ks.getD k 0 = ks.getD j 0 := by
  have hb2 : (net.getD j 0).testBit k = true := by rw [ok.both j k (by omega) (by omega)]; exact hb
  have no : ∀ i, i < ks.length → ¬ pullB net ks i = true := fun i hi hp => (pull_changes h hi).2 hp (by rw [e])
  have h1 : ¬ ks.getD j 0 = (ks.getD k 0 + 1) % 3 := fun e1 => no k hk (pullB_iff.2 ⟨j, hj, hb, e1⟩)
  have h2 : ¬ ks.getD k 0 = (ks.getD j 0 + 1) % 3 := fun e1 => no j hj (pullB_iff.2 ⟨k, hk, hb2, e1⟩)
  have := h.lt k hk
  have := h.lt j hj
  omega
theorem still_flat {net ks : List Nat} (ok : Ok net) (h : St 3 ks) (hl : ks.length = net.length) (e : turn net ks = ks) : Flat net ks :=
  ⟨fun _ => 0, fun k j hk hj hb => by
    rw [still_near ok h hl e hk hj hb]
    show (0 : Int) - 0 = _
    unfold rise; omega⟩
theorem pull_up {net ks : List Nat} (h : St 3 ks) {H : Nat → Int} (hh : Hts net ks H) {k : Nat} (hk : k < ks.length) : pullB net ks k = true ↔ ∃ j, j < ks.length ∧ (net.getD k 0).testBit j = true ∧ H k < H j := by
  rw [pullB_iff]
  constructor
  · rintro ⟨j, hj, hb, he⟩
    have h1 := hh k j hk hj hb
    rw [(rise_one (h.lt j hj)).2 he] at h1
    exact ⟨j, hj, hb, by omega⟩
  · rintro ⟨j, hj, hb, he⟩
    have h1 := hh k j hk hj hb
    have h2 := @rise_hi (ks.getD k 0) (ks.getD j 0)
    exact ⟨j, hj, hb, (rise_one (h.lt j hj)).1 (by omega)⟩
/-- What is flat comes to a stand. -/
theorem stands {net : List Nat} (ok : Ok net) {M : Int} : ∀ (N : Nat) (ks : List Nat) (H : Nat → Int), St 3 ks → ks.length = net.length → Hts net ks H → (∀ k, k < ks.length → H k ≤ 3 * M) →
    sumTo (fun k => (3 * M - H k).toNat) ks.length < N → ∃ t, turn net (turns net ks t) = turns net ks t
  | 0, _, _, _, _, _, _, hs => absurd hs (by omega)
  | N + 1, ks, H, h, hl, hh, hb, hs => by
    by_cases e : turn net ks = ks
    · exact ⟨0, e⟩
    · obtain ⟨m, hm1, hm2⟩ : ∃ m, m < ks.length ∧ pullB net ks m = true := by
        apply Classical.byContradiction
        intro hn
        exact e (ext_getD (turn_length _ _) fun k hk => by
          rw [turn_length] at hk
          exact Classical.byContradiction fun h0 => hn ⟨k, hk, (pull_changes h hk).1 h0⟩)
      have t1 : ∀ k, (turned net ks k 1 : Int) = if pullB net ks k = true then 1 else 0 := fun k => by
        show ((0 + (if pullB net ks k = true then 1 else 0) : Nat) : Int) = _
        split <;> rfl
      have hb' : ∀ k, k < ks.length → H k + (turned net ks k 1 : Int) ≤ 3 * M := fun k hk => by
        have h1 := hb k hk
        rw [t1]
        split
        · rename_i hc
          obtain ⟨j, hj, -, hf⟩ := (pull_up h hh hk).1 hc
          have := hb j hj
          omega
        · omega
      obtain ⟨t, ht⟩ := stands ok N (turn net ks) (fun k => H k + (turned net ks k 1 : Int)) (turn_st net h) (by rw [turn_length]; exact hl) (hts_turns ok h hl hh 1)
        (fun k hk => by rw [turn_length] at hk; exact hb' k hk)
        (by
          rw [turn_length]
          have h7 : sumTo (fun k => (3 * M - (H k + (turned net ks k 1 : Int))).toNat) ks.length < sumTo (fun k => (3 * M - H k).toNat) ks.length := by
            refine sumTo_lt (m := m) _ (fun k hk => ?_) hm1 ?_
            · show (3 * M - (H k + (turned net ks k 1 : Int))).toNat ≤ (3 * M - H k).toNat
              omega
            · have h8 : (turned net ks m 1 : Int) = 1 := by rw [t1, if_pos hm2]
              have h9 := hb' m hm1
              show (3 * M - (H m + (turned net ks m 1 : Int))).toNat < (3 * M - H m).toNat
              omega
          omega)
      refine ⟨t + 1, ?_⟩
      rw [turns_one] at ht
      exact ht
theorem flat_stands {net ks : List Nat} (ok : Ok net) (h : St 3 ks) (hl : ks.length = net.length) : Flat net ks ↔ ∃ t, turn net (turns net ks t) = turns net ks t := by
  constructor
  · rintro ⟨H, hh⟩
    obtain ⟨M, hM⟩ := bound_of H ks.length
    exact stands ok (M := M) _ ks H h hl hh hM (Nat.lt_succ_self _)
  · rintro ⟨t, ht⟩
    rw [← flat_turns ok h hl t]
    exact still_flat ok (turns_st net h t) (by rw [turns_length]; exact hl) ht

/-- Until then no node rises above the highest one of its part. -/
theorem below_peak {net ks : List Nat} (ok : Ok net) (h : St 3 ks) (hl : ks.length = net.length) {H : Nat → Int} (hh : Hts net ks H) {P : Int} {S : Nat → Prop} (hS : ∀ k j, k < ks.length → j < ks.length → (net.getD k 0).testBit j = true → S k → S j) (hP : ∀ k, k < ks.length → S k → H k ≤ P) : ∀ t k, k < ks.length → S k → H k + (turned net ks k t : Int) ≤ P
  | 0, k, hk, hs => by
    have := hP k hk hs
    show H k + ((0 : Nat) : Int) ≤ P
    omega
  | t + 1, k, hk, hs => by
    have ih := below_peak ok h hl hh hS hP t
    have h1 := ih k hk hs
    rw [turned]
    split
    · rename_i hc
      obtain ⟨j, hj, hb, hf⟩ := (pull_up (turns_st net h t) (hts_turns ok h hl hh t) (by rw [turns_length]; exact hk)).1 hc
      rw [turns_length] at hj
      have h2 := ih j hj (hS k j hk hj hb hs)
      omega
    · omega
theorem level {net ks : List Nat} (ok : Ok net) (h : St 3 ks) (hl : ks.length = net.length) {H : Nat → Int} (hh : Hts net ks H) {T : Nat} (e : turn net (turns net ks T) = turns net ks T) : ∀ {s a b : Nat}, Walk net s a b → H a + (turned net ks a T : Int) = H b + (turned net ks b T : Int)
  | 0, _, _, hw => by rw [hw.1]
  | s + 1, _, c, ⟨hc, b, hw, hb⟩ => by
    rw [level ok h hl hh e hw]
    have hb1 := hw.lt2
    have h1 := hts_turns ok h hl hh T b c (by rw [turns_length]; omega) (by rw [turns_length]; omega) hb
    rw [still_near ok (turns_st net h T) (by rw [turns_length]; exact hl) e (k := b) (j := c) (by rw [turns_length]; omega) (by rw [turns_length]; omega) hb] at h1
    have h2 : rise ((turns net ks T).getD c 0) ((turns net ks T).getD c 0) = 0 := by unfold rise; omega
    rw [h2] at h1
    show H b + _ = _
    have h3 : H c + (turned net ks c T : Int) - (H b + (turned net ks b T : Int)) = 0 := h1
    omega
theorem overTo_is (f : Nat → Int) (p : Nat → Bool) (a : Int) : ∀ n, overTo f p a n = a ∨ ∃ j, j < n ∧ p j = true ∧ overTo f p a n = f j
  | 0 => Or.inl rfl
  | n + 1 => by
    rw [overTo]
    have ih := overTo_is f p a n
    have up : (∃ j, j < n ∧ p j = true ∧ overTo f p a n = f j) → ∃ j, j < n + 1 ∧ p j = true ∧ overTo f p a n = f j := fun ⟨j, h1, h2, h3⟩ => ⟨j, by omega, h2, h3⟩
    split
    · rename_i hp
      by_cases e : overTo f p a n ≤ f n
      · rw [show max (overTo f p a n) (f n) = f n by omega]
        exact Or.inr ⟨n, by omega, hp, rfl⟩
      · rw [show max (overTo f p a n) (f n) = overTo f p a n by omega]
        rcases ih with ih | ih
        · exact Or.inl ih
        · exact Or.inr (up ih)
    · rcases ih with ih | ih
      · exact Or.inl ih
      · exact Or.inr (up ih)
/-- The greatest height of the part of a node. -/
def peakK (net : List Nat) (H : Nat → Int) (n k : Nat) : Int := overTo H (fun j => decide ((parts net).getD j 0 = (parts net).getD k 0)) (H k) n
/-- Each node turns up to the peak. -/
theorem turned_peak {net ks : List Nat} (ok : Ok net) (h : St 3 ks) (hl : ks.length = net.length) {H : Nat → Int} (hh : Hts net ks H) {T : Nat} (e : turn net (turns net ks T) = turns net ks T) {k : Nat} (hk : k < ks.length) : H k + (turned net ks k T : Int) = peakK net H ks.length k := by
  obtain ⟨m, hm, hpm, hem⟩ : ∃ m, m < ks.length ∧ (parts net).getD m 0 = (parts net).getD k 0 ∧ peakK net H ks.length k = H m := by
    rcases overTo_is H (fun j => decide ((parts net).getD j 0 = (parts net).getD k 0)) (H k) ks.length with h1 | ⟨j, hj, hp, h1⟩
    · exact ⟨k, hk, rfl, h1⟩
    · exact ⟨j, hj, by simpa using hp, h1⟩
  have hw : ∃ s, Walk net s k m := (conn_iff ok (by omega) (by omega)).1 ((parts_iff ok (by omega) (by omega)).2 hpm)
  obtain ⟨s, hw⟩ := hw
  have h2 := level ok h hl hh e hw
  have h3 := below_peak ok h hl hh (P := peakK net H ks.length k) (S := fun i => (parts net).getD i 0 = (parts net).getD k 0)
    (fun i j hi hj hb hs => by
      show (parts net).getD j 0 = _
      rw [← hs]
      exact (parts_wire ok (by omega) (by omega) hb).symm)
    (fun i hi hs => (overTo_ge H (fun j => decide ((parts net).getD j 0 = (parts net).getD k 0)) (H k) ks.length).2 i hi (decide_eq_true hs)) T m hm hpm
  rw [hem] at h3 ⊢
  omega

end Nt
end Go.Proofs.Ytllbdhfckdljgaa

namespace Go.Proofs.Ytllbdhfckdljgaa
namespace Nt

/-- What a tour climbs after a step, and after turns. -/
theorem climbTo_step {net ks tr : List Nat} (ok : Ok net) (h : St 3 ks) (hl : ks.length = net.length) (ht : Tour net tr) : ∀ i, i < tr.length →
    climbTo (step net 3 ks) tr i = climbTo ks tr i + (adv net ks (tr.getD i 0) : Int) - (adv net ks (tr.getD 0 0) : Int)
  | 0, _ => by show (0 : Int) = 0 + _ - _; omega
  | i + 1, hi => by
    have ih := climbTo_step ok h hl ht i (by omega)
    have h1 := ht.inn i (by omega)
    have h2 := ht.inn (i + 1) hi
    have h3 := rise_fired ok h hl (k := tr.getD i 0) (j := tr.getD (i + 1) 0) (by omega) (by omega) (ht.near i hi)
    rw [climbTo, climbTo, ih, h3]; omega
theorem climbTo_turns {net ks tr : List Nat} (ok : Ok net) (h : St 3 ks) (hl : ks.length = net.length) (ht : Tour net tr) (t : Nat) : ∀ i, i < tr.length →
    climbTo (turns net ks t) tr i = climbTo ks tr i + (turned net ks (tr.getD i 0) t : Int) - (turned net ks (tr.getD 0 0) t : Int)
  | 0, _ => by show (0 : Int) = 0 + _ - _; omega
  | i + 1, hi => by
    have ih := climbTo_turns ok h hl ht t i (by omega)
    have h1 := ht.inn i (by omega)
    have h2 := ht.inn (i + 1) hi
    have h3 := rise_turned ok h hl (k := tr.getD i 0) (j := tr.getD (i + 1) 0) (by omega) (by omega) (ht.near i hi) t
    rw [climbTo, climbTo, ih, h3]; omega
/-- A tour that ends where it begins. -/
def Round (tr : List Nat) : Prop := tr.getD 0 0 = tr.getD (tr.length - 1) 0
theorem climb_step {net ks tr : List Nat} (ok : Ok net) (h : St 3 ks) (hl : ks.length = net.length) (ht : Tour net tr) (hr : Round tr) : climb (step net 3 ks) tr = climb ks tr := by
  have h1 := ht.some
  unfold climb
  rw [climbTo_step ok h hl ht _ (by omega), ← hr]; omega
theorem climb_turn {net ks tr : List Nat} (ok : Ok net) (h : St 3 ks) (hl : ks.length = net.length) (ht : Tour net tr) (hr : Round tr) : climb (turn net ks) tr = climb ks tr := by
  have h1 := ht.some
  have h2 := climbTo_turns ok h hl ht 1 (tr.length - 1) (by omega)
  unfold climb
  show climbTo (turns net ks 1) tr _ = _
  rw [h2, ← hr]; omega
theorem climbTo_mod {ks tr : List Nat} (h : St 3 ks) : ∀ i, climbTo ks tr i % 3 = ((ks.getD (tr.getD i 0) 0 : Int) - (ks.getD (tr.getD 0 0) 0 : Int)) % 3
  | 0 => by show (0 : Int) % 3 = _; omega
  | i + 1 => by
    have ih := climbTo_mod (tr := tr) h i
    rw [climbTo]
    unfold rise
    omega
/-- A round climbs by threes. -/
theorem climb_three {ks tr : List Nat} (h : St 3 ks) (hr : Round tr) : climb ks tr % 3 = 0 := by
  unfold climb
  rw [climbTo_mod h, ← hr]; omega
/-- Heights are what tours climb. -/
theorem climbTo_hts {net ks tr : List Nat} (hl : ks.length = net.length) {H : Nat → Int} (hh : Hts net ks H) (ht : Tour net tr) : ∀ i, i < tr.length → climbTo ks tr i = H (tr.getD i 0) - H (tr.getD 0 0)
  | 0, _ => by show (0 : Int) = _; omega
  | i + 1, hi => by
    have ih := climbTo_hts hl hh ht i (by omega)
    have h1 := ht.inn i (by omega)
    have h2 := ht.inn (i + 1) hi
    have h3 := hh (tr.getD i 0) (tr.getD (i + 1) 0) (by omega) (by omega) (ht.near i hi)
    rw [climbTo, ih]; omega
theorem climb_flat {net ks tr : List Nat} (hl : ks.length = net.length) (hf : Flat net ks) (ht : Tour net tr) (hr : Round tr) : climb ks tr = 0 := by
  obtain ⟨H, hh⟩ := hf
  have h1 := ht.some
  unfold climb
  rw [climbTo_hts hl hh ht _ (by omega), ← hr]; omega
/-- Twice round it climbs twice. -/
theorem climb_twice (ks : List Nat) {tr : List Nat} (h : 1 ≤ tr.length) (hr : Round tr) : climb ks (tr ++ tr.drop 1) = 2 * climb ks tr := by
  have hl : (tr ++ tr.drop 1).length - 1 = (tr.length - 1) + (tr.length - 1) := by
    rw [List.length_append, List.length_drop]; omega
  unfold climb
  rw [hl, climbTo_shift (us := tr) _ (fun k hk => ?_), climbTo_cong (us := tr) _ (fun k hk => ?_)]
  · omega
  · rw [List.getD_eq_getElem?_getD, List.getElem?_append_left (by omega), ← List.getD_eq_getElem?_getD]
  · by_cases e : k = 0
    · subst e
      rw [Nat.add_zero, List.getD_eq_getElem?_getD (l := tr ++ _), List.getElem?_append_left (by omega), ← List.getD_eq_getElem?_getD]
      exact hr
    · rw [List.getD_eq_getElem?_getD (l := tr ++ _), List.getElem?_append_right (by omega), List.getElem?_drop, ← List.getD_eq_getElem?_getD]
      congr 1
      omega

/-- Heights that agree with the rises of some wires, the ends of which bear the same label. -/
structure Grown (ks ls : List Nat) (E : Nat → Nat → Prop) : Prop where
  same : ∀ a b, E a b → a < ls.length ∧ b < ls.length ∧ ls.getD a 0 = ls.getD b 0
  hts : ∃ H : Nat → Int, ∀ a b, E a b → H b - H a = rise (ks.getD a 0) (ks.getD b 0)

theorem reps_merge_same (ls : List Nat) (x : Nat) : merge ls x x = ls := by
  refine ext_getD (merge_length _ _ _) fun i hi => ?_
  rw [merge_length] at hi
  rw [merge_get _ _ _ _ hi]
  unfold mrg
  split <;> omega
/-- One wire more between two labels. -/
theorem Grown.more {ks ls : List Nat} {E : Nat → Nat → Prop} (g : Grown ks ls E) {k j : Nat} (hk : k < ls.length) (hj : j < ls.length) (hne : ls.getD k 0 ≠ ls.getD j 0) :
    Grown ks (merge ls (ls.getD k 0) (ls.getD j 0)) (fun a b => E a b ∨ a = k ∧ b = j) := by
  obtain ⟨same, H, hH⟩ := g
  refine ⟨fun a b e => ?_, fun i => if ls.getD i 0 = ls.getD j 0 then H i + (H k + rise (ks.getD k 0) (ks.getD j 0) - H j) else H i, fun a b e => ?_⟩
  · rw [merge_length]
    rcases e with e | ⟨rfl, rfl⟩
    · obtain ⟨ha, hb, he⟩ := same a b e
      exact ⟨ha, hb, by rw [merge_get _ _ _ _ ha, merge_get _ _ _ _ hb, he]⟩
    · refine ⟨hk, hj, ?_⟩
      rw [merge_get _ _ _ _ hk, merge_get _ _ _ _ hj]
      simp [mrg]
  · show (if ls.getD b 0 = ls.getD j 0 then _ else _) - (if ls.getD a 0 = ls.getD j 0 then _ else _) = _
    rcases e with e | ⟨rfl, rfl⟩
    · obtain ⟨ha, hb, he⟩ := same a b e
      have h1 := hH a b e
      rw [he]
      split <;> omega
    · rw [if_pos rfl, if_neg hne]; omega

/-- While the wires of node k are gone through: if none is too many, there are heights. -/
theorem grown_in {net ks ls : List Nat} {k : Nat} (hk : k < ls.length) {E : Nat → Nat → Prop} (g : Grown ks ls E) : ∀ j, j ≤ k → reps (labIn net k ls j) + popTo (net.getD k 0) j ≤ reps ls →
    (labIn net k ls j).length = ls.length ∧ Grown ks (labIn net k ls j) (fun a b => E a b ∨ a = k ∧ b < j ∧ (net.getD k 0).testBit b = true)
  | 0, _, _ => ⟨rfl, ⟨fun a b e => g.same a b (by
      rcases e with e | ⟨-, hb, -⟩
      · exact e
      · exact absurd hb (by omega)), by
      obtain ⟨H, hH⟩ := g.hts
      exact ⟨H, fun a b e => hH a b (by
        rcases e with e | ⟨-, hb, -⟩
        · exact e
        · exact absurd hb (by omega))⟩⟩⟩
  | j + 1, hj, hd => by
    rw [popTo] at hd
    by_cases hb : (net.getD k 0).testBit j = true
    · rw [if_pos hb] at hd
      rw [show labIn net k ls (j + 1) = merge (labIn net k ls j) ((labIn net k ls j).getD k 0) ((labIn net k ls j).getD j 0) by rw [labIn, if_pos hb]] at hd ⊢
      have hd2 := reps_merge (labIn net k ls j) ((labIn net k ls j).getD k 0) ((labIn net k ls j).getD j 0)
      obtain ⟨hlen, g2⟩ := grown_in (net := net) hk g j (by omega) (by omega)
      have hlow := reps_in net k ls j
      have hne : (labIn net k ls j).getD k 0 ≠ (labIn net k ls j).getD j 0 := fun e => by
        rw [e, reps_merge_same] at hd
        omega
      have g3 := g2.more (k := k) (j := j) (by omega) (by omega) hne
      refine ⟨by rw [merge_length]; exact hlen, ⟨fun a b e => g3.same a b ?_, ?_⟩⟩
      · rcases e with e | ⟨h1, h2, h3⟩
        · exact Or.inl (Or.inl e)
        · by_cases e2 : b = j
          · exact Or.inr ⟨h1, e2⟩
          · exact Or.inl (Or.inr ⟨h1, by omega, h3⟩)
      · obtain ⟨H, hH⟩ := g3.hts
        refine ⟨H, fun a b e => hH a b ?_⟩
        rcases e with e | ⟨h1, h2, h3⟩
        · exact Or.inl (Or.inl e)
        · by_cases e2 : b = j
          · exact Or.inr ⟨h1, e2⟩
          · exact Or.inl (Or.inr ⟨h1, by omega, h3⟩)
    · rw [if_neg hb] at hd
      rw [show labIn net k ls (j + 1) = labIn net k ls j by rw [labIn, if_neg hb]] at hd ⊢
      obtain ⟨hlen, g2⟩ := grown_in (net := net) hk g j (by omega) (by omega)
      have key : ∀ a b, (E a b ∨ a = k ∧ b < j + 1 ∧ (net.getD k 0).testBit b = true) → E a b ∨ a = k ∧ b < j ∧ (net.getD k 0).testBit b = true := fun a b e => by
        rcases e with e | ⟨h1, h2, h3⟩
        · exact Or.inl e
        · refine Or.inr ⟨h1, ?_, h3⟩
          by_cases e2 : b = j
          · subst e2; exact absurd h3 hb
          · omega
      refine ⟨hlen, ⟨fun a b e => g2.same a b (key a b e), ?_⟩⟩
      obtain ⟨H, hH⟩ := g2.hts
      exact ⟨H, fun a b e => hH a b (key a b e)⟩
theorem reps_start (n : Nat) : reps (List.range n) = n := by
  have h : reps (List.range n) = sumTo (fun _ => 1) n := by
    unfold reps
    rw [List.length_range]
    exact sumTo_congr _ fun i hi => by simp [List.getD_eq_getElem?_getD, hi]
  rw [h]
  induction n with
  | zero => rfl
  | succ n ih => rw [sumTo, ih (by
      unfold reps
      rw [List.length_range]
      exact sumTo_congr _ fun i hi => by simp [List.getD_eq_getElem?_getD, hi])]
theorem grown_out {net : List Nat} (ok : Ok net) (ks : List Nat) : ∀ k, k ≤ net.length → reps (labOut net k) + wiresTo net k ≤ net.length →
    Grown ks (labOut net k) (fun a b => b < a ∧ a < k ∧ (net.getD a 0).testBit b = true)
  | 0, _, _ => ⟨fun a b e => absurd e.2.1 (by omega), fun _ => 0, fun a b e => absurd e.2.1 (by omega)⟩
  | k + 1, hk, hd => by
    have e : wiresTo net (k + 1) = wiresTo net k + popTo (net.getD k 0) k := rfl
    have h1 := reps_in net k (labOut net k) k
    have h2 := reps_out net k
    have hd' : reps (labIn net k (labOut net k) k) + wiresTo net (k + 1) ≤ net.length := hd
    have g := grown_out ok ks k (by omega) (by omega)
    have hlen := (lab_out ok k (by omega)).len
    obtain ⟨-, g2⟩ := grown_in (net := net) (k := k) (by omega) g k (Nat.le_refl _) (by omega)
    have key : ∀ a b, (b < a ∧ a < k + 1 ∧ (net.getD a 0).testBit b = true) → (b < a ∧ a < k ∧ (net.getD a 0).testBit b = true) ∨ a = k ∧ b < k ∧ (net.getD k 0).testBit b = true := fun a b ⟨h3, h4, h5⟩ => by
      by_cases e2 : a = k
      · subst e2; exact Or.inr ⟨rfl, h3, h5⟩
      · exact Or.inl ⟨h3, by omega, h5⟩
    unfold labOut
    refine ⟨fun a b e => g2.same a b (key a b e), ?_⟩
    obtain ⟨H, hH⟩ := g2.hts
    exact ⟨H, fun a b e => hH a b (key a b e)⟩
/-- Without rounds all is flat. -/
theorem trees_flat {net ks : List Nat} (ok : Ok net) (hl : ks.length = net.length) (hw : reps (parts net) + wires net ≤ net.length) : Flat net ks := by
  obtain ⟨H, hH⟩ := (grown_out ok ks net.length (Nat.le_refl _) hw).hts
  refine ⟨H, fun k j hk hj hb => ?_⟩
  rcases Nat.lt_trichotomy k j with h | h | h
  · have h1 := hH j k ⟨h, by omega, by rw [ok.both j k (by omega) (by omega)]; exact hb⟩
    have h2 : rise (ks.getD k 0) (ks.getD j 0) = - rise (ks.getD j 0) (ks.getD k 0) := rise_back
    rw [h2, ← h1]; omega
  · subst h
    rw [ok.own k (by omega)] at hb
    cases hb
  · exact hH k j ⟨h, by omega, hb⟩

end Nt
end Go.Proofs.Ytllbdhfckdljgaa

namespace Go.Proofs.Ytllbdhfckdljgaa
namespace Nt

theorem walk_short {net : List Nat} (ok : Ok net) {s a b : Nat} (h : Walk net s a b) : ∃ t, t < net.length ∧ Walk net t a b := by
  have ha := h.lt1
  have hb := h.lt2
  have h1 := (conn_iff ok ha hb).2 ⟨s, h⟩
  have h2 := dist_few ok (two_pow_lt ha) b
  obtain ⟨t, ht⟩ := Int.eq_ofNat_of_zero_le h1
  exact ⟨t, by omega, conn_walk ok ha hb ht⟩
theorem hts_walk {net ks : List Nat} (hl : ks.length = net.length) {H : Nat → Int} (hh : Hts net ks H) : ∀ {s a b : Nat}, Walk net s a b → H b - H a ≤ (s : Int) ∧ -(s : Int) ≤ H b - H a
  | 0, a, b, hw => by
    have e : a = b := hw.1
    subst e
    omega
  | s + 1, a, c, ⟨hc, b, hw, hb⟩ => by
    have ih := hts_walk hl hh hw
    have h1 := hh b c (by have := hw.lt2; omega) (by omega) hb
    have h2 := @rise_lo (ks.getD b 0) (ks.getD c 0)
    have h3 := @rise_hi (ks.getD b 0) (ks.getD c 0)
    omega
theorem hts_same {net ks : List Nat} (hl : ks.length = net.length) {H G : Nat → Int} (hh : Hts net ks H) (hg : Hts net ks G) : ∀ {s a b : Nat}, Walk net s a b → H b - H a = G b - G a
  | 0, a, b, hw => by
    have e : a = b := hw.1
    subst e
    omega
  | s + 1, a, c, ⟨hc, b, hw, hb⟩ => by
    have ih := hts_same hl hh hg hw
    have hb2 := hw.lt2
    have h1 := hh b c (by omega) (by omega) hb
    have h2 := hg b c (by omega) (by omega) hb
    omega
theorem parts_lt {net : List Nat} (ok : Ok net) {k : Nat} (hk : k < net.length) : (parts net).getD k 0 < net.length := by
  have := parts_le ok hk
  omega
theorem parts_idem {net : List Nat} (ok : Ok net) {k : Nat} (hk : k < net.length) : (parts net).getD ((parts net).getD k 0) 0 = (parts net).getD k 0 := (lab_out ok _ (Nat.le_refl _)).idem k hk
theorem root_walk {net : List Nat} (ok : Ok net) {k : Nat} (hk : k < net.length) : ∃ s, Walk net s ((parts net).getD k 0) k := by
  obtain ⟨t, h⟩ := (lab_out ok _ (Nat.le_refl _)).conn k hk
  exact ⟨t, h.back ok⟩

theorem still_on {net ks : List Nat} {t s : Nat} (e : turn net (turns net ks t) = turns net ks t) (h : t ≤ s) : turns net ks s = turns net ks t := by
  obtain ⟨d, rfl⟩ := Nat.exists_eq_add_of_le h
  rw [turns_add, turns_still e]
theorem still_more {net ks : List Nat} {t s : Nat} (e : turn net (turns net ks t) = turns net ks t) (h : t ≤ s) : turn net (turns net ks s) = turns net ks s := by
  rw [still_on e h]; exact e
/-- No node of a flat state turns more than five times. -/
theorem turned_few {net ks : List Nat} (ok : Ok net) (h : St 3 ks) (hl : ks.length = net.length) (hf : Flat net ks) {k : Nat} (hk : k < ks.length) (t : Nat) : turned net ks k t ≤ 5 := by
  obtain ⟨H, hh⟩ := hf
  have h1 := below_peak ok h hl hh (P := H k + 5) (S := fun j => (parts net).getD j 0 = (parts net).getD k 0)
    (fun a b ha hb hab e => by rw [← parts_wire ok (by omega) (by omega) hab]; exact e)
    (fun j hj e => by
      obtain ⟨s, hw⟩ := (conn_iff ok (a := k) (b := j) (by omega) (by omega)).1 ((parts_iff ok (by omega) (by omega)).2 e)
      obtain ⟨d, hd, hw⟩ := walk_short ok hw
      have h2 := hts_walk hl hh hw
      have := ok.few
      omega) t k hk rfl
  omega
theorem sum_turned {net ks : List Nat} (h : St 3 ks) : ∀ t, turn net (turns net ks t) ≠ turns net ks t → t + 1 ≤ sumTo (fun k => turned net ks k (t + 1)) ks.length := by
  have one : ∀ t, turn net (turns net ks t) ≠ turns net ks t → sumTo (fun k => turned net ks k t) ks.length < sumTo (fun k => turned net ks k (t + 1)) ks.length := fun t e => by
    obtain ⟨m, hm1, hm2⟩ : ∃ m, m < ks.length ∧ pullB net (turns net ks t) m = true := by
      apply Classical.byContradiction
      intro hn
      refine e (ext_getD (turn_length _ _) fun k hk => ?_)
      rw [turn_length] at hk
      exact Classical.byContradiction fun h0 => hn ⟨k, by rw [turns_length] at hk; exact hk, (pull_changes (turns_st net h t) hk).1 h0⟩
    refine sumTo_lt (m := m) _ (fun k _ => ?_) hm1 ?_
    · show turned net ks k t ≤ turned net ks k (t + 1)
      rw [turned]; omega
    · show turned net ks m t < turned net ks m (t + 1)
      rw [turned, if_pos hm2]; omega
  intro t
  induction t with
  | zero =>
    intro e
    have := one 0 e
    omega
  | succ t ih =>
    intro e
    have h1 := ih fun h0 => e (still_more h0 (by omega))
    have h2 := one (t + 1) e
    omega
theorem flat_soon {net ks : List Nat} (ok : Ok net) (h : St 3 ks) (hl : ks.length = net.length) (hf : Flat net ks) : turn net (turns net ks 30) = turns net ks 30 := by
  apply Classical.byContradiction
  intro e
  have h1 : 31 ≤ sumTo (fun k => turned net ks k 31) ks.length := sum_turned h 30 e
  have h2 := sumTo_le (f := fun k => turned net ks k 31) (c := 5) ks.length (fun k hk => turned_few ok h hl hf hk 31)
  have h3 := h.few
  have h4 : ks.length * 5 ≤ 6 * 5 := Nat.mul_le_mul_right 5 h3
  omega

def flatB (net ks : List Nat) : Bool := decide (turn net (turns net ks 30) = turns net ks 30)
theorem flatB_iff {net ks : List Nat} (ok : Ok net) (h : St 3 ks) (hl : ks.length = net.length) : flatB net ks = true ↔ Flat net ks := by
  unfold flatB
  rw [decide_eq_true_iff]
  exact ⟨fun e => (flat_stands ok h hl).2 ⟨30, e⟩, flat_soon ok h hl⟩
theorem flatB_no {net ks : List Nat} (ok : Ok net) (h : St 3 ks) (hl : ks.length = net.length) (hn : ¬ Flat net ks) : flatB net ks = false := by
  cases hc : flatB net ks
  · rfl
  · exact absurd ((flatB_iff ok h hl).1 hc) hn

/-- The height of a node, the least node of its part having none. -/
def hgt (net ks : List Nat) (k : Nat) : Int := (turned net ks ((parts net).getD k 0) 30 : Int) - (turned net ks k 30 : Int)
theorem hgt_is {net ks : List Nat} (ok : Ok net) (h : St 3 ks) (hl : ks.length = net.length) {H : Nat → Int} (hh : Hts net ks H) {k : Nat} (hk : k < ks.length) : hgt net ks k = H k - H ((parts net).getD k 0) := by
  obtain ⟨s, hw⟩ := root_walk ok (k := k) (by omega)
  have h1 := level ok h hl hh (flat_soon ok h hl ⟨H, hh⟩) hw
  unfold hgt
  omega
theorem hgt_hts {net ks : List Nat} (ok : Ok net) (h : St 3 ks) (hl : ks.length = net.length) (hf : Flat net ks) : Hts net ks (hgt net ks) := by
  obtain ⟨H, hh⟩ := hf
  intro k j hk hj hb
  rw [hgt_is ok h hl hh hk, hgt_is ok h hl hh hj, parts_wire ok (by omega) (by omega) hb, ← hh k j hk hj hb]
  omega
theorem hgt_root {net ks : List Nat} {k : Nat} (e : (parts net).getD k 0 = k) : hgt net ks k = 0 := by
  unfold hgt
  rw [e]
  omega
theorem hgt_small {net ks : List Nat} (ok : Ok net) (h : St 3 ks) (hl : ks.length = net.length) (hf : Flat net ks) {k : Nat} (hk : k < ks.length) : -5 ≤ hgt net ks k ∧ hgt net ks k ≤ 5 := by
  have h1 := turned_few ok h hl hf hk 30
  have h2 := turned_few ok h hl hf (k := (parts net).getD k 0) (by have := parts_lt ok (k := k) (by omega); omega) 30
  unfold hgt
  omega
def hgtL (net ks : List Nat) : List Int := (List.range ks.length).map (hgt net ks)
theorem hgtL_length (net ks : List Nat) : (hgtL net ks).length = ks.length := by simp [hgtL]
theorem hgtL_get (net ks : List Nat) {k : Nat} (h : k < ks.length) : (hgtL net ks).getD k 0 = hgt net ks k := by
  simp [hgtL, List.getD_eq_getElem?_getD, h]
/-- A row that agrees with all rises, and has nothing at the least nodes, is the row of heights. -/
theorem hgtL_is {net ks : List Nat} (ok : Ok net) (h : St 3 ks) (hl : ks.length = net.length) {xs : List Int} (hx : xs.length = ks.length) (hh : Hts net ks (fun k => xs.getD k 0)) (h0 : ∀ k, k < ks.length → (parts net).getD k 0 = k → xs.getD k 0 = 0) : xs = hgtL net ks := by
  apply List.ext_getElem (by rw [hgtL_length, hx])
  intro k h1 h2
  have hk : k < ks.length := by omega
  have e1 := hgt_is ok h hl hh hk
  have hr := parts_lt ok (k := k) (by omega)
  have e2 := h0 ((parts net).getD k 0) (by omega) (parts_idem ok (by omega))
  have e3 := hgtL_get net ks hk
  rw [List.getD_eq_getElem?_getD, List.getElem?_eq_getElem h2, Option.getD_some] at e3
  have e4 : xs.getD k 0 = xs[k] := by rw [List.getD_eq_getElem?_getD, List.getElem?_eq_getElem h1, Option.getD_some]
  have e1' : hgt net ks k = xs.getD k 0 - xs.getD ((parts net).getD k 0) 0 := e1
  rw [e3, ← e4, e1', e2]
  omega

/-- The least turn from which on all stands. -/
def standTo (net ks : List Nat) : Nat → Nat
  | 0 => 0
  | t + 1 => if turn net (turns net ks t) = turns net ks t then standTo net ks t else t + 1
theorem standTo_le (net ks : List Nat) : ∀ t, standTo net ks t ≤ t
  | 0 => Nat.le_refl _
  | t + 1 => by
    have := standTo_le net ks t
    rw [standTo]
    split <;> omega
theorem standTo_still {net ks : List Nat} : ∀ t, turn net (turns net ks t) = turns net ks t → turn net (turns net ks (standTo net ks t)) = turns net ks (standTo net ks t)
  | 0, e => e
  | t + 1, e => by
    rw [standTo]
    split
    · rename_i h0
      exact standTo_still t h0
    · exact e
theorem standTo_least {net ks : List Nat} : ∀ t {s}, s < standTo net ks t → turn net (turns net ks s) ≠ turns net ks s
  | 0, s, h => absurd h (by rw [standTo]; omega)
  | t + 1, s, h => by
    rw [standTo] at h
    split at h
    · exact standTo_least t h
    · rename_i h0
      exact fun e => h0 (still_more e (by omega))
def stand (net ks : List Nat) : Nat := standTo net ks 30
theorem stand_few (net ks : List Nat) : stand net ks ≤ 30 := standTo_le net ks 30
theorem stand_still {net ks : List Nat} (ok : Ok net) (h : St 3 ks) (hl : ks.length = net.length) (hf : Flat net ks) : turn net (turns net ks (stand net ks)) = turns net ks (stand net ks) := standTo_still 30 (flat_soon ok h hl hf)
theorem stand_least {net ks : List Nat} {s : Nat} (h : s < stand net ks) : turn net (turns net ks s) ≠ turns net ks s := standTo_least 30 h

/-- The greatest height of the part of a node. -/
def peakL (net ks : List Nat) : List Int := (List.range ks.length).map (peakK net (hgt net ks) ks.length)
theorem peakL_length (net ks : List Nat) : (peakL net ks).length = ks.length := by simp [peakL]
theorem peakL_get (net ks : List Nat) {k : Nat} (h : k < ks.length) : (peakL net ks).getD k 0 = peakK net (hgt net ks) ks.length k := by
  simp [peakL, List.getD_eq_getElem?_getD, h]
theorem overTo_in {f : Nat → Int} {p : Nat → Bool} {a lo hi : Int} (ha : lo ≤ a ∧ a ≤ hi) : ∀ n, (∀ j, j < n → lo ≤ f j ∧ f j ≤ hi) → lo ≤ overTo f p a n ∧ overTo f p a n ≤ hi
  | 0, _ => ha
  | n + 1, h => by
    have ih := overTo_in (f := f) (p := p) ha n (fun j hj => h j (by omega))
    have := h n (by omega)
    rw [overTo]
    split <;> omega
theorem peak_small {net ks : List Nat} (ok : Ok net) (h : St 3 ks) (hl : ks.length = net.length) (hf : Flat net ks) {k : Nat} (hk : k < ks.length) : -5 ≤ peakK net (hgt net ks) ks.length k ∧ peakK net (hgt net ks) ks.length k ≤ 5 :=
  overTo_in (hgt_small ok h hl hf hk) _ (fun _ hj => hgt_small ok h hl hf hj)
theorem peak_turned {net ks : List Nat} (ok : Ok net) (h : St 3 ks) (hl : ks.length = net.length) (hf : Flat net ks) {k : Nat} (hk : k < ks.length) : hgt net ks k + (turned net ks k (stand net ks) : Int) = peakK net (hgt net ks) ks.length k :=
  turned_peak ok h hl (hgt_hts ok h hl hf) (stand_still ok h hl hf) hk

/-- What FlatOk, HeightRow, StandsAt and PeakRow answer, whatever comes in. -/
def flatOf (xs ys : List Int) : Bool := fireB xs 3 ys && flatB (xs.map Int.toNat) (ys.map Int.toNat)
theorem flatOf_ok {ns ks : List Nat} (ok : Ok ns) (st : St 3 ks) (hl : ks.length = ns.length) : flatOf (nats ns) (nats ks) = flatB ns ks := by
  unfold flatOf; rw [fireB3_yes ok st hl, nats_toNat, nats_toNat, Bool.true_and]
theorem flatOf_yes {ns ks : List Nat} (ok : Ok ns) (st : St 3 ks) (hl : ks.length = ns.length) (hf : Flat ns ks) : flatOf (nats ns) (nats ks) = true := by
  rw [flatOf_ok ok st hl]; exact (flatB_iff ok st hl).2 hf
theorem flatOf_no {ns ks : List Nat} (ok : Ok ns) (st : St 3 ks) (hl : ks.length = ns.length) (hf : ¬ Flat ns ks) : flatOf (nats ns) (nats ks) = false := by
  rw [flatOf_ok ok st hl]; exact flatB_no ok st hl hf
theorem flatOf_no1 {xs ys : List Int} (h : fireB xs 3 ys = false) : flatOf xs ys = false := by unfold flatOf; rw [h, Bool.false_and]
theorem flatOf_is {xs ys : List Int} (h : flatOf xs ys = true) : ∃ ns ks, xs = nats ns ∧ ys = nats ks ∧ Ok ns ∧ St 3 ks ∧ ks.length = ns.length ∧ Flat ns ks := by
  unfold flatOf at h
  rw [Bool.and_eq_true] at h
  obtain ⟨ns, ks, rfl, rfl, ok, st, hl⟩ := fireB3_ok h.1
  have h2 := h.2
  rw [nats_toNat, nats_toNat] at h2
  exact ⟨ns, ks, rfl, rfl, ok, st, hl, (flatB_iff ok st hl).1 h2⟩
def heightsOf (xs ys : List Int) : List Int := if flatOf xs ys = true then hgtL (xs.map Int.toNat) (ys.map Int.toNat) else []
theorem heightsOf_yes {ns ks : List Nat} (h : flatOf (nats ns) (nats ks) = true) : heightsOf (nats ns) (nats ks) = hgtL ns ks := by
  unfold heightsOf; rw [if_pos h, nats_toNat, nats_toNat]
theorem heightsOf_no {xs ys : List Int} (h : flatOf xs ys = false) : heightsOf xs ys = [] := by unfold heightsOf; rw [if_neg (by simp [h])]
theorem heightsOf_small (xs ys : List Int) : (heightsOf xs ys).length ≤ 2000000 := by
  cases h : flatOf xs ys
  · rw [heightsOf_no h]; simp
  · obtain ⟨ns, ks, rfl, rfl, ok, st, hl, -⟩ := flatOf_is h
    rw [heightsOf_yes h, hgtL_length]
    have := st.few
    omega
def standsOf (xs ys : List Int) : Int := if flatOf xs ys = true then (stand (xs.map Int.toNat) (ys.map Int.toNat) : Int) else -1
theorem standsOf_yes {ns ks : List Nat} (h : flatOf (nats ns) (nats ks) = true) : standsOf (nats ns) (nats ks) = (stand ns ks : Int) := by
  unfold standsOf; rw [if_pos h, nats_toNat, nats_toNat]
theorem standsOf_no {xs ys : List Int} (h : flatOf xs ys = false) : standsOf xs ys = -1 := by unfold standsOf; rw [if_neg (by simp [h])]
def peaksOf (xs ys : List Int) : List Int := if flatOf xs ys = true then peakL (xs.map Int.toNat) (ys.map Int.toNat) else []
theorem peaksOf_yes {ns ks : List Nat} (h : flatOf (nats ns) (nats ks) = true) : peaksOf (nats ns) (nats ks) = peakL ns ks := by
  unfold peaksOf; rw [if_pos h, nats_toNat, nats_toNat]
theorem peaksOf_no {xs ys : List Int} (h : flatOf xs ys = false) : peaksOf xs ys = [] := by unfold peaksOf; rw [if_neg (by simp [h])]
theorem peaksOf_small (xs ys : List Int) : (peaksOf xs ys).length ≤ 2000000 := by
  cases h : flatOf xs ys
  · rw [peaksOf_no h]; simp
  · obtain ⟨ns, ks, rfl, rfl, ok, st, hl, -⟩ := flatOf_is h
    rw [peaksOf_yes h, peakL_length]
    have := st.few
    omega

/-- What WindingOf answers. -/
def windB (xs ys zs : List Int) : Bool := climbB xs ys zs && decide (zs.getD 0 0 = zs.getD (zs.length - 1) 0)
def windOf (xs ys zs : List Int) : Int := if windB xs ys zs = true then climbOf xs ys zs / 3 else 0
theorem windB_ok {xs ys zs : List Int} (h : windB xs ys zs = true) : ∃ ns ks tr, xs = nats ns ∧ ys = nats ks ∧ zs = nats tr ∧ Ok ns ∧ St 3 ks ∧ ks.length = ns.length ∧ Tour ns tr ∧ Round tr := by
  unfold windB at h
  rw [Bool.and_eq_true, decide_eq_true_iff] at h
  obtain ⟨ns, ks, tr, rfl, rfl, rfl, ok, st, hl, ht⟩ := climbB_ok h.1
  refine ⟨ns, ks, tr, rfl, rfl, rfl, ok, st, hl, ht, ?_⟩
  have h2 := h.2
  rw [nats_get, nats_get, nats_length] at h2
  unfold Round
  omega
theorem windB_yes {ns ks tr : List Nat} (ok : Ok ns) (st : St 3 ks) (hl : ks.length = ns.length) (ht : Tour ns tr) (hr : Round tr) : windB (nats ns) (nats ks) (nats tr) = true := by
  unfold windB
  rw [climbB_yes ok st hl ht, Bool.true_and, decide_eq_true_iff, nats_get, nats_get, nats_length, hr]
theorem windOf_ok {ns ks tr : List Nat} (ok : Ok ns) (st : St 3 ks) (hl : ks.length = ns.length) (ht : Tour ns tr) (hr : Round tr) : windOf (nats ns) (nats ks) (nats tr) = climb ks tr / 3 := by
  unfold windOf
  rw [windB_yes ok st hl ht hr, if_pos rfl, climbOf_ok ok st hl ht]
theorem windOf_no {xs ys zs : List Int} (h : windB xs ys zs = false) : windOf xs ys zs = 0 := by unfold windOf; rw [if_neg (by simp [h])]
theorem windB_no1 {xs ys zs : List Int} (h : climbB xs ys zs = false) : windB xs ys zs = false := by unfold windB; rw [h, Bool.false_and]
theorem windB_no2 {xs ys zs : List Int} (h : zs.getD 0 0 ≠ zs.getD (zs.length - 1) 0) : windB xs ys zs = false := by unfold windB; rw [decide_eq_false h, Bool.and_false]
theorem wind_small {net ks tr : List Nat} (st : St 3 ks) (ht : Tour net tr) (hr : Round tr) : -3 ≤ climb ks tr / 3 ∧ climb ks tr / 3 ≤ 3 ∧ climb ks tr = 3 * (climb ks tr / 3) := by
  have h1 := climb_small ht ks
  have h2 := climb_three st hr
  omega
theorem round_back {tr : List Nat} (h : Round tr) (h1 : 1 ≤ tr.length) : Round tr.reverse := by
  unfold Round at *
  rw [List.length_reverse, rev_get (by omega), rev_get (by omega)]
  rw [show tr.length - 1 - 0 = tr.length - 1 by omega, show tr.length - 1 - (tr.length - 1) = 0 by omega]
  exact h.symm
theorem twice_get {tr : List Nat} (h : 1 ≤ tr.length) (hr : Round tr) (k : Nat) (hk : k ≤ tr.length - 1) : (tr ++ tr.drop 1).getD (tr.length - 1 + k) 0 = tr.getD k 0 := by
  by_cases e : k = 0
  · subst e
    rw [List.getD_eq_getElem?_getD, List.getElem?_append_left (by omega), ← List.getD_eq_getElem?_getD, Nat.add_zero]
    exact hr.symm
  · rw [List.getD_eq_getElem?_getD, List.getElem?_append_right (by omega), List.getElem?_drop, ← List.getD_eq_getElem?_getD]
    congr 1
    omega
theorem twice_tour {net tr : List Nat} (ht : Tour net tr) (hr : Round tr) (h12 : (tr ++ tr.drop 1).length ≤ 12) : Tour net (tr ++ tr.drop 1) := by
  have h1 := ht.some
  have hlen : (tr ++ tr.drop 1).length = tr.length + (tr.length - 1) := by rw [List.length_append, List.length_drop]
  have fst : ∀ k, k < tr.length → (tr ++ tr.drop 1).getD k 0 = tr.getD k 0 := fun k hk => by
    rw [List.getD_eq_getElem?_getD, List.getElem?_append_left hk, ← List.getD_eq_getElem?_getD]
  refine ⟨by omega, h12, fun k hk => ?_, fun k hk => ?_⟩
  · by_cases e : k < tr.length
    · rw [fst k e]; exact ht.inn k e
    · have := twice_get h1 hr (k - (tr.length - 1)) (by omega)
      rw [show tr.length - 1 + (k - (tr.length - 1)) = k by omega] at this
      rw [this]
      exact ht.inn _ (by omega)
  · by_cases e : k + 1 < tr.length
    · rw [fst k (by omega), fst (k + 1) e]; exact ht.near k e
    · have g1 := twice_get h1 hr (k - (tr.length - 1)) (by omega)
      have g2 := twice_get h1 hr (k + 1 - (tr.length - 1)) (by omega)
      rw [show tr.length - 1 + (k - (tr.length - 1)) = k by omega] at g1
      rw [show tr.length - 1 + (k + 1 - (tr.length - 1)) = k + 1 by omega] at g2
      rw [g1, g2, show k + 1 - (tr.length - 1) = k - (tr.length - 1) + 1 by omega]
      exact ht.near _ (by omega)
theorem twice_round {tr : List Nat} (h1 : 1 ≤ tr.length) (hr : Round tr) : Round (tr ++ tr.drop 1) := by
  have hlen : (tr ++ tr.drop 1).length = tr.length + (tr.length - 1) := by rw [List.length_append, List.length_drop]
  unfold Round
  rw [hlen, show tr.length + (tr.length - 1) - 1 = tr.length - 1 + (tr.length - 1) by omega, twice_get h1 hr _ (Nat.le_refl _), List.getD_eq_getElem?_getD, List.getElem?_append_left (by omega), ← List.getD_eq_getElem?_getD]
  exact hr
end Nt
end Go.Proofs.Ytllbdhfckdljgaa

namespace Go.Proofs.Ytllbdhfckdljgaa
namespace Nt

/-- What is laid out so far: of the nodes that are seen, whose parts begin below m. -/
structure Laid (net ks : List Nat) (m seen : Nat) (out : List Int) : Prop where
  len : out.length = ks.length
  fit : seen < 2 ^ ks.length
  new : ∀ k, k < ks.length → seen.testBit k = false → out.getD k 0 = 0
  small : ∀ k, k < ks.length → seen.testBit k = true → out.getD k 0 < (popTo seen ks.length : Int) ∧ -(popTo seen ks.length : Int) < out.getD k 0
  hts : ∀ H, Hts net ks H → ∀ k, k < ks.length → seen.testBit k = true → out.getD k 0 = H k - H ((parts net).getD k 0)
  low : ∀ k, k < ks.length → seen.testBit k = true → (parts net).getD k 0 < m
/-- All nodes of the parts that begin below m are seen. -/
def AllTo (net ks : List Nat) (m seen : Nat) : Prop := ∀ k, k < ks.length → (parts net).getD k 0 < m → seen.testBit k = true
def Closed (net ks : List Nat) (seen : Nat) : Prop := ∀ a b, a < ks.length → b < ks.length → seen.testBit a = true → (net.getD a 0).testBit b = true → seen.testBit b = true

theorem bit_or (seen j k : Nat) : (seen ||| 2 ^ j).testBit k = true ↔ seen.testBit k = true ∨ j = k := by
  rw [Nat.testBit_or, Bool.or_eq_true, bit_pow]
theorem bit_or_no {seen j k : Nat} : (seen ||| 2 ^ j).testBit k = false ↔ seen.testBit k = false ∧ j ≠ k := by
  rw [← Bool.not_eq_true, bit_or]
  constructor
  · intro h
    exact ⟨by rw [← Bool.not_eq_true]; exact fun e => h (.inl e), fun e => h (.inr e)⟩
  · rintro ⟨h1, h2⟩ (h | h)
    · rw [h1] at h; exact absurd h (by simp)
    · exact h2 h
theorem or_fit {seen j n : Nat} (h : seen < 2 ^ n) (hj : j < n) : seen ||| 2 ^ j < 2 ^ n := Nat.or_lt_two_pow h (two_pow_lt hj)
theorem pop_or {seen j n : Nat} (hj : j < n) (h : seen.testBit j = false) : popTo seen n < popTo (seen ||| 2 ^ j) n :=
  popTo_lt (i := j) (fun _ hk => (bit_or _ _ _).2 (.inl hk)) h ((bit_or _ _ _).2 (.inr rfl)) hj
theorem pop_room {seen j n : Nat} (hj : j < n) (h : seen.testBit j = false) : popTo seen n < n := by
  have h1 := pop_or hj h
  have h2 := popTo_le (seen ||| 2 ^ j) n
  omega

theorem laid_start (net ks : List Nat) : Laid net ks 0 0 (List.replicate ks.length 0) where
  len := by simp
  fit := Nat.pow_pos (by omega)
  new := fun _ hk _ => by simp [List.getD_eq_getElem?_getD, hk]
  small := fun _ _ h => by simp at h
  hts := fun _ _ _ _ h => by simp at h
  low := fun _ _ h => by simp at h
theorem all_start (net ks : List Nat) (seen : Nat) : AllTo net ks 0 seen := fun _ _ h => absurd h (by omega)
theorem Laid.mono {net ks : List Nat} {m seen : Nat} {out : List Int} (h : Laid net ks m seen out) : Laid net ks (m + 1) seen out :=
  ⟨h.len, h.fit, h.new, h.small, h.hts, fun k hk hs => by have := h.low k hk hs; omega⟩
/-- A node that is seen already begins no part. -/
theorem all_skip {net ks : List Nat} (ok : Ok net) (hl : ks.length = net.length) {m seen : Nat} {out : List Int} (h : Laid net ks m seen out) (ha : AllTo net ks m seen) (hm : m < ks.length) (hs : seen.testBit m = true) : AllTo net ks (m + 1) seen := fun k hk hr => by
  by_cases e : (parts net).getD k 0 = m
  · have h1 := h.low m hm hs
    have h2 := parts_idem ok (k := k) (by omega)
    rw [e] at h2
    omega
  · exact ha k hk (by omega)
theorem root_new {net ks : List Nat} (ok : Ok net) (hl : ks.length = net.length) {m seen : Nat} (ha : AllTo net ks m seen) (hm : m < ks.length) (hs : seen.testBit m = false) : (parts net).getD m 0 = m := by
  have h1 := parts_le ok (a := m) (by omega)
  by_cases e : (parts net).getD m 0 < m
  · rw [ha m hm e] at hs; exact absurd hs (by simp)
  · omega
theorem Laid.light {net ks : List Nat} (ok : Ok net) (hl : ks.length = net.length) {m seen : Nat} {out : List Int} (h : Laid net ks m seen out) (ha : AllTo net ks m seen) (hm : m < ks.length) (hs : seen.testBit m = false) : Laid net ks (m + 1) (seen ||| 2 ^ m) out := by
  have hr := root_new ok hl ha hm hs
  have hp := pop_or hm hs
  have h0 := h.new m hm hs
  refine ⟨h.len, or_fit h.fit hm, fun k hk hb => h.new k hk (bit_or_no.1 hb).1, fun k hk hb => ?_, fun H hh k hk hb => ?_, fun k hk hb => ?_⟩
  · rcases (bit_or _ _ _).1 hb with hb | rfl
    · have := h.small k hk hb
      omega
    · rw [h0]; omega
  · rcases (bit_or _ _ _).1 hb with hb | rfl
    · exact h.hts H hh k hk hb
    · rw [h0, hr]; omega
  · rcases (bit_or _ _ _).1 hb with hb | rfl
    · have := h.low k hk hb
      omega
    · omega
theorem all_or {net ks : List Nat} {m seen : Nat} (ha : AllTo net ks m seen) (j : Nat) : AllTo net ks m (seen ||| 2 ^ j) := fun k hk hr => (bit_or _ _ _).2 (.inl (ha k hk hr))
theorem set_get {out : List Int} {j k : Nat} (x : Int) (hj : j < out.length) : (out.set j x).getD k 0 = if j = k then x else out.getD k 0 := by
  rw [List.getD_eq_getElem?_getD, List.getElem?_set]
  split
  · simp
  · rw [← List.getD_eq_getElem?_getD]
/-- A neighbour that is new gets its height. -/
theorem Laid.more {net ks : List Nat} (ok : Ok net) (hl : ks.length = net.length) {m seen : Nat} {out : List Int} (h : Laid net ks m seen out) {k j : Nat} (hk : k < ks.length) (hj : j < ks.length) (hs : seen.testBit k = true) (hn : seen.testBit j = false) (hb : (net.getD k 0).testBit j = true) :
    Laid net ks m (seen ||| 2 ^ j) (out.set j (out.getD k 0 + rise (ks.getD k 0) (ks.getD j 0))) := by
  have hp := pop_or hj hn
  have hjl : j < out.length := by rw [h.len]; exact hj
  have hr := parts_wire ok (a := k) (b := j) (by omega) (by omega) hb
  refine ⟨by rw [List.length_set, h.len], or_fit h.fit hj, fun i hi hib => ?_, fun i hi hib => ?_, fun H hh i hi hib => ?_, fun i hi hib => ?_⟩
  · obtain ⟨h1, h2⟩ := bit_or_no.1 hib
    rw [set_get _ hjl, if_neg h2]
    exact h.new i hi h1
  · rw [set_get _ hjl]
    split
    · have h1 := h.small k hk hs
      have h2 := @rise_lo (ks.getD k 0) (ks.getD j 0)
      have h3 := @rise_hi (ks.getD k 0) (ks.getD j 0)
      omega
    · rename_i e
      rcases (bit_or _ _ _).1 hib with h1 | h1
      · have := h.small i hi h1
        omega
      · exact absurd h1 e
  · rw [set_get _ hjl]
    split
    · rename_i e
      subst e
      rw [h.hts H hh k hk hs, ← hr, ← hh k j hk hj hb]
      omega
    · rename_i e
      rcases (bit_or _ _ _).1 hib with h1 | h1
      · exact h.hts H hh i hi h1
      · exact absurd h1 e
  · rcases (bit_or _ _ _).1 hib with h1 | rfl
    · exact h.low i hi h1
    · rw [← hr]; exact h.low k hk hs
/-- Once nothing new is near, the part is seen. -/
theorem all_closed {net ks : List Nat} (ok : Ok net) (hl : ks.length = net.length) {m seen : Nat} (ha : AllTo net ks m seen) (hc : Closed net ks seen) (hs : (parts net).getD m 0 = m → seen.testBit m = true) : AllTo net ks (m + 1) seen := fun k hk hr => by
  by_cases e : (parts net).getD k 0 = m
  · have h2 := parts_idem ok (k := k) (by omega)
    rw [e] at h2
    have go : ∀ {s a b : Nat}, Walk net s a b → seen.testBit a = true → seen.testBit b = true := by
      intro s
      induction s with
      | zero =>
        intro a b hw h
        have e : a = b := hw.1
        rw [← e]; exact h
      | succ s ih =>
        rintro a c ⟨hcl, b, hw, hb⟩ h
        exact hc b c (by have := hw.lt2; omega) (by omega) (ih hw h) hb
    obtain ⟨s, hw⟩ := root_walk ok (k := k) (by omega)
    rw [e] at hw
    exact go hw (hs h2)
  · exact ha k hk (by omega)
theorem all_end {net ks : List Nat} (ok : Ok net) (hl : ks.length = net.length) {seen : Nat} (ha : AllTo net ks ks.length seen) {k : Nat} (hk : k < ks.length) : seen.testBit k = true :=
  ha k hk (by have := parts_lt ok (k := k) (by omega); omega)
theorem laid_is {net ks : List Nat} (ok : Ok net) (h : St 3 ks) (hl : ks.length = net.length) {seen : Nat} {out : List Int} (hd : Laid net ks ks.length seen out) (ha : AllTo net ks ks.length seen) (hh : Hts net ks (fun k => out.getD k 0)) : out = hgtL net ks :=
  hgtL_is ok h hl hd.len hh fun k hk e => by
    have h1 := hd.hts _ hh k hk (all_end ok hl ha hk)
    rw [e] at h1
    omega
theorem laid_not {net ks : List Nat} (ok : Ok net) (hl : ks.length = net.length) {seen : Nat} {out : List Int} (hd : Laid net ks ks.length seen out) (ha : AllTo net ks ks.length seen) {k j : Nat} (hk : k < ks.length) (hj : j < ks.length) (hb : (net.getD k 0).testBit j = true) (hne : out.getD j 0 - out.getD k 0 ≠ rise (ks.getD k 0) (ks.getD j 0)) : ¬ Flat net ks := by
  rintro ⟨H, hh⟩
  apply hne
  rw [hd.hts H hh k hk (all_end ok hl ha hk), hd.hts H hh j hj (all_end ok hl ha hj), parts_wire ok (by omega) (by omega) hb, ← hh k j hk hj hb]
  omega
theorem laid_small {net ks : List Nat} (h : St 3 ks) {m seen : Nat} {out : List Int} (hd : Laid net ks m seen out) {k : Nat} (hk : k < ks.length) : -6 < out.getD k 0 ∧ out.getD k 0 < 6 := by
  have h1 := popTo_le seen ks.length
  have h2 := h.few
  cases e : seen.testBit k
  · rw [hd.new k hk e]; omega
  · have := hd.small k hk e
    omega

/-- How far the pairs of nodes have been asked with nothing found: all below k, and of k all below j. -/
def CloseTo (net ks : List Nat) (seen k j : Nat) : Prop := (∀ a b, a < k → b < ks.length → seen.testBit a = true → (net.getD a 0).testBit b = true → seen.testBit b = true) ∧ (∀ b, b < j → seen.testBit k = true → (net.getD k 0).testBit b = true → seen.testBit b = true)
theorem close_start (net ks : List Nat) (seen : Nat) : CloseTo net ks seen 0 0 := ⟨fun _ _ h => absurd h (by omega), fun _ h => absurd h (by omega)⟩
theorem close_next {net ks : List Nat} {seen k j : Nat} (h : CloseTo net ks seen k j) (hn : (net.getD k 0).testBit j = true → seen.testBit k = true → seen.testBit j = true) : CloseTo net ks seen k (j + 1) := ⟨h.1, fun b hb hs hw => by
  by_cases e : b = j
  · subst e; exact hn hw hs
  · exact h.2 b (by omega) hs hw⟩
theorem close_row {net ks : List Nat} {seen k : Nat} (h : CloseTo net ks seen k ks.length) : CloseTo net ks seen (k + 1) 0 := ⟨fun a b ha hb hs hw => by
  by_cases e : a = k
  · subst e; exact h.2 b hb hs hw
  · exact h.1 a b (by omega) hb hs hw, fun _ h => absurd h (by omega)⟩
theorem close_none {net ks : List Nat} {seen k : Nat} (h : CloseTo net ks seen k 0) (hn : seen.testBit k = false) : CloseTo net ks seen (k + 1) 0 := ⟨fun a b ha hb hs hw => by
  by_cases e : a = k
  · subst e; rw [hn] at hs; exact absurd hs (by simp)
  · exact h.1 a b (by omega) hb hs hw, fun _ h => absurd h (by omega)⟩
theorem close_end {net ks : List Nat} {seen : Nat} (h : CloseTo net ks seen ks.length 0) : Closed net ks seen := fun a b ha hb hs hw => h.1 a b ha hb hs hw
end Nt
end Go.Proofs.Ytllbdhfckdljgaa

namespace Go.Proofs.Ytllbdhfckdljgaa
namespace Nt

/-- The least nodes of the parts. -/
def leastTo (ps : List Nat) : Nat → Nat
  | 0 => 0
  | k + 1 => leastTo ps k ||| 2 ^ ps.getD k 0
theorem leastTo_bit (ps : List Nat) (j : Nat) : ∀ k, (leastTo ps k).testBit j = true ↔ ∃ i, i < k ∧ ps.getD i 0 = j
  | 0 => by simp [leastTo]
  | k + 1 => by
    rw [leastTo, bit_or, leastTo_bit ps j k]
    constructor
    · rintro (⟨i, h1, h2⟩ | h)
      · exact ⟨i, by omega, h2⟩
      · exact ⟨k, by omega, h⟩
    · rintro ⟨i, h1, h2⟩
      by_cases e : i = k
      · subst e; exact .inr h2
      · exact .inl ⟨i, by omega, h2⟩
theorem leastTo_fit {ps : List Nat} {n : Nat} : ∀ k, (∀ i, i < k → ps.getD i 0 < n) → leastTo ps k < 2 ^ n
  | 0, _ => Nat.two_pow_pos n
  | k + 1, h => or_fit (leastTo_fit k fun i hi => h i (by omega)) (h k (by omega))

/-- What lies beside a node gets its height from it. -/
def beside (ks : List Nat) (node set : Nat) (out : List Int) : Nat → List Int
  | 0 => out
  | j + 1 => if set.testBit j = true then (beside ks node set out j).set j (out.getD node 0 + rise (ks.getD node 0) (ks.getD j 0)) else beside ks node set out j
theorem beside_length (ks : List Nat) (node set : Nat) (out : List Int) : ∀ j, (beside ks node set out j).length = out.length
  | 0 => rfl
  | j + 1 => by
    rw [beside]
    split
    · rw [List.length_set, beside_length]
    · exact beside_length ks node set out j
theorem beside_node {ks : List Nat} {node set : Nat} {out : List Int} (h : set.testBit node = false) : ∀ j, (beside ks node set out j).getD node 0 = out.getD node 0
  | 0 => rfl
  | j + 1 => by
    rw [beside]
    split
    · rename_i e
      have hne : ¬ j = node := fun e2 => by rw [e2, h] at e; exact absurd e (by simp)
      rw [List.getD_eq_getElem?_getD, List.getElem?_set, if_neg hne, ← List.getD_eq_getElem?_getD, beside_node h j]
    · exact beside_node h j

/-- A wave that is being laid beside what has been come to. -/
structure Wav (net ks : List Nat) (come seen : Nat) (out : List Int) : Prop where
  laid : Laid net ks ks.length seen out
  sub : ∀ k, come.testBit k = true → seen.testBit k = true
  old : ∀ k, k < ks.length → come.testBit k = true → out.getD k 0 < (popTo come ks.length : Int) ∧ -(popTo come ks.length : Int) < out.getD k 0

theorem Wav.set {net ks : List Nat} (ok : Ok net) (hl : ks.length = net.length) {come seen : Nat} {out : List Int} (h : Wav net ks come seen out) {k j : Nat} (hk : k < ks.length) (hj : j < ks.length) (hc : come.testBit k = true) (hn : come.testBit j = false) (hb : (net.getD k 0).testBit j = true) :
    Wav net ks come (seen ||| 2 ^ j) (out.set j (out.getD k 0 + rise (ks.getD k 0) (ks.getD j 0))) := by
  have hjl : j < out.length := by rw [h.laid.len]; exact hj
  have hr := parts_wire ok (a := k) (b := j) (by omega) (by omega) hb
  have hp : popTo come ks.length < popTo (seen ||| 2 ^ j) ks.length := popTo_lt (i := j) (fun i hi => (bit_or _ _ _).2 (.inl (h.sub i hi))) hn ((bit_or _ _ _).2 (.inr rfl)) hj
  have hle : ∀ i, i < ks.length → seen.testBit i = true → popTo seen ks.length ≤ popTo (seen ||| 2 ^ j) ks.length := fun i _ _ => by
    by_cases e : seen.testBit j = true
    · have : seen ||| 2 ^ j = seen := Nat.eq_of_testBit_eq fun m => by
        by_cases em : j = m
        · subst em; rw [e]; exact (bit_or _ _ _).2 (.inl e)
        · cases hm : seen.testBit m
          · exact bit_or_no.2 ⟨hm, em⟩
          · exact (bit_or _ _ _).2 (.inl hm)
      rw [this]; exact Nat.le_refl _
    · exact Nat.le_of_lt (pop_or hj (by simpa using e))
  have low := h.laid.low k hk (h.sub k hc)
  have hold := h.old k hk hc
  have h2 := @rise_lo (ks.getD k 0) (ks.getD j 0)
  have h3 := @rise_hi (ks.getD k 0) (ks.getD j 0)
  refine ⟨⟨by rw [List.length_set, h.laid.len], or_fit h.laid.fit hj, fun i hi hib => ?_, fun i hi hib => ?_, fun H hh i hi hib => ?_, fun i hi hib => ?_⟩, fun i hi => (bit_or _ _ _).2 (.inl (h.sub i hi)), fun i hi hib => ?_⟩
  · obtain ⟨h1, h2⟩ := bit_or_no.1 hib
    rw [set_get _ hjl, if_neg h2]
    exact h.laid.new i hi h1
  · rw [set_get _ hjl]
    split
    · omega
    · rename_i e
      rcases (bit_or _ _ _).1 hib with h1 | h1
      · have := h.laid.small i hi h1
        have := hle i hi h1
        omega
      · exact absurd h1 e
  · rw [set_get _ hjl]
    split
    · rename_i e
      subst e
      rw [h.laid.hts H hh k hk (h.sub k hc), ← hr, ← hh k j hk hj hb]
      omega
    · rename_i e
      rcases (bit_or _ _ _).1 hib with h1 | h1
      · exact h.laid.hts H hh i hi h1
      · exact absurd h1 e
  · rcases (bit_or _ _ _).1 hib with h1 | rfl
    · exact h.laid.low i hi h1
    · rw [← hr]; exact low
  · rw [set_get _ hjl]
    split
    · rename_i e
      rw [e] at hn
      rw [hn] at hib
      exact absurd hib (by simp)
    · exact h.old i hi hib

theorem Wav.beside {net ks : List Nat} (ok : Ok net) (hl : ks.length = net.length) {come seen node : Nat} {out : List Int} (h : Wav net ks come seen out) (hk : node < ks.length) (hc : come.testBit node = true) :
    ∀ j, j ≤ ks.length → ∃ u, Wav net ks come u (Nt.beside ks node (less (net.getD node 0) come) out j) ∧ ∀ i, u.testBit i = true ↔ seen.testBit i = true ∨ (i < j ∧ (less (net.getD node 0) come).testBit i = true)
  | 0, _ => ⟨seen, h, fun i => ⟨fun e => .inl e, fun e => by
      rcases e with e | e
      · exact e
      · omega⟩⟩
  | j + 1, hj => by
    obtain ⟨u, hu, hb⟩ := Wav.beside ok hl h hk hc j (by omega)
    have hno : (less (net.getD node 0) come).testBit node = false := by rw [testBit_less, hc]; simp
    rw [Nt.beside]
    by_cases e : (less (net.getD node 0) come).testBit j = true
    · rw [if_pos e]
      have e2 := e
      rw [testBit_less, Bool.and_eq_true, Bool.not_eq_true'] at e2
      have h1 := hu.set ok hl hk (j := j) (by omega) hc e2.2 e2.1
      rw [beside_node hno] at h1
      refine ⟨_, h1, fun i => ?_⟩
      rw [bit_or, hb]
      constructor
      · rintro ((h2 | ⟨h2, h3⟩) | rfl)
        · exact .inl h2
        · exact .inr ⟨by omega, h3⟩
        · exact .inr ⟨by omega, e⟩
      · rintro (h2 | ⟨h2, h3⟩)
        · exact .inl (.inl h2)
        · by_cases e3 : i = j
          · exact .inr e3.symm
          · exact .inl (.inr ⟨by omega, h3⟩)
    · rw [if_neg e]
      refine ⟨u, hu, fun i => ?_⟩
      rw [hb]
      constructor
      · rintro (h2 | ⟨h2, h3⟩)
        · exact .inl h2
        · exact .inr ⟨by omega, h3⟩
      · rintro (h2 | ⟨h2, h3⟩)
        · exact .inl h2
        · by_cases e3 : i = j
          · subst e3; exact absurd h3 e
          · exact .inr ⟨by omega, h3⟩

/-- All neighbours of the nodes of the wave below m are laid. -/
structure Wave (net ks : List Nat) (wave come m : Nat) (out : List Int) : Prop where
  ex : ∃ seen, Wav net ks come seen out ∧ ∀ i, seen.testBit i = true ↔ come.testBit i = true ∨ ∃ k, k < m ∧ wave.testBit k = true ∧ (net.getD k 0).testBit i = true
theorem Wave.start {net ks : List Nat} {wave come : Nat} {out : List Int} (h : Laid net ks ks.length come out) : Wave net ks wave come 0 out :=
  ⟨come, ⟨h, fun _ e => e, fun k hk e => h.small k hk e⟩, fun i => ⟨fun e => .inl e, fun e => by
    rcases e with e | ⟨k, hk, _⟩
    · exact e
    · omega⟩⟩
theorem Wave.len {net ks : List Nat} {wave come m : Nat} {out : List Int} (h : Wave net ks wave come m out) : out.length = ks.length := by
  obtain ⟨s, h1, _⟩ := h.ex
  exact h1.laid.len
theorem Wave.small {net ks : List Nat} (st : St 3 ks) {wave come m : Nat} {out : List Int} (h : Wave net ks wave come m out) {k : Nat} (hk : k < ks.length) : -6 < out.getD k 0 ∧ out.getD k 0 < 6 := by
  obtain ⟨s, h1, _⟩ := h.ex
  exact laid_small st h1.laid hk
theorem Wave.skip {net ks : List Nat} {wave come m : Nat} {out : List Int} (h : Wave net ks wave come m out) (hm : wave.testBit m = false) : Wave net ks wave come (m + 1) out := by
  obtain ⟨s, h1, h2⟩ := h.ex
  refine ⟨s, h1, fun i => ?_⟩
  rw [h2]
  constructor
  · rintro (h3 | ⟨k, h3, h4, h5⟩)
    · exact .inl h3
    · exact .inr ⟨k, by omega, h4, h5⟩
  · rintro (h3 | ⟨k, h3, h4, h5⟩)
    · exact .inl h3
    · refine .inr ⟨k, ?_, h4, h5⟩
      have : k ≠ m := fun e => by rw [e, hm] at h4; exact absurd h4 (by simp)
      omega
theorem Wave.more {net ks : List Nat} (ok : Ok net) (hl : ks.length = net.length) {wave come m : Nat} {out : List Int} (h : Wave net ks wave come m out) (hm : m < ks.length) (hw : wave.testBit m = true) (hc : come.testBit m = true) :
    Wave net ks wave come (m + 1) (beside ks m (less (net.getD m 0) come) out ks.length) := by
  obtain ⟨s, h1, h2⟩ := h.ex
  obtain ⟨u, h3, h4⟩ := h1.beside ok hl hm hc ks.length (Nat.le_refl _)
  refine ⟨u, h3, fun i => ?_⟩
  rw [h4, h2]
  constructor
  · rintro ((h5 | ⟨k, h5, h6, h7⟩) | ⟨h5, h6⟩)
    · exact .inl h5
    · exact .inr ⟨k, by omega, h6, h7⟩
    · rw [testBit_less, Bool.and_eq_true] at h6
      exact .inr ⟨m, by omega, hw, h6.1⟩
  · rintro (h5 | ⟨k, h5, h6, h7⟩)
    · exact .inl (.inl h5)
    · by_cases e : k = m
      · subst e
        by_cases hci : come.testBit i = true
        · exact .inl (.inl hci)
        · refine .inr ⟨?_, by rw [testBit_less, h7, show come.testBit i = false by simpa using hci]; rfl⟩
          have hf := ok.fit k (by omega)
          exact Classical.byContradiction fun hge => by
            rw [Nat.testBit_lt_two_pow (Nat.lt_of_lt_of_le hf (Nat.pow_le_pow_right (by omega) (by omega)))] at h7
            exact absurd h7 (by simp)
      · exact .inl (.inr ⟨k, by omega, h6, h7⟩)

/-- What the waves so far have laid. -/
structure Waves (net ks : List Nat) (come wave : Nat) (out : List Int) : Prop where
  laid : Laid net ks ks.length (come ||| wave) out
  apart : ∀ k, wave.testBit k = true → come.testBit k = false
  near : ∀ a b, a < ks.length → come.testBit a = true → (net.getD a 0).testBit b = true → (come ||| wave).testBit b = true
  root : ∀ k, k < ks.length → (parts net).getD k 0 = k → (come ||| wave).testBit k = true
theorem Waves.fit {net ks : List Nat} {come wave : Nat} {out : List Int} (st : St 3 ks) (h : Waves net ks come wave out) : come < 64 ∧ wave < 64 ∧ come ||| wave < 64 := by
  have h1 := h.laid.fit
  have h2 := pow_le st.few
  have h3 : come ≤ come ||| wave := Nat.left_le_or
  have h4 : wave ≤ come ||| wave := Nat.right_le_or
  omega
theorem waves_start {net ks : List Nat} (ok : Ok net) (hl : ks.length = net.length) : Waves net ks 0 (leastTo (parts net) ks.length) (List.replicate ks.length 0) := by
  have hr : ∀ k, (leastTo (parts net) ks.length).testBit k = true → k < ks.length ∧ (parts net).getD k 0 = k := fun k h => by
    obtain ⟨i, h1, h2⟩ := (leastTo_bit _ _ _).1 h
    have := parts_lt ok (k := i) (by omega)
    exact ⟨by omega, by rw [← h2]; exact parts_idem ok (by omega)⟩
  have hz : ∀ k, k < ks.length → (List.replicate ks.length (0 : Int)).getD k 0 = 0 := fun k hk => by simp [List.getD_eq_getElem?_getD, hk]
  rw [show List.replicate ks.length (0 : Int) = List.replicate ks.length 0 from rfl]
  refine ⟨?_, fun _ _ => by simp, fun _ _ _ h => by simp at h, fun k hk e => ?_⟩
  · rw [Nat.zero_or]
    refine ⟨by simp, leastTo_fit _ fun i hi => by have := parts_lt ok (k := i) (by omega); omega, fun k hk _ => hz k hk, fun k hk h => ?_, fun H _ k hk h => ?_, fun k hk _ => by have := parts_lt ok (k := k) (by omega); omega⟩
    · rw [hz k hk]
      have : popTo 0 ks.length < popTo (leastTo (parts net) ks.length) ks.length := popTo_lt (i := k) (fun j hj => by simp at hj) (by simp) h hk
      omega
    · rw [hz k hk, (hr k h).2]; omega
  · rw [Nat.zero_or]
    exact (leastTo_bit _ _ _).2 ⟨k, hk, e⟩
theorem Waves.wave {net ks : List Nat} {come wave : Nat} {out : List Int} (h : Waves net ks come wave out) : Wave net ks wave (come ||| wave) 0 out := Wave.start h.laid
theorem Waves.more {come wave : Nat} (ha : ∀ k, wave.testBit k = true → come.testBit k = false) (hw : wave ≠ 0) : come < come ||| wave := by
  have h1 : come ≤ come ||| wave := Nat.left_le_or
  have h2 : come ≠ come ||| wave := fun e => by
    obtain ⟨k, hk⟩ := Nat.exists_testBit_of_ne_zero hw
    have h3 := ha k hk
    rw [e, Nat.testBit_or, hk, Bool.or_true] at h3
    exact absurd h3 (by simp)
  omega
theorem Waves.next {net ks : List Nat} (_ok : Ok net) (hl : ks.length = net.length) {come wave : Nat} {out out' : List Int} (h : Waves net ks come wave out) (hw : Wave net ks wave (come ||| wave) ks.length out') : Waves net ks (come ||| wave) (less (Nt.near net wave) (come ||| wave)) out' := by
  obtain ⟨s, h1, h2⟩ := hw.ex
  have e : come ||| wave ||| less (Nt.near net wave) (come ||| wave) = s := Nat.eq_of_testBit_eq fun i => by
    have h3 : (Nt.near net wave).testBit i = true ↔ ∃ k, k < ks.length ∧ wave.testBit k = true ∧ (net.getD k 0).testBit i = true := by rw [hl]; exact testBit_near
    cases hs : s.testBit i
    · have h4 : ¬ s.testBit i = true := by rw [hs]; simp
      rw [h2, ← h3] at h4
      rw [Nat.testBit_or, testBit_less]
      cases hc : (come ||| wave).testBit i
      · cases hn : (Nt.near net wave).testBit i
        · rfl
        · exact absurd (.inr hn) h4
      · exact absurd (.inl hc) h4
    · have h4 := (h2 i).1 hs
      rw [← h3] at h4
      rw [Nat.testBit_or, testBit_less]
      cases hc : (come ||| wave).testBit i
      · rcases h4 with h4 | h4
        · rw [hc] at h4; exact absurd h4 (by simp)
        · rw [h4]; rfl
      · rfl
  refine ⟨by rw [e]; exact h1.laid, fun k hk => ?_, fun a b ha hc hb => ?_, fun k hk hr => ?_⟩
  · rw [testBit_less, Bool.and_eq_true, Bool.not_eq_true'] at hk
    exact hk.2
  · rw [e]
    rw [Nat.testBit_or, Bool.or_eq_true] at hc
    rcases hc with hc | hc
    · exact h1.sub b (h.near a b ha hc hb)
    · exact (h2 b).2 (.inr ⟨a, ha, hc, hb⟩)
  · rw [e]
    exact h1.sub k (h.root k hk hr)
theorem Waves.done {net ks : List Nat} (ok : Ok net) (hl : ks.length = net.length) {come : Nat} {out : List Int} (h : Waves net ks come 0 out) : Laid net ks ks.length come out ∧ AllTo net ks ks.length come := by
  have e : come ||| 0 = come := Nat.or_zero come
  refine ⟨by have := h.laid; rw [e] at this; exact this, fun k hk _ => ?_⟩
  have go : ∀ {s a b : Nat}, Walk net s a b → come.testBit a = true → come.testBit b = true := by
    intro s
    induction s with
    | zero =>
      intro a b hw h1
      have e1 : a = b := hw.1
      rw [← e1]; exact h1
    | succ s ih =>
      rintro a c ⟨_, b, hw, hb⟩ h1
      have := h.near b c (by have := hw.lt2; omega) (ih hw h1) hb
      rw [e] at this
      exact this
  obtain ⟨s, hw⟩ := root_walk ok (k := k) (by omega)
  have hr := h.root ((parts net).getD k 0) (by have := parts_lt ok (k := k) (by omega); omega) (parts_idem ok (by omega))
  rw [e] at hr
  exact go hw hr

/-- What is laid out in full fits just if the state is flat. -/
structure Full (net ks : List Nat) (out : List Int) : Prop where
  ex : ∃ seen, Laid net ks ks.length seen out ∧ AllTo net ks ks.length seen
theorem Full.len {net ks : List Nat} {out : List Int} (h : Full net ks out) : out.length = ks.length := by
  obtain ⟨s, h1, _⟩ := h.ex
  exact h1.len
theorem Full.small {net ks : List Nat} (st : St 3 ks) {out : List Int} (h : Full net ks out) {k : Nat} (hk : k < ks.length) : -6 < out.getD k 0 ∧ out.getD k 0 < 6 := by
  obtain ⟨s, h1, _⟩ := h.ex
  exact laid_small st h1 hk
theorem Full.flat {net ks : List Nat} (ok : Ok net) (st : St 3 ks) (hl : ks.length = net.length) {out : List Int} (h : Full net ks out) (hf : flatB net ks = true) : out = hgtL net ks := by
  obtain ⟨s, h1, h2⟩ := h.ex
  obtain ⟨H, hh⟩ := (flatB_iff ok st hl).1 hf
  refine laid_is ok st hl h1 h2 fun k j hk hj hb => ?_
  show out.getD j 0 - out.getD k 0 = _
  rw [h1.hts H hh k hk (all_end ok hl h2 hk), h1.hts H hh j hj (all_end ok hl h2 hj), ← parts_wire ok (by omega) (by omega) hb, ← hh k j hk hj hb]
  omega
theorem Full.not {net ks : List Nat} (ok : Ok net) (st : St 3 ks) (hl : ks.length = net.length) {out : List Int} (h : Full net ks out) {k j : Nat} (hk : k < ks.length) (hj : j < ks.length) (hb : (net.getD k 0).testBit j = true) (hne : out.getD j 0 - out.getD k 0 ≠ rise (ks.getD k 0) (ks.getD j 0)) : flatB net ks = false := by
  obtain ⟨s, h1, h2⟩ := h.ex
  exact flatB_no ok st hl (laid_not ok hl h1 h2 hk hj hb hne)
theorem Full.yes {net ks : List Nat} (ok : Ok net) (st : St 3 ks) (hl : ks.length = net.length) {out : List Int} (hh : ∀ k j, k < ks.length → j < ks.length → (net.getD k 0).testBit j = true → out.getD j 0 - out.getD k 0 = rise (ks.getD k 0) (ks.getD j 0)) : flatB net ks = true :=
  (flatB_iff ok st hl).2 ⟨fun k => out.getD k 0, hh⟩
/-- How far the pairs of neighbours have been asked with nothing found. -/
def FitTo (net ks : List Nat) (out : List Int) (k j : Nat) : Prop := (∀ a b, a < k → b < ks.length → (net.getD a 0).testBit b = true → out.getD b 0 - out.getD a 0 = rise (ks.getD a 0) (ks.getD b 0)) ∧ (∀ b, b < j → (net.getD k 0).testBit b = true → out.getD b 0 - out.getD k 0 = rise (ks.getD k 0) (ks.getD b 0))
theorem fit_start (net ks : List Nat) (out : List Int) : FitTo net ks out 0 0 := ⟨fun _ _ h => absurd h (by omega), fun _ h => absurd h (by omega)⟩
theorem fit_next {net ks : List Nat} {out : List Int} {k j : Nat} (h : FitTo net ks out k j) (hn : (net.getD k 0).testBit j = true → out.getD j 0 - out.getD k 0 = rise (ks.getD k 0) (ks.getD j 0)) : FitTo net ks out k (j + 1) := ⟨h.1, fun b hb hw => by
  by_cases e : b = j
  · subst e; exact hn hw
  · exact h.2 b (by omega) hw⟩
theorem fit_row {net ks : List Nat} {out : List Int} {k : Nat} (h : FitTo net ks out k ks.length) : FitTo net ks out (k + 1) 0 := ⟨fun a b ha hb hw => by
  by_cases e : a = k
  · subst e; exact h.2 b hb hw
  · exact h.1 a b (by omega) hb hw, fun _ h => absurd h (by omega)⟩
/-- The same with the nodes below each one asked alone. -/
def DownTo (net ks : List Nat) (out : List Int) (k j : Nat) : Prop := (∀ a b, a < k → b < a → (net.getD a 0).testBit b = true → out.getD b 0 - out.getD a 0 = rise (ks.getD a 0) (ks.getD b 0)) ∧ (∀ b, b < j → (net.getD k 0).testBit b = true → out.getD b 0 - out.getD k 0 = rise (ks.getD k 0) (ks.getD b 0))
theorem down_start (net ks : List Nat) (out : List Int) : DownTo net ks out 0 0 := ⟨fun _ _ h => absurd h (by omega), fun _ h => absurd h (by omega)⟩
theorem down_next {net ks : List Nat} {out : List Int} {k j : Nat} (h : DownTo net ks out k j) (hn : (net.getD k 0).testBit j = true → out.getD j 0 - out.getD k 0 = rise (ks.getD k 0) (ks.getD j 0)) : DownTo net ks out k (j + 1) := ⟨h.1, fun b hb hw => by
  by_cases e : b = j
  · subst e; exact hn hw
  · exact h.2 b (by omega) hw⟩
theorem down_row {net ks : List Nat} {out : List Int} {k : Nat} (h : DownTo net ks out k k) : DownTo net ks out (k + 1) 0 := ⟨fun a b ha hb hw => by
  by_cases e : a = k
  · subst e; exact h.2 b hb hw
  · exact h.1 a b (by omega) hb hw, fun _ h => absurd h (by omega)⟩
theorem down_yes {net ks : List Nat} (ok : Ok net) (st : St 3 ks) (hl : ks.length = net.length) {out : List Int} (h : DownTo net ks out ks.length 0) : flatB net ks = true := by
  refine Full.yes (out := out) ok st hl fun k j hk hj hb => ?_
  rcases Nat.lt_trichotomy k j with e | e | e
  · have hb2 : (net.getD j 0).testBit k = true := by rw [ok.both j k (by omega) (by omega)]; exact hb
    have h1 := h.1 j k hj e hb2
    have h2 : rise (ks.getD k 0) (ks.getD j 0) = - rise (ks.getD j 0) (ks.getD k 0) := rise_back
    omega
  · subst e
    rw [ok.own k (by omega)] at hb
    exact absurd hb (by simp)
  · exact h.1 k j hk e hb

/-- From which turn on all stands, told by the loop. -/
theorem stands_loop {xs ys : List Int} {a b : Int} (h : TLoopIs xs ys a b) : standsOf xs ys = if b = 1 then a else -1 := by
  rcases h with ⟨ns, ks, m, l, rfl, rfl, ok, st, hl, hloop, _, rfl, rfl⟩ | ⟨h1, rfl, rfl⟩
  · have hs := loop_still hloop
    by_cases e : l = 1
    · subst e
      rw [if_pos (by rfl)]
      have hst := hs.2 rfl
      have hf : Flat ns ks := (flat_stands ok st hl).2 ⟨m, hst⟩
      rw [standsOf_yes (flatOf_yes ok st hl hf)]
      have h1 := stand_still ok st hl hf
      have h2 : ¬ m < stand ns ks := fun h => stand_least h hst
      have h3 : m ≤ stand ns ks := hloop.first (stand ns ks) (stand ns ks + 1) (by omega) h1.symm
      rw [show m = stand ns ks by omega]
    · rw [if_neg (by omega)]
      have hf : ¬ Flat ns ks := fun hf => e (by
        have h1 := stand_still ok st hl hf
        have h3 : m ≤ stand ns ks := hloop.first (stand ns ks) (stand ns ks + 1) (by omega) h1.symm
        have tl : Tells (turns ns ks) := fun a b e => by show turn ns (turns ns ks a) = turn ns (turns ns ks b); rw [e]
        have h4 := hloop.divides tl (a := stand ns ks) (d := 1) h3 h1
        have h5 := hloop.pos
        rcases Nat.lt_or_ge 1 l with hl2 | hl2
        · rw [Nat.mod_eq_of_lt hl2] at h4; omega
        · omega)
      exact standsOf_no (flatOf_no ok st hl hf)
  · rw [if_neg (by omega)]
    exact standsOf_no (flatOf_no1 h1)

/-- The greatest heights of the parts so far, each told at the least node of its part. -/
def peakTo (ps : List Nat) (hs : List Int) (n : Nat) : Nat → List Int
  | 0 => List.replicate n 0
  | k + 1 => (peakTo ps hs n k).set (ps.getD k 0) (max ((peakTo ps hs n k).getD (ps.getD k 0) 0) (hs.getD k 0))
theorem peakTo_length (ps : List Nat) (hs : List Int) (n : Nat) : ∀ k, (peakTo ps hs n k).length = n
  | 0 => by simp [peakTo]
  | k + 1 => by rw [peakTo, List.length_set, peakTo_length]
theorem peakTo_get (ps : List Nat) (hs : List Int) {n r : Nat} (hr : r < n) : ∀ k, (peakTo ps hs n k).getD r 0 = overTo (fun j => hs.getD j 0) (fun j => decide (ps.getD j 0 = r)) 0 k
  | 0 => by simp [peakTo, overTo, List.getD_eq_getElem?_getD, hr]
  | k + 1 => by
    have ih := peakTo_get ps hs hr k
    rw [peakTo, overTo]
    by_cases e : ps.getD k 0 = r
    · rw [e, set_get _ (by rw [peakTo_length]; exact hr), if_pos rfl, ih, if_pos (by simp)]
    · rw [List.getD_eq_getElem?_getD, List.getElem?_set, if_neg e, ← List.getD_eq_getElem?_getD, ih, if_neg (by simpa using e)]
theorem overTo_from {f : Nat → Int} {p : Nat → Bool} {a b : Int} {n i j : Nat} (hi : i < n) (hpi : p i = true) (ea : a = f i) (hj : j < n) (hpj : p j = true) (eb : b = f j) : overTo f p a n = overTo f p b n := by
  obtain ⟨g1, g2⟩ := overTo_ge f p a n
  obtain ⟨g3, g4⟩ := overTo_ge f p b n
  have h1 : overTo f p a n ≤ overTo f p b n := overTo_le (by rw [ea]; exact g4 i hi hpi) n g4
  have h2 : overTo f p b n ≤ overTo f p a n := overTo_le (by rw [eb]; exact g2 j hj hpj) n g2
  omega
theorem peak_is {net ks : List Nat} (ok : Ok net) (hl : ks.length = net.length) {k : Nat} (hk : k < ks.length) : (peakTo (parts net) (hgtL net ks) ks.length ks.length).getD ((parts net).getD k 0) 0 = peakK net (hgt net ks) ks.length k := by
  have hr := parts_lt ok (k := k) (by omega)
  have hi := parts_idem ok (k := k) (by omega)
  rw [peakTo_get _ _ (by omega)]
  unfold peakK
  rw [overTo_cong (g := hgt net ks) (b := 0) rfl _ (fun j hj => hgtL_get net ks hj)]
  exact overTo_from (i := (parts net).getD k 0) (j := k) (by omega) (by simpa using hi) (hgt_root hi).symm hk (by simp) rfl
theorem peakTo_small {net ks : List Nat} (ok : Ok net) (h : St 3 ks) (hl : ks.length = net.length) (hf : Flat net ks) {r : Nat} (hr : r < ks.length) {k : Nat} (hk : k ≤ ks.length) : -5 ≤ (peakTo (parts net) (hgtL net ks) ks.length k).getD r 0 ∧ (peakTo (parts net) (hgtL net ks) ks.length k).getD r 0 ≤ 5 := by
  rw [peakTo_get _ _ hr]
  exact overTo_in (by omega) _ (fun j hj => by rw [hgtL_get net ks (by omega)]; exact hgt_small ok h hl hf (by omega))

/-- What is laid while the part of m is gone through. -/
structure Lay (net ks : List Nat) (m seen : Nat) (out : List Int) : Prop where
  laid : Laid net ks (m + 1) seen out
  all : AllTo net ks m seen
  me : seen.testBit m = true
theorem Lay.start {net ks : List Nat} (ok : Ok net) (hl : ks.length = net.length) {m seen : Nat} {out : List Int} (h : Laid net ks m seen out) (ha : AllTo net ks m seen) (hm : m < ks.length) (hs : seen.testBit m = false) : Lay net ks m (seen ||| 2 ^ m) out :=
  ⟨h.light ok hl ha hm hs, all_or ha m, (bit_or _ _ _).2 (.inr rfl)⟩
theorem Lay.more {net ks : List Nat} (ok : Ok net) (hl : ks.length = net.length) {m seen : Nat} {out : List Int} (h : Lay net ks m seen out) {k j : Nat} (hk : k < ks.length) (hj : j < ks.length) (hs : seen.testBit k = true) (hn : seen.testBit j = false) (hb : (net.getD k 0).testBit j = true) :
    Lay net ks m (seen ||| 2 ^ j) (out.set j (out.getD k 0 + rise (ks.getD k 0) (ks.getD j 0))) :=
  ⟨h.laid.more ok hl hk hj hs hn hb, all_or h.all j, (bit_or _ _ _).2 (.inl h.me)⟩
theorem Lay.fit {net ks : List Nat} (st : St 3 ks) {m seen : Nat} {out : List Int} (h : Lay net ks m seen out) : seen < 64 := Nat.lt_of_lt_of_le h.laid.fit (pow_le st.few)
theorem or_grows {seen j : Nat} (h : seen.testBit j = false) : seen < seen ||| 2 ^ j := by
  have h1 : seen ≤ seen ||| 2 ^ j := Nat.left_le_or
  have h2 : seen ≠ seen ||| 2 ^ j := fun e => by
    have h3 : (seen ||| 2 ^ j).testBit j = true := (bit_or _ _ _).2 (.inr rfl)
    rw [← e, h] at h3
    exact absurd h3 (by simp)
  omega
theorem close_off {net ks : List Nat} {seen k j : Nat} (h : CloseTo net ks seen k j) (hn : seen.testBit k = false) : CloseTo net ks seen (k + 1) 0 := ⟨fun a b ha hb hs hw => by
  by_cases e : a = k
  · subst e; rw [hn] at hs; exact absurd hs (by simp)
  · exact h.1 a b (by omega) hb hs hw, fun _ h => absurd h (by omega)⟩
theorem Lay.done {net ks : List Nat} (ok : Ok net) (hl : ks.length = net.length) {m seen : Nat} {out : List Int} (h : Lay net ks m seen out) (hc : CloseTo net ks seen ks.length 0) : Laid net ks (m + 1) seen out ∧ AllTo net ks (m + 1) seen :=
  ⟨h.laid, all_closed ok hl h.all (close_end hc) fun _ => h.me⟩
end Nt
end Go.Proofs.Ytllbdhfckdljgaa
