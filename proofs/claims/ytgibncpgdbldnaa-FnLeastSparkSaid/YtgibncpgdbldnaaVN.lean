/-
  Walks: rows that repeat one number; arrivals of waves, by the program.
  Walks: arrivals of waves, by the program.
  Walks: ends of waves, sets of lights, by the program.
-/
import Derived.Test.YtgibncpgdbldnaaFA
import Derived.Test.YtgibncpgdbldnaaNA
import Derived.Test.YtgibncpgdbldnaaVP
import Derived.Laws.CopyOwn
import Derived.Deep.RegionLaw
import Derived.StillTailTactics
import Derived.Test.YtgibncpgdbldnaaFC
import Derived.Test.YtgibncpgdbldnaaW15
import Derived.Test.YtgibncpgdbldnaaW17
namespace Go.Proofs.Ytgibncpgdbldnaa
open Go.RowKit

/-- A row that is full, laid anew. -/
theorem Sl.laid {w : World} {base g N : Nat} {xs : List Int} (h : Sl w base (.slice (some ⟨g, 0, none⟩) N N) xs) (zs : List Int) (hz : zs.length = xs.length) :
    Sl (w.setRow g (ints zs).toArray) base (.slice (some ⟨g, 0, none⟩) N N) zs ∧ Kept [g] w (w.setRow g (ints zs).toArray) := by
  have hN := h.same_len
  rcases h.2 with ⟨h1, _⟩ | ⟨g', cap, cur, hv, hb, hg, hc, hm, hcs, ht⟩
  · exact absurd h1 (by simp)
  · have e := hv
    simp at e
    obtain ⟨rfl, _, rfl⟩ := e
    refine ⟨⟨by simp [ints], .inr ⟨g, N, (ints zs).toArray, by rw [hz, hN], hb, setRow_heap w g _ _ _ _ hg, by omega, hm, by simp [ints]; omega, ?_⟩⟩, ?_⟩
    · rw [List.take_of_length_le (by simp [ints])]
    · exact ⟨rfl, rfl, rfl, by simp [World.setRow], fun k hk hn => setRow_other w g k _ (fun e => hn (by simp [e]))⟩
/-- What a full row holds. -/
theorem Sl.full {w : World} {base g N : Nat} {xs : List Int} (h : Sl w base (.slice (some ⟨g, 0, none⟩) N N) xs) : w.heap[g]? = some (.cells (ints xs).toArray 3 (0, 0)) := by
  have hN := h.same_len
  rcases h.2 with ⟨h1, _⟩ | ⟨g', cap, cur, hv, hb, hg, hc, hm, hcs, ht⟩
  · exact absurd h1 (by simp)
  · have e := hv
    simp at e
    obtain ⟨rfl, _, rfl⟩ := e
    rw [hg, ← ht, List.take_of_length_le (by rw [Array.length_toList]; omega)]

def over (xs ys : List Int) (off : Nat) : List Int := xs.take off ++ (ys ++ xs.drop (off + ys.length))
theorem over_length {xs ys : List Int} {off : Nat} (h : off + ys.length ≤ xs.length) : (over xs ys off).length = xs.length := by simp [over]; omega
theorem ints_over (xs ys : List Int) (off : Nat) : (ints xs).toArray.toList.take off ++ (ints ys ++ (ints xs).toArray.toList.drop (off + (ints ys).length)) = ints (over xs ys off) := by
  simp [over, ints]

theorem copy_int {ops : Array Oper} {rest : List Oper} {o : Oper} {a : Act} {Q : Exit → Act → World → Prop} {w : World} (hgd : o.guard = none) (d s : Operand)
    (ho : o.op = .call { callee := .builtin .copy, args := #[d, s], argTypes := #[23, 23] })
    (base g N : Nat) (xs ys : List Int) (hown : Sl w base (.slice (some ⟨g, 0, none⟩) N N) xs) (off dLen dCap : Nat) (ad : Addr) (sLen sCap : Nat)
    (hd : a.eval d = .slice (some ⟨g, off, none⟩) dLen dCap) (hs : a.eval s = .slice (some ad) sLen sCap)
    (hn : ys.length = Nat.min sLen dLen) (hsrc : ∀ j, j < ys.length → w.cell? (ad.add j) = some (.int .i64 (ys.getD j 0))) (hfit : off + ys.length ≤ xs.length)
    (h : ∀ w', Sl w' base (.slice (some ⟨g, 0, none⟩) N N) (over xs ys off) → Kept [g] w w' → wpList Try.prog ops Q rest (a.put o.dst (goInt ys.length)) w') :
    wpList Try.prog ops Q (o :: rest) a w := by
  obtain ⟨i0, hi, hz0, hz1, hz2⟩ := info_parts info_int
  refine wpList_copy_own hgd d s 23 23 ho 3 Try.underlying23 (by rw [hi]; simp [hz1]) g off dLen dCap ad sLen sCap hd hs (ints xs).toArray 3 hown.full (ints ys) (by rw [ints_length]; exact hn)
    (fun j v hj => ?_) (by simp only [List.size_toArray, ints_length]; exact hfit) (ints_oneCell _ _) ?_
  · have hjl : j < ys.length := by
      have := (List.getElem?_eq_some_iff.1 hj).1
      simpa [ints] using this
    rw [ints_get ys j hjl] at hj
    rw [hsrc j hjl, hj]
  · rw [ints_over, ints_length]
    obtain ⟨h1, h2⟩ := hown.laid (over xs ys off) (over_length hfit)
    exact h _ h1 h2
theorem step_copy_int {ops : Array Oper} {o : Oper} {a : Act} {K : Act → World → Prop} {Q : Exit → Act → World → Prop} {E : Prop} {w : World} (hgd : o.guard = none) (d s : Operand)
    (ho : o.op = .call { callee := .builtin .copy, args := #[d, s], argTypes := #[23, 23] })
    (base g N : Nat) (xs ys : List Int) (hown : Sl w base (.slice (some ⟨g, 0, none⟩) N N) xs) (off dLen dCap : Nat) (ad : Addr) (sLen sCap : Nat)
    (hd : a.eval d = .slice (some ⟨g, off, none⟩) dLen dCap) (hs : a.eval s = .slice (some ad) sLen sCap)
    (hn : ys.length = Nat.min sLen dLen) (hsrc : ∀ j, j < ys.length → w.cell? (ad.add j) = some (.int .i64 (ys.getD j 0))) (hfit : off + ys.length ≤ xs.length)
    (h : ∀ w', Sl w' base (.slice (some ⟨g, 0, none⟩) N N) (over xs ys off) → Kept [g] w w' → K (a.put o.dst (goInt ys.length)) w') :
    if Region.wanted o (yielded ops a.tmps) = true then Oper.wp Try.prog o a w K Q else E := by
  have hw : Region.wanted o (yielded ops a.tmps) = true := by simp [Region.wanted, hgd]
  rw [if_pos hw]
  obtain ⟨i0, hi, hz0, hz1, hz2⟩ := info_parts info_int
  have hrun := run_copy_row (P := Try.prog) w 23 23 o.type 3 g off dLen dCap ad sLen sCap (ints xs).toArray 3 (ints ys) Try.underlying23 (by rw [hi]; simp [hz1]) hown.full (by rw [ints_length]; exact hn)
    (fun j v hj => by
      have hjl : j < ys.length := by
        have := (List.getElem?_eq_some_iff.1 hj).1
        simpa [ints] using this
      rw [ints_get ys j hjl] at hj
      rw [hsrc j hjl, hj]) (by simp only [List.size_toArray, ints_length]; exact hfit) (ints_oneCell _ _)
  rw [List.append_assoc, ints_over, ints_length] at hrun
  obtain ⟨h1, h2⟩ := hown.laid (over xs ys off) (over_length hfit)
  unfold Oper.wp
  simp [execOp, ho, resolve, invoke, builtin, hd, hs, hrun, Result.andThen]
  exact h _ h1 h2

theorem addr_zero (g j : Nat) : (⟨g, 0, none⟩ : Addr).add j = ⟨g, j, none⟩ := by unfold Addr.add; split <;> simp_all

/-- So many places of n hold x, and the others 0. -/
def repTo (x : Int) (n m : Nat) : List Int := List.replicate m x ++ List.replicate (n - m) 0
theorem repTo_length (x : Int) {n m : Nat} (h : m ≤ n) : (repTo x n m).length = n := by simp [repTo]; omega
theorem repTo_get (x : Int) {n m j : Nat} (_h : j < m) : (repTo x n m).getD j 0 = x := by
  unfold repTo
  rw [List.getD_eq_getElem?_getD, List.getElem?_append_left (by simpa using _h), List.getElem?_replicate, if_pos _h]
  rfl
theorem repTo_zero (x : Int) (n : Nat) : repTo x n 0 = List.replicate n 0 := by simp [repTo]
theorem repTo_all (x : Int) (n : Nat) : repTo x n n = List.replicate n x := by simp [repTo]
theorem repTo_over (x : Int) (n m k : Nat) : over (repTo x n m) (List.replicate k x) m = repTo x n (m + k) := by
  unfold over repTo
  have e1 : (List.replicate m x ++ List.replicate (n - m) (0 : Int)).take m = List.replicate m x := by
    rw [List.take_append_of_le_length (by simp)]; simp
  have e2 : (List.replicate m x ++ List.replicate (n - m) (0 : Int)).drop (m + (List.replicate k x).length) = List.replicate (n - (m + k)) 0 := by
    rw [List.drop_append]
    simp
    omega
  rw [e1, e2, ← List.append_assoc, List.replicate_append_replicate]

end Go.Proofs.Ytgibncpgdbldnaa

namespace Go.Proofs.Ytgibncpgdbldnaa
open Go.RowKit

end Go.Proofs.Ytgibncpgdbldnaa

namespace Go.Proofs.Ytgibncpgdbldnaa
open Go.RowKit

theorem waveEnd_of {xs : List Int} {kinds set : Int} {a b : Int} (hL : Nt.LoopIs xs kinds (Nt.litOf (xs.length : Int) set) a b) : Nt.endsOf a b = Nt.waveEndOf xs kinds set := by
  rcases hL with ⟨ns, c, ks, m, l, rfl, rfl, hks, ok, st, hl, hloop, hb, rfl, rfl⟩ | ⟨hno, rfl, rfl⟩
  · rw [Nt.nats_length] at hks
    have hset : (1 ≤ ns.length ∧ ns.length ≤ 6) ∧ 0 ≤ set ∧ set < 2 ^ ns.length := by
      apply Classical.byContradiction
      intro h
      rw [Nt.litOf_no (fun h2 => h ⟨⟨by omega, by omega⟩, by rw [Int.toNat_natCast] at h2; exact h2.2⟩)] at hks
      have h3 : (Nt.nats ks).length = 0 := by rw [← hks]; rfl
      rw [Nt.nats_length] at h3
      have := st.some
      omega
    obtain ⟨s, rfl⟩ := Int.eq_ofNat_of_zero_le hset.2.1
    have hs2 : s < 2 ^ ns.length := by have := hset.2.2; exact_mod_cast this
    rw [Nt.litOf_ok ok.some ok.few hs2] at hks
    have hks2 : Nt.lit ns.length s = ks := by
      have h := congrArg (List.map Int.toNat) hks
      rwa [Nt.nats_toNat, Nt.nats_toNat] at h
    subst hks2
    obtain ⟨hl1, hm⟩ := Nt.wave_loop ok st.c3 hs2 hloop
    unfold Nt.endsOf
    rw [if_pos (by omega), hm]
    by_cases h0 : s = 0
    · subst h0
      rw [if_pos rfl]
      exact (Nt.waveEndOf_zero ok st.c3 st.c5).symm
    · rw [if_neg h0, Nt.waveEndOf_ok ok st.c3 st.c5 hs2 h0]
  · have hw : Nt.waveB xs kinds set = false := by
      cases h : Nt.waveB xs kinds set
      · rfl
      · obtain ⟨ns, c, s, rfl, rfl, rfl, ok, h3, h5, hs2⟩ := Nt.waveB_ok h
        rw [Nt.nats_length, Nt.litOf_ok ok.some ok.few hs2] at hno
        rw [Nt.fireB_yes ok (lit_stc h3 h5 ok.some ok.few) (by rw [Nt.lit_length])] at hno
        cases hno
    rw [Nt.waveEndOf_no hw]
    rfl

set_option maxHeartbeats 2000000 in
set_option maxRecDepth 100000 in
theorem smallestSet_any (F : Nat) (caps : Array Value) (P : Nat → Bool) (n a b : Nat) (hp : 0 < n) (h6 : n ≤ 6)
    (hent : ∀ (args : Array Value) (w : World), Sem.run Try.prog (callFunc F args) w = .ok (.enter F args) w)
    (w0 : World) (hP : ∀ s, s < 2 ^ n → ∀ w, Kept [] w0 w → Calls Try.prog F (#[.int .i64 (s : Int)] ++ caps) w fun e w' => e = .returned (.bool (P s)) ∧ Kept [] w w')
    (ha : a < 2 ^ n) (hPa : P a = true) (hpa : Nt.popTo a n = b) (hbn : b ≤ n) (hfew : ∀ r, r < 2 ^ n → P r = true → b ≤ Nt.popTo r n) (hlea : ∀ r, r < a → ¬ (P r = true ∧ Nt.popTo r n = b)) :
    Calls Try.prog 56 #[.int .i64 (n : Int), .func (.func F) #[] caps] w0 fun e w' => e = .returned (.int .i64 (a : Int)) ∧ Kept [] w0 w' := by
  have HENT := Lib.hid hent
  have HP := Lib.hid hP
  have HPA := Lib.hid hPa
  have HFEW := Lib.hid hfew
  have HLEA := Lib.hid hlea
  have HPOP := Lib.hid hpa
  have EP : Hid (wrap64 (2 ^ n) = ((2 ^ n : Nat) : Int)) := Lib.hid (by
    have h := wrap_pow n (by omega) (by omega)
    rw [Int.toNat_natCast] at h
    rw [h]; exact (Int.natCast_pow 2 n).symm)
  have h64 : 2 ^ n ≤ 64 := Nt.pow_le h6
  have HPP : Hid (∀ r, r < 2 ^ n → Nt.pop r = Nt.popTo r n) := Lib.hid (fun r hr => Nt.popTo_more hr 6 h6)
  clear hent hP hPa hfew hlea hpa
  go_enter Try.func56, Try.ntmps56
  go_wp2_with fail
  go_loopw [9] (fun i wr => ∃ z : Nat, z ≤ b ∧ i = .int .i64 z ∧ Kept [] w0 wr) (fun i _ => n + 1 - (intOf i).toNat)
  case atStart => exact ⟨0, Nat.zero_le _, rfl, Kept.refl _ _⟩
  case round =>
    obtain ⟨z, hz, rfl, hkz⟩ := hrel
    have HKZ := Lib.hid hkz
    have ep := EP.out
    clear hkz
    have hzn : z < n + 1 := by omega
    generalize htop : 2 ^ n = top at *
    have HTOP := Lib.hid htop
    clear htop
    have hdz : decide ((z : Int) < (n : Int) + 1) = true := dec_of (by omega)
    go_wp2_with fail
    rw [ep]
    clear hdz
    go_loopw [14] (fun i wx => ∃ r : Nat, r ≤ top ∧ i = .int .i64 r ∧ (z = b → r ≤ a) ∧ Kept [] w0 wx) (fun i _ => top - (intOf i).toNat)
    case atStart => exact ⟨0, Nat.zero_le _, rfl, fun _ => Nat.zero_le _, HKZ.out⟩
    case round =>
      clear HKZ
      obtain ⟨r, hr, rfl, hza, hkx⟩ := hrel
      have HKX := Lib.hid hkx
      have HZA := Lib.hid hza
      clear hkx hza
      by_cases hlt : r < top
      · have hpp := HPP.out r hlt
        go_wp2_with fail
        refine (sizeOf_any r (by omega) _).mono ?_
        rintro e w' ⟨rfl, rfl⟩
        rw [hpp]
        by_cases hpz : Nt.popTo r n = z
        · rw [hpz]
          have hq := HFEW.out r hlt
          have hl := HLEA.out r
          rw [hpz] at hq hl
          have hbeq : ((z : Int) == (z : Int)) = true := by simp
          go_wp2_with fail
          rw [HENT.out, Oper.upon_enter]
          refine (HP.out r hlt _ HKX.out).mono ?_
          rintro e w2 ⟨rfl, hk2⟩
          have HK2 := Lib.hid (HKX.out.trans hk2 (by simp))
          clear hk2
          cases hPr : P r
          · have HNX : Hid (z = b → r + 1 ≤ a) := Lib.hid (fun hzb => by
              have h1 := HZA.out hzb
              by_cases e : r = a
              · subst e; rw [HPA.out] at hPr; cases hPr
              · omega)
            clear hq hl hPr hpp hpz
            go_wp2_with fail
            go_roundw
            case rel =>
              exact ⟨r + 1, by omega, by go_num, HNX.out, HK2.out⟩
            case measure => simp [intOf]; omega
          · have hzb : z = b := by have := hq hPr; omega
            have hra : r = a := by
              have h1 := HZA.out hzb
              by_cases e : r < a
              · exact absurd ⟨hPr, hzb⟩ (hl e)
              · omega
            clear hq hl hPr hpp hpz
            subst hra
            go_wp2_with fail
            go_ret
            exact ⟨rfl, HK2.out⟩
        · have hbeq : (((Nt.popTo r n : Nat) : Int) == (z : Int)) = false := by simp; omega
          have HNX : Hid (z = b → r + 1 ≤ a) := Lib.hid (fun hzb => by
            have h1 := HZA.out hzb
            by_cases e : r = a
            · subst e; exact absurd (HPOP.out.trans hzb.symm) hpz
            · omega)
          clear hpp hpz
          generalize Nt.popTo r n = q at *
          go_wp2_with fail
          go_roundw
          case rel => exact ⟨r + 1, by omega, by go_num, HNX.out, HKX.out⟩
          case measure => simp [intOf]; omega
      · have hzb : z < b := by
          apply Classical.byContradiction
          intro h
          have := HZA.out (by omega)
          omega
        go_wp2_with fail
        go_roundw
        case rel => exact ⟨z + 1, by omega, by go_num, HKX.out⟩
        case measure => simp [intOf]; omega

end Go.Proofs.Ytgibncpgdbldnaa
