/-
  append of one number, and where what comes of it lies.
  Walks: arrivals of waves, by the model.
  Walks: ends of waves, sets of lights, by the model.
-/
import Derived.Test.YtebbfdpaplkmdaaKA
import Derived.Maps.AppendAt
import Derived.Test.YtebbfdpaplkmdaaFA
import Derived.Test.YtebbfdpaplkmdaaNA
import Derived.Test.YtebbfdpaplkmdaaVP
import Derived.Test.YtebbfdpaplkmdaaFC
import Derived.Test.YtebbfdpaplkmdaaNB
namespace Go.Proofs.Ytebbfdpaplkmdaa
open Go.RowKit

/-- 'append(out, x)' of one number: the block is the same one, or new. -/
theorem app_int_at {ops : Array Oper} {rest : List Oper} {o : Oper} {a : Act} {Q : Exit → Act → World → Prop} {w0 : World} (x : Int) (hgd : o.guard = none) (s y : Operand)
    (ho : o.op = .call { callee := .builtin .append, args := #[s, y], argTypes := #[23, 23] })
    (base : Nat) (v : Value) (xs : List Int) (hown : Sl w0 base v xs) (hs : a.eval s = v) (hx : a.eval y = .slice (some ⟨w0.heap.size, 0, none⟩) 1 1)
    (hlen : xs.length ≤ 1000000) (hbase : base ≤ w0.heap.size)
    (h : ∀ v' w', Sl w' base v' (xs ++ [x]) → Kept v.ownBlock.toList w0 w' → (∀ g, v'.ownBlock = some g → v.ownBlock = some g ∨ w0.heap.size ≤ g) → wpList Try.prog ops Q rest (a.put o.dst v') w') :
    wpList Try.prog ops Q (o :: rest) a (w0.alloc (.cells #[.int .i64 x] 3)) := by
  obtain ⟨i0, hi, hz0, hz1, hz2⟩ := info_parts info_int
  refine wpList_append_own_at _ hgd s y _ ho base 3 i0 (.int .i64 0) 1 8 Try.underlying23 hi hz0 hz1 hz2 rfl (by decide) v xs.length (ints xs) hs (World.ownsRow.alloc hown _)
    ⟨w0.heap.size, 0, none⟩ 1 1 [.int .i64 x] hx rfl (cell_one_new _ _ _) (by intro u hu; simp at hu; subst hu; rfl) (by unfold maxLen; omega) (by omega) (by simp; omega) ?_
  intro v' w' h1 h2 _ h4
  refine h v' w' ?_ ?_ ?_
  · unfold Sl
    rw [List.length_append, ints_append]
    exact h1
  · refine (Kept.refl _ _).alloc _ |>.grown h2 fun k hk => .inl (by rw [hk]; simp)
  · intro g hg
    rcases h4 with h4 | h4
    · exact .inl (by rw [← h4]; exact hg)
    · right
      rw [h4] at hg
      simp at hg
      omega
end Go.Proofs.Ytebbfdpaplkmdaa

namespace Go.Proofs.Ytebbfdpaplkmdaa
open Go.RowKit

set_option maxHeartbeats 2000000 in
theorem sArrOk_any (ns : List Nat) (c s : Nat) (ok : Nt.Ok ns) (h3 : 3 ≤ c) (h5 : c ≤ 5) (hs2 : s < 2 ^ ns.length) (w : World) (v : Value) (base : Nat) (hs : Sl w base v (Nt.nats ns)) :
    Calls Try.prog 12 #[v, .int .i64 (c : Int), .int .i64 (s : Int)] w fun e w' => ∃ u, e = .returned u ∧ Sl w' w.heap.size u (Nt.far ns s) ∧ Kept [] w w' := by
  obtain ⟨n, hn⟩ : ∃ n, n = ns.length := ⟨_, rfl⟩
  have hp := ok.some
  have h6 := ok.few
  have HOK := Lib.hid ok
  have HSS := Lib.hid hs2
  have HOKB := Lib.hid (Nt.ok_okB ok)
  have HLO := Lib.hid (Nt.litOf_ok hp h6 hs2)
  have HRS : Hid (∀ t, Nt.St c (Nt.run ns c (Nt.lit ns.length s) t)) := Lib.hid (fun t => Nt.run_st ns (lit_stc h3 h5 hp h6) t)
  have HRL : Hid (∀ t, (Nt.run ns c (Nt.lit ns.length s) t).length = n) := Lib.hid (fun t => by rw [Nt.run_length, Nt.lit_length, hn])
  have HAF := Lib.hid (fun k (hk : k < n) => arr_first ns s k (by omega))
  have HAL := Lib.hid (fun t => (Nt.arrRow_length ns s t).trans hn.symm)
  have HAG := Lib.hid (fun t k (hk : k < n) => Nt.arrRow_get ns s t (k := k) (by omega))
  have HAN := Lib.hid (fun t k => Nt.arrAt_next ns s t k)
  have HAO := Lib.hid (fun t k (h : Nt.dist ns s 64 k = ((t + 1 : Nat) : Int)) => Nt.arrAt_new h)
  have HON := Lib.hid (fun t k (hk : k < n) => Nt.arr_lit ok h3 hs2 t (k := k) (by omega))
  have HEND := Lib.hid (fun t (ht : ns.length ≤ t + 1) => Nt.arrRow_end ok hs2 ht)
  have HN := Lib.hid hn
  have ep : wrap64 (wrap64 (2 ^ n) - 1) = 2 ^ n - 1 := by
    have h := wrap_pow n (by omega) (by omega)
    rw [Int.toNat_natCast] at h
    have h2 := wrap_pow_pred n (by omega)
    rw [IntWalk.i64_left] at h2
    rw [h]
    exact h2
  have EP := Lib.hid ep
  have d3 : decide ((3 : Int) ≤ (c : Int) ∧ (c : Int) ≤ 5) = true := dec_of (by omega)
  have ds : decide ((0 : Int) ≤ (s : Int) ∧ (s : Int) ≤ 2 ^ n - 1) = true := dec_of (by
    rw [← hn] at hs2
    have h := Nt.pow_le (show n ≤ 6 by omega)
    have e : ((2 ^ n : Nat) : Int) = (2 : Int) ^ n := Int.natCast_pow 2 n
    omega)
  have HD := Lib.hid ds
  rw [← hn] at hp h6 HLO
  obtain ⟨g, cap, rfl, hg, _⟩ := hs.row hn.symm hp
  have hk1 : Kept [] w (w.alloc (.cells #[] 3)) := (Kept.refl _ _).alloc _
  have HS1 := Lib.hid (hs.stay hk1)
  have HO1 := Lib.hid (Sl.empty3 w)
  have HK1 := Lib.hid hk1
  clear hs ok hs2 ep ds hn hk1
  go_enter Try.func12, Try.ntmps12
  go_wp2_with fail
  refine (sNetOk_any (Nt.nats ns) _ _ base HS1.out).mono ?_
  rintro e w2 ⟨rfl, hq⟩
  rw [HOKB.out]
  have HS2 := Lib.hid (hq.sl HS1.out)
  have HO2 := Lib.hid (hq.sl HO1.out)
  have HK2 := Lib.hid (HK1.out.trans hq.kept (by simp))
  have HZ2 : Hid (w.heap.size < w2.heap.size) := Lib.hid (by rw [hq.heap]; simp)
  clear hq HS1 HO1 HK1
  go_wp2_with fail
  refine (l1In_any _ _ _ _).mono ?_
  rintro e w' ⟨rfl, rfl⟩
  rw [d3]
  clear d3
  go_wp2_with fail
  rw [EP.out]
  refine (l1In_any _ _ _ _).mono ?_
  rintro e w' ⟨rfl, rfl⟩
  rw [HD.out]
  go_wp2_with fail
  refine (sLit_any _ _ _).mono ?_
  rintro e w3 ⟨u3, rfl, hs3, hk3⟩
  rw [HLO.out] at hs3
  rw [HN.out] at hs3
  have hs3' : Sl w3 w2.heap.size u3 (Nt.nats (Nt.run ns c (Nt.lit ns.length s) 0)) := hs3
  have HB3 := Lib.hid (fun g hg => (hs3'.block (g := g) hg).1)
  obtain ⟨gn, capn, rfl, hgn, hcn⟩ := hs3'.row (HRL.out 0) hp
  have HNW := Lib.hid hs3'
  have HCN := Lib.hid hcn
  have HS3 := Lib.hid (HS2.out.stay hk3)
  have HO3 := Lib.hid (HO2.out.stay hk3)
  have HK3 := Lib.hid (HK2.out.trans hk3 (by simp))
  have HGN : Hid (w2.heap.size ≤ gn) := Lib.hid (HB3.out gn rfl)
  clear hs3 hs3' hcn hk3 HS2 HO2 HK2 HB3
  go_wp2_with fail
  go_loopw [7, 9] (fun u i wr => ∃ k : Nat, k ≤ n ∧ i = .int .i64 k ∧ Sl wr w.heap.size u ((Nt.arrRow ns s 0).take k) ∧ Kept [] w wr ∧ Kept [w.heap.size] w3 wr ∧ (∀ g, u.ownBlock = some g → g = w.heap.size ∨ w3.heap.size ≤ g)) (fun _ i _ => n - (intOf i).toNat)
  case atStart => exact ⟨0, Nat.zero_le _, rfl, HO3.out, HK3.out, Kept.refl _ _, fun g hg => by simp [Value.ownBlock] at hg; exact .inl hg.symm⟩
  case round =>
    clear HO3
    obtain ⟨k, hk, rfl, hsl, hkept, hk3, hblk⟩ := hrel
    have HSL := Lib.hid hsl
    have HK := Lib.hid hkept
    have HKW := Lib.hid hk3
    have HBL := Lib.hid hblk
    have hsz := hkept.size
    by_cases hlt : k < n
    · have hcell := (hk3.cell (p := ⟨gn, k, none⟩) hgn (by simp; have h1 := HGN.out; have h2 := HZ2.out; omega)).trans (HCN.out k hlt)
      have HT := Lib.hid (takeI_succ (Nt.arrRow ns s 0) k (by rw [HAL.out]; exact hlt))
      have HA := Lib.hid (HAF.out k hlt)
      have HLL : Hid (((Nt.arrRow ns s 0).take k).length ≤ 1000000) := Lib.hid (by rw [List.length_take]; omega)
      have hx : (Nt.lit ns.length s).getD k 0 < 5 := by have h := (HRS.out 0).lt k (by rw [HRL.out]; exact hlt); have e : Nt.run ns c (Nt.lit ns.length s) 0 = Nt.lit ns.length s := rfl; rw [e] at h; omega
      have hc2 : wr.cell? ⟨gn, k, none⟩ = some (.int .i64 (((Nt.lit ns.length s).getD k 0 : Nat) : Int)) := hcell
      clear hsl hkept hk3 hblk hcell
      generalize (Nt.lit ns.length s).getD k 0 = x at *
      go_wp2_with (at_builtin; refine app_int_at _ rfl _ _ rfl w.heap.size _ _ HSL.out rfl rfl HLL.out (by omega) ?_; intro u' wx hsx hkx hbx; have HSX := Lib.hid hsx; have HKX := Lib.hid hkx; have HBX := Lib.hid hbx; clear hsx hkx hbx)
      go_roundw
      case rel =>
        refine ⟨k + 1, by omega, by go_num, HSX.out.val HA.out.symm HT.out, HK.out.own HKX.out (fun g hg => (HSL.out.block hg).1), ?_, ?_⟩
        · exact HKW.out.trans HKX.out (fun x hx => by
            rcases HBL.out x (by simpa using hx) with h | h
            · exact .inl (by simp [h])
            · exact .inr h)
        · intro g hg
          rcases HBX.out g hg with h | h
          · exact HBL.out g h
          · exact .inr (Nat.le_trans HKW.out.size h)
      case measure => simp [intOf]; omega
    · have hk' : k = n := by omega
      subst hk'
      have hrow : Sl wr w.heap.size u7 (Nt.arrRow ns s 0) := by
        have h := HSL.out
        rw [List.take_of_length_le (by rw [HAL.out]; exact Nat.le_refl _)] at h
        exact h
      have hone : ∀ g, u7.ownBlock = some g → ¬ g = gn := fun g hg e => by
        have h1 := HGN.out
        have h2 := HZ2.out
        rcases HBL.out g hg with h | h
        · omega
        · omega
      obtain ⟨go, capo, rfl, hgo1, hgo⟩ := hrow.shape (HAL.out 0) hp
      have hne0 : ¬ go = gn := hone go rfl
      have HR0 := Lib.hid hrow
      have HNW4 : Hid (Sl wr w2.heap.size _ (Nt.nats (Nt.run ns c (Nt.lit ns.length s) 0))) := Lib.hid (HNW.out.kept hk3 (fun g hg hm => by simp [Value.ownBlock] at hg hm; have h1 := HGN.out; have h2 := HZ2.out; omega))
      have HS4 := Lib.hid (HS3.out.kept hk3 (fun g hg hm => by simp [Value.ownBlock] at hg hm; omega))
      have HK4 := Lib.hid hkept
      have HGO := Lib.hid hgo
      have HGO1 := Lib.hid hgo1
      have HNE0 := Lib.hid hne0
      clear hsl hkept hk3 hblk hlt hk hrow hone hgo hgo1 hne0 HSL HKW HK HBL HNW HCN HS3
      go_wp2_with fail
      go_loopw [8, 10] (fun z i wx => ∃ t : Nat, t ≤ k ∧ i = .int .i64 ((t : Int) + 1) ∧ Sl wx 0 z (Nt.nats (Nt.run ns c (Nt.lit ns.length s) t)) ∧ (∀ g, z.ownBlock = some g → ¬ go = g) ∧ Sl wx w.heap.size (.slice (some ⟨go, 0, none⟩) k capo) (Nt.arrRow ns s t) ∧ Kept [] w wx ∧ Kept [go] wr wx) (fun _ i _ => k + 1 - (intOf i).toNat)
      case atStart => exact ⟨0, Nat.zero_le _, rfl, HNW4.out.mono (Nat.zero_le _), fun g hg e => by simp [Value.ownBlock] at hg; exact HNE0.out (by omega), HR0.out, HK4.out, Kept.refl _ _⟩
      case round =>
        clear HNW4 HR0
        obtain ⟨t, ht, rfl, hnow, hneg, hrow, hkept, hkgo⟩ := hrel
        have HNOW := Lib.hid hnow
        have HNEG := Lib.hid hneg
        have HROW := Lib.hid hrow
        have HKT := Lib.hid hkept
        have HKG := Lib.hid hkgo
        have HSW := Lib.hid (HS4.out.kept hkgo (fun g hg hm => by simp [Value.ownBlock] at hg hm; have := HGO1.out; omega))
        clear hnow hneg hrow hkept hkgo
        by_cases hlt : t < k
        · have hle : (t : Int) + 1 ≤ (k : Int) := by omega
          go_wp2_with fail
          refine (l3Step_any ns c (Nt.run ns c (Nt.lit ns.length s) t) HOK.out (HRS.out t) (by rw [HRL.out]; exact HN.out) _ _ _ _ _ HSW.out HNOW.out).mono ?_
          rintro e w5 ⟨z5, rfl, hs5, hk5⟩
          have hs5' : Sl w5 wr.heap.size z5 (Nt.nats (Nt.run ns c (Nt.lit ns.length s) (t + 1))) := hs5
          obtain ⟨g5, cap5, rfl, hg5, hc5⟩ := hs5'.row (HRL.out (t + 1)) hp
          have hge : wr.heap.size ≤ g5 := (hs5'.block rfl).1
          have hgo2 : go < wr.heap.size := Nat.lt_of_lt_of_le HGO.out HKG.out.size
          have HN5 := Lib.hid hs5'
          have HC5 := Lib.hid hc5
          have HR5 : Hid (Sl w5 w.heap.size (.slice (some ⟨go, 0, none⟩) k capo) (mixI (Nt.arrRow ns s (t + 1)) (Nt.arrRow ns s t) 0)) := Lib.hid (by rw [mixI_zero]; exact HROW.out.stay hk5)
          have HK5 := Lib.hid (HKT.out.trans hk5 (by simp))
          have HKG5 := Lib.hid (HKG.out.trans (⟨hk5.os, hk5.tape, hk5.output, hk5.size, fun j hj _ => hk5.block j hj (by simp)⟩ : Kept [go] wr w5) (fun x hx => .inl hx))
          have HNE5 : Hid (¬ g5 = go) := Lib.hid (by omega)
          have HLEN : Hid ((Nt.arrRow ns s (t + 1)).length = (Nt.arrRow ns s t).length) := Lib.hid (by rw [HAL.out, HAL.out])
          clear hs5 hs5' hk5 hc5 hge hgo2 HNOW HROW HKT HKG HSW HNEG
          go_wp2_with fail
          go_loopw [11] (fun i wi => ∃ j : Nat, j ≤ k ∧ i = .int .i64 j ∧ Sl wi w.heap.size (.slice (some ⟨go, 0, none⟩) k capo) (mixI (Nt.arrRow ns s (t + 1)) (Nt.arrRow ns s t) j) ∧ Kept [go] w5 wi) (fun i _ => k - (intOf i).toNat)
          case atStart => exact ⟨0, Nat.zero_le _, rfl, HR5.out, Kept.refl _ _⟩
          case round =>
            clear HR5
            obtain ⟨j, hj, rfl, hri, hki⟩ := hrel
            have HRI := Lib.hid hri
            have HKI := Lib.hid hki
            by_cases hlj : j < k
            · have hjl : j < (Nt.arrRow ns s t).length := by rw [HAL.out]; exact hlj
              have hck := (hki.cell (p := ⟨g5, j, none⟩) hg5 (by simp; exact HNE5.out)).trans (HC5.out j hlj)
              have HML : Hid ((mixI (Nt.arrRow ns s (t + 1)) (Nt.arrRow ns s t) j).length = k) := Lib.hid (by rw [mixI_length HLEN.out, HAL.out])
              obtain ⟨hcell, hfr⟩ := hri.at j (by rw [HML.out]; exact hlj)
              rw [mixI_get HLEN.out hjl] at hcell
              have HSET := Lib.hid (mixI_set HLEN.out hjl)
              have HKEEP := Lib.hid (mixI_keep HLEN.out hjl)
              have HG0 := Lib.hid (HAG.out t j hlj)
              have HG1 := Lib.hid ((HAG.out (t + 1) j hlj).trans (HAN.out t j))
              have HONE := Lib.hid (HON.out (t + 1) j hlj)
              have HNEW := Lib.hid (fun h => (HAO.out t j h))
              clear hri hki hjl
              generalize (Nt.arrRow ns s (t + 1)).getD j 0 = y at *
              generalize (Nt.arrRow ns s t).getD j 0 = y0 at *
              generalize (Nt.run ns c (Nt.lit ns.length s) (t + 1)).getD j 0 = x at *
              by_cases h1 : x = 1
              · have hd := HONE.out.1 h1
                subst h1
                have hy0 : y0 = -1 := HG0.out.trans (HNEW.out hd)
                subst hy0
                have HY : Hid (y = (t : Int) + 1) := Lib.hid (by rw [HG1.out, if_pos hd]; omega)
                clear hd
                go_wp2
                go_roundw
                case rel => exact ⟨j + 1, by omega, by go_num, by rw [← HSET.out, HY.out]; exact HRI.out.set HML.out.symm j _, HKI.out.setCell (.inl (by simp)) _⟩
                case measure => simp [intOf]; omega
              · have h1' : ((x : Int) == 1) = false := by simp; omega
                have HY : Hid (y = y0) := Lib.hid (by rw [HG1.out, if_neg (fun h => h1 (HONE.out.2 h)), HG0.out])
                clear h1
                go_wp2
                go_roundw
                case rel => exact ⟨j + 1, by omega, by go_num, by rw [← HKEEP.out HY.out]; exact HRI.out, HKI.out⟩
                case measure => simp [intOf]; omega
            · have hj' : j = k := by omega
              subst hj'
              clear hri hki
              go_wp2_with fail
              go_roundw
              case rel =>
                refine ⟨t + 1, by omega, by go_num, ?_, ?_, ?_, HK5.out.trans HKI.out (fun x hx => by right; simp at hx; have := HGO1.out; omega), HKG5.out.trans HKI.out (fun x hx => .inl hx)⟩
                · exact (HN5.out.kept HKI.out (fun g hg hm => by simp [Value.ownBlock] at hg hm; have := HNE5.out; omega)).mono (Nat.zero_le _)
                · intro g hg e
                  simp [Value.ownBlock] at hg
                  have := HNE5.out
                  omega
                · have h := HRI.out
                  rw [show j = (Nt.arrRow ns s t).length by rw [HAL.out], mixI_end HLEN.out] at h
                  rw [show j = (Nt.arrRow ns s t).length by rw [HAL.out]]
                  exact h
              case measure => simp [intOf]; omega
        · have ht' : t = k := by omega
          subst ht'
          have hle : ¬ (t : Int) + 1 ≤ (t : Int) := by omega
          go_wp2_with fail
          go_ret
          exact ⟨_, rfl, by rw [← HEND.out t (by rw [← HN.out]; omega)]; exact HROW.out, HKT.out⟩
end Go.Proofs.Ytebbfdpaplkmdaa

namespace Go.Proofs.Ytebbfdpaplkmdaa
open Go.RowKit

/-- Where a kind, a set or the net is none. -/
theorem waveB_cases {xs : List Int} {kinds set : Int} (h : Nt.waveB xs kinds set = false) (h1 : Nt.okB xs = true) (h2 : 3 ≤ kinds ∧ kinds ≤ 5) : ¬ (0 ≤ set ∧ set < 2 ^ xs.length) := fun h3 => by
  rw [Nt.waveB_all h1 h2 h3] at h
  cases h

/-- '1<<n - 1', as it is reckoned. -/
theorem all_set (n : Nat) (h6 : n ≤ 6) : wrap64 (wrap64 (2 ^ n) - 1) = 2 ^ n - 1 := by
  have h := wrap_pow n (by omega) (by omega)
  rw [Int.toNat_natCast] at h
  have h2 := wrap_pow_pred n (by omega)
  rw [IntWalk.i64_left] at h2
  rw [h]
  exact h2

set_option maxHeartbeats 1000000 in
theorem sArrNo_any (xs : List Int) (kinds set : Int) (hno : Nt.waveB xs kinds set = false) (w : World) (v : Value) (base : Nat) (hs : Sl w base v xs) :
    Calls Try.prog 12 #[v, .int .i64 kinds, .int .i64 set] w fun e w' => ∃ u, e = .returned u ∧ Sl w' w.heap.size u [] ∧ Kept [] w w' := by
  obtain ⟨a, cap, rfl, _, hm, _⟩ := hs.any
  have hk1 : Kept [] w (w.alloc (.cells #[] 3)) := (Kept.refl _ _).alloc _
  have HS1 := Lib.hid (hs.stay hk1)
  have HO1 := Lib.hid (Sl.empty3 w)
  have HK1 := Lib.hid hk1
  clear hs hk1
  go_enter Try.func12, Try.ntmps12
  go_wp2_with fail
  refine (sNetOk_any xs _ _ base HS1.out).mono ?_
  rintro e w2 ⟨rfl, hq⟩
  have HO2 := Lib.hid (hq.sl HO1.out)
  have HK2 := Lib.hid (HK1.out.trans hq.kept (by simp))
  clear hq HS1 HO1 HK1
  cases h1 : Nt.okB xs
  · go_wp2_with fail
    go_ret
    exact ⟨_, rfl, HO2.out, HK2.out⟩
  · have h6 : xs.length ≤ 6 := by obtain ⟨ns, rfl, ok⟩ := Nt.okB_ok h1; rw [Nt.nats_length]; exact ok.few
    by_cases h2 : 3 ≤ kinds ∧ kinds ≤ 5
    · have d2 : decide (3 ≤ kinds ∧ kinds ≤ 5) = true := dec_of h2
      have h3 := waveB_cases hno h1 h2
      have d3 : decide (0 ≤ set ∧ set ≤ 2 ^ xs.length - 1) = false := dec_not (by omega)
      have EP := Lib.hid (all_set xs.length h6)
      clear h2 h3
      go_wp2_with fail
      refine (l1In_any _ _ _ _).mono ?_
      rintro e w' ⟨rfl, rfl⟩
      rw [d2]
      go_wp2_with fail
      rw [EP.out]
      refine (l1In_any _ _ _ _).mono ?_
      rintro e w' ⟨rfl, rfl⟩
      rw [d3]
      go_wp2_with fail
      go_ret
      exact ⟨_, rfl, HO2.out, HK2.out⟩
    · have d2 : decide (3 ≤ kinds ∧ kinds ≤ 5) = false := dec_not h2
      clear h2
      go_wp2_with fail
      refine (l1In_any _ _ _ _).mono ?_
      rintro e w' ⟨rfl, rfl⟩
      rw [d2]
      go_wp2_with fail
      go_ret
      exact ⟨_, rfl, HO2.out, HK2.out⟩

theorem sArr_any (xs : List Int) (kinds set : Int) (w : World) (v : Value) (base : Nat) (hs : Sl w base v xs) :
    Calls Try.prog 12 #[v, .int .i64 kinds, .int .i64 set] w fun e w' => ∃ u, e = .returned u ∧ Sl w' w.heap.size u (Nt.arrOf xs kinds set) ∧ Kept [] w w' := by
  cases h : Nt.waveB xs kinds set
  · rw [Nt.arrOf_no h]
    exact sArrNo_any xs kinds set h w v base hs
  · obtain ⟨ns, c, s, rfl, rfl, rfl, ok, h3, h5, hs2⟩ := Nt.waveB_ok h
    rw [Nt.arrOf_ok ok h3 h5 hs2]
    exact sArrOk_any ns c s ok h3 h5 hs2 w v base hs

set_option maxHeartbeats 1000000 in
theorem sWaveEndOk_any (ns : List Nat) (c s : Nat) (ok : Nt.Ok ns) (h3 : 3 ≤ c) (h5 : c ≤ 5) (hs2 : s < 2 ^ ns.length) (w : World) (v : Value) (base : Nat) (hs : Sl w base v (Nt.nats ns)) :
    Calls Try.prog 19 #[v, .int .i64 (c : Int), .int .i64 (s : Int)] w fun e w' => e = .returned (.int .i64 (Nt.waveEndOf (Nt.nats ns) (c : Int) (s : Int))) ∧ Kept [] w w' := by
  obtain ⟨n, hn⟩ : ∃ n, n = ns.length := ⟨_, rfl⟩
  have hp := ok.some
  have h6 := ok.few
  have hst : Nt.St c (Nt.lit ns.length s) := lit_stc h3 h5 hp h6
  obtain ⟨m, l, hloop, hb⟩ := Nt.run_loop ns hst
  obtain ⟨hl1, hm⟩ := Nt.wave_loop ok h3 hs2 hloop
  have HLI : Hid (Nt.LoopIs (Nt.nats ns) (c : Int) (Nt.nats (Nt.lit ns.length s)) (m : Int) (l : Int)) := Lib.hid (.inl ⟨ns, c, _, m, l, rfl, rfl, rfl, ok, hst, by rw [Nt.lit_length], hloop, hb, rfl, rfl⟩)
  have HV : Hid (Nt.endsOf (m : Int) (l : Int) = Nt.waveEndOf (Nt.nats ns) (c : Int) (s : Int)) := Lib.hid (by
    unfold Nt.endsOf
    rw [if_pos (by omega), hm]
    by_cases h0 : s = 0
    · subst h0
      rw [if_pos rfl]
      exact (Nt.waveEndOf_zero ok h3 h5).symm
    · rw [if_neg h0, Nt.waveEndOf_ok ok h3 h5 hs2 h0])
  have HOKB := Lib.hid (Nt.ok_okB ok)
  have HLO := Lib.hid (Nt.litOf_ok hp h6 hs2)
  have EP := Lib.hid (all_set n (by omega))
  have d3 : decide ((3 : Int) ≤ (c : Int) ∧ (c : Int) ≤ 5) = true := dec_of (by omega)
  have ds : decide ((0 : Int) ≤ (s : Int) ∧ (s : Int) ≤ 2 ^ n - 1) = true := dec_of (by
    rw [← hn] at hs2
    have e : ((2 ^ n : Nat) : Int) = (2 : Int) ^ n := Int.natCast_pow 2 n
    omega)
  have HD := Lib.hid ds
  have HN := Lib.hid hn
  rw [← hn] at hp h6 HLO
  obtain ⟨g, cap, rfl, hg, _⟩ := hs.row hn.symm hp
  have HS1 := Lib.hid hs
  clear hs ok hs2 ds hn hst hloop hb hl1 hm
  go_enter Try.func19, Try.ntmps19
  go_wp2_with fail
  refine (sNetOk_any (Nt.nats ns) _ _ base HS1.out).mono ?_
  rintro e w2 ⟨rfl, hq⟩
  rw [HOKB.out]
  have HS2 := Lib.hid (hq.sl HS1.out)
  have HK2 := Lib.hid hq.kept
  clear hq HS1
  go_wp2_with fail
  refine (l1In_any _ _ _ _).mono ?_
  rintro e w' ⟨rfl, rfl⟩
  rw [d3]
  clear d3
  go_wp2_with fail
  rw [EP.out]
  refine (l1In_any _ _ _ _).mono ?_
  rintro e w' ⟨rfl, rfl⟩
  rw [HD.out]
  go_wp2_with fail
  refine (sLit_any _ _ _).mono ?_
  rintro e w3 ⟨u3, rfl, hs3, hk3⟩
  rw [HLO.out, HN.out] at hs3
  have HT3 := Lib.hid hs3
  have HS3 := Lib.hid (HS2.out.stay hk3)
  have HK3 := Lib.hid (HK2.out.trans hk3 (by simp))
  clear hs3 hk3 HS2 HK2
  go_wp2_with fail
  refine (sEnds_any _ _ _ HLI.out _ _ _ _ _ HS3.out HT3.out).mono ?_
  rintro e w4 ⟨rfl, hk4⟩
  rw [HV.out]
  have HK4 := Lib.hid (HK3.out.trans hk4 (by simp))
  clear hk4
  go_wp2_with fail
  go_ret
  exact ⟨rfl, HK4.out⟩

set_option maxHeartbeats 1000000 in
theorem sWaveEndNo_any (xs : List Int) (kinds set : Int) (hno : Nt.waveB xs kinds set = false) (w : World) (v : Value) (base : Nat) (hs : Sl w base v xs) :
    Calls Try.prog 19 #[v, .int .i64 kinds, .int .i64 set] w fun e w' => e = .returned (.int .i64 (-1)) ∧ Kept [] w w' := by
  obtain ⟨a, cap, rfl, _, hm, _⟩ := hs.any
  have HS1 := Lib.hid hs
  clear hs
  go_enter Try.func19, Try.ntmps19
  go_wp2_with fail
  refine (sNetOk_any xs _ _ base HS1.out).mono ?_
  rintro e w2 ⟨rfl, hq⟩
  have HK2 := Lib.hid hq.kept
  clear hq HS1
  cases h1 : Nt.okB xs
  · go_wp2_with fail
    go_ret
    exact ⟨rfl, HK2.out⟩
  · have h6 : xs.length ≤ 6 := by obtain ⟨ns, rfl, ok⟩ := Nt.okB_ok h1; rw [Nt.nats_length]; exact ok.few
    by_cases h2 : 3 ≤ kinds ∧ kinds ≤ 5
    · have d2 : decide (3 ≤ kinds ∧ kinds ≤ 5) = true := dec_of h2
      have h3 := waveB_cases hno h1 h2
      have d3 : decide (0 ≤ set ∧ set ≤ 2 ^ xs.length - 1) = false := dec_not (by omega)
      have EP := Lib.hid (all_set xs.length h6)
      clear h2 h3
      go_wp2_with fail
      refine (l1In_any _ _ _ _).mono ?_
      rintro e w' ⟨rfl, rfl⟩
      rw [d2]
      go_wp2_with fail
      rw [EP.out]
      refine (l1In_any _ _ _ _).mono ?_
      rintro e w' ⟨rfl, rfl⟩
      rw [d3]
      go_wp2_with fail
      go_ret
      exact ⟨rfl, HK2.out⟩
    · have d2 : decide (3 ≤ kinds ∧ kinds ≤ 5) = false := dec_not h2
      clear h2
      go_wp2_with fail
      refine (l1In_any _ _ _ _).mono ?_
      rintro e w' ⟨rfl, rfl⟩
      rw [d2]
      go_wp2_with fail
      go_ret
      exact ⟨rfl, HK2.out⟩

theorem sWaveEnd_any (xs : List Int) (kinds set : Int) (w : World) (v : Value) (base : Nat) (hs : Sl w base v xs) :
    Calls Try.prog 19 #[v, .int .i64 kinds, .int .i64 set] w fun e w' => e = .returned (.int .i64 (Nt.waveEndOf xs kinds set)) ∧ Kept [] w w' := by
  cases h : Nt.waveB xs kinds set
  · rw [Nt.waveEndOf_no h]
    exact sWaveEndNo_any xs kinds set h w v base hs
  · obtain ⟨ns, c, s, rfl, rfl, rfl, ok, h3, h5, hs2⟩ := Nt.waveB_ok h
    exact sWaveEndOk_any ns c s ok h3 h5 hs2 w v base hs

/-- The first nodes are near enough. -/
def coverTo (net : List Nat) (set steps k : Nat) : Prop := ∀ j, j < k → 0 ≤ Nt.dist net set 64 j ∧ Nt.dist net set 64 j ≤ (steps : Int)
theorem coverTo_succ {net : List Nat} {set steps k : Nat} (h : coverTo net set steps k) (h1 : 0 ≤ Nt.dist net set 64 k ∧ Nt.dist net set 64 k ≤ (steps : Int)) : coverTo net set steps (k + 1) := by
  intro j hj
  by_cases e : j = k
  · subst e; exact h1
  · exact h j (by omega)
theorem covers_no {net : List Nat} {set steps k : Nat} (hk : k < net.length) (h : ¬ (0 ≤ Nt.dist net set 64 k ∧ Nt.dist net set 64 k ≤ (steps : Int))) : Nt.covers net set steps = false := by
  cases e : Nt.covers net set steps
  · rfl
  · exact absurd (Nt.covers_iff.1 e k hk) h

set_option maxHeartbeats 1000000 in
theorem l4Covers_any (ns : List Nat) (s t : Nat) (ok : Nt.Ok ns) (hs2 : s < 2 ^ ns.length) (w : World) (v : Value) (base : Nat) (hs : Sl w base v (Nt.nats ns)) :
    Calls Try.prog 52 #[v, .int .i64 (s : Int), .int .i64 (t : Int)] w fun e w' => e = .returned (.bool (Nt.covers ns s t)) ∧ Kept [] w w' := by
  obtain ⟨n, hn⟩ : ∃ n, n = ns.length := ⟨_, rfl⟩
  have hp := ok.some
  have h6 := ok.few
  have HN := Lib.hid hn
  have HOK := Lib.hid ok
  have HSS := Lib.hid hs2
  have HS := Lib.hid hs
  rw [← hn] at hp h6
  obtain ⟨g, cap, rfl, hg, _⟩ := hs.row hn.symm hp
  clear hs ok hs2 hn
  go_enter Try.func52, Try.ntmps52
  go_wp2_with fail
  refine (l1Far_any ns HOK.out s HSS.out _ _ _ HS.out).mono ?_
  rintro e w1 ⟨u1, rfl, hs1, hk1⟩
  obtain ⟨g1, cap1, rfl, _, _⟩ := hs1.shape (n := n) (by rw [Nt.far_length]; exact HN.out.symm) hp
  have HC := Lib.hid (fun j (hj : j < n) => ((hs1.at j (by rw [Nt.far_length, ← HN.out]; exact hj)).1).trans (by rw [Nt.far_get _ _ (by rw [← HN.out]; exact hj)]))
  have HK := Lib.hid hk1
  clear hs1 hk1
  go_wp2_with fail
  go_loop [8] (fun i => ∃ k : Nat, k ≤ n ∧ i = .int .i64 k ∧ coverTo ns s t k) (fun i => n - (intOf i).toNat)
  case atStart => exact ⟨0, Nat.zero_le _, rfl, fun j hj => absurd hj (by omega)⟩
  case round =>
    obtain ⟨k, hk, rfl, hto⟩ := hrel
    have HT := Lib.hid hto
    clear hto
    by_cases hlt : k < n
    · have hcell := HC.out k hlt
      have HNO := Lib.hid (fun h => covers_no (set := s) (steps := t) (k := k) (net := ns) (by rw [← HN.out]; exact hlt) h)
      have HYES := Lib.hid (fun h => coverTo_succ HT.out h)
      generalize Nt.dist ns s 64 k = d at *
      by_cases h1 : d < 0
      · go_wp2
        go_ret
        exact ⟨by rw [HNO.out (by omega)]; rfl, HK.out⟩
      · by_cases h2 : (t : Int) < d
        · go_wp2
          go_ret
          exact ⟨by rw [HNO.out (by omega)]; rfl, HK.out⟩
        · go_wp2
          go_round
          case rel => exact ⟨k + 1, by omega, by go_num, HYES.out (by omega)⟩
          case measure => simp [intOf]; omega
    · have hk' : k = n := by omega
      subst hk'
      go_wp2
      go_ret
      exact ⟨by rw [Nt.covers_iff.2 (fun j hj => HT.out j (by rw [HN.out]; exact hj))]; rfl, HK.out⟩

/-- A set, halved so often. -/
theorem half_bit (s k : Nat) : s / 2 ^ k % 2 = if s.testBit k = true then 1 else 0 := by
  have := Nat.testBit_eq_decide_div_mod_eq (x := s) (i := k)
  rw [this]
  by_cases h : s / 2 ^ k % 2 = 1
  · simp [h]
  · simp [h]; omega
theorem popTo_half (s k : Nat) : Nt.popTo s (k + 1) = Nt.popTo s k + s / 2 ^ k % 2 := by
  rw [half_bit, Nt.popTo]
theorem half_half (s k : Nat) : s / 2 ^ k / 2 = s / 2 ^ (k + 1) := by rw [Nat.div_div_eq_div_mul, ← Nat.pow_succ]

set_option maxHeartbeats 1000000 in
theorem l4Size_any (s n : Nat) (h6 : n ≤ 6) (hs : s < 2 ^ n) (w : World) :
    Calls Try.prog 53 #[.int .i64 (s : Int)] w fun e w' => e = .returned (.int .i64 ((Nt.popTo s n : Nat) : Int)) ∧ w = w' := by
  have h64 := Nt.pow_le h6
  have HS := Lib.hid hs
  have HEND : Hid (∀ k, s / 2 ^ k = 0 → k ≤ 7 → Nt.popTo s k = Nt.popTo s n) := Lib.hid (fun k h0 _ => by
    have hlt : s < 2 ^ k := by
      apply Classical.byContradiction
      intro h
      have := Nat.div_pos (Nat.le_of_not_lt h) (Nat.two_pow_pos k)
      omega
    rcases Nat.le_total k n with h | h
    · exact (Nt.popTo_more hlt n h).symm
    · exact Nt.popTo_more hs k h)
  have HP := Lib.hid (popTo_half s)
  have HH := Lib.hid (half_half s)
  have HL : Hid (∀ k, s / 2 ^ k ≠ 0 → k ≤ 6) := Lib.hid (fun k h0 => by
    apply Classical.byContradiction
    intro h
    exact h0 (Nat.div_eq_of_lt (Nat.lt_of_lt_of_le hs (Nat.pow_le_pow_right (by omega) (by omega)))))
  have HQ : Hid (∀ k, s / 2 ^ k ≤ 64) := Lib.hid (fun k => by have := Nat.div_le_self s (2 ^ k); omega)
  have HPL : Hid (∀ k, k ≤ 7 → Nt.popTo s k ≤ 7) := Lib.hid (fun k hk => by have := Nt.popTo_le s k; omega)
  clear hs h64
  go_enter Try.func53, Try.ntmps53
  go_wp2
  go_loop [0, 3] (fun q m => ∃ k : Nat, k ≤ 7 ∧ q = .int .i64 ((s / 2 ^ k : Nat) : Int) ∧ m = .int .i64 ((Nt.popTo s k : Nat) : Int)) (fun q _ => (intOf q).toNat)
  case atStart => exact ⟨0, by omega, by simp, rfl⟩
  case round =>
    obtain ⟨k, hk, rfl, rfl⟩ := hrel
    have hq := HQ.out k
    have hpl := HPL.out k hk
    have HP1 := Lib.hid (HP.out k)
    have HH1 := Lib.hid (HH.out k)
    have HE1 := Lib.hid (HEND.out k)
    have HL1 := Lib.hid (HL.out k)
    generalize s / 2 ^ k = q at *
    generalize Nt.popTo s k = p at *
    by_cases h0 : 0 < q
    · have hk6 := HL1.out (by omega)
      have f1 : (q : Int).tmod 2 = ((q % 2 : Nat) : Int) := tmod_nat q 2
      have f2 : (q : Int).tdiv 2 = ((q / 2 : Nat) : Int) := tdiv_nat q 2
      have hr : q % 2 < 2 := Nat.mod_lt _ (by omega)
      have hd : q / 2 < q := Nat.div_lt_self h0 (by omega)
      generalize q % 2 = r at *
      generalize q / 2 = d at *
      go_wp2
      go_round
      case rel => exact ⟨k + 1, by omega, by rw [← HH1.out], by rw [HP1.out]; go_num⟩
      case measure => simp [intOf]; omega
    · have hq0 : q = 0 := by omega
      subst hq0
      go_wp2
      go_ret
      exact ⟨by rw [← HE1.out (by first | trivial | rfl) hk]; rfl, rfl⟩

set_option maxHeartbeats 2000000 in
theorem sFewestOk_any (ns : List Nat) (t : Nat) (ok : Nt.Ok ns) (w : World) (v : Value) (base : Nat) (hs : Sl w base v (Nt.nats ns)) :
    Calls Try.prog 22 #[v, .int .i64 (t : Int)] w fun e w' => e = .returned (.int .i64 ((Nt.bestTo ns t (2 ^ ns.length) : Nat) : Int)) ∧ Kept [] w w' := by
  obtain ⟨n, hn⟩ : ∃ n, n = ns.length := ⟨_, rfl⟩
  have hp := ok.some
  have h6 := ok.few
  have HN := Lib.hid hn
  have HOK := Lib.hid ok
  have HOKB := Lib.hid (Nt.ok_okB ok)
  have HONE := Lib.hid (Nt.bestTo_one hp t)
  have HBL := Lib.hid (fun s => (Nt.bestTo_spec ns t s).2.2)
  have HPL := Lib.hid (fun s => Nt.popTo_le s ns.length)
  have HS := Lib.hid hs
  have EP : Hid (wrap64 (2 ^ n) = ((2 ^ n : Nat) : Int)) := Lib.hid (by
    have h := wrap_pow n (by omega) (by omega)
    rw [Int.toNat_natCast] at h
    rw [h]; exact (Int.natCast_pow 2 n).symm)
  have h64 : 2 ^ n ≤ 64 := Nt.pow_le (by omega)
  have h2n : 2 ≤ 2 ^ n := Nat.pow_le_pow_right (n := 2) (i := 1) (by omega) (by omega)
  rw [← hn] at hp h6
  obtain ⟨g, cap, rfl, hg, _⟩ := hs.row hn.symm hp
  clear hs ok hn
  go_enter Try.func22, Try.ntmps22
  go_wp2_with fail
  refine (sNetOk_any (Nt.nats ns) _ _ base HS.out).mono ?_
  rintro e w1 ⟨rfl, hq⟩
  rw [HOKB.out]
  have HS1 := Lib.hid (hq.sl HS.out)
  have HK1 := Lib.hid hq.kept
  clear hq HS
  go_wp2_with fail
  go_loopw [5, 6] (fun b i wr => ∃ s : Nat, 1 ≤ s ∧ s ≤ 2 ^ n ∧ i = .int .i64 s ∧ b = .int .i64 ((Nt.bestTo ns t s : Nat) : Int) ∧ Kept [] w1 wr) (fun _ i _ => 2 ^ n - (intOf i).toNat)
  case atStart => exact ⟨1, Nat.le_refl _, by omega, rfl, by rw [HONE.out, ← HN.out], Kept.refl _ _⟩
  case round =>
    obtain ⟨s, hs1, hs2, rfl, rfl, hkept⟩ := hrel
    have HK := Lib.hid hkept
    have HSR := Lib.hid (HS1.out.stay hkept)
    have hbl := HBL.out s
    have hpl := HPL.out s
    have ep := EP.out
    have HNX : Hid (Nt.bestTo ns t (s + 1) = if Nt.covers ns s t = true then min (Nt.bestTo ns t s) (Nt.popTo s ns.length) else Nt.bestTo ns t s) := Lib.hid rfl
    rw [← HN.out] at hbl hpl HNX
    clear hkept
    by_cases hlt : s < 2 ^ n
    · have HSL : Hid (s < 2 ^ ns.length) := Lib.hid (by rw [← HN.out]; exact hlt)
      generalize 2 ^ n = top at *
      go_wp2_with fail
      refine (l4Covers_any ns s t HOK.out HSL.out _ _ _ HSR.out).mono ?_
      rintro e w2 ⟨rfl, hk2⟩
      have HK2 := Lib.hid (HK.out.trans hk2 (by simp))
      clear hk2
      cases hc : Nt.covers ns s t
      · have HY : Hid (Nt.bestTo ns t (s + 1) = Nt.bestTo ns t s) := Lib.hid (by rw [HNX.out, hc]; rfl)
        clear hc
        go_wp2_with fail
        go_roundw
        case rel => exact ⟨s + 1, by omega, by omega, by go_num, by rw [HY.out], HK2.out⟩
        case measure => simp [intOf]; omega
      · have HY : Hid (Nt.bestTo ns t (s + 1) = min (Nt.bestTo ns t s) (Nt.popTo s n)) := Lib.hid (by rw [HNX.out, hc, if_pos rfl])
        clear hc
        go_wp2_with fail
        refine (l4Size_any s n h6 (by rw [HN.out]; exact HSL.out) _).mono ?_
        rintro e w' ⟨rfl, rfl⟩
        generalize Nt.bestTo ns t s = x at *
        generalize Nt.popTo s n = y at *
        by_cases hxy : x ≤ y
        · have HM : Hid (min x y = x) := Lib.hid (Nat.min_eq_left hxy)
          have hmm : min (x : Int) (y : Int) = (x : Int) := by omega
          go_wp2_with fail
          go_roundw
          case rel => exact ⟨s + 1, by omega, by omega, by go_num, by rw [HY.out, HM.out], HK2.out⟩
          case measure => simp [intOf]; omega
        · have HM : Hid (min x y = y) := Lib.hid (Nat.min_eq_right (by omega))
          have hmm : min (x : Int) (y : Int) = (y : Int) := by omega
          go_wp2_with fail
          go_roundw
          case rel => exact ⟨s + 1, by omega, by omega, by go_num, by rw [HY.out, HM.out], HK2.out⟩
          case measure => simp [intOf]; omega
    · have hs' : s = 2 ^ n := by omega
      have HE : Hid (Nt.bestTo ns t s = Nt.bestTo ns t (2 ^ ns.length)) := Lib.hid (by rw [← HN.out, hs'])
      clear hs' HNX
      generalize 2 ^ n = top at *
      go_wp2_with fail
      go_ret
      exact ⟨by rw [← HE.out]; rfl, HK1.out.trans HK.out (by simp)⟩

set_option maxHeartbeats 1000000 in
theorem sFewestNo_any (xs : List Int) (steps : Int) (hno : ¬ (Nt.okB xs = true ∧ 0 ≤ steps)) (w : World) (v : Value) (base : Nat) (hs : Sl w base v xs) :
    Calls Try.prog 22 #[v, .int .i64 steps] w fun e w' => e = .returned (.int .i64 (-1)) ∧ Kept [] w w' := by
  obtain ⟨a, cap, rfl, _, hm, _⟩ := hs.any
  have HS1 := Lib.hid hs
  clear hs
  go_enter Try.func22, Try.ntmps22
  go_wp2_with fail
  refine (sNetOk_any xs _ _ base HS1.out).mono ?_
  rintro e w2 ⟨rfl, hq⟩
  have HK2 := Lib.hid hq.kept
  clear hq HS1
  cases h1 : Nt.okB xs
  · clear hno
    go_wp2_with fail
    go_ret
    exact ⟨rfl, HK2.out⟩
  · have h2 : steps < 0 := by
      apply Classical.byContradiction
      intro h
      exact hno ⟨h1, by omega⟩
    clear hno
    go_wp2_with fail
    go_ret
    exact ⟨rfl, HK2.out⟩

theorem sFewest_any {a b : Int} (xs : List Int) (steps : Int) (hL : Nt.LightsIs xs steps a b) (w : World) (v : Value) (base : Nat) (hs : Sl w base v xs) :
    Calls Try.prog 22 #[v, .int .i64 steps] w fun e w' => e = .returned (.int .i64 b) ∧ Kept [] w w' := by
  rcases hL with ⟨ns, t, s, n, rfl, rfl, ok, hl, rfl, rfl⟩ | ⟨hno, rfl, rfl⟩
  · have e := (Nt.bestTo_fewest ns t).same hl.few
    exact (sFewestOk_any ns t ok w v base hs).mono fun _ _ h => ⟨by rw [h.1, e], h.2⟩
  · exact sFewestNo_any xs steps hno w v base hs

set_option maxHeartbeats 2000000 in
theorem sLightsOk_any (ns : List Nat) (t a b : Nat) (ok : Nt.Ok ns) (hl : Nt.Lights ns t a b) (w : World) (v : Value) (base : Nat) (hs : Sl w base v (Nt.nats ns)) :
    Calls Try.prog 26 #[v, .int .i64 (t : Int)] w fun e w' => e = .returned (.int .i64 (a : Int)) ∧ Kept [] w w' := by
  obtain ⟨n, hn⟩ : ∃ n, n = ns.length := ⟨_, rfl⟩
  have hp := ok.some
  have h6 := ok.few
  have HN := Lib.hid hn
  have HOK := Lib.hid ok
  have HLI : Hid (Nt.LightsIs (Nt.nats ns) (t : Int) (a : Int) (b : Int)) := Lib.hid (.inl ⟨ns, t, a, b, rfl, rfl, ok, hl, rfl, rfl⟩)
  have ha1 : 1 ≤ a := hl.pos hp
  have HLT := Lib.hid hl.lt
  have HCOV := Lib.hid hl.cov
  have HPOP := Lib.hid hl.pop
  have HLEA := Lib.hid hl.least
  have HS := Lib.hid hs
  have EP : Hid (wrap64 (2 ^ n) = ((2 ^ n : Nat) : Int)) := Lib.hid (by
    have h := wrap_pow n (by omega) (by omega)
    rw [Int.toNat_natCast] at h
    rw [h]; exact (Int.natCast_pow 2 n).symm)
  have h64 : 2 ^ n ≤ 64 := Nt.pow_le (by omega)
  have hlt : a < 2 ^ n := by rw [hn]; exact hl.lt
  rw [← hn] at hp h6
  obtain ⟨g, cap, rfl, hg, _⟩ := hs.row hn.symm hp
  clear hs ok hn hl
  go_enter Try.func26, Try.ntmps26
  go_wp2_with fail
  refine (sFewest_any _ _ HLI.out _ _ _ HS.out).mono ?_
  rintro e w1 ⟨rfl, hk1⟩
  have HS1 := Lib.hid (HS.out.stay hk1)
  have HK1 := Lib.hid hk1
  clear hk1 HS
  go_wp2_with fail
  go_loopw [6] (fun i wr => ∃ s : Nat, 1 ≤ s ∧ s ≤ a ∧ i = .int .i64 s ∧ Kept [] w1 wr) (fun i _ => a + 1 - (intOf i).toNat)
  case atStart => exact ⟨1, Nat.le_refl _, ha1, rfl, Kept.refl _ _⟩
  case round =>
    obtain ⟨s, hs1, hs2, rfl, hkept⟩ := hrel
    have HK := Lib.hid hkept
    have HSR := Lib.hid (HS1.out.stay hkept)
    have ep := EP.out
    have hst : s < 2 ^ n := by omega
    have HSL : Hid (s < 2 ^ ns.length) := Lib.hid (by rw [← HN.out]; exact hst)
    have hb0 : (0 : Int) ≤ (b : Int) := by omega
    clear hkept
    generalize 2 ^ n = top at *
    go_wp2_with fail
    refine (l4Size_any s n h6 (by rw [HN.out]; exact HSL.out) _).mono ?_
    rintro e w' ⟨rfl, rfl⟩
    by_cases hpb : Nt.popTo s n = b
    · rw [hpb]
      have d1 : ((b : Int) == (b : Int)) = true := by simp
      go_wp2_with fail
      refine (l4Covers_any ns s t HOK.out HSL.out _ _ _ HSR.out).mono ?_
      rintro e w2 ⟨rfl, hk2⟩
      have HK2 := Lib.hid (HK.out.trans hk2 (by simp))
      clear hk2
      by_cases hsa : s = a
      · subst hsa
        rw [HCOV.out]
        go_wp2_with fail
        go_ret
        exact ⟨rfl, HK1.out.trans HK2.out (by simp)⟩
      · have hcf : Nt.covers ns s t = false := by
          cases e : Nt.covers ns s t
          · rfl
          · exact absurd ⟨e, by rw [← HN.out]; exact hpb⟩ (HLEA.out s (by omega))
        rw [hcf]
        clear hcf hpb
        go_wp2_with fail
        go_roundw
        case rel => exact ⟨s + 1, by omega, by omega, by go_num, HK2.out⟩
        case measure => simp [intOf]; omega
    · have hsa : ¬ s = a := fun e => hpb (by rw [e, HN.out]; exact HPOP.out)
      have d1 : (((Nt.popTo s n : Nat) : Int) == (b : Int)) = false := by simp; omega
      generalize Nt.popTo s n = p at *
      clear hpb
      go_wp2_with fail
      go_roundw
      case rel => exact ⟨s + 1, by omega, by omega, by go_num, HK.out⟩
      case measure => simp [intOf]; omega

set_option maxHeartbeats 1000000 in
theorem sLights_any {a b : Int} (xs : List Int) (steps : Int) (hL : Nt.LightsIs xs steps a b) (w : World) (v : Value) (base : Nat) (hs : Sl w base v xs) :
    Calls Try.prog 26 #[v, .int .i64 steps] w fun e w' => e = .returned (.int .i64 a) ∧ Kept [] w w' := by
  rcases hL with ⟨ns, t, s, n, rfl, rfl, ok, hl, rfl, rfl⟩ | ⟨hno, rfl, rfl⟩
  · exact sLightsOk_any ns t s n ok hl w v base hs
  · have HNO := Lib.hid hno
    obtain ⟨p, cap, rfl, _, hm, _⟩ := hs.any
    have HS1 := Lib.hid hs
    clear hs hno
    go_enter Try.func26, Try.ntmps26
    go_wp2_with fail
    refine (sFewestNo_any xs steps HNO.out _ _ _ HS1.out).mono ?_
    rintro e w1 ⟨rfl, hk⟩
    have HK := Lib.hid hk
    clear hk
    go_wp2_with fail
    refine wp_loop_rounds 1 ?_
    rw [rounds_succ]
    go_wp2_with fail
    go_ret
    exact ⟨rfl, HK.out⟩
end Go.Proofs.Ytebbfdpaplkmdaa
