/-
  Walks: heights laid out wave by wave, by the program.
  Walks: rows of heights, flat states and stands, by the program.
  Walks: peaks, by the program.
-/
import Derived.Test.YtllbdhfckdljgaaH1
import Derived.Test.YtllbdhfckdljgaaXA
import Derived.Deep.RegionHeld3
import Derived.Test.YtllbdhfckdljgaaNC
namespace Go.Proofs.Ytllbdhfckdljgaa
open Go.RowKit

set_option maxHeartbeats 1000000 in
set_option maxRecDepth 100000 in
theorem leastNodes_any (ps : List Nat) (n : Nat) (hn : ps.length = n) (hp : 0 < n) (h6 : n ≤ 6) (hps : ∀ k, k < n → ps.getD k 0 < n) (w : World) (v : Value) (base : Nat) (hs : Sl w base v (Nt.nats ps)) :
    Calls Try.prog 74 #[v] w fun e w' => e = .returned (.int .i64 ((Nt.leastTo ps n : Nat) : Int)) ∧ w = w' := by
  have HSM : Hid (∀ k, k ≤ n → Nt.leastTo ps k < 64) := Lib.hid (fun k hk => Nat.lt_of_lt_of_le (Nt.leastTo_fit k fun i hi => hps i (by omega)) (Nt.pow_le h6))
  have HPS := Lib.hid hps
  obtain ⟨g, cap, rfl, hg, hc⟩ := hs.row hn hp
  have HC := Lib.hid hc
  clear hs hc hn hps
  go_enter Try.func74, Try.ntmps74
  go_wp2
  go_loop [3, 8] (fun a i => ∃ k : Nat, k ≤ n ∧ i = .int .i64 k ∧ a = .int .i64 ((Nt.leastTo ps k : Nat) : Int)) (fun _ i => n - (intOf i).toNat)
  case atStart => exact ⟨0, Nat.zero_le _, rfl, rfl⟩
  case round =>
    obtain ⟨k, hk, rfl, rfl⟩ := hrel
    by_cases hlt : k < n
    · have hcell := HC.out k hlt
      have hx := HPS.out k hlt
      have hb1 := HSM.out k hk
      have HN : Hid (Nt.leastTo ps (k + 1) = Nt.leastTo ps k ||| 2 ^ ps.getD k 0) := Lib.hid rfl
      have HE := Lib.hid (or_shl (Nt.leastTo ps k) (ps.getD k 0) hb1 (by omega))
      generalize Nt.leastTo ps k = s at *
      generalize ps.getD k 0 = x at *
      go_wp2
      go_round
      case rel => exact ⟨k + 1, by omega, by go_num, by rw [HN.out, ← HE.out]⟩
      case measure => simp [intOf]; omega
    · have hk' : k = n := by omega
      subst hk'
      go_wp2
      go_ret
      exact ⟨rfl, rfl⟩

set_option maxHeartbeats 2000000 in
set_option maxRecDepth 100000 in
theorem layBeside_any (ks : List Nat) (st : Nt.St 3 ks) (out : List Int) (n node set : Nat) (hn : ks.length = n) (ho : out.length = n) (hsm : ∀ k, k < n → -1000 < out.getD k 0 ∧ out.getD k 0 < 1000) (hnode : node < n) (hno : set.testBit node = false)
    (w : World) (v : Value) (base : Nat) (u : Value) (base' : Nat) (hs : Sl w base v out) (hu : Sl w base' u (Nt.nats ks)) (hne : ∀ g, u.ownBlock = some g → ¬ g ∈ v.ownBlock.toList) :
    Calls Try.prog 76 #[v, u, .int .i64 (node : Int), .int .i64 (set : Int)] w fun e w' => e = .returned (.tuple #[]) ∧ Sl w' base v (Nt.beside ks node set out n) ∧ Kept v.ownBlock.toList w w' := by
  have hp : 0 < n := by omega
  have h6 : n ≤ 6 := by have := st.few; omega
  obtain ⟨g, cap, rfl, _, hg⟩ := hs.shape ho hp
  obtain ⟨g2, cap2, rfl, hg2, _⟩ := hu.row hn hp
  have hne2 : ¬ g2 = g := by have := hne g2 rfl; simpa [Value.ownBlock] using this
  have HS := Lib.hid hs
  have HU := Lib.hid hu
  have HST := Lib.hid st
  have HN := Lib.hid hn
  have hd := hsm node hnode
  have HLN : Hid (∀ j, (Nt.beside ks node set out j).length = n) := Lib.hid (fun j => (Nt.beside_length ks node set out j).trans ho)
  have HND := Lib.hid (fun j => Nt.beside_node (ks := ks) (out := out) hno j)
  have HBS : Hid (∀ j, Nt.beside ks node set out (j + 1) = if set.testBit j = true then (Nt.beside ks node set out j).set j (out.getD node 0 + Nt.rise (ks.getD node 0) (ks.getD j 0)) else Nt.beside ks node set out j) := Lib.hid (fun _ => rfl)
  have HNO := Lib.hid hno
  have HNE := Lib.hid hne2
  generalize hde : out.getD node 0 = d at *
  clear hs hu st hn hsm hno hne hne2 ho hde
  go_enter Try.func76, Try.ntmps76
  go_wp2
  go_loopw [11] (fun i wr => ∃ j : Nat, j ≤ n ∧ i = .int .i64 j ∧ Sl wr base (.slice (some ⟨g, 0, none⟩) n cap) (Nt.beside ks node set out j) ∧ Kept [g] w wr) (fun i _ => n - (intOf i).toNat)
  case atStart => exact ⟨0, Nat.zero_le _, rfl, HS.out, Kept.refl _ _⟩
  case round =>
    clear HS
    obtain ⟨j, hj, rfl, hsl, hkept⟩ := hrel
    have HSL := Lib.hid hsl
    have HK := Lib.hid hkept
    by_cases hlt : j < n
    · have HNX := Lib.hid (HBS.out j)
      cases hb : set.testBit j
      · have HE : Hid (Nt.beside ks node set out (j + 1) = Nt.beside ks node set out j) := Lib.hid (by rw [HNX.out, hb]; rfl)
        clear hsl hkept
        go_wp2_with (go_at_call 45; refine (hasNode_nat set j _ (by omega)).mono ?_; rintro e w' ⟨rfl, rfl⟩; rw [hb])
        go_roundw
        case rel => exact ⟨j + 1, by omega, by go_num, by rw [HE.out]; exact HSL.out, HK.out⟩
        case measure => simp [intOf]; omega
      · have hnj : ¬ node = j := fun e => by have h := HNO.out; rw [e, hb] at h; exact absurd h (by simp)
        have hjn : ¬ j = node := fun e => hnj e.symm
        have HSO : Hid (∀ (W : World) x, (W.setCell ⟨g, j, none⟩ x).cell? ⟨g, node, none⟩ = W.cell? ⟨g, node, none⟩) := Lib.hid (fun W x => World.cell?_setCell_other _ _ _ _ (by simp))
        obtain ⟨cn, _⟩ := hsl.at node (by rw [HLN.out]; exact hnode)
        rw [HND.out] at cn
        obtain ⟨cj, fj⟩ := hsl.at j (by rw [HLN.out]; exact hlt)
        have HE : Hid (Nt.beside ks node set out (j + 1) = (Nt.beside ks node set out j).set j (d + Nt.rise (ks.getD node 0) (ks.getD j 0))) := Lib.hid (by rw [HNX.out, hb]; rfl)
        have HUW := Lib.hid (HU.out.kept hkept (by intro g' hg'; simp [Value.ownBlock] at hg'; subst hg'; simp; exact HNE.out))
        have HR := Lib.hid (fun d => rise_any ks HST.out node j (by rw [HN.out]; exact hnode) (by rw [HN.out]; exact hlt) (wr.drewN d) _ _ (((Qt.refl wr).draw d).sl HUW.out))
        have r1 := @Nt.rise_lo (ks.getD node 0) (ks.getD j 0)
        have r2 := @Nt.rise_hi (ks.getD node 0) (ks.getD j 0)
        generalize Nt.rise (ks.getD node 0) (ks.getD j 0) = r at *
        generalize (Nt.beside ks node set out j).getD j 0 = z at *
        have s2 : IntKind.i64.wrap (d + r) = d + r := IntWalk.i64_in _ (by omega)
        clear hsl hkept HNX
        go_wp2_with (go_at_call 45; refine (hasNode_nat set j _ (by omega)).mono ?_; rintro e w' ⟨rfl, rfl⟩; rw [hb])
        have HSLd : Hid (Sl wr.drew base (.slice (some ⟨g, 0, none⟩) n cap) (Nt.beside ks node set out j)) := HSL
        have HKd := Lib.hid HK.out.drew
        have cn2 : wr.drew.cell? ⟨g, node, none⟩ = some (.int .i64 d) := cn
        have cj2 : wr.drew.cell? ⟨g, j, none⟩ = some (.int .i64 z) := cj
        have fj2 : wr.drew.frozen? ⟨g, j, none⟩ = false := fj
        go_region_held3 (fun w' => w'.cell? ⟨g, node, none⟩ = some (.int .i64 d))
          (first
            | exact cn2
            | exact cn5
            | exact cn6 _
            | go_keep)
          (first
            | (go_simp; go_at_call 66; refine (HR.out 1).mono ?_; rintro e w5 ⟨rfl, hq5⟩; have cn5 := (hq5.cell ⟨g, node, none⟩).trans cn2; have cn6 : ∀ x, (w5.setCell ⟨g, j, none⟩ x).cell? ⟨g, node, none⟩ = some (.int .i64 d) := (fun x => (HSO.out w5 x).trans cn5); have cj5 := (hq5.cell ⟨g, j, none⟩).trans cj2; have fj5 := (hq5.frozen ⟨g, j, none⟩).trans fj2; have HSX := Lib.hid (hq5.sl HSLd.out); have HKX := Lib.hid (HKd.out.trans (rows' := []) hq5.kept (by simp)); clear hq5 cj2 fj2))
        all_goals (go_wp2; go_roundw)
        any_goals (simp [intOf]; omega)
        all_goals exact ⟨j + 1, by omega, by go_num, by rw [HE.out]; exact HSX.out.set (HLN.out j).symm j _, HKX.out.setCell (.inl (by simp)) _⟩
    · have hj' : j = n := by omega
      subst hj'
      clear hsl hkept
      go_wp2
      go_end0
      exact ⟨rfl, HSL.out, HK.out⟩
end Go.Proofs.Ytllbdhfckdljgaa

namespace Go.Proofs.Ytllbdhfckdljgaa
open Go.RowKit

set_option maxHeartbeats 2000000 in
set_option maxRecDepth 100000 in
theorem laidHeights_any (ns ks : List Nat) (ok : Nt.Ok ns) (st : Nt.St 3 ks) (hl : ks.length = ns.length) (w : World) (v : Value) (base : Nat) (u : Value) (base' : Nat) (hs : Sl w base v (Nt.nats ns)) (hu : Sl w base' u (Nt.nats ks)) :
    Calls Try.prog 67 #[v, u] w fun e w' => ∃ z out, e = .returned z ∧ Sl w' w.heap.size z out ∧ Nt.Full ns ks out ∧ Kept [] w w' := by
  obtain ⟨n, hn⟩ : ∃ n, n = ks.length := ⟨_, rfl⟩
  have hp := st.some
  have h6 := st.few
  have HOK := Lib.hid ok
  have HST := Lib.hid st
  have HL := Lib.hid hl
  have HN := Lib.hid hn
  have HPO := Lib.hid (Nt.partsOf_ok ok)
  have HPL : Hid ((Nt.parts ns).length = n) := Lib.hid (by rw [Nt.parts_length ok]; omega)
  have HPT : Hid (∀ k, k < n → (Nt.parts ns).getD k 0 < n) := Lib.hid (fun k hk => by have := Nt.parts_lt ok (k := k) (by omega); omega)
  have HW0 : Hid (Nt.Waves ns ks 0 (Nt.leastTo (Nt.parts ns) n) (List.replicate n 0)) := Lib.hid (by rw [hn]; exact Nt.waves_start ok hl)
  rw [← hn] at hp h6
  have HS := Lib.hid hs
  have HU := Lib.hid hu
  obtain ⟨g1, cap1, rfl, hg1, hc1⟩ := hs.row (n := n) (by omega) hp
  obtain ⟨g2, cap2, rfl, hg2, _⟩ := hu.row hn.symm hp
  have HC1 := Lib.hid hc1
  have HNF : Hid (∀ k, k < n → ns.getD k 0 < 64) := Lib.hid (fun k hk => Nat.lt_of_lt_of_le (ok.fit k (by omega)) (Nt.pow_le ok.few))
  have HNR : Hid (∀ s, Nt.near ns s < 64) := Lib.hid (fun s => Nat.lt_of_lt_of_le (Nt.near_lt ok s) (Nt.pow_le ok.few))
  clear hs hu ok st hl hc1 hn
  go_enter Try.func67, Try.ntmps67
  go_wp2_with (at_make; refine make_int _ n rfl _ _ rfl rfl rfl ?_ ?_)
  · omega
  · intro w1 hs1 hk1 _
    have HH1 := Lib.hid hs1
    have HK1 := Lib.hid hk1
    have HS1 := Lib.hid (HS.out.stay hk1)
    clear hs1 hk1
    go_wp2_with fail
    refine (iParts_any (Nt.nats ns) _ _ _ HS1.out).mono ?_
    rintro e w2 ⟨z2, rfl, hs2, hk2⟩
    rw [HPO.out] at hs2
    have HZ2 := Lib.hid hs2
    obtain ⟨g3, cap3, rfl, _, _⟩ := hs2.row HPL.out hp
    have HH2 := Lib.hid (HH1.out.stay hk2)
    have HK2 := Lib.hid (HK1.out.trans hk2 (by simp))
    clear hs2 hk2 HH1 HK1 HS1
    go_wp2_with fail
    refine (leastNodes_any (Nt.parts ns) n HPL.out hp h6 HPT.out _ _ _ HZ2.out).mono ?_
    rintro e w' ⟨rfl, rfl⟩
    go_wp2_with fail
    go_loopw [6, 7] (fun c f wr => ∃ (come wave : Nat) (out : List Int), c = .int .i64 (come : Int) ∧ f = .int .i64 (wave : Int) ∧ Nt.Waves ns ks come wave out ∧ Sl wr w.heap.size (.slice (some ⟨w.heap.size, 0, none⟩) n n) out ∧ Kept [] w wr) (fun c _ _ => 64 - (intOf c).toNat)
    case atStart => exact ⟨0, _, _, rfl, rfl, HW0.out, HH2.out, HK2.out⟩
    case round =>
      clear HH2 HK2 HW0 HZ2
      obtain ⟨come, wave, out, rfl, rfl, hw, hsl, hkept⟩ := hrel
      have HW := Lib.hid hw
      have HSL := Lib.hid hsl
      have HK := Lib.hid hkept
      obtain ⟨f1, f2, f3⟩ := hw.fit HST.out
      have eor := bits_or_nat come wave (by omega) (by omega)
      have HMORE := Lib.hid (fun h => Nt.Waves.more (come := come) (wave := wave) hw.apart h)
      have HSUB : Hid (∀ k, wave.testBit k = true → (come ||| wave).testBit k = true) := Lib.hid (fun k h => by rw [Nat.testBit_or, h, Bool.or_true])
      have HWV := Lib.hid hw.wave
      clear hw hsl hkept
      by_cases hf : wave = 0
      · subst hf
        have HD := Lib.hid (HW.out.done HOK.out HL.out)
        clear eor HWV
        go_wp2
        go_ret
        exact ⟨_, _, rfl, HSL.out, ⟨⟨_, HD.out⟩⟩, HK.out⟩
      · have hf0 : ((wave : Int) != 0) = true := by simp [hf]
        have hmore := HMORE.out hf
        clear hf HMORE
        generalize hc' : come ||| wave = c' at *
        have HC' := Lib.hid hc'
        clear hc'
        go_wp2
        clear eor hf0
        go_loopw [23] (fun i wx => ∃ (k : Nat) (out' : List Int), k ≤ n ∧ i = .int .i64 k ∧ Nt.Wave ns ks wave c' k out' ∧ Sl wx w.heap.size (.slice (some ⟨w.heap.size, 0, none⟩) n n) out' ∧ Kept [] w wx) (fun i _ => n - (intOf i).toNat)
        case atStart => exact ⟨0, _, Nat.zero_le _, rfl, HWV.out, HSL.out, HK.out⟩
        case round =>
          clear HSL HK
          obtain ⟨k, out', hk, rfl, hwv, hsl, hkept⟩ := hrel
          have HV := Lib.hid hwv
          have HSL := Lib.hid hsl
          have HK := Lib.hid hkept
          by_cases hlt : k < n
          · have hck := (hkept.cell (p := ⟨g1, k, none⟩) hg1 (by simp)).trans (HC1.out k hlt)
            have hnf := HNF.out k hlt
            have enot := bits_andNot_nat (ns.getD k 0) c' (by omega) (by omega)
            cases hb : wave.testBit k
            · have HV2 := Lib.hid (hwv.skip hb)
              clear hwv hsl hkept enot
              generalize ns.getD k 0 = r at *
              go_wp2_with (go_at_call 45; refine (hasNode_nat wave k _ (by omega)).mono ?_; rintro e w' ⟨rfl, rfl⟩; rw [hb])
              go_roundw
              case rel => exact ⟨k + 1, _, by omega, by go_num, HV2.out, HSL.out, HK.out⟩
              case measure => simp [intOf]; omega
            · have hcb := HSUB.out k hb
              have HV2 := Lib.hid (hwv.more HOK.out HL.out (by rw [← HN.out]; exact hlt) hb hcb)
              have HSM := Lib.hid (fun j (hj : j < n) => (by have := hwv.small HST.out (k := j) (by rw [← HN.out]; exact hj); omega : -1000 < out'.getD j 0 ∧ out'.getD j 0 < 1000))
              have hno : (Nt.less (ns.getD k 0) c').testBit k = false := by rw [Nt.testBit_less, hcb]; simp
              have HUX := Lib.hid (HU.out.stay hkept)
              have HLB := Lib.hid (layBeside_any ks HST.out out' n k _ HN.out.symm (by rw [hwv.len, ← HN.out]) HSM.out hlt hno wr _ _ _ _ HSL.out HUX.out (by intro g' hg'; simp [Value.ownBlock] at hg'; subst hg'; simp [Value.ownBlock]; omega))
              rw [← HN.out] at HV2
              clear hwv hsl hkept hno hcb
              generalize Nt.less (ns.getD k 0) c' = s at *
              generalize ns.getD k 0 = r at *
              go_wp2_with (first | (go_at_call 45; refine (hasNode_nat wave k _ (by omega)).mono ?_; rintro e w' ⟨rfl, rfl⟩; rw [hb]) | (go_at_call 76; refine HLB.out.mono ?_; rintro e w5 ⟨rfl, hs5, hk5⟩; have HS5 := Lib.hid hs5; have HK5 := Lib.hid (HK.out.trans hk5 (by simp [Value.ownBlock])); clear hs5 hk5))
              go_roundw
              case rel => exact ⟨k + 1, _, by omega, by go_num, HV2.out, HS5.out, HK5.out⟩
              case measure => simp [intOf]; omega
          · have hk' : k = n := by omega
            subst hk'
            have HNX : Hid (Nt.Waves ns ks c' (Nt.less (Nt.near ns wave) c') out') := Lib.hid (by
              have h := HW.out.next HOK.out HL.out (out' := out') (by rw [HC'.out, ← HN.out]; exact hwv)
              rw [HC'.out] at h; exact h)
            have hnr := HNR.out wave
            have enot := bits_andNot_nat (Nt.near ns wave) c' (by omega) (by omega)
            have HS1 := Lib.hid (HS.out.stay hkept)
            clear hwv hsl hkept
            go_wp2_with (go_at_call 46; refine (nearSet_any ns HOK.out wave _ _ _ HS1.out).mono ?_; rintro e w' ⟨rfl, rfl⟩)
            go_roundw
            case rel => exact ⟨c', _, out', rfl, rfl, HNX.out, HSL.out, HK.out⟩
            case measure => simp [intOf]; omega

set_option maxHeartbeats 2000000 in
set_option maxRecDepth 100000 in
theorem heightsFit_any (ns ks : List Nat) (ok : Nt.Ok ns) (st : Nt.St 3 ks) (hl : ks.length = ns.length) (out : List Int) (hf : Nt.Full ns ks out) (w : World) (v : Value) (base : Nat) (u : Value) (base' : Nat) (t : Value) (base2 : Nat)
    (hs : Sl w base v (Nt.nats ns)) (hu : Sl w base' u (Nt.nats ks)) (ht : Sl w base2 t out) :
    Calls Try.prog 68 #[v, u, t] w fun e w' => e = .returned (.bool (Nt.flatB ns ks)) ∧ Qt w w' := by
  obtain ⟨n, hn⟩ : ∃ n, n = ks.length := ⟨_, rfl⟩
  have hp := st.some
  have h6 := st.few
  have HOK := Lib.hid ok
  have HST := Lib.hid st
  have HL := Lib.hid hl
  have HN := Lib.hid hn
  have HF := Lib.hid hf
  have HOL : Hid (out.length = n) := Lib.hid (by rw [hf.len, hn])
  have HSM : Hid (∀ k, k < n → -6 < out.getD k 0 ∧ out.getD k 0 < 6) := Lib.hid (fun k hk => hf.small st (by omega))
  have HD0 := Lib.hid (Nt.down_start ns ks out)
  rw [← hn] at hp h6
  obtain ⟨g1, cap1, rfl, _, hc1⟩ := hs.row (n := n) (by omega) hp
  obtain ⟨g2, cap2, rfl, _, _⟩ := hu.row hn.symm hp
  obtain ⟨g3, cap3, rfl, _, _⟩ := ht.shape HOL.out hp
  have HC1 := Lib.hid hc1
  have HU := Lib.hid hu
  have HC3 : Hid (∀ k, k < n → w.cell? ⟨g3, k, none⟩ = some (.int .i64 (out.getD k 0))) := Lib.hid (fun k hk => (ht.at k (by rw [HOL.out]; exact hk)).1)
  clear hs hu ht ok st hl hc1 hn hf
  go_enter Try.func68, Try.ntmps68
  go_wp2_with fail
  go_loopw [12] (fun i wr => ∃ k : Nat, k ≤ n ∧ i = .int .i64 k ∧ Nt.DownTo ns ks out k 0 ∧ Qt w wr) (fun i _ => n - (intOf i).toNat)
  case atStart => exact ⟨0, Nat.zero_le _, rfl, HD0.out, Qt.refl _⟩
  case round =>
    clear HD0
    obtain ⟨k, hk, rfl, hd, hq⟩ := hrel
    have HD := Lib.hid hd
    have HQ := Lib.hid hq
    by_cases hlt : k < n
    · have hck := (hq.cell _).trans (HC1.out k hlt)
      generalize hr : ns.getD k 0 = r at *
      have HR := Lib.hid hr
      clear hd hq hr
      go_wp2_with fail
      go_loopw [18] (fun i wx => ∃ j : Nat, j ≤ k ∧ i = .int .i64 j ∧ Nt.DownTo ns ks out k j ∧ Qt w wx) (fun i _ => k - (intOf i).toNat)
      case atStart => exact ⟨0, Nat.zero_le _, rfl, HD.out, HQ.out⟩
      case round =>
        clear HD HQ
        obtain ⟨j, hj, rfl, hd, hq⟩ := hrel
        have HD := Lib.hid hd
        have HQ := Lib.hid hq
        by_cases hlj : j < k
        · have c1 := (hq.cell _).trans (HC3.out k hlt)
          have c2 := (hq.cell _).trans (HC3.out j (by omega))
          have b1 := HSM.out k hlt
          have b2 := HSM.out j (by omega)
          have HRS := Lib.hid (fun d => rise_any ks HST.out k j (by rw [← HN.out]; exact hlt) (by rw [← HN.out]; omega) (wr.drewN d) _ _ (((Qt.refl wr).draw d).sl (HQ.out.sl HU.out)))
          have hjn : j < n := by omega
          have HNX := Lib.hid (fun h => Nt.down_next (j := j) HD.out h)
          have HNO := Lib.hid (fun hb hne => Nt.Full.not HOK.out HST.out HL.out HF.out (k := k) (j := j) (by rw [← HN.out]; exact hlt) (by rw [← HN.out]; exact hjn) hb hne)
          rw [HR.out] at HNX HNO
          clear hd hq
          generalize Nt.rise (ks.getD k 0) (ks.getD j 0) = q at *
          generalize out.getD k 0 = a at *
          generalize out.getD j 0 = b at *
          have s1 : IntKind.i64.wrap (b - a) = b - a := IntWalk.i64_in _ (by omega)
          have HB := Lib.hid (fun w => (hasNode_nat r j w (by omega)))
          cases hb : r.testBit j
          · have HX := Lib.hid (HNX.out (fun h => by rw [hb] at h; exact absurd h (by simp)))
            rw [hb] at HB
            clear HNX HNO hb HRS
            go_wp2_with fail
            go_quiet ((go_at_call 45; exact quietL (HB.out _)))
            go_wp2
            go_roundw
            case rel => exact ⟨j + 1, by omega, by go_num, HX.out, HQ.out.draw _⟩
            case measure => simp [intOf]; omega
          · by_cases he : b - a = q
            · have HX := Lib.hid (HNX.out (fun _ => he))
              have d1 : (b - a != q) = false := by simp [he]
              rw [hb] at HB
              clear HNX HNO hb he
              go_wp2_with fail
              go_quiet ((first | (go_at_call 45; exact quietL (HB.out _)) | (go_at_call 66; exact quietQ (HRS.out _))))
              go_wp2
              go_roundw
              case rel => exact ⟨j + 1, by omega, by go_num, HX.out, HQ.out.draw _⟩
              case measure => simp [intOf]; omega
            · have HX := Lib.hid (HNO.out hb he)
              have d1 : (b - a != q) = true := bne_iff_ne.2 he
              rw [hb] at HB
              clear HNX HNO hb he
              go_wp2_with fail
              go_quiet ((first | (go_at_call 45; exact quietL (HB.out _)) | (go_at_call 66; exact quietQ (HRS.out _))))
              go_wp2
              go_ret
              exact ⟨by rw [HX.out]; rfl, HQ.out.draw _⟩
        · have hj' : j = k := by omega
          subst hj'
          have HX := Lib.hid (Nt.down_row HD.out)
          clear hd hq
          go_wp2
          go_roundw
          case rel => exact ⟨j + 1, by omega, by go_num, HX.out, HQ.out⟩
          case measure => simp [intOf]; omega
    · have hk' : k = n := by omega
      subst hk'
      have HX := Lib.hid (Nt.down_yes HOK.out HST.out HL.out (by rw [← HN.out]; exact HD.out))
      clear hd hq
      go_wp2
      go_ret
      exact ⟨by rw [HX.out]; rfl, HQ.out⟩

set_option maxHeartbeats 1000000 in
set_option maxRecDepth 100000 in
theorem iHeight_any (xs : List Int) (ys : List Int) (w : World) (v : Value) (base : Nat) (u : Value) (base' : Nat) (hs : Sl w base v xs) (ht : Sl w base' u ys) :
    Calls Try.prog 55 #[v, u] w fun e w' => ∃ z, e = .returned (.tuple #[z, .bool (Nt.flatOf xs ys)]) ∧ Sl w' w.heap.size z (Nt.heightsOf xs ys) ∧ Kept [] w w' := by
  have HS := Lib.hid hs
  have HT := Lib.hid ht
  obtain ⟨a, cap, rfl, _, hm, _⟩ := hs.any
  obtain ⟨a', cap', rfl, _, hm', _⟩ := ht.any
  clear hs ht
  go_enter Try.func55, Try.ntmps55
  go_wp2_with fail
  refine (turningOk_any _ _ _ _ _ _ _ HS.out HT.out).mono ?_
  rintro e w' ⟨rfl, rfl⟩
  cases h1 : Nt.fireB xs 3 ys
  · have HB := Lib.hid (Nt.flatOf_no1 h1)
    have HF := Lib.hid (Nt.heightsOf_no HB.out)
    clear h1
    go_wp2
    go_ret2
    exact ⟨_, by rw [HB.out]; rfl, by rw [HF.out]; exact Sl.nil _ _, Kept.refl _ _⟩
  · obtain ⟨ns, ks, rfl, rfl, ok, st, hl⟩ := Nt.fireB3_ok h1
    have HO := Lib.hid (And.intro ok (And.intro st hl))
    have HFO := Lib.hid (Nt.flatOf_ok ok st hl)
    clear h1 ok st hl
    go_wp2_with fail
    refine (laidHeights_any ns ks HO.out.1 HO.out.2.1 HO.out.2.2 _ _ _ _ _ HS.out HT.out).mono ?_
    rintro e w1 ⟨z, out, rfl, hs1, hfull, hk1⟩
    have HZ1 := Lib.hid hs1
    have HFU := Lib.hid hfull
    have HK1 := Lib.hid hk1
    have HS1 := Lib.hid (HS.out.stay hk1)
    have HT1 := Lib.hid (HT.out.stay hk1)
    obtain ⟨bz, capz, rfl, _, _, _⟩ := hs1.any
    clear hs1 hfull hk1 HS HT
    go_wp2_with fail
    refine (heightsFit_any ns ks HO.out.1 HO.out.2.1 HO.out.2.2 out HFU.out _ _ _ _ _ _ _ HS1.out HT1.out HZ1.out).mono ?_
    rintro e w2 ⟨rfl, hq⟩
    have HK2 := Lib.hid (HK1.out.trans hq.kept (by simp))
    have HZ2 := Lib.hid (hq.sl HZ1.out)
    clear hq HZ1 HS1 HT1 HK1
    cases h2 : Nt.flatB ns ks
    · have HB : Hid (Nt.flatOf (Nt.nats ns) (Nt.nats ks) = false) := Lib.hid (by rw [HFO.out, h2])
      have HF := Lib.hid (Nt.heightsOf_no HB.out)
      clear h2
      go_wp2
      go_ret2
      exact ⟨_, by rw [HB.out]; rfl, by rw [HF.out]; exact Sl.nil _ _, HK2.out⟩
    · have HB : Hid (Nt.flatOf (Nt.nats ns) (Nt.nats ks) = true) := Lib.hid (by rw [HFO.out, h2])
      have HF := Lib.hid ((Nt.heightsOf_yes HB.out).trans (HFU.out.flat HO.out.1 HO.out.2.1 HO.out.2.2 h2).symm)
      clear h2
      go_wp2
      go_ret2
      exact ⟨_, by rw [HB.out]; rfl, by rw [HF.out]; exact HZ2.out, HK2.out⟩

set_option maxHeartbeats 1000000 in
set_option maxRecDepth 100000 in
theorem iFlat_any (xs : List Int) (ys : List Int) (w : World) (v : Value) (base : Nat) (u : Value) (base' : Nat) (hs : Sl w base v xs) (ht : Sl w base' u ys) :
    Calls Try.prog 28 #[v, u] w fun e w' => e = .returned (.bool (Nt.flatOf xs ys)) ∧ Kept [] w w' := by
  have HS := Lib.hid hs
  have HT := Lib.hid ht
  obtain ⟨a, cap, rfl, _, hm, _⟩ := hs.any
  obtain ⟨a', cap', rfl, _, hm', _⟩ := ht.any
  clear hs ht
  go_enter Try.func28, Try.ntmps28
  go_wp2_with fail
  refine (iHeight_any xs ys _ _ _ _ _ HS.out HT.out).mono ?_
  rintro e w1 ⟨z, rfl, _, hk1⟩
  have HK1 := Lib.hid hk1
  clear hk1
  generalize hb : Nt.flatOf xs ys = b at *
  have HB := Lib.hid hb
  clear hb
  go_wp2
  go_ret
  exact ⟨by rw [HB.out]; rfl, HK1.out⟩

end Go.Proofs.Ytllbdhfckdljgaa

namespace Go.Proofs.Ytllbdhfckdljgaa
open Go.RowKit

end Go.Proofs.Ytllbdhfckdljgaa
