/-
  Walks: parts of nets, by the model.
-/
import Derived.Test.YtjogkppgmomggacN3
namespace Go.Proofs.Ytjogkppgmomggac
open Go.RowKit
open Nt (okB)

theorem pow_wrap {k : Nat} (h : k ≤ 6) : wrap64 (2 ^ k) = ((2 ^ k : Nat) : Int) := by
  have h := wrap_pow k (by omega) (by omega)
  rw [Int.toNat_natCast] at h
  rw [h]
  exact (Int.natCast_pow 2 k).symm

theorem dist_self {ns : List Nat} (k : Nat) : Nt.dist ns (2 ^ k) 64 k = 0 := Nt.dist_zero.2 ((Nt.bit_pow k k).2 rfl)

set_option maxHeartbeats 4000000 in
theorem sParts_any (xs : List Int) (w : World) (v : Value) (base : Nat) (hs : Sl w base v xs) :
    Calls Try.prog 13 #[v] w fun e w' => ∃ u, e = .returned u ∧ Sl w' w.heap.size u (Nt.partsOf xs) ∧ Kept [] w w' := by
  have HS := Lib.hid hs
  by_cases ho : okB xs = true
  · obtain ⟨ns, rfl, hok⟩ := Nt.okB_ok ho
    have HF := Lib.hid (Nt.partsOf_ok hok)
    have HOK := Lib.hid hok
    have HPL := Lib.hid (Nt.parts_length hok)
    obtain ⟨n, hn⟩ : ∃ n, n = ns.length := ⟨_, rfl⟩
    have hp := hok.some
    have h6 := hok.few
    rw [← hn] at hp h6
    obtain ⟨g, cap, rfl, hg, hc⟩ := hs.row hn.symm hp
    have HN := Lib.hid hn
    clear hs hok hc hn
    go_enter Try.func13, Try.ntmps13
    go_wp2
    go_loopw [3, 4] (fun u i wr => ∃ k : Nat, k ≤ n ∧ i = .int .i64 k ∧ Sl wr w.heap.size u (Nt.nats ((Nt.parts ns).take k)) ∧ Kept [] w wr) (fun _ i _ => n - (intOf i).toNat)
    case atStart => exact ⟨0, Nat.zero_le _, rfl, Sl.empty3 w, (Kept.refl _ _).alloc _⟩
    case round =>
      obtain ⟨k, hk, rfl, hsl, hkept⟩ := hrel
      have HSL := Lib.hid hsl
      have HK := Lib.hid hkept
      have HSX := Lib.hid (HS.out.stay hkept)
      clear hsl hkept
      by_cases hlt : k < n
      · have HKN : Hid (k < ns.length) := Lib.hid (by rw [← HN.out]; exact hlt)
        have HE := Lib.hid (pow_wrap (k := k) (by omega))
        have HT := Lib.hid (Nt.take_more (Nt.parts ns) k (by rw [HPL.out]; exact HKN.out))
        go_wp2_with fail
        refine (sNetOk_any (Nt.nats ns) _ _ base HSX.out).mono ?_
        rintro e w1 ⟨rfl, hq⟩
        rw [ho]
        have HSX1 := Lib.hid (hq.sl HSX.out)
        have HSL1 := Lib.hid (hq.sl HSL.out)
        have HK1 := Lib.hid (HK.out.trans hq.kept (by simp))
        clear hq HSX HSL HK
        go_wp2_with fail
        rw [HE.out]
        refine (l1Far_any ns HOK.out (2 ^ k) (Nt.two_pow_lt HKN.out) _ _ base HSX1.out).mono ?_
        rintro e w2 ⟨u2, rfl, hs2, hk2⟩
        have HSL2 := Lib.hid (HSL1.out.stay hk2)
        have HK2 := Lib.hid (HK1.out.trans hk2 (by simp))
        obtain ⟨g2, cap2, rfl, _, _⟩ := hs2.shape (n := n) (by rw [Nt.far_length]; exact HN.out.symm) hp
        have HR := Lib.hid (fun j (hj : j < n) => ((hs2.at j (by rw [Nt.far_length, ← HN.out]; exact hj)).1).trans (by rw [Nt.far_get _ _ (by rw [← HN.out]; exact hj)]))
        have hsz := HK2.out.size
        clear hs2 hk2 HSX1 HSL1 HK1 HE
        go_wp2
        go_loopw [6, 7] (fun p j wr => ∃ i q : Nat, i ≤ k + 1 ∧ j = .int .i64 ((i : Int) - 1) ∧ p = .int .i64 (q : Int) ∧ q ≤ k ∧ 0 ≤ Nt.dist ns (2 ^ k) 64 q ∧ (∀ t, i ≤ t → t ≤ k → 0 ≤ Nt.dist ns (2 ^ k) 64 t → q ≤ t) ∧ wr = w2) (fun _ j _ => (intOf j + 1).toNat)
        case atStart => exact ⟨k + 1, k, Nat.le_refl _, by simp, rfl, Nat.le_refl _, by rw [dist_self]; exact Int.le_refl _, fun t h1 h2 => absurd h1 (by omega), rfl⟩
        case round =>
          obtain ⟨i, q, hi, rfl, rfl, hqk, hq0, hql, rfl⟩ := hrel
          have HQ0 := Lib.hid hq0
          have HQL := Lib.hid hql
          clear hq0 hql
          by_cases hpos : 0 < i
          · obtain ⟨m, rfl⟩ : ∃ m, i = m + 1 := ⟨i - 1, by omega⟩
            have e0 : ((m + 1 : Nat) : Int) - 1 = (m : Int) := by omega
            rw [e0]
            have hmn : m < n := by omega
            have hcell := HR.out m hmn
            have HQ1 := Lib.hid (fun h => HQL.out m h)
            generalize hd : Nt.dist ns (2 ^ k) 64 m = d at *
            have HD := Lib.hid hd
            clear hd e0
            by_cases hd0 : 0 ≤ d
            · go_wp2
              go_roundw
              case rel => exact ⟨m, m, by omega, by go_num, rfl, by omega, by rw [HD.out]; exact hd0, fun t h1 _ _ => h1, trivial⟩
              case measure => first | (simp [intOf]; done) | (simp [intOf]; omega)
            · go_wp2
              go_roundw
              case rel => exact ⟨m, q, by omega, by go_num, rfl, hqk, HQ0.out, fun t h1 h2 h3 => by
                by_cases e : t = m
                · rw [e, HD.out] at h3; exact absurd h3 hd0
                · exact HQL.out t (by omega) h2 h3, trivial⟩
              case measure => first | (simp [intOf]; done) | (simp [intOf]; omega)
          · have hi0 : i = 0 := by omega
            subst hi0
            have HP := Lib.hid (Nt.parts_least HOK.out HKN.out hqk HQ0.out (fun t h1 h2 => HQL.out t (Nat.zero_le _) h1 h2))
            have hl : (Nt.nats ((Nt.parts ns).take k)).length ≤ 1000000 := by rw [Nt.nats_length, List.length_take]; omega
            have HL := Lib.hid hl
            clear hl
            go_wp2_with (at_builtin; refine app_int _ rfl _ _ rfl w.heap.size _ _ HSL2.out rfl rfl HL.out (by omega) ?_; intro u' w4 hs4 hk4; have HS4 := Lib.hid hs4; have HK4 := Lib.hid hk4; clear hs4 hk4)
            go_roundw
            case rel => exact ⟨k + 1, by omega, by go_num, HS4.out.val (by rw [HP.out]) HT.out, HK2.out.own HK4.out (fun g hg => (HSL2.out.block hg).1)⟩
            case measure => simp [intOf]; omega
      · have hk' : k = n := by omega
        subst hk'
        go_wp2
        go_ret
        exact ⟨_, rfl, by have h := HSL.out; rw [List.take_of_length_le (by rw [HPL.out, HN.out]; exact Nat.le_refl _)] at h; rw [HF.out]; exact h, HK.out⟩
  · have ho' : okB xs = false := by simpa using ho
    have HF := Lib.hid (Nt.partsOf_no ho')
    obtain ⟨a, cap, rfl, _, hm, _⟩ := hs.any
    clear ho hs
    by_cases h0 : 0 < xs.length
    · go_enter Try.func13, Try.ntmps13
      go_wp2
      refine wp_loop_rounds 1 ?_
      rw [rounds_succ]
      go_wp2_with fail
      refine (sNetOk_any xs _ _ base (HS.out.stay ((Kept.refl _ _).alloc _))).mono ?_
      rintro e w1 ⟨rfl, hq⟩
      rw [ho']
      have HQ := Lib.hid hq
      clear ho' hq
      go_wp2
      go_ret
      exact ⟨_, rfl, by rw [HF.out]; exact HQ.out.sl (Sl.empty3 w), ((Kept.refl _ _).alloc _).trans HQ.out.kept (by simp)⟩
    · go_enter Try.func13, Try.ntmps13
      go_wp2
      refine wp_loop_rounds 1 ?_
      rw [rounds_succ]
      go_wp2
      go_ret
      exact ⟨_, rfl, by rw [HF.out]; exact Sl.empty3 _, (Kept.refl _ _).alloc _⟩
end Go.Proofs.Ytjogkppgmomggac
