/-
  The law of WiresOf, walked.
-/
import Derived.Test.YtjogkppgmomggacD4
import Derived.Test.YtjogkppgmomggacL1
import Derived.Test.YtjogkppgmomggacN4
import Derived.Test.YtjogkppgmomggacW16
namespace Go.Proofs.Ytjogkppgmomggac
open Go.RowKit

theorem ends_le (ns : List Nat) {k : Nat} (hk : k ≤ 6) : Nt.endsTo ns k ≤ 36 := by
  have h := Nt.sumTo_le (f := fun i => Nt.pop (ns.getD i 0)) (c := 6) k (fun i _ => Nt.popTo_le _ 6)
  unfold Nt.endsTo
  omega

theorem popTo_next (x j : Nat) : ((Nt.popTo x (j + 1) : Nat) : Int) = (Nt.popTo x j : Nat) + (if x.testBit j then 1 else 0 : Int) := by
  rw [Nt.popTo]
  cases x.testBit j <;> simp

set_option maxHeartbeats 4000000 in
set_option maxRecDepth 100000 in
theorem FnWiresOf_calls (w : World) (v : Value) (ha : ArgB w v) :
    Calls Try.prog 6 #[v] w fun e w' => e = .returned (.bool true) ∧ Kept [] w w' := by
  have HA := Lib.hid ha
  obtain ⟨a, len, cap, rfl, hlc, hcm, _⟩ := ha
  by_cases hbig : 1048576 < len
  · have hb : (1048576 : Int) < (len : Int) := by omega
    clear hbig
    go_enter Try.func6, Try.ntmps6
    go_wp2
    go_ret
    exact ⟨rfl, Kept.refl _ _⟩
  have hb : ¬ (1048576 : Int) < (len : Int) := by omega
  clear hbig
  go_enter Try.func6, Try.ntmps6
  go_wp2_with fail
  refine (drawWiresOf_any _ _ HA.out).mono ?_
  rintro e w1 ⟨u, xs, rfl, hs, hl, hk⟩
  have HS := Lib.hid hs
  have HK := Lib.hid hk
  clear hk hb
  by_cases ho : Nt.okB xs = true
  · obtain ⟨ns, rfl, hok⟩ := Nt.okB_ok ho
    obtain ⟨n, hn⟩ : ∃ n, n = ns.length := ⟨_, rfl⟩
    have hp := hok.some
    have h6 := hok.few
    rw [← hn] at hp h6
    obtain ⟨g, cap1, rfl, hg, _⟩ := hs.row hn.symm hp
    have HOK := Lib.hid hok
    have HN := Lib.hid hn
    have HPL := Lib.hid ((Nt.parts_length hok).trans hn.symm)
    have HF := Lib.hid (Nt.partsOf_ok hok)
    have HV := Lib.hid (Nt.wiresOf_ok hok)
    have HEND : Hid (Nt.endsTo ns n = 2 * Nt.wires ns) := Lib.hid (by rw [hn]; exact Nt.ends_wires hok)
    have HRW : Hid (n ≤ Nt.reps (Nt.parts ns) + Nt.wires ns) := Lib.hid (by rw [hn]; exact Nt.wires_parts ns)
    clear hs hok hn ho hg
    go_wp2_with fail
    refine (iWires_any (Nt.nats ns) _ _ _ HS.out).mono ?_
    rintro e w' ⟨rfl, rfl⟩
    go_wp2_with fail
    refine (sWires_any (Nt.nats ns) _ _ _ HS.out).mono ?_
    rintro e w2 ⟨rfl, hq⟩
    have HS2 := Lib.hid (hq.sl HS.out)
    have HK2 := Lib.hid (HK.out.trans hq.kept (by simp))
    rw [HV.out]
    clear hq HS HK
    have hw18 : Nt.wires ns ≤ 18 := by have := ends_le ns (k := n) h6; have := HEND.out; omega
    generalize hwv : Nt.wires ns = wv at *
    have HWV := Lib.hid hwv
    clear hwv
    go_wp2_with fail
    refine (iParts_any (Nt.nats ns) _ _ _ HS2.out).mono ?_
    rintro e w3 ⟨u3, rfl, hs3, hk3⟩
    rw [HF.out] at hs3
    obtain ⟨g3, cap3, rfl, hg3, hc3⟩ := hs3.row HPL.out hp
    have HS3 := Lib.hid (HS2.out.stay hk3)
    have HK3 := Lib.hid (HK2.out.trans hk3 (by simp))
    have HC3 := Lib.hid hc3
    clear hs3 hk3 HS2 HK2 hc3
    go_wp2
    go_loopw [5, 6, 8, 9, 10] (fun en pa i _ _ wr => ∃ k : Nat, k ≤ n ∧ i = .int .i64 k ∧ en = .int .i64 (Nt.endsTo ns k : Nat) ∧ pa = .int .i64 ((Nt.sumTo (fun i => if (Nt.parts ns).getD i 0 = i then 1 else 0) k : Nat) : Int) ∧ w3 = wr) (fun _ _ i _ _ _ => n - (intOf i).toNat)
    case atStart => exact ⟨0, Nat.zero_le _, rfl, rfl, rfl, rfl⟩
    case round =>
      obtain ⟨k, hk, rfl, rfl, rfl, rfl⟩ := hrel
      have hbe := ends_le ns (k := k) (by omega)
      have hbr : Nt.sumTo (fun i => if (Nt.parts ns).getD i 0 = i then 1 else 0) k ≤ k * 1 := Nt.sumTo_le k (fun i _ => by split <;> omega)
      have HES : Hid (Nt.endsTo ns (k + 1) = Nt.endsTo ns k + Nt.pop (ns.getD k 0)) := Lib.hid rfl
      have HRS : Hid (Nt.sumTo (fun i => if (Nt.parts ns).getD i 0 = i then 1 else 0) (k + 1) = Nt.sumTo (fun i => if (Nt.parts ns).getD i 0 = i then 1 else 0) k + (if (Nt.parts ns).getD k 0 = k then 1 else 0)) := Lib.hid rfl
      by_cases hlt : k < n
      · have HKN : Hid (k < ns.length) := Lib.hid (by rw [← HN.out]; exact hlt)
        have HE := Lib.hid (pow_wrap (k := k) (by omega))
        have HNE := Lib.hid ((Nt.nearOf_ok HOK.out (Nt.two_pow_lt HKN.out)).trans (by rw [Nt.near_single HKN.out]))
        have HPOP : Hid (Nt.popTo (ns.getD k 0) n = Nt.pop (ns.getD k 0)) := Lib.hid (by rw [HN.out]; exact (Nt.popTo_more (HOK.out.fit k HKN.out) 6 (by rw [← HN.out]; exact h6)).symm)
        have hcell := HC3.out k hlt
        generalize hsum : Nt.sumTo (fun i => if (Nt.parts ns).getD i 0 = i then 1 else 0) k = sm at *
        generalize hen : Nt.endsTo ns k = en at *
        generalize hpk : (Nt.parts ns).getD k 0 = pk at *
        have HPK := Lib.hid hpk
        clear hsum hen hpk
        go_wp2_with fail
        rw [HE.out]
        refine (iNearOf_any (Nt.nats ns) ((2 ^ k : Nat) : Int) _ _ _ HS3.out).mono ?_
        rintro e w' ⟨rfl, rfl⟩
        rw [HNE.out]
        generalize hx : ns.getD k 0 = x at *
        clear hx
        go_wp2
        go_loopw [5, 10] (fun en' i wr => ∃ j : Nat, j ≤ n ∧ i = .int .i64 j ∧ en' = .int .i64 ((en : Int) + (Nt.popTo x j : Nat)) ∧ w3 = wr) (fun _ i _ => n - (intOf i).toNat)
        case atStart => exact ⟨0, Nat.zero_le _, rfl, by simp [Nt.popTo], rfl⟩
        case round =>
          obtain ⟨j, hj, rfl, rfl, rfl⟩ := hrel
          by_cases hjlt : j < n
          · have hpl := Nt.popTo_le x j
            have p1 := shr_nonneg x j
            have e1 := shr_bit x j
            have HNX := Lib.hid (popTo_next x j)
            have hmx : max (x : Int) 0 = (x : Int) := by omega
            generalize Nt.popTo x j = y at *
            generalize hbt : (if x.testBit j = true then (1 : Int) else 0) = bt at *
            have hbt1 : 0 ≤ bt ∧ bt ≤ 1 := by rw [← hbt]; split <;> omega
            obtain ⟨hbt2, hbt3⟩ := hbt1
            clear hbt
            go_wp2
            go_roundw
            case rel => exact ⟨j + 1, by omega, by go_num, by rw [HNX.out]; first | (congr 1; omega) | go_num, by first | rfl | trivial⟩
            case measure => simp [intOf]; omega
          · have hj' : j = n := by omega
            subst hj'
            rw [HPOP.out]
            have hpl := Nt.popTo_le x 6
            have hpp : Nt.pop x ≤ 6 := hpl
            clear hpl
            generalize Nt.pop x = y at *
            have HCE : Hid (((en + y : Nat) : Int) = (en : Int) + (y : Int)) := Lib.hid (by omega)
            by_cases hpe : pk = k
            · have hpe' : ((pk : Int) == (k : Int)) = true := by simp [hpe]
              have HPE := Lib.hid hpe
              clear hpe
              go_wp2
              go_roundw
              case rel => exact ⟨k + 1, by omega, by go_num, by rw [HES.out, HCE.out], by rw [HRS.out, if_pos HPE.out]; go_num, by first | rfl | trivial⟩
              case measure => simp [intOf]; omega
            · have hpe' : ((pk : Int) == (k : Int)) = false := by simp; omega
              have HPE := Lib.hid hpe
              clear hpe
              go_wp2
              go_roundw
              case rel => exact ⟨k + 1, by omega, by go_num, by rw [HES.out, HCE.out], by rw [HRS.out, if_neg HPE.out]; rfl, by first | rfl | trivial⟩
              case measure => simp [intOf]; omega
      · have hk' : k = n := by omega
        subst hk'
        have hrr : Nt.reps (Nt.parts ns) = Nt.sumTo (fun i => if (Nt.parts ns).getD i 0 = i then 1 else 0) k := by unfold Nt.reps; rw [HPL.out]
        have hrw := HRW.out
        rw [hrr] at hrw
        rw [HEND.out]
        clear hrr HES HRS
        generalize Nt.sumTo (fun i => if (Nt.parts ns).getD i 0 = i then 1 else 0) k = sm at *
        have e2 : ((2 * wv : Nat) : Int) = 2 * (wv : Int) := by omega
        rw [e2]
        have hge : (k : Int) - (sm : Int) ≤ (wv : Int) := by omega
        clear e2
        go_wp2
        go_ret
        exact ⟨by simp, HK3.out⟩
  · have ho' : Nt.okB xs = false := by simpa using ho
    have HV := Lib.hid (Nt.wiresOf_no ho')
    obtain ⟨b, cap1, rfl, _, _, _⟩ := hs.any
    clear hs ho
    go_wp2_with fail
    refine (iWires_any xs _ _ _ HS.out).mono ?_
    rintro e w' ⟨rfl, rfl⟩
    go_wp2_with fail
    refine (sWires_any xs _ _ _ HS.out).mono ?_
    rintro e w2 ⟨rfl, hq⟩
    have HS2 := Lib.hid (hq.sl HS.out)
    have HK2 := Lib.hid (HK.out.trans hq.kept (by simp))
    rw [HV.out]
    clear hq HS HK
    go_wp2_with fail
    refine (iNetOk_any xs _ _ _ HS2.out).mono ?_
    rintro e w' ⟨rfl, rfl⟩
    rw [ho']
    clear ho'
    go_wp2_with fail
    refine (alive_any _).mono ?_
    rintro e w5 ⟨rfl, hk⟩
    have HK5 := Lib.hid (HK2.out.trans hk (by simp))
    clear hk
    go_wp2
    go_ret
    exact ⟨rfl, HK5.out⟩
end Go.Proofs.Ytjogkppgmomggac
