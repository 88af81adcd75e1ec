/-
  The law ClimbRound, walked.
-/
import Derived.Test.YthhnhnfflmmmlaaDD
import Derived.Test.YthhnhnfflmmmlaaL1
import Derived.Test.YthhnhnfflmmmlaaUM
import Derived.Test.YthhnhnfflmmmlaaUI
namespace Go.Proofs.Ythhnhnfflmmmlaa
open Go.RowKit

theorem round_climb {ns ks : List Nat} (ok : Nt.Ok ns) (st : Nt.St 3 ks) (hl : ks.length = ns.length) {a b c : Nat} (ha : a < ns.length) (hb : b < ns.length) (hc : c < ns.length) (h1 : (ns.getD a 0).testBit b = true) (h2 : (ns.getD b 0).testBit c = true) (h3 : (ns.getD a 0).testBit c = true) :
    Nt.climbB (Nt.nats ns) (Nt.nats ks) (Nt.nats [a, b, c, a]) = true ∧ Nt.climbOf (Nt.nats ns) (Nt.nats ks) (Nt.nats [a, b, c, a]) = Nt.rise (ks.getD a 0) (ks.getD b 0) + Nt.rise (ks.getD b 0) (ks.getD c 0) + Nt.rise (ks.getD c 0) (ks.getD a 0) := by
  have h3' : (ns.getD c 0).testBit a = true := by rw [ok.both c a hc ha]; exact h3
  have ht : Nt.Tour ns [a, b, c, a] := ⟨by simp, by simp, fun k hk => by
    simp at hk
    rcases (by omega : k = 0 ∨ k = 1 ∨ k = 2 ∨ k = 3) with rfl | rfl | rfl | rfl <;> simpa, fun k hk => by
    simp at hk
    rcases (by omega : k = 0 ∨ k = 1 ∨ k = 2) with rfl | rfl | rfl <;> simpa⟩
  refine ⟨Nt.climbB_yes ok st hl ht, ?_⟩
  rw [Nt.climbOf_ok ok st hl ht]
  show 0 + _ + _ + _ = _
  simp

set_option maxHeartbeats 4000000 in
set_option maxRecDepth 100000 in
theorem FnClimbRound_calls (w : World) (v : Value) (ha : ArgB w v) :
    Calls Try.prog 9 #[v] w fun e w' => e = .returned (.bool true) ∧ Kept [] w w' := by
  have HA := Lib.hid ha
  obtain ⟨a, len, cap, rfl, hlc, hcm, _⟩ := ha
  by_cases hbig : 1048576 < len
  · have hb : (1048576 : Int) < (len : Int) := by omega
    clear hbig
    go_enter Try.func9, Try.ntmps9
    go_wp2
    go_ret
    exact ⟨rfl, Kept.refl _ _⟩
  have hb : ¬ (1048576 : Int) < (len : Int) := by omega
  clear hbig
  go_enter Try.func9, Try.ntmps9
  go_wp2_with fail
  refine (drawClimbOf_any _ _ HA.out).mono ?_
  rintro e w1 ⟨u, xs, v, ys, z, zs, rfl, hs, ht, hz, hl1, hl2, hz1, hz2, hk⟩
  have S1 := Lib.hid hs
  have T1 := Lib.hid ht
  have Z1 := Lib.hid hz
  have HK := Lib.hid hk
  clear hk hb

  clear hz hz1 hz2 Z1
  by_cases hgood : Nt.fireB xs 3 ys = true
  · obtain ⟨ns, ks, rfl, rfl, ok, st, hl⟩ := Nt.fireB3_ok hgood
    obtain ⟨n, hn⟩ : ∃ n, n = ks.length := ⟨_, rfl⟩
    have hp := st.some
    have h6 := st.few
    have HO := Lib.hid (Nt.ok_okB ok)
    have HS3 := Lib.hid (Nt.st_stB3 st)
    have HCL : Hid (∀ a b c, c < b → b < a → a < n → (ns.getD a 0).testBit b = true → (ns.getD b 0).testBit c = true → (ns.getD a 0).testBit c = true → Nt.climbB (Nt.nats ns) (Nt.nats ks) (Nt.nats [a, b, c, a]) = true ∧ Nt.climbOf (Nt.nats ns) (Nt.nats ks) (Nt.nats [a, b, c, a]) = Nt.rise (ks.getD a 0) (ks.getD b 0) + Nt.rise (ks.getD b 0) (ks.getD c 0) + Nt.rise (ks.getD c 0) (ks.getD a 0)) := Lib.hid (fun a b c hcb hba ha h1 h2 h3 => round_climb ok st hl (by omega) (by omega) (by omega) h1 h2 h3)
    have HLT : Hid (∀ k, k < n → ks.getD k 0 < 3) := Lib.hid (fun k hk => st.lt k (by omega))
    rw [← hn] at hp h6
    obtain ⟨gS, capS, rfl, hgS, hcS⟩ := hs.row (n := n) (by omega) hp
    obtain ⟨gT, capT, rfl, hgT, hcT⟩ := ht.row hn.symm hp
    have CS1 := Lib.hid hcS
    have lS1 := Lib.hid hgS
    have CT1 := Lib.hid hcT
    have lT1 := Lib.hid hgT
    clear hcS hgS hcT hgT
    clear hs ht ok st hl hn hgood hl1 hl2
    have dnn : ((n : Int) != (n : Int)) = false := by simp
    go_wp2_with fail
    refine (sNetOk_any _ _ _ _ S1.out).mono ?_
    rintro e w2 ⟨rfl, hq⟩
    rw [HO.out]
    have hk := hq.kept
    have S2 := Lib.hid (S1.out.stay hk)
    have T2 := Lib.hid (T1.out.stay hk)
    have CS2 := Lib.hid (fun j (hj : j < n) => (hk.cell (p := ⟨gS, j, none⟩) lS1.out (by simp)).trans (CS1.out j hj))
    have lS2 := Lib.hid (Nat.lt_of_lt_of_le lS1.out hk.size)
    have CT2 := Lib.hid (fun j (hj : j < n) => (hk.cell (p := ⟨gT, j, none⟩) lT1.out (by simp)).trans (CT1.out j hj))
    have lT2 := Lib.hid (Nat.lt_of_lt_of_le lT1.out hk.size)
    have HK2 := Lib.hid (HK.out.trans hk (by simp))
    clear S1 T1 CS1 lS1 CT1 lT1 HK
    clear hk hq
    go_wp2_with fail
    refine (sStateOk_any 3 _ _ _ _ T2.out).mono ?_
    rintro e w' ⟨rfl, rfl⟩
    rw [HS3.out]
    go_wp2_with fail
    go_loopw [6] (fun i wr => ∃ a : Nat, a ≤ n ∧ i = .int .i64 a ∧ Kept [] w2 wr) (fun i _ => n - (intOf i).toNat)
    case atStart => exact ⟨0, Nat.zero_le _, rfl, Kept.refl _ _⟩
    case round =>
      obtain ⟨a, ha, rfl, hq⟩ := hrel
      have HQ := Lib.hid hq
      clear hq
      by_cases hla : a < n
      · go_wp2_with fail
        go_loopw [7] (fun i wr => ∃ b : Nat, b ≤ a ∧ i = .int .i64 b ∧ Kept [] w2 wr) (fun i _ => a - (intOf i).toNat)
        case atStart => exact ⟨0, Nat.zero_le _, rfl, HQ.out⟩
        case round =>
          clear HQ
          obtain ⟨b, hb, rfl, hq⟩ := hrel
          have HQ := Lib.hid hq
          clear hq
          by_cases hlb : b < a
          · go_wp2_with fail
            go_loopw [8] (fun i wr => ∃ c : Nat, c ≤ b ∧ i = .int .i64 c ∧ Kept [] w2 wr) (fun i _ => b - (intOf i).toNat)
            case atStart => exact ⟨0, Nat.zero_le _, rfl, HQ.out⟩
            case round =>
              clear HQ
              obtain ⟨c, hc, rfl, hq⟩ := hrel
              have HQ := Lib.hid hq
              by_cases hlc' : c < b
              · have kA := (hq.cell (p := ⟨gS, a, none⟩) lS2.out (by simp)).trans (CS2.out a hla)
                have kB := (hq.cell (p := ⟨gS, b, none⟩) lS2.out (by simp)).trans (CS2.out b (by omega))
                have HR := Lib.hid (HCL.out a b c hlc' hlb hla)
                have lA := HLT.out a hla
                have lB := HLT.out b (by omega)
                have lC := HLT.out c (by omega)
                have TA := Lib.hid (CT2.out a hla)
                have TB := Lib.hid (CT2.out b (by omega))
                have TC := Lib.hid (CT2.out c (by omega))
                have hrr := Nt.rise_round lA lB lC
                clear hq
                generalize ns.getD a 0 = pa at *
                generalize ns.getD b 0 = pb at *
                generalize ks.getD a 0 = x at *
                generalize ks.getD b 0 = y at *
                generalize ks.getD c 0 = z at *
                generalize Nt.rise x y + Nt.rise y z + Nt.rise z x = N at *
                have p1 := shr_nonneg pa b
                have e1 := shr_bit pa b
                have p2 := shr_nonneg pb c
                have e2 := shr_bit pb c
                have p3 := shr_nonneg pa c
                have e3 := shr_bit pa c
                have a1 : (3 : Int) ≤ 3 := by decide
                cases hb1 : pa.testBit b
                · rw [hb1] at e1
                  simp only [Bool.false_eq_true, if_false] at e1
                  clear hrr lA lB lC hb1
                  go_wp2
                  go_roundw
                  case rel => exact ⟨c + 1, by omega, by go_num, HQ.out⟩
                  case measure => simp [intOf]; omega
                · rw [hb1] at e1
                  simp only [if_true] at e1
                  cases hb2 : pb.testBit c
                  · rw [hb2] at e2
                    simp only [Bool.false_eq_true, if_false] at e2
                    clear hrr lA lB lC hb1 hb2
                    go_wp2
                    go_roundw
                    case rel => exact ⟨c + 1, by omega, by go_num, HQ.out⟩
                    case measure => simp [intOf]; omega
                  · rw [hb2] at e2
                    simp only [if_true] at e2
                    cases hb3 : pa.testBit c
                    · rw [hb3] at e3
                      simp only [Bool.false_eq_true, if_false] at e3
                      clear hrr lA lB lC hb1 hb2 hb3
                      go_wp2
                      go_roundw
                      case rel => exact ⟨c + 1, by omega, by go_num, HQ.out⟩
                      case measure => simp [intOf]; omega
                    · rw [hb3] at e3
                      simp only [if_true] at e3
                      obtain ⟨hcB, hcO⟩ := HR.out hb1 hb2 hb3
                      have HCB := Lib.hid hcB
                      have HCO := Lib.hid hcO
                      have HLIT : Hid (Sl (wr.alloc (.cells #[.int .i64 a, .int .i64 b, .int .i64 c, .int .i64 a] 3)) wr.heap.size (.slice (some ⟨wr.heap.size, 0, none⟩) 4 4) (Nt.nats [a, b, c, a])) := Lib.hid (Sl.lit wr (Nt.nats [a, b, c, a]) (by simp [Nt.nats]))
                      have hka : Kept [] wr (wr.alloc (.cells #[.int .i64 a, .int .i64 b, .int .i64 c, .int .i64 a] 3)) := (Kept.refl _ _).alloc _
                      have hkq := HQ.out.trans hka (by simp)
                      have S8 := Lib.hid (S2.out.stay hkq)
                      have T8 := Lib.hid (T2.out.stay hkq)
                      have HK8 := Lib.hid hkq
                      clear hb1 hb2 hb3 hcB hcO hka hkq HR
                      go_wp2_with fail
                      refine (iClimbOf_any _ _ _ _ _ _ _ _ _ _ S8.out T8.out HLIT.out).mono ?_
                      rintro e w9 ⟨rfl, hq⟩
                      rw [HCB.out, HCO.out]
                      clear kA kB
                      have hk9 := HK8.out.trans hq.kept (by simp)
                      have kA := (hk9.cell (p := ⟨gT, a, none⟩) lT2.out (by simp)).trans TA.out
                      have kB := (hk9.cell (p := ⟨gT, b, none⟩) lT2.out (by simp)).trans TB.out
                      have kC := (hk9.cell (p := ⟨gT, c, none⟩) lT2.out (by simp)).trans TC.out
                      have HK9 := Lib.hid hk9
                      clear hq hk9 e1 e2 e3 p1 p2 p3 S8 T8 HK8 HLIT HQ HCB HCO TA TB TC
                      obtain ⟨hN, hsame⟩ := hrr
                      by_cases hxy : x = y
                      · have hN0 : N = 0 := hsame.2 (.inl hxy)
                        have g1 : ((x : Int) == (y : Int)) = true := by simp [hxy]
                        subst hN0
                        clear hN hsame hxy lA lB lC
                        go_wp2_with fail
                        go_quiet (fail)
                        go_wp2
                        go_roundw
                        case rel => exact ⟨c + 1, by omega, by go_num, HK9.out.trans ((Qt.refl _).draw _).kept (by simp)⟩
                        case measure => simp [intOf]; omega
                      · have g1 : ((x : Int) == (y : Int)) = false := beq_eq_false_iff_ne.2 (by omega)
                        by_cases hyz : y = z
                        · have hN0 : N = 0 := hsame.2 (.inr (.inl hyz))
                          have g2 : ((y : Int) == (z : Int)) = true := by simp [hyz]
                          subst hN0
                          clear hN hsame hxy hyz lA lB lC
                          go_wp2_with fail
                          go_quiet (fail)
                          go_wp2
                          go_roundw
                          case rel => exact ⟨c + 1, by omega, by go_num, HK9.out.trans ((Qt.refl _).draw _).kept (by simp)⟩
                          case measure => simp [intOf]; omega
                        · have g2 : ((y : Int) == (z : Int)) = false := beq_eq_false_iff_ne.2 (by omega)
                          by_cases hxz : x = z
                          · have hN0 : N = 0 := hsame.2 (.inr (.inr hxz))
                            have g3 : ((x : Int) == (z : Int)) = true := by simp [hxz]
                            subst hN0
                            clear hN hsame hxy hyz hxz lA lB lC
                            go_wp2_with fail
                            go_quiet (fail)
                            go_wp2
                            go_roundw
                            case rel => exact ⟨c + 1, by omega, by go_num, HK9.out.trans ((Qt.refl _).draw _).kept (by simp)⟩
                            case measure => simp [intOf]; omega
                          · have g3 : ((x : Int) == (z : Int)) = false := beq_eq_false_iff_ne.2 (by omega)
                            have hN0 : N = 3 ∨ N = -3 := by
                              rcases hN with h | h
                              · rcases hsame.1 h with h | h | h
                                · exact absurd h hxy
                                · exact absurd h hyz
                                · exact absurd h hxz
                              · exact h
                            clear hN hsame hxy hyz hxz lA lB lC
                            rcases hN0 with rfl | rfl
                            all_goals
                              go_wp2_with fail
                              go_quiet (fail)
                              go_wp2
                              go_roundw
                              case rel => exact ⟨c + 1, by omega, by go_num, HK9.out.trans ((Qt.refl _).draw _).kept (by simp)⟩
                              case measure => simp [intOf]; omega
              · go_wp2
                go_roundw
                case rel => exact ⟨b + 1, by omega, by go_num, HQ.out⟩
                case measure => simp [intOf]; omega
          · go_wp2
            go_roundw
            case rel => exact ⟨a + 1, by omega, by go_num, HQ.out⟩
            case measure => simp [intOf]; omega
      · have hla' : a = n := by omega
        subst hla'
        go_wp2_with fail
        refine (alive_any _).mono ?_
        rintro e w9 ⟨rfl, hk⟩
        have HK9 := Lib.hid ((HK2.out.trans HQ.out (by simp)).trans hk (by simp))
        clear hk
        go_wp2
        go_ret
        exact ⟨rfl, HK9.out⟩
  · obtain ⟨bS, capS, rfl, _, _, _⟩ := hs.any
    obtain ⟨bT, capT, rfl, _, _, _⟩ := ht.any
    cases ho : Nt.okB xs
    · clear hs ht hgood
      go_wp2_with fail
      refine (sNetOk_any _ _ _ _ S1.out).mono ?_
      rintro e w31 ⟨rfl, hq⟩
      rw [ho]
      have hk := hq.kept
      have S31 := Lib.hid (S1.out.stay hk)
      have T31 := Lib.hid (T1.out.stay hk)
      have HK31 := Lib.hid (HK.out.trans hk (by simp))
      clear S1 T1 HK
      clear hk hq
      go_wp2_with fail
      refine (alive_any _).mono ?_
      rintro e w32 ⟨rfl, hk⟩
      have S32 := Lib.hid (S31.out.stay hk)
      have T32 := Lib.hid (T31.out.stay hk)
      have HK32 := Lib.hid (HK31.out.trans hk (by simp))
      clear S31 T31 HK31
      clear hk
      go_wp2
      go_ret
      exact ⟨rfl, HK32.out⟩
    · cases ht3 : Nt.stB 3 ys
      · clear hs ht hgood
        go_wp2_with fail
        refine (sNetOk_any _ _ _ _ S1.out).mono ?_
        rintro e w41 ⟨rfl, hq⟩
        rw [ho]
        have hk := hq.kept
        have S41 := Lib.hid (S1.out.stay hk)
        have T41 := Lib.hid (T1.out.stay hk)
        have HK41 := Lib.hid (HK.out.trans hk (by simp))
        clear S1 T1 HK
        clear hk hq
        go_wp2_with fail
        refine (sStateOk_any 3 _ _ _ _ T41.out).mono ?_
        rintro e w' ⟨rfl, rfl⟩
        rw [ht3]
        go_wp2_with fail
        refine (alive_any _).mono ?_
        rintro e w42 ⟨rfl, hk⟩
        have S42 := Lib.hid (S41.out.stay hk)
        have T42 := Lib.hid (T41.out.stay hk)
        have HK42 := Lib.hid (HK41.out.trans hk (by simp))
        clear S41 T41 HK41
        clear hk
        go_wp2
        go_ret
        exact ⟨rfl, HK42.out⟩
      · have hne : ys.length ≠ xs.length := by
          intro h
          obtain ⟨ns, rfl, ok⟩ := Nt.okB_ok ho
          obtain ⟨ks, rfl, st⟩ := Nt.stB3_st ht3
          rw [Nt.nats_length, Nt.nats_length] at h
          exact hgood (Nt.fireB3_yes ok st h)
        have dnn : ((ys.length : Int) != (xs.length : Int)) = true := by simp; omega
        clear hs ht hgood hne
        go_wp2_with fail
        refine (sNetOk_any _ _ _ _ S1.out).mono ?_
        rintro e w41 ⟨rfl, hq⟩
        rw [ho]
        have hk := hq.kept
        have S41 := Lib.hid (S1.out.stay hk)
        have T41 := Lib.hid (T1.out.stay hk)
        have HK41 := Lib.hid (HK.out.trans hk (by simp))
        clear S1 T1 HK
        clear hk hq
        go_wp2_with fail
        refine (sStateOk_any 3 _ _ _ _ T41.out).mono ?_
        rintro e w' ⟨rfl, rfl⟩
        rw [ht3]
        go_wp2_with fail
        refine (alive_any _).mono ?_
        rintro e w42 ⟨rfl, hk⟩
        have S42 := Lib.hid (S41.out.stay hk)
        have T42 := Lib.hid (T41.out.stay hk)
        have HK42 := Lib.hid (HK41.out.trans hk (by simp))
        clear S41 T41 HK41
        clear hk
        go_wp2
        go_ret
        exact ⟨rfl, HK42.out⟩
end Go.Proofs.Ythhnhnfflmmmlaa
