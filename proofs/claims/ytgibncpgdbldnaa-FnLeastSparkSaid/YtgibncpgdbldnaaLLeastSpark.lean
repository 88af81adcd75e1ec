/-
  The law LeastSpark, walked.
-/
import Derived.Test.YtgibncpgdbldnaaDE
import Derived.Test.YtgibncpgdbldnaaL1
import Derived.Test.YtgibncpgdbldnaaZP
import Derived.Test.YtgibncpgdbldnaaZM
import Derived.Test.YtgibncpgdbldnaaPureQV
import Derived.Test.YtgibncpgdbldnaaNC
namespace Go.Proofs.Ytgibncpgdbldnaa
open Go.RowKit

set_option maxHeartbeats 4000000 in
set_option maxRecDepth 100000 in
theorem FnLeastSpark_calls (w : World) (v : Value) (ha : ArgB w v) :
    Calls Try.prog 6 #[v] w fun e w' => e = .returned (.bool true) ∧ Kept [] w w' := by
  have HA := Lib.hid ha
  obtain ⟨a, len, cap, rfl, hlc, hcm, _⟩ := ha
  by_cases hbig : 1048576 < len
  · have hb : (1048576 : Int) < (len : Int) := by omega
    clear hbig
    go_enter Try.func6, Try.ntmps6
    go_wp2
    go_ret
    exact ⟨rfl, Kept.refl _ _⟩
  have hb : ¬ (1048576 : Int) < (len : Int) := by omega
  clear hbig
  go_enter Try.func6, Try.ntmps6
  go_wp2_with fail
  refine (drawLeastSpark_any _ _ HA.out).mono ?_
  rintro e w1 ⟨u, xs, v2, nds, rfl, hs, hd, _, _, hk⟩
  have S1 := Lib.hid hs
  have D1 := Lib.hid hd
  have HK := Lib.hid hk
  clear hk
  cases h1 : Nt.ndB xs nds
  · have HB := Lib.hid h1
    have HV := Lib.hid (Nt.sparkOf_no h1)
    clear h1 hb
    obtain ⟨bS, capS, rfl, _, _, _⟩ := hs.any
    obtain ⟨bD, capD, rfl, _, _, _⟩ := hd.any
    clear hs hd
    go_wp2_with fail
    refine (iSpark_any _ _ _ _ _ _ _ S1.out D1.out).mono ?_
    rintro e w2 ⟨rfl, hk⟩
    rw [HV.out]
    have S2 := Lib.hid (S1.out.stay hk)
    have D2 := Lib.hid (D1.out.stay hk)
    have HK2 := Lib.hid (HK.out.trans hk (by simp))
    clear S1 D1 HK
    clear hk
    go_wp2_with fail
    refine (sSpark_any _ _ _ _ _ _ _ S2.out D2.out).mono ?_
    rintro e w3 ⟨rfl, hq⟩
    rw [HV.out]
    have hk := hq.kept
    have S3 := Lib.hid (S2.out.stay hk)
    have D3 := Lib.hid (D2.out.stay hk)
    have HK3 := Lib.hid (HK2.out.trans hk (by simp))
    clear S2 D2 HK2
    clear hk hq
    go_wp2_with fail
    refine (iNeedsOk_any _ _ _ _ _ _ _ S3.out D3.out).mono ?_
    rintro e w4 ⟨rfl, hk⟩
    rw [HB.out]
    have S4 := Lib.hid (S3.out.stay hk)
    have D4 := Lib.hid (D3.out.stay hk)
    have HK4 := Lib.hid (HK3.out.trans hk (by simp))
    clear S3 D3 HK3
    clear hk
    go_wp2_with fail
    refine (alive_any _).mono ?_
    rintro e w5 ⟨rfl, hk⟩
    have S5 := Lib.hid (S4.out.stay hk)
    have D5 := Lib.hid (D4.out.stay hk)
    have HK5 := Lib.hid (HK4.out.trans hk (by simp))
    clear S4 D4 HK4
    clear hk
    go_wp2
    go_ret
    exact ⟨rfl, HK5.out⟩
  · obtain ⟨ns, nd, rfl, rfl, ok, hn⟩ := Nt.ndB_ok h1
    obtain ⟨n, hnn⟩ : ∃ n, n = ns.length := ⟨_, rfl⟩
    have hp : 0 < n := by have := ok.some; omega
    have h6n : n ≤ 6 := by have := ok.few; omega
    have hsp := Nt.spark_of ns nd
    have hpl : (Nt.parts ns).length = n := by rw [Nt.parts_length ok, hnn]
    have HV := Lib.hid (Nt.sparkOf_ok ok hn)
    have HS1 : Hid (Nt.sprOf (Nt.nats ns) (Nt.nats nd) ((Nt.sparkTo ns nd (2 ^ ns.length) : Nat) : Int) = ((2 ^ n - 1 : Nat) : Int)) := Lib.hid (by rw [Nt.sprOf_ok ok hn hsp.lt, hsp.all, hnn]; rfl)
    have HLE : Hid (∀ k, k < n → (Nt.sparkTo ns nd (2 ^ ns.length)).testBit k = true → 2 ^ k ≤ Nt.sparkTo ns nd (2 ^ ns.length) ∧ ∃ l : Nat, Nt.sprOf (Nt.nats ns) (Nt.nats nd) ((Nt.sparkTo ns nd (2 ^ ns.length) - 2 ^ k : Nat) : Int) = (l : Int) ∧ l ≠ 2 ^ n - 1) := Lib.hid (fun k hk hb => by
      obtain ⟨h1, h2⟩ := Nt.spark_drop (by omega) hsp (k := k) (by omega) hb
      refine ⟨h1, _, Nt.sprOf_ok ok hn (Nat.lt_of_le_of_lt (Nat.sub_le _ _) hsp.lt), ?_⟩
      rw [hnn]; exact h2)
    have HV1 : Hid (Nt.sparkOf (Nt.nats ns) (Nt.nats (Nt.ones n)) = ((Nt.sparkTo ns (Nt.ones n) (2 ^ n) : Nat) : Int)) := Lib.hid (by rw [hnn]; exact Nt.sparkOf_ok ok (Nt.Nd.ones ns))
    have HCNT : Hid (Nt.popTo (Nt.sparkTo ns (Nt.ones n) (2 ^ n)) n = Nt.repTo (Nt.parts ns) n) := Lib.hid (by rw [hnn]; exact Nt.spark_count ok)
    have HPO := Lib.hid (Nt.partsOf_ok ok)
    have HPL := Lib.hid hpl
    have HPT : Hid (∀ k, k < n → (Nt.parts ns).getD k 0 < n) := Lib.hid (fun k hk => by have := Nt.parts_le ok (a := k) (by omega); omega)
    have HRS : Hid (∀ k, Nt.repTo (Nt.parts ns) (k + 1) = Nt.repTo (Nt.parts ns) k + if (Nt.parts ns).getD k 0 = k then 1 else 0) := Lib.hid (fun k => Nt.repTo_succ _ k)
    have HRL := Lib.hid (fun k => Nt.repTo_le (Nt.parts ns) k)
    have HR0 : Hid (Nt.repTo (Nt.parts ns) 0 = 0) := Lib.hid rfl
    have HPS : Hid (∀ a k, Nt.popTo a (k + 1) = Nt.popTo a k + if a.testBit k = true then 1 else 0) := Lib.hid (fun _ _ => rfl)
    have HPB := Lib.hid (fun a k => Nt.popTo_le a k)
    have h64 : 2 ^ n ≤ 64 := Nt.pow_le h6n
    have h1n : 1 ≤ 2 ^ n := Nat.two_pow_pos n
    have HSL1 : Hid (Nt.sparkTo ns nd (2 ^ ns.length) < 64) := Lib.hid (Nat.lt_of_lt_of_le hsp.lt (by rw [← hnn]; exact h64))
    have EP : Hid (wrap64 (2 ^ n) = ((2 ^ n : Nat) : Int)) := Lib.hid (pow_is n h6n)
    obtain ⟨top, htop⟩ : ∃ top, top = 2 ^ n := ⟨_, rfl⟩
    rw [← htop] at EP HS1 HLE h64 h1n
    obtain ⟨f, hf⟩ : ∃ f, f = top - 1 := ⟨_, rfl⟩
    rw [← hf] at HS1 HLE
    have E23 := Lib.hid (pred_wrap top f (by omega) (by omega))
    obtain ⟨gS, capS, rfl, _, _⟩ := hs.row (n := n) hnn.symm hp
    obtain ⟨gD, capD, rfl, _, _⟩ := hd.row (n := n) (by rw [hn.len, hnn]) hp
    clear hs hd h1 hb ok hn hnn hsp hpl htop hf h64 h1n
    generalize Nt.sparkTo ns nd (2 ^ ns.length) = s at *
    generalize Nt.sparkTo ns (Nt.ones n) (2 ^ n) = s1 at *
    generalize Nt.sprN (Nt.nats ns) (Nt.nats nd) (s : Int) = y at *
    have d0 : decide ((s : Int) < 0) = false := decide_eq_false (by omega)
    have d1 : ((s : Int) != (s : Int)) = false := by simp
    have dnn : ((n : Int) == (n : Int)) = true := beq_self_eq_true _
    have dff : ((f : Int) == (f : Int)) = true := beq_self_eq_true _
    go_wp2_with fail
    refine (iSpark_any _ _ _ _ _ _ _ S1.out D1.out).mono ?_
    rintro e w2 ⟨rfl, hk⟩
    rw [HV.out]
    have S2 := Lib.hid (S1.out.stay hk)
    have D2 := Lib.hid (D1.out.stay hk)
    have HK2 := Lib.hid (HK.out.trans hk (by simp))
    clear S1 D1 HK
    clear hk
    go_wp2_with fail
    refine (sSpark_any _ _ _ _ _ _ _ S2.out D2.out).mono ?_
    rintro e w3 ⟨rfl, hq⟩
    rw [HV.out]
    have hk := hq.kept
    have S3 := Lib.hid (S2.out.stay hk)
    have D3 := Lib.hid (D2.out.stay hk)
    have HK3 := Lib.hid (HK2.out.trans hk (by simp))
    clear S2 D2 HK2
    clear hk hq
    have ep := EP.out
    obtain ⟨e2, e3⟩ := E23.out
    go_wp2_with fail
    refine (iSpread_any _ _ _ _ _ _ _ _ S3.out D3.out).mono ?_
    rintro e w4 ⟨rfl, hk⟩
    rw [HS1.out]
    have S4 := Lib.hid (S3.out.stay hk)
    have D4 := Lib.hid (D3.out.stay hk)
    have HK4 := Lib.hid (HK3.out.trans hk (by simp))
    clear S3 D3 HK3
    clear hk
    clear e2 e3
    have hka : Kept [] w4 (w4.alloc (.cells #[] 3)) := (Kept.refl [] w4).alloc _
    have SB := Lib.hid (S4.out.stay hka)
    have HQ0 : Hid (Sl (w4.alloc (.cells #[] 3)) w4.heap.size (.slice (some ⟨w4.heap.size, 0, none⟩) 0 0) (Nt.nats (Nt.ones 0))) := Lib.hid (Sl.empty3 w4)
    go_wp2_with fail
    clear ep
    refine (iParts_any _ _ _ _ SB.out).mono ?_
    rintro e wb ⟨uP, rfl, hs, hk⟩
    rw [HPO.out] at hs
    have hbP := fun g (hg : uP.ownBlock = some g) => (hs.block hg).1
    obtain ⟨gP, capP, rfl, hgP, hcP⟩ := hs.row HPL.out hp
    have hbg : w4.heap.size < gP := by have := hbP gP rfl; simp at this; omega
    have HBG := Lib.hid hbg
    have HGP := Lib.hid hgP
    have CP := Lib.hid hcP
    have HQ1 := Lib.hid (HQ0.out.stay hk)
    have HKB := Lib.hid (hka.trans hk (by simp))
    clear hka hs hk hbP hbg hgP hcP SB HQ0
    go_wp2_with fail
    go_loopw [9, 10, 12] (fun u r i wr => ∃ k : Nat, k ≤ n ∧ i = .int .i64 k ∧ r = .int .i64 ((Nt.repTo (Nt.parts ns) k : Nat) : Int) ∧ Sl wr w4.heap.size u (Nt.nats (Nt.ones k)) ∧ Kept [] w4 wr ∧ Kept [w4.heap.size] wb wr ∧ (∀ g, u.ownBlock = some g → g = w4.heap.size ∨ wb.heap.size ≤ g)) (fun _ _ i _ => n - (intOf i).toNat)
    case atStart => exact ⟨0, Nat.zero_le _, rfl, rfl, HQ1.out, HKB.out, Kept.refl _ _, fun g hg => by simp [Value.ownBlock] at hg; exact .inl hg.symm⟩
    case round =>
      clear HQ1 HKB
      obtain ⟨k, hk, rfl, rfl, hsl, hkept, hkw, hblk⟩ := hrel
      have HSL := Lib.hid hsl
      have HK9 := Lib.hid hkept
      have HKW := Lib.hid hkw
      have HBL := Lib.hid hblk
      have hsz := hkept.size
      by_cases hlt : k < n
      · have hbg := HBG.out
        have hgp := HGP.out
        have hgw : gP < wr.heap.size := Nat.lt_of_lt_of_le hgp hkw.size
        have cP := (hkw.cell (p := ⟨gP, k, none⟩) hgp (by simp; omega)).trans (CP.out k hlt)
        have hpt := HPT.out k hlt
        have HRN := Lib.hid (HRS.out k)
        have hrl := HRL.out k
        have HL : Hid ((Nt.nats (Nt.ones k)).length ≤ 1000000) := Lib.hid (by rw [Nt.nats_length, Nt.ones_length]; omega)
        have p1 := shr_nonneg s k
        have e1 := shr_rem s k
        have HLK := Lib.hid (HLE.out k hlt)
        have hpk : (2 : Nat) ^ k ≤ 2 ^ 6 := Nat.pow_le_pow_right (by omega) (by omega)
        have EPK := Lib.hid (pow_is k (by omega))
        have hs64 := HSL1.out
        clear hsl hkept hkw hblk
        generalize (Nt.parts ns).getD k 0 = q at *
        generalize Nt.repTo (Nt.parts ns) k = r at *
        have HOWN : Hid (∀ wx u', Kept u'.ownBlock.toList wr wx → u' = u9 → Kept [] w4 wx ∧ Kept [w4.heap.size] wb wx ∧ wx.cell? ⟨gP, k, none⟩ = some (.int .i64 (q : Int))) := Lib.hid (fun wx u' hkx hu => by
          subst hu
          refine ⟨HK9.out.own hkx (fun g hg => (HSL.out.block hg).1), HKW.out.trans hkx (fun x hx => by
            rcases HBL.out x (by simpa using hx) with h | h
            · exact .inl (by simp [h])
            · exact .inr h), ?_⟩
          exact (hkx.cell (p := ⟨gP, k, none⟩) hgw (fun hm => by
            have hm2 : u'.ownBlock = some gP := by simpa using hm
            rcases HBL.out gP hm2 with h | h <;> omega)).trans cP)
        by_cases hq : q = k
        · cases hb : s.testBit k
          · have dq : ((q : Int) == (k : Int)) = true := by rw [hq]; exact beq_self_eq_true _
            have HY : Hid (Nt.repTo (Nt.parts ns) (k + 1) = r + 1) := Lib.hid (by rw [HRN.out, if_pos hq])
            rw [hb] at e1
            simp only [Bool.false_eq_true, if_false] at e1
            clear hq hb HRN HLK cP 
            go_wp2_with (at_builtin; refine app_int_at _ rfl _ _ rfl w4.heap.size _ _ HSL.out rfl rfl HL.out (by omega) ?_; intro u' wx hsx hkx hbx; obtain ⟨hk5, hk6, cPx⟩ := HOWN.out wx _ hkx rfl; have HSX := Lib.hid hsx; have HK5 := Lib.hid hk5; have HK6 := Lib.hid hk6; have HBX := Lib.hid hbx; clear hsx hkx hbx hk5 hk6)
            go_roundw
            case rel => exact ⟨k + 1, by omega, by go_num, by rw [HY.out]; go_num, HSX.out.val rfl (Nt.ones_more k), HK5.out, HK6.out, fun g hg => by
              rcases HBX.out g hg with h | h
              · exact HBL.out g h
              · exact .inr (Nat.le_trans HKW.out.size h)⟩
            case measure => simp [intOf]; omega
          · have dq : ((q : Int) == (k : Int)) = true := by rw [hq]; exact beq_self_eq_true _
            have HY : Hid (Nt.repTo (Nt.parts ns) (k + 1) = r + 1) := Lib.hid (by rw [HRN.out, if_pos hq])
            rw [hb] at e1
            simp only [if_true] at e1
            obtain ⟨h2k, l, hl1, hl2⟩ := HLK.out hb
            have HL1 := Lib.hid hl1
            have dl : ((l : Int) == (f : Int)) = false := beq_eq_false_iff_ne.2 (by omega)
            have E6 := Lib.hid (sub_wrap s (2 ^ k) h2k (by omega))
            have epk := EPK.out
            have e6 := E6.out
            generalize 2 ^ k = pk at *
            generalize s - pk = sd at *
            clear hq hb HRN HLK cP hl1 hl2 h2k
            go_wp2_with (at_builtin; refine app_int_at _ rfl _ _ rfl w4.heap.size _ _ HSL.out rfl rfl HL.out (by omega) ?_; intro u' wx hsx hkx hbx; obtain ⟨hk5, hk6, cPx⟩ := HOWN.out wx _ hkx rfl; have HSX := Lib.hid hsx; have HK5 := Lib.hid hk5; have HK6 := Lib.hid hk6; have HBX := Lib.hid hbx; clear hsx hkx hbx hk5 hk6)
            refine (iSpread_any _ _ _ _ _ _ _ _ (S4.out.stay HK5.out) (D4.out.stay HK5.out)).mono ?_
            rintro e wy ⟨rfl, hky⟩
            rw [HL1.out]
            have HSY := Lib.hid (HSX.out.stay hky)
            have HK7 := Lib.hid (HK5.out.trans hky (by simp))
            have HK8 := Lib.hid (HK6.out.trans hky (by simp))
            clear hky
            generalize Nt.sprN (Nt.nats ns) (Nt.nats nd) (sd : Int) = y5 at *
            go_wp2
            go_roundw
            case rel => exact ⟨k + 1, by omega, by go_num, by rw [HY.out]; go_num, HSY.out.val rfl (Nt.ones_more k), HK7.out, HK8.out, fun g hg => by
              rcases HBX.out g hg with h | h
              · exact HBL.out g h
              · exact .inr (Nat.le_trans HKW.out.size h)⟩
            case measure => simp [intOf]; omega
        · cases hb : s.testBit k
          · have dq : ((q : Int) == (k : Int)) = false := beq_eq_false_iff_ne.2 (by omega)
            have HY : Hid (Nt.repTo (Nt.parts ns) (k + 1) = r) := Lib.hid (by rw [HRN.out, if_neg hq, Nat.add_zero])
            rw [hb] at e1
            simp only [Bool.false_eq_true, if_false] at e1
            clear hq hb HRN HLK cP 
            go_wp2_with (at_builtin; refine app_int_at _ rfl _ _ rfl w4.heap.size _ _ HSL.out rfl rfl HL.out (by omega) ?_; intro u' wx hsx hkx hbx; obtain ⟨hk5, hk6, cPx⟩ := HOWN.out wx _ hkx rfl; have HSX := Lib.hid hsx; have HK5 := Lib.hid hk5; have HK6 := Lib.hid hk6; have HBX := Lib.hid hbx; clear hsx hkx hbx hk5 hk6)
            go_roundw
            case rel => exact ⟨k + 1, by omega, by go_num, by rw [HY.out], HSX.out.val rfl (Nt.ones_more k), HK5.out, HK6.out, fun g hg => by
              rcases HBX.out g hg with h | h
              · exact HBL.out g h
              · exact .inr (Nat.le_trans HKW.out.size h)⟩
            case measure => simp [intOf]; omega
          · have dq : ((q : Int) == (k : Int)) = false := beq_eq_false_iff_ne.2 (by omega)
            have HY : Hid (Nt.repTo (Nt.parts ns) (k + 1) = r) := Lib.hid (by rw [HRN.out, if_neg hq, Nat.add_zero])
            rw [hb] at e1
            simp only [if_true] at e1
            obtain ⟨h2k, l, hl1, hl2⟩ := HLK.out hb
            have HL1 := Lib.hid hl1
            have dl : ((l : Int) == (f : Int)) = false := beq_eq_false_iff_ne.2 (by omega)
            have E6 := Lib.hid (sub_wrap s (2 ^ k) h2k (by omega))
            have epk := EPK.out
            have e6 := E6.out
            generalize 2 ^ k = pk at *
            generalize s - pk = sd at *
            clear hq hb HRN HLK cP hl1 hl2 h2k
            go_wp2_with (at_builtin; refine app_int_at _ rfl _ _ rfl w4.heap.size _ _ HSL.out rfl rfl HL.out (by omega) ?_; intro u' wx hsx hkx hbx; obtain ⟨hk5, hk6, cPx⟩ := HOWN.out wx _ hkx rfl; have HSX := Lib.hid hsx; have HK5 := Lib.hid hk5; have HK6 := Lib.hid hk6; have HBX := Lib.hid hbx; clear hsx hkx hbx hk5 hk6)
            refine (iSpread_any _ _ _ _ _ _ _ _ (S4.out.stay HK5.out) (D4.out.stay HK5.out)).mono ?_
            rintro e wy ⟨rfl, hky⟩
            rw [HL1.out]
            have HSY := Lib.hid (HSX.out.stay hky)
            have HK7 := Lib.hid (HK5.out.trans hky (by simp))
            have HK8 := Lib.hid (HK6.out.trans hky (by simp))
            clear hky
            generalize Nt.sprN (Nt.nats ns) (Nt.nats nd) (sd : Int) = y5 at *
            go_wp2
            go_roundw
            case rel => exact ⟨k + 1, by omega, by go_num, by rw [HY.out], HSY.out.val rfl (Nt.ones_more k), HK7.out, HK8.out, fun g hg => by
              rcases HBX.out g hg with h | h
              · exact HBL.out g h
              · exact .inr (Nat.le_trans HKW.out.size h)⟩
            case measure => simp [intOf]; omega
      · have hk' : n = k := by omega
        subst hk'
        have hQQ := HSL.out
        obtain ⟨gQ, capQ, rfl, _, _⟩ := hQQ.shape (n := n) (by rw [Nt.nats_length, Nt.ones_length]) hp
        have NQ := Lib.hid hQQ
        have S9 := Lib.hid (S4.out.stay HK9.out)
        have KQ := Lib.hid (HK4.out.trans HK9.out (by simp))
        clear hlt hsz HSL HK9 HKW HBL hsl hkept hkw hblk hQQ
        rw [← HCNT.out]
        go_wp2_with fail
        refine (iSpark_any _ _ _ _ _ _ _ S9.out NQ.out).mono ?_
        rintro e w61 ⟨rfl, hk⟩
        rw [HV1.out]
        have S61 := Lib.hid (S9.out.stay hk)
        have Q61 := Lib.hid (NQ.out.stay hk)
        have HK61 := Lib.hid (KQ.out.trans hk (by simp))
        clear S9 NQ KQ
        clear hk
        go_wp2_with fail
        go_loop [16, 17] (fun m i => ∃ k : Nat, k ≤ n ∧ i = .int .i64 k ∧ m = .int .i64 ((Nt.popTo s1 k : Nat) : Int)) (fun _ i => n - (intOf i).toNat)
        case atStart => exact ⟨0, Nat.zero_le _, rfl, rfl⟩
        case round =>
          obtain ⟨k, hk, rfl, rfl⟩ := hrel
          by_cases hlt : k < n
          · have HPN := Lib.hid (HPS.out s1 k)
            have hpb := HPB.out s1 k
            have p1 := shr_nonneg s1 k
            have e1 := shr_rem s1 k
            have hmx : max (s1 : Int) 0 = (s1 : Int) := by omega
            generalize Nt.popTo s1 k = m at *
            cases hb : s1.testBit k
            · rw [hb] at e1
              simp only [Bool.false_eq_true, if_false] at e1
              have HY : Hid (Nt.popTo s1 (k + 1) = m) := Lib.hid (by rw [HPN.out, hb]; rfl)
              clear hb HPN
              go_wp2
              all_goals go_round
              all_goals first | exact ⟨k + 1, by omega, by go_num, by rw [HY.out]⟩ | (simp [intOf]; omega)
            · rw [hb] at e1
              simp only [if_true] at e1
              have HY : Hid (Nt.popTo s1 (k + 1) = m + 1) := Lib.hid (by rw [HPN.out, hb]; rfl)
              clear hb HPN
              go_wp2
              all_goals go_round
              all_goals first | exact ⟨k + 1, by omega, by go_num, by rw [HY.out]; go_num⟩ | (simp [intOf]; omega)
          · have hk' : n = k := by omega
            subst hk'
            have dmm : ((Nt.popTo s1 n : Nat) : Int) = ((Nt.popTo s1 n : Nat) : Int) := rfl
            clear dmm
            go_wp2
            go_ret
            exact ⟨by simp, HK61.out⟩
end Go.Proofs.Ytgibncpgdbldnaa
