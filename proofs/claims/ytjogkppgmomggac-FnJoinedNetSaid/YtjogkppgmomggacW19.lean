/-
  Walks: two nets side by side, by the model.
-/
import Derived.Test.YtjogkppgmomggacW18
namespace Go.Proofs.Ytjogkppgmomggac
open Go.RowKit

set_option maxHeartbeats 2000000 in
theorem sJoined_any (xs ys : List Int) (w : World) (v u : Value) (base base' : Nat) (hs : Sl w base v xs) (ht : Sl w base' u ys) :
    Calls Try.prog 19 #[v, u] w fun e w' => ∃ z, e = .returned (.tuple #[z, .bool (Nt.canJoin xs ys)]) ∧ Sl w' w.heap.size z (Nt.joinedL xs ys) ∧ Kept [] w w' := by
  have HS := Lib.hid hs
  have HT := Lib.hid ht
  obtain ⟨a, cap, rfl, _, hlm, _⟩ := hs.any
  obtain ⟨b, cap', rfl, _, hlm', _⟩ := ht.any
  by_cases ho : Nt.okB xs = true
  · by_cases ho2 : Nt.okB ys = true
    · obtain ⟨ms, hxs, hok⟩ := Nt.okB_ok ho
      obtain ⟨bs, hys, hok2⟩ := Nt.okB_ok ho2
      have hlx : xs.length = ms.length := by rw [hxs, Nt.nats_length]
      have hly : ys.length = bs.length := by rw [hys, Nt.nats_length]
      have hp1 := hok.some
      have hp2 := hok2.some
      have hf1 := hok.few
      have hf2 := hok2.few
      by_cases hl : xs.length + ys.length ≤ 6
      · have hcj : Nt.canJoin xs ys = true := by rw [hxs, hys]; exact Nt.canJoin_yes hok hok2 (by omega)
        have hjl : Nt.joinedL xs ys = xs ++ Nt.nats (bs.map (· * 2 ^ xs.length)) := by
          rw [hlx, hxs, hys]
          exact Nt.joinedL_yes (by rw [← hxs, ← hys]; exact hcj)
        have HCJ := Lib.hid hcj
        have HJL := Lib.hid hjl
        have HLY := Lib.hid hly
        have HFIT := Lib.hid (fun k (hk : k < bs.length) => Nt.shl_fit (n := xs.length) (hok2.fit k hk) (by omega))
        have HYS := Lib.hid hys
        obtain ⟨g2, cap2, hb2, _, hg2⟩ := ht.shape rfl (by omega)
        simp only [Value.slice.injEq, true_and] at hb2
        obtain ⟨rfl, rfl⟩ := hb2
        have HC := Lib.hid (fun k (hk : k < ys.length) => (ht.at k hk).1)
        have l1x : 0 < xs.length := by omega
        clear hs ht hcj hjl hxs hys hok hok2 hlx hly
        go_enter Try.func19, Try.ntmps19
        go_wp2_with fail
        refine (sNetOk_any xs _ _ base HS.out).mono ?_
        rintro e w1 ⟨rfl, hq⟩
        have HQ := Lib.hid hq
        clear hq
        go_wp2_with fail
        refine (sNetOk_any ys _ _ base' (HQ.out.sl HT.out)).mono ?_
        rintro e w2 ⟨rfl, hq⟩
        have HQ2 := Lib.hid (HQ.out.trans hq)
        clear hq
        have he2 : Sl (w2.alloc (.cells #[] 3)) w.heap.size (.slice (some ⟨w2.heap.size, 0, none⟩) 0 0) [] := (Sl.empty2 w2).mono (by rw [HQ2.out.heap]; exact Nat.le_refl _)
        have hx2 : Sl (w2.alloc (.cells #[] 3)) base (.slice a xs.length cap) xs := HS.out.stay (HQ2.out.kept.alloc _)
        have hz2 : w.heap.size ≤ (w2.alloc (.cells #[] 3)).heap.size := (HQ2.out.kept.alloc _).size
        have HE2 := Lib.hid he2
        have HX2 := Lib.hid hx2
        have HZ2 := Lib.hid hz2
        clear he2 hx2 hz2
        go_wp2_with (at_builtin; refine app_sl rfl _ _ rfl w.heap.size _ [] HE2.out rfl base _ xs HX2.out l1x rfl (by simp; omega) HZ2.out ?_; intro z1 w3 hs2 hk2; have HS2 := Lib.hid hs2; have HK2 := Lib.hid ((HQ2.out.kept.alloc _).own hk2 (fun g hg => (HE2.out.block hg).1)); clear hs2 hk2)
        go_loopw [6, 7] (fun z i wr => ∃ k : Nat, k ≤ ys.length ∧ i = .int .i64 k ∧ Sl wr w.heap.size z (xs ++ Nt.nats ((bs.map (· * 2 ^ xs.length)).take k)) ∧ Kept [] w wr) (fun _ i _ => ys.length - (intOf i).toNat)
        case atStart => exact ⟨0, Nat.zero_le _, rfl, by simpa [Nt.nats] using HS2.out, HK2.out⟩
        case round =>
          clear HS2 HK2 HE2 HX2 HZ2
          obtain ⟨k, hk, rfl, hsl, hkept⟩ := hrel
          have HSL := Lib.hid hsl
          have HK := Lib.hid hkept
          have hsz := hkept.size
          by_cases hlt : k < ys.length
          · have hcell := (hkept.cell (p := ⟨g2, k, none⟩) hg2 (by simp)).trans (HC.out k hlt)
            have hbk : k < bs.length := by rw [← HLY.out]; exact hlt
            have hfit := HFIT.out k hbk
            have hget : ys.getD k 0 = ((bs.getD k 0 : Nat) : Int) := by rw [HYS.out, Nt.nats_get]
            rw [hget] at hcell
            have HM := Lib.hid (Nt.joined_more bs xs.length k hbk)
            have e1 := shl_nat hfit
            have hl2 : (xs ++ Nt.nats ((bs.map (· * 2 ^ xs.length)).take k)).length ≤ 1000000 := by
              rw [List.length_append, Nt.nats_length, List.length_take]; omega
            have HL2 := Lib.hid hl2
            clear hsl hkept hfit hget hl2
            generalize bs.getD k 0 = x at *
            go_wp2_with (at_builtin; refine app_int _ rfl _ _ rfl w.heap.size _ _ HSL.out rfl rfl HL2.out hsz ?_; intro z1 w4 hs3 hk3; have HS3 := Lib.hid hs3; have HK3 := Lib.hid hk3; clear hs3 hk3)
            go_roundw
            case rel => exact ⟨k + 1, by omega, by go_num, by have h := HS3.out; rw [List.append_assoc] at h; rw [HM.out]; exact h, HK.out.own HK3.out (fun g hg => (HSL.out.block hg).1)⟩
            case measure => simp [intOf]; omega
          · have hk' : k = ys.length := by omega
            subst hk'
            clear hsl hkept
            go_wp2
            go_ret2
            refine ⟨_, by rw [HCJ.out]; rfl, ?_, HK.out⟩
            have h := HSL.out
            rw [List.take_of_length_le (by rw [List.length_map, HLY.out]; exact Nat.le_refl _)] at h
            rw [HJL.out]
            exact h
      · have HCJ := Lib.hid (Nt.canJoin_no3 hl)
        have hsum : (6 : Int) < (xs.length : Int) + (ys.length : Int) := by omega
        have h6x : xs.length ≤ 6 := by omega
        have h6y : ys.length ≤ 6 := by omega
        clear hs ht hl hxs hys hok hok2 hlx hly hp1 hp2 hf1 hf2
        go_enter Try.func19, Try.ntmps19
        go_wp2_with fail
        refine (sNetOk_any xs _ _ base HS.out).mono ?_
        rintro e w1 ⟨rfl, hq⟩
        have HQ := Lib.hid hq
        clear hq
        go_wp2_with fail
        refine (sNetOk_any ys _ _ base' (HQ.out.sl HT.out)).mono ?_
        rintro e w2 ⟨rfl, hq⟩
        have HQ2 := Lib.hid (HQ.out.trans hq)
        clear hq
        go_wp2
        go_ret2
        exact ⟨_, by rw [HCJ.out]; rfl, by rw [Nt.joinedL_no HCJ.out]; exact (Sl.empty2 w2).mono (by rw [HQ2.out.heap]; exact Nat.le_refl _), HQ2.out.kept.alloc _⟩
    · have ho2' : Nt.okB ys = false := by simpa using ho2
      have HCJ := Lib.hid (Nt.canJoin_no2 (xs := xs) ho2')
      clear hs ht ho2
      go_enter Try.func19, Try.ntmps19
      go_wp2_with fail
      refine (sNetOk_any xs _ _ base HS.out).mono ?_
      rintro e w1 ⟨rfl, hq⟩
      have HQ := Lib.hid hq
      clear hq
      go_wp2_with fail
      refine (sNetOk_any ys _ _ base' (HQ.out.sl HT.out)).mono ?_
      rintro e w2 ⟨rfl, hq⟩
      have HQ2 := Lib.hid (HQ.out.trans hq)
      clear hq
      go_wp2
      go_ret2
      exact ⟨_, by rw [HCJ.out]; rfl, by rw [Nt.joinedL_no HCJ.out]; exact (Sl.empty2 w2).mono (by rw [HQ2.out.heap]; exact Nat.le_refl _), HQ2.out.kept.alloc _⟩
  · have ho' : Nt.okB xs = false := by simpa using ho
    have HCJ := Lib.hid (Nt.canJoin_no1 (ys := ys) ho')
    clear hs ht ho
    go_enter Try.func19, Try.ntmps19
    go_wp2_with fail
    refine (sNetOk_any xs _ _ base HS.out).mono ?_
    rintro e w1 ⟨rfl, hq⟩
    have HQ := Lib.hid hq
    clear hq
    go_wp2
    go_ret2
    exact ⟨_, by rw [HCJ.out]; rfl, by rw [Nt.joinedL_no HCJ.out]; exact (Sl.empty2 w1).mono (by rw [HQ.out.heap]; exact Nat.le_refl _), HQ.out.kept.alloc _⟩
end Go.Proofs.Ytjogkppgmomggac
