/-
  Walks: two nets side by side.
-/
import Derived.Test.YtjogkppgmomggacW6
import Derived.Test.YtjogkppgmomggacOpsB
import Derived.Test.YtjogkppgmomggacPureB
namespace Go.Proofs.Ytjogkppgmomggac
open Go.RowKit

theorem Sl.empty2 (w : World) : Sl (w.alloc (.cells #[] 3)) w.heap.size (.slice (some ⟨w.heap.size, 0, none⟩) 0 0) [] := Sl.lit w [] (by simp)

theorem shl_nat {x n : Nat} (h : x * 2 ^ n < 64) : wrap64 ((x : Int) * 2 ^ n) = ((x * 2 ^ n : Nat) : Int) := by
  have e : (x : Int) * 2 ^ n = ((x * 2 ^ n : Nat) : Int) := by simp
  rw [e]
  exact IntWalk.wrap64_in _ (by omega)

set_option maxHeartbeats 2000000 in
theorem iJoined_any (xs ys : List Int) (w : World) (v u : Value) (base base' : Nat) (hs : Sl w base v xs) (ht : Sl w base' u ys) :
    Calls Try.prog 18 #[v, u] w fun e w' => ∃ z, e = .returned (.tuple #[z, .bool (Nt.canJoin xs ys)]) ∧ Sl w' w.heap.size z (Nt.joinedL xs ys) ∧ Kept [] w w' := by
  have HS := Lib.hid hs
  have HT := Lib.hid ht
  obtain ⟨a, cap, rfl, _, hlm, _⟩ := hs.any
  obtain ⟨b, cap', rfl, _, hlm', _⟩ := ht.any
  by_cases ho : Nt.okB xs = true
  · by_cases ho2 : Nt.okB ys = true
    · by_cases hl : xs.length + ys.length ≤ 6
      · obtain ⟨ms, hxs, hok⟩ := Nt.okB_ok ho
        obtain ⟨bs, hys, hok2⟩ := Nt.okB_ok ho2
        have hlx : xs.length = ms.length := by rw [hxs, Nt.nats_length]
        have hly : ys.length = bs.length := by rw [hys, Nt.nats_length]
        have hp1 := hok.some
        have hp2 := hok2.some
        have hcj : Nt.canJoin xs ys = true := by rw [hxs, hys]; exact Nt.canJoin_yes hok hok2 (by omega)
        have hjl : Nt.joinedL xs ys = xs ++ Nt.nats (bs.map (· * 2 ^ xs.length)) := by
          rw [hlx, hxs, hys]
          exact Nt.joinedL_yes (by rw [← hxs, ← hys]; exact hcj)
        have HCJ := Lib.hid hcj
        have HJL := Lib.hid hjl
        have HLY := Lib.hid hly
        have HFIT := Lib.hid (fun k (hk : k < bs.length) => Nt.shl_fit (n := xs.length) (hok2.fit k hk) (by omega))
        have HYS := Lib.hid hys
        obtain ⟨g2, cap2, hb2, _, hg2⟩ := ht.shape rfl (by omega)
        simp only [Value.slice.injEq, true_and] at hb2
        obtain ⟨rfl, rfl⟩ := hb2
        have HC := Lib.hid (fun k (hk : k < ys.length) => (ht.at k hk).1)
        have l1x : 0 < xs.length := by omega
        clear hs ht hcj hjl hxs hys hok hok2 hlx hly
        go_enter Try.func18, Try.ntmps18
        go_wp2_with (first | (go_at_call 14; first | ((with_reducible refine (iNetOk_any xs _ _ base HS.out).mono ?_); rintro e w' ⟨rfl, rfl⟩) | ((with_reducible refine (iNetOk_any ys _ _ base' HT.out).mono ?_); rintro e w' ⟨rfl, rfl⟩)) | (at_make; refine make0_int w (xs.length + ys.length) rfl _ _ rfl rfl _ rfl (by omega) (by omega) ?_; intro w1 hs1 hk1 _; have HS1 := Lib.hid hs1; have HK1 := Lib.hid hk1; clear hs1 hk1) | (at_builtin; refine app_sl rfl _ _ rfl w.heap.size _ [] HS1.out rfl base _ xs (HS.out.stay HK1.out) l1x rfl (by simp; omega) HK1.out.size ?_; intro z1 w2 hs2 hk2; have HS2 := Lib.hid hs2; have HK2 := Lib.hid (HK1.out.own hk2 (fun g hg => by simp [Value.ownBlock] at hg; omega)); clear hs2 hk2))
        go_loopw [6, 36] (fun z i wr => ∃ k : Nat, k ≤ ys.length ∧ i = .int .i64 k ∧ Sl wr w.heap.size z (xs ++ Nt.nats ((bs.map (· * 2 ^ xs.length)).take k)) ∧ Kept [] w wr) (fun _ i _ => ys.length - (intOf i).toNat)
        case atStart => exact ⟨0, Nat.zero_le _, rfl, by simpa [Nt.nats] using HS2.out, HK2.out⟩
        case round =>
          clear HS2 HK2 HS1 HK1
          obtain ⟨k, hk, rfl, hsl, hkept⟩ := hrel
          have HSL := Lib.hid hsl
          have HK := Lib.hid hkept
          have hsz := hkept.size
          by_cases hlt : k < ys.length
          · have hcell := (hkept.cell (p := ⟨g2, k, none⟩) hg2 (by simp)).trans (HC.out k hlt)
            have hbk : k < bs.length := by rw [← HLY.out]; exact hlt
            have hfit := HFIT.out k hbk
            have hget : ys.getD k 0 = ((bs.getD k 0 : Nat) : Int) := by rw [HYS.out, Nt.nats_get]
            rw [hget] at hcell
            have HM := Lib.hid (Nt.joined_more bs xs.length k hbk)
            have e1 := shl_nat hfit
            have hl2 : (xs ++ Nt.nats ((bs.map (· * 2 ^ xs.length)).take k)).length ≤ 1000000 := by
              rw [List.length_append, Nt.nats_length, List.length_take]; omega
            have HL2 := Lib.hid hl2
            clear hsl hkept hfit hget hl2
            generalize bs.getD k 0 = x at *
            go_wp2_with (at_builtin; refine app_int _ rfl _ _ rfl w.heap.size _ _ HSL.out rfl rfl HL2.out hsz ?_; intro z1 w3 hs3 hk3; have HS3 := Lib.hid hs3; have HK3 := Lib.hid hk3; clear hs3 hk3)
            go_roundw
            case rel => exact ⟨k + 1, by omega, by go_num, by have h := HS3.out; rw [List.append_assoc] at h; rw [HM.out]; exact h, HK.out.own HK3.out (fun g hg => (HSL.out.block hg).1)⟩
            case measure => simp [intOf]; omega
          · have hk' : k = ys.length := by omega
            subst hk'
            clear hsl hkept
            go_wp2
            go_ret2
            refine ⟨_, by rw [HCJ.out]; rfl, ?_, HK.out⟩
            have h := HSL.out
            rw [List.take_of_length_le (by rw [List.length_map, HLY.out]; exact Nat.le_refl _)] at h
            rw [HJL.out]
            exact h
      · have HCJ := Lib.hid (Nt.canJoin_no3 hl)
        have hsum : (6 : Int) < (xs.length : Int) + (ys.length : Int) := by omega
        obtain ⟨ms, hxs, hok⟩ := Nt.okB_ok ho
        obtain ⟨bs, hys, hok2⟩ := Nt.okB_ok ho2
        have hlx : xs.length ≤ 6 := by rw [hxs, Nt.nats_length]; exact hok.few
        have hly : ys.length ≤ 6 := by rw [hys, Nt.nats_length]; exact hok2.few
        clear hs ht hl hxs hys hok hok2
        go_enter Try.func18, Try.ntmps18
        go_wp2_with (go_at_call 14; first | ((with_reducible refine (iNetOk_any xs _ _ base HS.out).mono ?_); rintro e w' ⟨rfl, rfl⟩) | ((with_reducible refine (iNetOk_any ys _ _ base' HT.out).mono ?_); rintro e w' ⟨rfl, rfl⟩))
        go_ret2
        exact ⟨_, by rw [HCJ.out]; rfl, by rw [Nt.joinedL_no HCJ.out]; exact Sl.nil _ _, Kept.refl _ _⟩
    · have ho2' : Nt.okB ys = false := by simpa using ho2
      have HCJ := Lib.hid (Nt.canJoin_no2 (xs := xs) ho2')
      clear hs ht ho2
      go_enter Try.func18, Try.ntmps18
      go_wp2_with (go_at_call 14; first | ((with_reducible refine (iNetOk_any xs _ _ base HS.out).mono ?_); rintro e w' ⟨rfl, rfl⟩) | ((with_reducible refine (iNetOk_any ys _ _ base' HT.out).mono ?_); rintro e w' ⟨rfl, rfl⟩))
      go_ret2
      exact ⟨_, by rw [HCJ.out]; rfl, by rw [Nt.joinedL_no HCJ.out]; exact Sl.nil _ _, Kept.refl _ _⟩
  · have ho' : Nt.okB xs = false := by simpa using ho
    have HCJ := Lib.hid (Nt.canJoin_no1 (ys := ys) ho')
    clear hs ht ho
    go_enter Try.func18, Try.ntmps18
    go_wp2_with (go_at_call 14; refine (iNetOk_any xs _ _ base HS.out).mono ?_; rintro e w' ⟨rfl, rfl⟩)
    go_ret2
    exact ⟨_, by rw [HCJ.out]; rfl, by rw [Nt.joinedL_no HCJ.out]; exact Sl.nil _ _, Kept.refl _ _⟩
end Go.Proofs.Ytjogkppgmomggac
