/-
  Walks: states with other names, by the program and by the model.
-/
import Derived.Test.YtahjplaidkibpaaS2
import Derived.Test.YtahjplaidkibpaaO1
namespace Go.Proofs.Ytahjplaidkibpaa
open Go.RowKit
open Nt (stB ordB)

set_option maxHeartbeats 2000000 in
theorem iNamedSt_any (kinds : Int) (xs ys : List Int) (w : World) (v u : Value) (base base' : Nat) (hs : Sl w base v xs) (ht : Sl w base' u ys) :
    Calls Try.prog 19 #[.int .i64 kinds, v, u] w fun e w' => ∃ z, e = .returned (.tuple #[z, .bool (Nt.canNameSt kinds xs ys)]) ∧ Sl w' w.heap.size z (Nt.namedStOf kinds xs ys) ∧ Kept [] w w' := by
  have HS := Lib.hid hs
  have HT := Lib.hid ht
  by_cases ho : stB kinds xs = true
  · have h6x : xs.length ≤ 6 := (Nt.stB_iff.1 ho).2.1.2
    by_cases ho2 : ordB xs.length ys = true
    · obtain ⟨c, ks, rfl, rfl, hst⟩ := Nt.stB_st ho
      obtain ⟨os, rfl, hord⟩ := Nt.ordB_ord ho2
      rw [Nt.nats_length] at hord h6x ho2
      have hlo := hord.len
      have hpos := hst.some
      have HF := Lib.hid (Nt.namedStOf_ok hst hord)
      have HY := Lib.hid (Nt.canNameSt_yes hst hord)
      have HO := Lib.hid hord
      obtain ⟨n, hn⟩ : ∃ n, n = ks.length := ⟨_, rfl⟩
      rw [← hn] at hlo hpos h6x ho2
      obtain ⟨g, cap, rfl, hg, hc⟩ := hs.row hn.symm hpos
      obtain ⟨g2, cap2, rfl, hg2, hd⟩ := ht.row hlo hpos
      have HC := Lib.hid hc
      have HD := Lib.hid hd
      have HN := Lib.hid hn
      clear hs ht hc hd hst hord hlo hn
      go_enter Try.func19, Try.ntmps19
      go_wp2_with fail
      refine (iStateOk_any (c : Int) (Nt.nats ks) _ _ base HS.out).mono ?_
      rintro e w' ⟨rfl, rfl⟩
      rw [ho]
      go_wp2_with fail
      refine (orderOk_any n h6x (Nt.nats os) _ _ base' HT.out).mono ?_
      rintro e w' ⟨rfl, rfl⟩
      rw [ho2]
      clear ho ho2
      go_wp2_with (at_make; refine make_int w n rfl _ _ rfl rfl rfl ?_ ?_)
      · omega
      · intro w1 hs1 hk1 _
        rw [← put_zero n os (fun k => ks.getD k 0)] at hs1
        have HS1 := Lib.hid hs1
        have HK1 := Lib.hid hk1
        clear hs1 hk1
        go_wp2
        go_loopw [27] (fun i wr => ∃ k : Nat, k ≤ n ∧ i = .int .i64 k ∧ Sl wr w.heap.size (.slice (some ⟨w.heap.size, 0, none⟩) n n) (Nt.nats (Nt.putTo n os (fun k => ks.getD k 0) k)) ∧ Kept [] w wr) (fun i _ => n - (intOf i).toNat)
        case atStart => exact ⟨0, Nat.zero_le _, rfl, HS1.out, HK1.out⟩
        case round =>
          clear HS1 HK1
          obtain ⟨k, hk, rfl, hsl, hkept⟩ := hrel
          have HSL := Lib.hid hsl
          have HK := Lib.hid hkept
          by_cases hlt : k < n
          · have hlk : os.getD k 0 < n := by have := HO.out.lt k (by rw [← HN.out]; exact hlt); rw [← HN.out] at this; exact this
            have hck := (hkept.cell (p := ⟨g, k, none⟩) hg (by simp)).trans (HC.out k hlt)
            have hdk := (hkept.cell (p := ⟨g2, k, none⟩) hg2 (by simp)).trans (HD.out k hlt)
            obtain ⟨hcell, hfr⟩ := hsl.at (os.getD k 0) (by rw [Nt.nats_length, Nt.putTo_length]; exact hlk)
            have HSET : Hid (Nt.putTo n os (fun k => ks.getD k 0) (k + 1) = (Nt.putTo n os (fun k => ks.getD k 0) k).set (os.getD k 0) (ks.getD k 0)) := Lib.hid rfl
            clear hsl hkept
            generalize (Nt.nats (Nt.putTo n os (fun k => ks.getD k 0) k)).getD (os.getD k 0) 0 = z at *
            generalize hx : ks.getD k 0 = x at *
            generalize hy : os.getD k 0 = y at *
            clear hx hy
            go_wp2
            go_roundw
            case rel => exact ⟨k + 1, by omega, by go_num, by rw [HSET.out, Nt.nats_set]; exact HSL.out.set (by rw [Nt.nats_length, Nt.putTo_length]) _ _, HK.out.setCell (.inr (Nat.le_refl _)) _⟩
            case measure => simp [intOf]; omega
          · have hk' : k = n := by omega
            subst hk'
            clear hsl hkept
            go_wp2
            go_ret2
            exact ⟨_, by rw [HY.out]; rfl, by rw [HF.out]; unfold Nt.namedSt Nt.put; rw [← HN.out]; exact HSL.out, HK.out⟩
    · have ho2' : ordB xs.length ys = false := by simpa using ho2
      have HNO := Lib.hid (Nt.canNameSt_no2 (kinds := kinds) ho2')
      obtain ⟨a, cap, rfl, _, hm, _⟩ := hs.any
      obtain ⟨b, cap2, rfl, _, hm2, _⟩ := ht.any
      clear hs ht ho2
      go_enter Try.func19, Try.ntmps19
      go_wp2_with fail
      refine (iStateOk_any kinds xs _ _ base HS.out).mono ?_
      rintro e w' ⟨rfl, rfl⟩
      rw [ho]
      go_wp2_with fail
      refine (orderOk_any xs.length h6x ys _ _ base' HT.out).mono ?_
      rintro e w' ⟨rfl, rfl⟩
      rw [ho2']
      clear ho ho2'
      go_wp2
      go_ret2
      exact ⟨_, by rw [HNO.out]; rfl, by rw [Nt.namedStOf_no HNO.out]; exact Sl.nil _ _, Kept.refl _ _⟩
  · have ho' : stB kinds xs = false := by simpa using ho
    have HNO := Lib.hid (Nt.canNameSt_no1 (ys := ys) ho')
    obtain ⟨a, cap, rfl, _, hm, _⟩ := hs.any
    obtain ⟨b, cap2, rfl, _, hm2, _⟩ := ht.any
    clear hs ht ho
    go_enter Try.func19, Try.ntmps19
    go_wp2_with fail
    refine (iStateOk_any kinds xs _ _ base HS.out).mono ?_
    rintro e w' ⟨rfl, rfl⟩
    rw [ho']
    clear ho'
    go_wp2
    go_ret2
    exact ⟨_, by rw [HNO.out]; rfl, by rw [Nt.namedStOf_no HNO.out]; exact Sl.nil _ _, Kept.refl _ _⟩

end Go.Proofs.Ytahjplaidkibpaa
