/-
  Walks: nets with other names, by the program and by the model.
-/
import Derived.Test.YtahjplaidkibpaaN1
namespace Go.Proofs.Ytahjplaidkibpaa
open Go.RowKit
open Nt (okB ordB)

theorem okB_len {xs : List Int} (h : okB xs = true) : 1 ≤ xs.length ∧ xs.length ≤ 6 := by
  obtain ⟨ns, rfl, ok⟩ := Nt.okB_ok h
  rw [Nt.nats_length]
  exact ⟨ok.some, ok.few⟩

set_option maxHeartbeats 2000000 in
theorem iNamed_any (xs ys : List Int) (w : World) (v u : Value) (base base' : Nat) (hs : Sl w base v xs) (ht : Sl w base' u ys) :
    Calls Try.prog 18 #[v, u] w fun e w' => ∃ z, e = .returned (.tuple #[z, .bool (Nt.canName xs ys)]) ∧ Sl w' w.heap.size z (Nt.namedL xs ys) ∧ Kept [] w w' := by
  have HS := Lib.hid hs
  have HT := Lib.hid ht
  by_cases ho : okB xs = true
  · have h6x : xs.length ≤ 6 := (okB_len ho).2
    by_cases ho2 : ordB xs.length ys = true
    · obtain ⟨ks, rfl, hst⟩ := Nt.okB_ok ho
      obtain ⟨os, rfl, hord⟩ := Nt.ordB_ord ho2
      rw [Nt.nats_length] at hord h6x ho2
      have hlo := hord.len
      have hpos := hst.some
      have HF := Lib.hid (Nt.namedL_ok hst hord)
      have HY := Lib.hid (Nt.canName_yes hst hord)
      have HO := Lib.hid hord
      obtain ⟨n, hn⟩ : ∃ n, n = ks.length := ⟨_, rfl⟩
      rw [← hn] at hlo hpos h6x ho2
      obtain ⟨g, cap, rfl, hg, hc⟩ := hs.row hn.symm hpos
      obtain ⟨g2, cap2, rfl, hg2, hd⟩ := ht.row hlo hpos
      have HC := Lib.hid hc
      have HD := Lib.hid hd
      have HN := Lib.hid hn
      have HOn : Hid (Nt.Ord n os) := Lib.hid (by rw [hn]; exact hord)
      clear hs ht hc hd hst hord hlo hn
      go_enter Try.func18, Try.ntmps18
      go_wp2_with fail
      refine (iNetOk_any (Nt.nats ks) _ _ base HS.out).mono ?_
      rintro e w' ⟨rfl, rfl⟩
      rw [ho]
      go_wp2_with fail
      refine (orderOk_any n h6x (Nt.nats os) _ _ base' HT.out).mono ?_
      rintro e w' ⟨rfl, rfl⟩
      rw [ho2]
      clear ho ho2
      go_wp2_with (at_make; refine make_int w n rfl _ _ rfl rfl rfl ?_ ?_)
      · omega
      · intro w1 hs1 hk1 _
        rw [← put_zero n os (fun k => Nt.nset os (ks.getD k 0))] at hs1
        have HS1 := Lib.hid hs1
        have HK1 := Lib.hid hk1
        clear hs1 hk1
        go_wp2
        go_loopw [24] (fun i wr => ∃ k : Nat, k ≤ n ∧ i = .int .i64 k ∧ Sl wr w.heap.size (.slice (some ⟨w.heap.size, 0, none⟩) n n) (Nt.nats (Nt.putTo n os (fun k => Nt.nset os (ks.getD k 0)) k)) ∧ Kept [] w wr) (fun i _ => n - (intOf i).toNat)
        case atStart => exact ⟨0, Nat.zero_le _, rfl, HS1.out, HK1.out⟩
        case round =>
          clear HS1 HK1
          obtain ⟨k, hk, rfl, hsl, hkept⟩ := hrel
          have HSL := Lib.hid hsl
          have HK := Lib.hid hkept
          by_cases hlt : k < n
          · have hlk : os.getD k 0 < n := by have := HO.out.lt k (by rw [← HN.out]; exact hlt); rw [← HN.out] at this; exact this
            have hck := (hkept.cell (p := ⟨g, k, none⟩) hg (by simp)).trans (HC.out k hlt)
            have hdk := (hkept.cell (p := ⟨g2, k, none⟩) hg2 (by simp)).trans (HD.out k hlt)
            obtain ⟨hcell, hfr⟩ := hsl.at (os.getD k 0) (by rw [Nt.nats_length, Nt.putTo_length]; exact hlk)
            have HSET : Hid (Nt.putTo n os (fun k => Nt.nset os (ks.getD k 0)) (k + 1) = (Nt.putTo n os (fun k => Nt.nset os (ks.getD k 0)) k).set (os.getD k 0) (Nt.nset os (ks.getD k 0))) := Lib.hid rfl
            have HTX : Hid (Sl wr.drew base' (.slice (some ⟨g2, 0, none⟩) n cap2) (Nt.nats os)) := Lib.hid (HT.out.stay hkept.drew)
            clear hsl hkept
            generalize (Nt.nats (Nt.putTo n os (fun k => Nt.nset os (ks.getD k 0)) k)).getD (os.getD k 0) 0 = z at *
            generalize hx : ks.getD k 0 = x at *
            generalize hy : os.getD k 0 = y at *
            clear hx hy
            have HSLd : Hid (Sl wr.drew w.heap.size (.slice (some ⟨w.heap.size, 0, none⟩) n n) (Nt.nats (Nt.putTo n os (fun k => Nt.nset os (ks.getD k 0)) k))) := HSL
            have HKd := Lib.hid HK.out.drew
            have hcell2 : wr.drew.cell? ⟨w.heap.size, y, none⟩ = some (.int .i64 z) := hcell
            have hfr2 : wr.drew.frozen? ⟨w.heap.size, y, none⟩ = false := hfr
            go_wp2_with fail
            go_still_tail 9, (by kernel_rfl)
            still_call (namedSet_any n h6x hpos os HOn.out x _ _ base' HTX.out)
            repeat still_step
            refine wpStill_nil ?_
            change wpList _ _ _ _ _ wr.drew
            clear hcell hfr HSL HK hck hdk HTX
            generalize wr.drew = w2 at *
            go_wp2
            go_roundw
            case rel => exact ⟨k + 1, by omega, by go_num, by rw [HSET.out, Nt.nats_set]; exact HSLd.out.set (by rw [Nt.nats_length, Nt.putTo_length]) _ _, HKd.out.setCell (.inr (Nat.le_refl _)) _⟩
            case measure => simp [intOf]; omega
          · have hk' : k = n := by omega
            subst hk'
            clear hsl hkept
            go_wp2
            go_ret2
            exact ⟨_, by rw [HY.out]; rfl, by rw [HF.out]; unfold Nt.named Nt.put; rw [← HN.out]; exact HSL.out, HK.out⟩
    · have ho2' : ordB xs.length ys = false := by simpa using ho2
      have HNO := Lib.hid (Nt.canName_no2 ho2')
      obtain ⟨a, cap, rfl, _, hm, _⟩ := hs.any
      obtain ⟨b, cap2, rfl, _, hm2, _⟩ := ht.any
      clear hs ht ho2
      go_enter Try.func18, Try.ntmps18
      go_wp2_with fail
      refine (iNetOk_any xs _ _ base HS.out).mono ?_
      rintro e w' ⟨rfl, rfl⟩
      rw [ho]
      go_wp2_with fail
      refine (orderOk_any xs.length h6x ys _ _ base' HT.out).mono ?_
      rintro e w' ⟨rfl, rfl⟩
      rw [ho2']
      clear ho ho2'
      go_wp2
      go_ret2
      exact ⟨_, by rw [HNO.out]; rfl, by rw [Nt.namedL_no HNO.out]; exact Sl.nil _ _, Kept.refl _ _⟩
  · have ho' : okB xs = false := by simpa using ho
    have HNO := Lib.hid (Nt.canName_no1 (ys := ys) ho')
    obtain ⟨a, cap, rfl, _, hm, _⟩ := hs.any
    obtain ⟨b, cap2, rfl, _, hm2, _⟩ := ht.any
    clear hs ht ho
    go_enter Try.func18, Try.ntmps18
    go_wp2_with fail
    refine (iNetOk_any xs _ _ base HS.out).mono ?_
    rintro e w' ⟨rfl, rfl⟩
    rw [ho']
    clear ho'
    go_wp2
    go_ret2
    exact ⟨_, by rw [HNO.out]; rfl, by rw [Nt.namedL_no HNO.out]; exact Sl.nil _ _, Kept.refl _ _⟩

end Go.Proofs.Ytahjplaidkibpaa
