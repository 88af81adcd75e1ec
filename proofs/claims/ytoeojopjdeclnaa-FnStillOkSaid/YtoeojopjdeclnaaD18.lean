/-
  Walks: what the law of StillOk draws.
-/
import Derived.Test.YtoeojopjdeclnaaD15
import Derived.Test.YtoeojopjdeclnaaTB
namespace Go.Proofs.Ytoeojopjdeclnaa
open Go.RowKit

theorem trunOf_len (xs ys : List Int) (s : Int) : (Nt.trunOf xs ys s).length ≤ 7 := by
  cases h : Nt.fireB xs 3 ys
  · rw [Nt.trunOf_no1 h]; simp
  · cases h2 : Nt.stepsB s
    · rw [Nt.trunOf_no2 h2]; simp
    · obtain ⟨ns, ks, rfl, rfl, ok, st, hl⟩ := Nt.fireB3_ok h
      obtain ⟨t, rfl, ht⟩ := Nt.stepsB_ok h2
      rw [Nt.trunOf_ok ok st hl ht, Nt.nats_length, Nt.turns_length]
      have := st.few
      omega

set_option maxHeartbeats 1000000 in
theorem drawStillOk_any (w : World) (v : Value) (ha : ArgB w v) : Calls Try.prog 22 #[v] w (DrawnTurn w) := by
  have HA := Lib.hid ha
  obtain ⟨a, n, cap, rfl, _, _, _⟩ := ha
  go_enter Try.func22, Try.ntmps22
  go_wp2_with fail
  refine (open_any _ _ HA.out).mono ?_
  rintro e w1 ⟨rfl, hr, hk⟩
  have HR := Lib.hid hr
  have HK := Lib.hid hk
  clear hr hk
  go_wp2_with fail
  refine (turn_any _ _ 0 (by omega) 12 (by omega) (by omega) _ HR.out).mono ?_
  rintro e w2 ⟨u, xs, v2, ys, rfl, hs, ht, hl1, hl2, hr2, hk2⟩
  have HSB := Lib.hid (fun g hg => (hs.block (g := g) hg).1)
  have HTB := Lib.hid (fun g hg => (ht.block (g := g) hg).1)
  have HS := Lib.hid (hs.mono HK.out.size)
  have HT := Lib.hid (ht.mono HK.out.size)
  have HR2 := Lib.hid hr2
  have HK2 := Lib.hid (HK.out.trans hk2 (fun x hx => by right; simp at hx; omega))
  obtain ⟨b1, cap1, rfl, _, _, _⟩ := hs.any
  obtain ⟨b2, cap2, rfl, _, _, _⟩ := ht.any
  have hRlt := HR.out.lt
  clear hs ht hr2 hk2
  go_wp2_with fail
  refine (pick_any _ _ _ (by omega) 2 (by omega) _ HR2.out).mono ?_
  rintro e w3 ⟨x, rfl, hx0, hx, hr3, hk3⟩
  have HS3 := Lib.hid (HS.out.kept hk3 (fun g hg hm => by have := HSB.out g hg; simp at hm; omega))
  have HT3 := Lib.hid (HT.out.kept hk3 (fun g hg hm => by have := HTB.out g hg; simp at hm; omega))
  have HK3 := Lib.hid (HK2.out.trans hk3 (fun x hx => by right; simp at hx; omega))
  clear hr3 hk3 HR2 HS HT HK2 hx
  by_cases hx1 : x = 0
  · subst hx1
    go_wp2_with fail
    refine (l3Ok_any xs 3 ys _ _ _ _ _ HS3.out HT3.out).mono ?_
    rintro e w4 ⟨rfl, hq⟩
    have HS4 := Lib.hid (hq.sl HS3.out)
    have HT4 := Lib.hid (hq.sl HT3.out)
    have HK4 := Lib.hid (HK3.out.trans hq.kept (by simp))
    clear hq HS3 HT3 HK3
    cases ho : Nt.fireB xs 3 ys
    · go_wp2
      go_ret2
      exact ⟨_, xs, _, ys, rfl, HS4.out, HT4.out, hl1, hl2, HK4.out⟩
    · go_wp2_with fail
      refine (sTurnRun_any xs ys 12 _ _ _ _ _ HS4.out HT4.out).mono ?_
      rintro e w5 ⟨z, rfl, hs5, hk5⟩
      have HS5 := Lib.hid (HS4.out.stay hk5)
      have HT5 := Lib.hid (hs5.mono HK4.out.size)
      have HK5 := Lib.hid (HK4.out.trans hk5 (by simp))
      clear hs5 hk5 HS4 HT4 HK4
      go_wp2
      go_ret2
      exact ⟨_, xs, _, _, rfl, HS5.out, HT5.out, hl1, trunOf_len _ _ _, HK5.out⟩
  · have hx2 : (x == 0) = false := by simpa using hx1
    clear hx1
    go_wp2
    go_ret2
    exact ⟨_, xs, _, ys, rfl, HS3.out, HT3.out, hl1, hl2, HK3.out⟩
end Go.Proofs.Ytoeojopjdeclnaa
