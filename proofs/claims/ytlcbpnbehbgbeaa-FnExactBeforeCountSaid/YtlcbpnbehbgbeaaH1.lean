/-
  Walks: rises, tours and climbs, by the program.
-/
import Derived.Test.YtlcbpnbehbgbeaaTI
import Derived.Test.YtlcbpnbehbgbeaaUM
namespace Go.Proofs.Ytlcbpnbehbgbeaa
open Go.RowKit

set_option maxHeartbeats 1000000 in
set_option maxRecDepth 100000 in
theorem rise_any (ks : List Nat) (st : Nt.St 3 ks) (a b : Nat) (ha : a < ks.length) (hb : b < ks.length) (w : World) (v : Value) (base : Nat) (hs : Sl w base v (Nt.nats ks)) :
    Calls Try.prog 122 #[v, .int .i64 (a : Int), .int .i64 (b : Int)] w fun e w' => e = .returned (.int .i64 (Nt.rise (ks.getD a 0) (ks.getD b 0))) ∧ Qt w w' := by
  obtain ⟨n, hn⟩ : ∃ n, n = ks.length := ⟨_, rfl⟩
  have hp := st.some
  rw [← hn] at hp
  obtain ⟨g, cap, rfl, hg, hc⟩ := hs.row hn.symm hp
  have c1 := hc a (by omega)
  have c2 := hc b (by omega)
  have hx := st.lt a ha
  have hy := st.lt b hb
  have han : a < n := by omega
  have hbn : b < n := by omega
  clear hs hc st ha hb hn
  generalize ks.getD a 0 = x at *
  generalize ks.getD b 0 = y at *
  have hr1 := @Nt.rise_one x y hy
  have hr2 := @Nt.rise_down x y hx
  have hr3 := @Nt.rise_lo x y
  have hr4 := @Nt.rise_hi x y
  have hnx : (x + 1) % 3 < 3 := by omega
  have hny : (y + 1) % 3 < 3 := by omega
  have N1 := Lib.hid (fun w => (nextKind_any 3 x (by omega) (by omega) w).mono (fun _ _ e => (⟨e.1, e.2.symm⟩ : _ ∧ _ = w)))
  have N2 := Lib.hid (fun w => (nextKind_any 3 y (by omega) (by omega) w).mono (fun _ _ e => (⟨e.1, e.2.symm⟩ : _ ∧ _ = w)))
  generalize (x + 1) % 3 = p at *
  generalize (y + 1) % 3 = q at *
  by_cases h1 : y = p
  · have d1 : ((y : Int) == (p : Int)) = true := by simp [h1]
    have HF : Hid (Nt.rise x y = 1) := Lib.hid (hr1.2 h1)
    clear hr1 hr2 hr3 hr4 h1
    go_enter Try.func122, Try.ntmps122
    go_wp2_with fail
    go_quiet ((go_at_call 83; first | exact quietL ((N1.out _).mono fun _ _ e => ⟨e.1, e.2.symm⟩) | exact quietL ((N2.out _).mono fun _ _ e => ⟨e.1, e.2.symm⟩)))
    go_wp2
    go_ret
    exact ⟨by rw [HF.out] <;> rfl, (Qt.refl _).draw _⟩
  · have d1 : ((y : Int) == (p : Int)) = false := by simp; omega
    by_cases h2 : x = q
    · have d2 : ((x : Int) == (q : Int)) = true := by simp [h2]
      have HF : Hid (Nt.rise x y = -1) := Lib.hid (hr2.2 h2)
      clear hr1 hr2 hr3 hr4 h1 h2
      go_enter Try.func122, Try.ntmps122
      go_wp2_with fail
      go_quiet ((go_at_call 83; first | exact quietL ((N1.out _).mono fun _ _ e => ⟨e.1, e.2.symm⟩) | exact quietL ((N2.out _).mono fun _ _ e => ⟨e.1, e.2.symm⟩)))
      have c1b : (w.drewN nq).cell? ⟨g, a, none⟩ = some (.int .i64 (x : Int)) := c1
      have c2b : (w.drewN nq).cell? ⟨g, b, none⟩ = some (.int .i64 (y : Int)) := c2
      have HQ := Lib.hid ((Qt.refl w).draw nq)
      clear c1 c2
      generalize w.drewN nq = w2 at *
      go_wp2_with fail
      go_quiet ((go_at_call 83; first | exact quietL ((N1.out _).mono fun _ _ e => ⟨e.1, e.2.symm⟩) | exact quietL ((N2.out _).mono fun _ _ e => ⟨e.1, e.2.symm⟩)))
      go_wp2
      go_ret
      exact ⟨by rw [HF.out] <;> rfl, HQ.out.draw _⟩
    · have d2 : ((x : Int) == (q : Int)) = false := by simp; omega
      have HF : Hid (Nt.rise x y = 0) := Lib.hid (by omega)
      clear hr1 hr2 hr3 hr4 h1 h2
      go_enter Try.func122, Try.ntmps122
      go_wp2_with fail
      go_quiet ((go_at_call 83; first | exact quietL ((N1.out _).mono fun _ _ e => ⟨e.1, e.2.symm⟩) | exact quietL ((N2.out _).mono fun _ _ e => ⟨e.1, e.2.symm⟩)))
      have c1b : (w.drewN nq).cell? ⟨g, a, none⟩ = some (.int .i64 (x : Int)) := c1
      have c2b : (w.drewN nq).cell? ⟨g, b, none⟩ = some (.int .i64 (y : Int)) := c2
      have HQ := Lib.hid ((Qt.refl w).draw nq)
      clear c1 c2
      generalize w.drewN nq = w2 at *
      go_wp2_with fail
      go_quiet ((go_at_call 83; first | exact quietL ((N1.out _).mono fun _ _ e => ⟨e.1, e.2.symm⟩) | exact quietL ((N2.out _).mono fun _ _ e => ⟨e.1, e.2.symm⟩)))
      go_wp2
      go_ret
      exact ⟨by rw [HF.out] <;> rfl, HQ.out.draw _⟩

end Go.Proofs.Ytlcbpnbehbgbeaa
