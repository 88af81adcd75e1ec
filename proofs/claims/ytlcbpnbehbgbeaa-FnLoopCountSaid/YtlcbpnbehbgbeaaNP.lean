/-
  Walks: what counts states, by the program.
-/
import Derived.Test.YtlcbpnbehbgbeaaNM
import Derived.Test.YtlcbpnbehbgbeaaFC
import Derived.Test.YtlcbpnbehbgbeaaNA
import Derived.Test.YtlcbpnbehbgbeaaS7
import Derived.Test.YtlcbpnbehbgbeaaPureNC
namespace Go.Proofs.Ytlcbpnbehbgbeaa
open Go.RowKit

set_option maxHeartbeats 1000000 in
set_option maxRecDepth 100000 in
theorem countingOk_any (xs : List Int) (kinds : Int) (w : World) (v : Value) (base : Nat) (hs : Sl w base v xs) :
    Calls Try.prog 41 #[v, .int .i64 kinds] w fun e w' => e = .returned (.bool (Nt.ccB xs kinds)) ∧ w = w' := by
  have HS := Lib.hid hs
  obtain ⟨a, cap, rfl, _, hm, _⟩ := hs.any
  clear hs
  cases h1 : Nt.okB xs
  · have HF := Lib.hid (Nt.ccB_no1 (kinds := kinds) h1)
    go_enter Try.func41, Try.ntmps41
    go_wp2_with (go_at_call 51; refine (iNetOk_any xs _ _ base HS.out).mono ?_; rintro e w' ⟨rfl, rfl⟩; rw [h1])
    go_ret
    exact ⟨by rw [HF.out]; rfl, rfl⟩
  · by_cases h2 : xs.length ≤ 4
    · cases h3 : decide (3 ≤ kinds ∧ kinds ≤ 5)
      all_goals
        have d2 : decide ((xs.length : Int) ≤ 4) = true := dec_of (by omega)
        have HF : Hid (Nt.ccB xs kinds = decide (3 ≤ kinds ∧ kinds ≤ 5)) := Lib.hid (by unfold Nt.ccB; rw [h1, decide_eq_true h2]; rfl)
        go_enter Try.func41, Try.ntmps41
        go_wp2_with (first | (go_at_call 51; refine (iNetOk_any xs _ _ base HS.out).mono ?_; rintro e w' ⟨rfl, rfl⟩; rw [h1]) | (go_at_call 53; refine (kindsOk_any kinds _).mono ?_; rintro e w2 ⟨rfl, rfl⟩; rw [h3]))
        go_ret
        exact ⟨by rw [HF.out, h3]; rfl, rfl⟩
    · have d2 : decide ((xs.length : Int) ≤ 4) = false := dec_not (by omega)
      have HF := Lib.hid (Nt.ccB_no2 (kinds := kinds) h2)
      go_enter Try.func41, Try.ntmps41
      go_wp2_with (go_at_call 51; refine (iNetOk_any xs _ _ base HS.out).mono ?_; rintro e w' ⟨rfl, rfl⟩; rw [h1])
      go_ret
      exact ⟨by rw [HF.out]; rfl, rfl⟩

/-- What the walk over all states asks of them. -/
theorem states_of {ns : List Nat} {c : Nat} (ok : Nt.Ok ns) (h3 : 3 ≤ c) (h5 : c ≤ 5) :
    (∀ m, m < c ^ ns.length → Nt.stateOf (ns.length : Int) (c : Int) (m : Int) = Nt.nats (Nt.stN ns c m)) ∧ Nt.stateOf (ns.length : Int) (c : Int) ((c ^ ns.length : Nat) : Int) = [] :=
  ⟨fun m hm => Nt.stateOf_ok ⟨ok.some, ok.few⟩ ⟨h3, h5⟩ hm, Nt.stateOf_no (fun h => by
    have h4 := h.2.2.2
    rw [Int.toNat_natCast] at h4
    have e : ((c ^ ns.length : Nat) : Int) = (c : Int) ^ ns.length := Int.natCast_pow c ns.length
    rw [e] at h4
    exact absurd h4 (Int.lt_irrefl _))⟩

set_option maxHeartbeats 2000000 in
set_option maxRecDepth 100000 in
/-- All states are walked as numbers, a number being folded on the way. -/
theorem foldI_any (F : Nat) (caps : Array Value) (f : Nat → Int) (ns : List Nat) (c : Nat) (ok : Nt.Ok ns) (h4 : ns.length ≤ 4) (h3 : 3 ≤ c) (h5 : c ≤ 5) (w0 : World)
    (hent : ∀ (args : Array Value) (w : World), Sem.run Try.prog (callFunc F args) w = .ok (.enter F args) w)
    (hstep : ∀ m, m < c ^ ns.length → ∀ (w : World) (v : Value), Sl w 0 v (Nt.nats (Nt.stN ns c m)) → Kept [] w0 w → Calls Try.prog F (#[.int .i64 (f m), v] ++ caps) w fun e w' => e = .returned (.int .i64 (f (m + 1))) ∧ Kept [] w w') :
    Calls Try.prog 77 #[.int .i64 (ns.length : Int), .int .i64 (c : Int), .int .i64 (f 0), .func (.func F) #[] caps] w0 fun e w' => e = .returned (.int .i64 (f (c ^ ns.length))) ∧ Kept [] w0 w' := by
  obtain ⟨HSOo, HSEo⟩ := states_of (ns := ns) ok h3 h5
  have hN6 := pow_625 (n := ns.length) h5 h4
  have HLN := Lib.hid (fun m => Nt.stN_length ns c m)
  have HSO := Lib.hid HSOo
  have HSE := Lib.hid HSEo
  have HSTEP := Lib.hid hstep
  have HENT := Lib.hid hent
  have hp := ok.some
  clear hstep hent HSOo HSEo ok
  generalize c ^ ns.length = N at *
  obtain ⟨n, hn⟩ : ∃ n, n = ns.length := ⟨_, rfl⟩
  rw [← hn] at hp h4 HLN HSO HSE
  rw [← hn]
  clear hn
  have hk0 : Hid (Kept [] w0 w0) := Lib.hid (Kept.refl _ _)
  go_enter Try.func77, Try.ntmps77
  go_wp2_with fail
  go_loopw [9, 10, 11] (fun a i st wr => ∃ m : Nat, m ≤ N ∧ a = .int .i64 (f m) ∧ i = .int .i64 m ∧ Kept [] w0 wr) (fun _ i _ _ => N - (intOf i).toNat)
  case atStart => exact ⟨0, Nat.zero_le _, rfl, rfl, hk0.out⟩
  case round =>
    obtain ⟨m, hm, rfl, rfl, hkept⟩ := hrel
    have HK := Lib.hid hkept
    clear hkept
    by_cases hlt : m < N
    · go_wp2_with fail
      refine (iStateOf_any _ _ _ (by omega) _).mono ?_
      rintro e w1 ⟨u, rfl, hs1, hk1⟩
      rw [HSO.out m hlt] at hs1
      obtain ⟨g, cap, rfl, _, _⟩ := hs1.row (HLN.out m) hp
      have HS1 := Lib.hid hs1.zero
      have HK1 := Lib.hid (HK.out.trans hk1 (by simp))
      clear hs1 hk1
      go_wp2_with fail
      rw [HENT.out, Oper.upon_enter]
      refine (HSTEP.out m hlt _ _ HS1.out HK1.out).mono ?_
      rintro e w2 ⟨rfl, hk2⟩
      have HK2 := Lib.hid (HK1.out.trans hk2 (by simp))
      clear hk2
      go_wp2_with fail
      go_roundw
      case rel => exact ⟨m + 1, by omega, rfl, by go_num, HK2.out⟩
      case measure => simp [intOf]; omega
    · have hm' : m = N := by omega
      subst hm'
      go_wp2_with fail
      refine (iStateOf_any _ _ _ (by omega) _).mono ?_
      rintro e w1 ⟨u, rfl, hs1, hk1⟩
      rw [HSE.out] at hs1
      obtain ⟨a, cap, rfl, _, _, _⟩ := hs1.any
      have HK1 := Lib.hid (HK.out.trans hk1 (by simp))
      clear hs1 hk1
      go_wp2_with fail
      go_ret
      exact ⟨rfl, HK1.out⟩

set_option maxHeartbeats 2000000 in
set_option maxRecDepth 100000 in
/-- All states are walked as numbers, a row of numbers being folded on the way. -/
theorem foldS_any (F : Nat) (caps : Array Value) (f : Nat → List Int) (ns : List Nat) (c n : Nat) (hn : n = ns.length) (ok : Nt.Ok ns) (h4 : ns.length ≤ 4) (h3 : 3 ≤ c) (h5 : c ≤ 5) (wR : World)
    (hent : ∀ (args : Array Value) (w : World), Sem.run Try.prog (callFunc F args) w = .ok (.enter F args) w)
    (hstep : ∀ m, m < c ^ ns.length → ∀ (w : World) (u v : Value), Sl w wR.heap.size u (f m) → Sl w 0 v (Nt.nats (Nt.stN ns c m)) → Kept [] wR w → Calls Try.prog F (#[u, v] ++ caps) w fun e w' => ∃ z, e = .returned z ∧ Sl w' wR.heap.size z (f (m + 1)) ∧ Kept [] wR w')
    (w0 : World) (hk0 : Kept [] wR w0) (u0 : Value) (hu : Sl w0 wR.heap.size u0 (f 0)) :
    Calls Try.prog 87 #[.int .i64 (n : Int), .int .i64 (c : Int), u0, .func (.func F) #[] caps] w0 fun e w' => ∃ z, e = .returned z ∧ Sl w' wR.heap.size z (f (c ^ ns.length)) ∧ Kept [] wR w' := by
  obtain ⟨HSOo, HSEo⟩ := states_of (ns := ns) ok h3 h5
  have hN6 := pow_625 (n := ns.length) h5 h4
  have HLN := Lib.hid (fun m => Nt.stN_length ns c m)
  have HSO := Lib.hid HSOo
  have HSE := Lib.hid HSEo
  have HSTEP := Lib.hid hstep
  have HENT := Lib.hid hent
  have HU0 := Lib.hid hu
  have HK0 := Lib.hid hk0
  have hp := ok.some
  obtain ⟨ua, ucap, rfl, _, _, _⟩ := hu.any
  clear hstep hent HSOo HSEo ok hk0 hu
  generalize c ^ ns.length = N at *
  rw [← hn] at hp h4 HLN HSO HSE
  clear hn
  go_enter Try.func87, Try.ntmps87
  go_wp2_with fail
  go_loopw [9, 10, 11] (fun a i st wr => ∃ m : Nat, m ≤ N ∧ Sl wr wR.heap.size a (f m) ∧ i = .int .i64 m ∧ Kept [] wR wr) (fun _ i _ _ => N - (intOf i).toNat)
  case atStart => exact ⟨0, Nat.zero_le _, HU0.out, rfl, HK0.out⟩
  case round =>
    clear HU0 HK0
    obtain ⟨m, hm, hsl, rfl, hkept⟩ := hrel
    have HK := Lib.hid hkept
    have HSL := Lib.hid hsl
    obtain ⟨xa, xcap, rfl, _, _, _⟩ := hsl.any
    clear hkept hsl
    by_cases hlt : m < N
    · go_wp2_with fail
      refine (iStateOf_any _ _ _ (by omega) _).mono ?_
      rintro e w1 ⟨u, rfl, hs1, hk1⟩
      rw [HSO.out m hlt] at hs1
      obtain ⟨g, cap, rfl, _, _⟩ := hs1.row (HLN.out m) hp
      have HS1 := Lib.hid hs1.zero
      have HL1 := Lib.hid (HSL.out.stay hk1)
      have HK1 := Lib.hid (HK.out.trans hk1 (by simp))
      clear hs1 hk1
      go_wp2_with fail
      rw [HENT.out, Oper.upon_enter]
      refine (HSTEP.out m hlt _ _ _ HL1.out HS1.out HK1.out).mono ?_
      rintro e w2 ⟨z, rfl, hs2, hk2⟩
      have HL2 := Lib.hid hs2
      have HK2 := Lib.hid hk2
      clear hs2 hk2
      go_wp2_with fail
      go_roundw
      case rel => exact ⟨m + 1, by omega, HL2.out, by go_num, HK2.out⟩
      case measure => simp [intOf]; omega
    · have hm' : m = N := by omega
      subst hm'
      go_wp2_with fail
      refine (iStateOf_any _ _ _ (by omega) _).mono ?_
      rintro e w1 ⟨u, rfl, hs1, hk1⟩
      rw [HSE.out] at hs1
      obtain ⟨a, cap, rfl, _, _, _⟩ := hs1.any
      have HL1 := Lib.hid (HSL.out.stay hk1)
      have HK1 := Lib.hid (HK.out.trans hk1 (by simp))
      clear hs1 hk1
      go_wp2_with fail
      go_ret
      exact ⟨_, rfl, HL1.out, HK1.out⟩

set_option maxHeartbeats 1000000 in
set_option maxRecDepth 100000 in
/-- One more is counted, if a function says so. -/
theorem countOne_any (F : Nat) (caps : Array Value) (b k q : Nat) (p : Bool) (hq : q = k + (if p = true then 1 else 0)) (hk : k ≤ 1000000) (w : World) (v : Value) (base : Nat) (ys : List Int) (ht : Sl w base v ys)
    (hent : ∀ (args : Array Value) (w : World), Sem.run Try.prog (callFunc F args) w = .ok (.enter F args) w)
    (hc : w.cell? ⟨b, 0, none⟩ = some (.func (.func F) #[] caps))
    (hF : Calls Try.prog F (#[v] ++ caps) w fun e w' => e = .returned (.bool p) ∧ Kept [] w w') :
    Calls Try.prog 78 #[.int .i64 (k : Int), v, .pointer (some ⟨b, 0, none⟩)] w fun e w' => e = .returned (.int .i64 (q : Int)) ∧ Kept [] w w' := by
  have HF := Lib.hid hF
  have HENT := Lib.hid hent
  obtain ⟨a, cap, rfl, _, _, _⟩ := ht.any
  clear hF hent ht
  cases p
  all_goals
    have HQ : Hid (q = _) := Lib.hid hq
    clear hq
    go_enter Try.func78, Try.ntmps78
    go_wp2_with fail
    rw [HENT.out, Oper.upon_enter]
    refine HF.out.mono ?_
    rintro e w1 ⟨rfl, hk1⟩
    have HK1 := Lib.hid hk1
    clear hk1
    go_wp2_with fail
    go_ret
    exact ⟨by rw [HQ.out]; first | rfl | (simp; done), HK1.out⟩

theorem enter_countOne (args : Array Value) (w : World) : Sem.run Try.prog (callFunc 78 args) w = .ok (.enter 78 args) w := by kernel_rfl

set_option maxHeartbeats 1000000 in
set_option maxRecDepth 100000 in
/-- States are counted for which a function says so. -/
theorem countStates_any (F : Nat) (caps : Array Value) (p : Nat → Bool) (ns : List Nat) (c n : Nat) (hn : n = ns.length) (ok : Nt.Ok ns) (h4 : ns.length ≤ 4) (h3 : 3 ≤ c) (h5 : c ≤ 5) (w0 : World)
    (hent : ∀ (args : Array Value) (w : World), Sem.run Try.prog (callFunc F args) w = .ok (.enter F args) w)
    (hright : ∀ m, m < c ^ ns.length → ∀ (w : World) (v : Value), Sl w 0 v (Nt.nats (Nt.stN ns c m)) → Kept [] w0 w → Calls Try.prog F (#[v] ++ caps) w fun e w' => e = .returned (.bool (p m)) ∧ Kept [] w w') :
    Calls Try.prog 43 #[.int .i64 (n : Int), .int .i64 (c : Int), .func (.func F) #[] caps] w0 fun e w' => e = .returned (.int .i64 ((Nt.cnt p (c ^ ns.length) : Nat) : Int)) ∧ Kept [] w0 w' := by
  have hmf : ∀ (fn : Fn) (first cap : Array Value) (w : World), (Instr.makeFunc fn first cap).run Try.prog w = .ok (.func fn first cap) w := fun _ _ _ _ => rfl
  have hk1 : ∀ t : TypeId, Kept [] w0 (w0.alloc (.cells #[.func (.func F) #[] caps] t)) := fun t => (Kept.refl _ _).alloc _
  have hb1 : ∀ t : TypeId, (w0.alloc (.cells #[.func (.func F) #[] caps] t)).cell? ⟨w0.heap.size, 0, none⟩ = some (.func (.func F) #[] caps) := fun t => (Boxed.new w0 t (.func (.func F) #[] caps)).cell
  have hz1 : ∀ t : TypeId, (w0.alloc (.cells #[.func (.func F) #[] caps] t)).heap.size = w0.heap.size + 1 := fun t => by simp
  have hN6 := pow_625 (n := ns.length) h5 h4
  have HFOLD := Lib.hid (fun (t : TypeId) => foldI_any 78 #[.pointer (some ⟨w0.heap.size, 0, none⟩)] (fun m => ((Nt.cnt p m : Nat) : Int)) ns c ok h4 h3 h5 (w0.alloc (.cells #[.func (.func F) #[] caps] t)) enter_countOne
    (fun m hm w v hs hk => by
      have hcell : w.cell? ⟨w0.heap.size, 0, none⟩ = some (.func (.func F) #[] caps) := (hk.cell (p := ⟨w0.heap.size, 0, none⟩) (by rw [hz1 t]; exact Nat.lt_succ_self _) (by simp)).trans (hb1 t)
      have h := countOne_any F caps w0.heap.size (Nt.cnt p m) (Nt.cnt p (m + 1)) (p m) rfl (by have := Nt.cnt_le p m; omega) w v 0 _ hs hent hcell (hright m hm w v hs ((hk1 t).trans hk (by simp)))
      exact Calls.mono (by simpa using h) (fun _ _ h => h)))
  have HK1 := Lib.hid hk1
  clear hright hent hb1 hz1 hk1 ok hN6
  generalize c ^ ns.length = N at *
  rw [← hn] at HFOLD
  clear hn
  go_enter Try.func43, Try.ntmps43
  go_wp2_with fail
  refine (HFOLD.out _).mono ?_
  rintro e w2 ⟨rfl, hk2⟩
  have HK2 := Lib.hid ((HK1.out _).trans hk2 (by simp))
  clear hk2
  go_wp2_with fail
  go_ret
  exact ⟨rfl, HK2.out⟩
end Go.Proofs.Ytlcbpnbehbgbeaa
