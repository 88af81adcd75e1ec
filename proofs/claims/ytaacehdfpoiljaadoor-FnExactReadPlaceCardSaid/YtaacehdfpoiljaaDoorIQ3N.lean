/-
  Places read of texts, in one form with those of exact laws.
-/
import Derived.Test.YtaacehdfpoiljaaDoorIQ3
import Derived.Test.YtaacehdfpoiljaaDoorEP
namespace Go.Proofs.YtaacehdfpoiljaaDoor
open Go.RowKit

theorem plLen_read (t : List Nat) : plLen (Nt.readPI t) ≤ 1000 := by
  cases e : Nt.readP t with
  | none => rw [(Nt.readPI_none e).1]; exact Nat.zero_le _
  | some q =>
    rw [(Nt.readPI_some e).1]
    have hq := (Nt.readP_some.1 e).1
    have h6 := hq.ok.few
    have hl := hq.len
    show (Nt.nats q.ns).length + (Nt.nats q.ks).length ≤ 1000
    rw [Nt.nats_length, Nt.nats_length]
    omega
theorem iReadPlaceN_any (s : ByteArray) (hs : s.size ≤ 1100000) (w : World) (he : ErrW w) :
    Calls Tryd.prog 19 #[.string s] w fun e w' => ∃ y, e = .returned (.tuple #[y, .bool (Nt.readPB (tx s))]) ∧ Pn w' w.heap.size w'.heap.size y (Nt.readPI (tx s)) ∧ Kept [] w w' :=
  (iReadPlaceA_any s hs w he).mono (by
    rintro e w' ⟨y, rfl, h, hk⟩
    refine ⟨y, rfl, ?_, hk⟩
    rcases h with ⟨_, rfl, h2⟩ | ⟨_, g1, q1, g2, q2, rfl, h1, h2, h3⟩
    · exact .inl ⟨h2, rfl⟩
    · exact .inr ⟨g1, q1, g2, q2, ⟨rfl, h1, h2, h3⟩, (h2.block rfl).2⟩)
end Go.Proofs.YtaacehdfpoiljaaDoor
