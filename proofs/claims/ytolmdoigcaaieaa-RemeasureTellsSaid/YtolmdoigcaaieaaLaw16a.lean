/- Law 16: registers opened; the document's example; MeasureTells: its walk. -/
import Derived.Test.YtolmdoigcaaieaaMs
import Derived.Test.YtolmdoigcaaieaaTab16
import Derived.Test.YtolmdoigcaaieaaRBucket6
import Derived.Test.YtolmdoigcaaieaaM1
import Derived.WalkKit
import Derived.WalkSpells
import Derived.WalkLawsBesides
import Derived.Lib.Hide
import Derived.IntWalk
import Derived.Deep.LoopGhost
import Derived.Deep.DeepCutAuto
import Derived.Deep.CutBlock
namespace Go.Proofs.Ytolmdoigcaaieaa
open Go.RowKit

/-- some register, its rows at hand -/
theorem preg_open (A : Option Addr) (n c : Nat) (zs : List Int) (w : World) (h : IsRow .i64 w A n c zs) :
    Calls Try.prog 12 #[.slice A n c] w fun e w' => ∃ sb A' c' m g, e = .returned (ptr sb) ∧ w'.cell? ⟨sb, 0, none⟩ = some (.slice A' m c') ∧ m ≤ c' ∧ c' ≤ maxLen ∧ m ≤ 12 ∧ (∀ j, j < m → Mon (g j).a) ∧ Mon (btot g m) ∧ OwnR be 3 w' 26 w.heap.size (.slice A' m c') m g ∧ Below w.heap.size w w' := by
  refine (preg_some A n c zs w h).mono ?_
  rintro e w' ⟨sb, S, O, rfl, nb⟩
  obtain ⟨v, m, g, s, iv⟩ := nb.st
  obtain ⟨A', c', rfl, h1, h2, _⟩ := s.own.form
  exact ⟨sb, A', c', m, g, rfl, s.hd.c0, h1, h2, iv.le, fun j hj => iv.is.mon iv.mon hj, iv.all, s.own, nb.low⟩
end Go.Proofs.Ytolmdoigcaaieaa
