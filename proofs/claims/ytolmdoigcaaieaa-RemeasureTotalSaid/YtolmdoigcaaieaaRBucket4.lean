/- The document's own register of buckets: Reclass: a contract, by why it is refused. -/
import Derived.Test.YtolmdoigcaaieaaRBucket3
import Derived.WalkKit
import Derived.WalkSpells
import Derived.WalkLawsBesides
import Derived.Lib.Hide
import Derived.IntWalk
namespace Go.Proofs.Ytolmdoigcaaieaa
open Go.RowKit

section
variable {w w1 : World} {O O1 : Nat → Nat} {base t t' sb n : Nat} {v : Value} {g : Nat → Bk} {S : Int → Int → Int}
/-- two places are not one -/
theorem not_one {c y c' y' : Int} (h : ¬ (c = c' ∧ y = y')) : (c == c') = false ∨ ((c == c') = true ∧ (y == y') = false) := by
  by_cases q : c = c'
  · exact .inr ⟨by simpa using q, by simpa using fun z => h ⟨q, z⟩⟩
  · exact .inl (by simpa using q)
end
end Go.Proofs.Ytolmdoigcaaieaa
