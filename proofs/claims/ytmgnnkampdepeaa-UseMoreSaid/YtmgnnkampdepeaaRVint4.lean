/- The document's own losses: Take: a contract. -/
import Derived.Test.YtmgnnkampdepeaaRVint3
import Derived.WalkKit
import Derived.WalkSpells
import Derived.WalkLawsBesides
import Derived.Lib.Hide
import Derived.IntWalk
import Derived.BigQuiet
import Derived.Deep.LoopGhost
import Derived.Deep.RegionLaw
import Derived.Deep.QuietTactic
namespace Go.Proofs.Ytmgnnkampdepeaa
open Go.RowKit

section
variable {w w1 : World} {O O1 : Nat → Nat} {base t t' sb n : Nat} {v : Value} {g : Nat → Bk} {S : Int → Int → Int}
/-- as many numbers as there are losses, each within what is left -/
def UOk (n : Nat) (g : Nat → Bk) (q : Nat) (u : Nat → Int) : Prop := q = n ∧ ∀ j, j < n → 0 ≤ u j ∧ u j ≤ (g j).a
end
end Go.Proofs.Ytmgnnkampdepeaa
