/- The document's own measures of deferred tax: a contract for each. -/
import Derived.Test.YtolmdoigcaaieaaMsMath
import Derived.Test.YtolmdoigcaaieaaREnact
import Derived.Test.YtolmdoigcaaieaaRBucket
import Derived.Test.YtolmdoigcaaieaaM1
import Derived.Test.YtolmdoigcaaieaaRef01
import Derived.WalkKit
import Derived.WalkSpells
import Derived.WalkLawsBesides
import Derived.Lib.Hide
import Derived.IntWalk
import Derived.Deep.LoopGhost
import Derived.Deep.QuietTactic
import Derived.BigQuiet
import Derived.Deep.RegionHeld3
namespace Go.Proofs.Ytolmdoigcaaieaa
open Go.RowKit

section
variable {w : World} {O : Nat → Nat} {base t sb n : Nat} {v : Value} {R : Nat → Rt}
end
end Go.Proofs.Ytolmdoigcaaieaa
