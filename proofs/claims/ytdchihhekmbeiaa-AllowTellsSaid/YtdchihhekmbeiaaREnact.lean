/- The document's own table of rates: Add, Rate: a contract for each. -/
import Derived.Test.YtdchihhekmbeiaaEnact3
import Derived.Test.YtdchihhekmbeiaaM1
import Derived.Test.YtdchihhekmbeiaaRef9
import Derived.WalkKit
import Derived.WalkSpells
import Derived.WalkLawsBesides
import Derived.Lib.Hide
import Derived.IntWalk
import Derived.Deep.LoopGhost
import Derived.Deep.QuietTactic
import Derived.BigQuiet
import Derived.Deep.RegionLaw
namespace Go.Proofs.Ytdchihhekmbeiaa
open Go.RowKit

section
variable {w w1 : World} {O O1 : Nat → Nat} {base t t' sb n : Nat} {v : Value} {R : Nat → Rt} {E : TypeId}
end
end Go.Proofs.Ytdchihhekmbeiaa
