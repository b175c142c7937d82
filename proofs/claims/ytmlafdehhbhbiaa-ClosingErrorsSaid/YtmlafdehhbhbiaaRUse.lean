/- The document's own losses of numbers, what is used of them, the room: a contract for each. -/
import Derived.Test.YtmlafdehhbhbiaaM3
import Derived.Test.YtmlafdehhbhbiaaUsMath
import Derived.Test.YtmlafdehhbhbiaaM1
import Derived.Test.YtmlafdehhbhbiaaM6
import Derived.WalkKit
import Derived.WalkSpells
import Derived.WalkLawsBesides
import Derived.Lib.Hide
import Derived.IntWalk
import Derived.Deep.LoopGhost
import Derived.Deep.RegionHeld3
namespace Go.Proofs.Ytmlafdehhbhbiaa
open Go.RowKit

end Go.Proofs.Ytmlafdehhbhbiaa
