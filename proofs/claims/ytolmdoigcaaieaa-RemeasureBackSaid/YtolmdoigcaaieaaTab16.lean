/- Tables of rates of numbers, made by the document's own additions: some table; of it, the program's. -/
import Derived.Test.YtolmdoigcaaieaaREnact
import Derived.Test.YtolmdoigcaaieaaLaw09a
import Derived.Test.YtolmdoigcaaieaaM1
import Derived.Test.YtolmdoigcaaieaaOrd2
import Derived.WalkKit
import Derived.WalkSpells
import Derived.WalkLawsBesides
import Derived.Lib.Hide
import Derived.IntWalk
import Derived.Deep.LoopGhost
import Derived.Deep.RegionHeld3
namespace Go.Proofs.Ytolmdoigcaaieaa
open Go.RowKit
section
variable {w0 w : World} {O : Nat → Nat} {t sb n : Nat} {R : Nat → Rt}
theorem TInv.pre (iv : TInv n R) {k : Nat} (hk : k ≤ n) : TInv k R := ⟨by have := iv.le; omega, fun i hi => iv.ok i (by omega), fun i l hi hl => iv.uniq i l (by omega) (by omega)⟩
theorem pre_terr (iv : TInv n R) {k : Nat} (hk : k < n) : TErr R k (R k).j (R k).y (R k).r (R k).p 0 := by
  refine .ok (iv.ok k hk) (fun h => ?_) (by have := iv.le; omega)
  obtain ⟨i, h1, h2, h3, h4⟩ := h
  have := iv.uniq i k (by omega) hk h2 h3 h4
  omega
theorem push_same (R : Nat → Rt) (k : Nat) : pushT R k (R k) = R := by
  funext i
  unfold pushT
  by_cases e : i = k
  · rw [if_pos e, e]
  · rw [if_neg e]
end
end Go.Proofs.Ytolmdoigcaaieaa
