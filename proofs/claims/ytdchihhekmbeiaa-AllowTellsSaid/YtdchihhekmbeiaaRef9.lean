/- The document's own: may a year, a rate, an amount, a bucket be? -/
import Derived.Test.YtdchihhekmbeiaaRows
import Derived.Test.YtdchihhekmbeiaaM1
import Derived.Test.YtdchihhekmbeiaaBkMath
import Derived.WalkKit
import Derived.WalkSpells
import Derived.WalkLawsBesides
import Derived.Lib.Hide
namespace Go.Proofs.Ytdchihhekmbeiaa
open Go.RowKit

theorem rrt_yes (y : Int) (w : World) (h1 : 0 ≤ y) (h2 : y ≤ 1000000) : Calls Try.prog 17 #[.int .i64 y] w fun e w' => e = .returned (.bool true) ∧ w = w' := by
  go_enter Try.func17, Try.ntmps17
  go_wp2
  all_goals
    go_ret
    exact ⟨congrArg (fun b : Bool => Ending.returned (.bool b)) (by first | rfl | (simp; omega)), rfl⟩
theorem rrt_no (y : Int) (w : World) (h : y < 0 ∨ 1000000 < y) : Calls Try.prog 17 #[.int .i64 y] w fun e w' => e = .returned (.bool false) ∧ w = w' := by
  go_enter Try.func17, Try.ntmps17
  go_wp2
  all_goals
    go_ret
    exact ⟨congrArg (fun b : Bool => Ending.returned (.bool b)) (by first | rfl | (simp; omega)), rfl⟩
end Go.Proofs.Ytdchihhekmbeiaa
