/- The document's own: may a year, a rate, an amount, a bucket be? -/
import Derived.Test.YtdjepibgpgeifaaRows
import Derived.Test.YtdjepibgpgeifaaTot
import Derived.Test.YtdjepibgpgeifaaBkMath
import Derived.WalkKit
import Derived.WalkSpells
import Derived.WalkLawsBesides
import Derived.Lib.Hide
namespace Go.Proofs.Ytdjepibgpgeifaa
open Go.RowKit

theorem ryr_yes (y : Int) (w : World) (h1 : 0 ≤ y) (h2 : y ≤ 99) : Calls Try.prog 36 #[.int .i64 y] w fun e w' => e = .returned (.bool true) ∧ w = w' := by
  go_enter Try.func36, Try.ntmps36
  go_wp2
  all_goals
    go_ret
    exact ⟨congrArg (fun b : Bool => Ending.returned (.bool b)) (by first | rfl | (simp; omega)), rfl⟩
theorem ryr_no (y : Int) (w : World) (h : y < 0 ∨ 99 < y) : Calls Try.prog 36 #[.int .i64 y] w fun e w' => e = .returned (.bool false) ∧ w = w' := by
  go_enter Try.func36, Try.ntmps36
  go_wp2
  all_goals
    go_ret
    exact ⟨congrArg (fun b : Bool => Ending.returned (.bool b)) (by first | rfl | (simp; omega)), rfl⟩
end Go.Proofs.Ytdjepibgpgeifaa
