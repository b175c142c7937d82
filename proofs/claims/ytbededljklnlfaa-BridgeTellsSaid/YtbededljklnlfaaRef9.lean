/- The document's own: may a year, a rate, an amount, a bucket be? -/
import Derived.Test.YtbededljklnlfaaRows
import Derived.Test.YtbededljklnlfaaTot
import Derived.Test.YtbededljklnlfaaBkMath
import Derived.WalkKit
import Derived.WalkSpells
import Derived.WalkLawsBesides
import Derived.Lib.Hide
namespace Go.Proofs.Ytbededljklnlfaa
open Go.RowKit

theorem rmny_yes (n : Int) (w : World) (h : Mon n) : Calls Try.prog 14 #[.int .i64 n] w fun e w' => e = .returned (.bool true) ∧ w = w' := by
  unfold Mon at h
  obtain ⟨h1, h2⟩ := h
  go_enter Try.func14, Try.ntmps14
  go_wp2
  all_goals
    go_ret
    exact ⟨congrArg (fun b : Bool => Ending.returned (.bool b)) (by first | rfl | (simp; omega)), rfl⟩
theorem rmny_no (n : Int) (w : World) (h : ¬ Mon n) : Calls Try.prog 14 #[.int .i64 n] w fun e w' => e = .returned (.bool false) ∧ w = w' := by
  unfold Mon at h
  go_enter Try.func14, Try.ntmps14
  go_wp2
  all_goals
    go_ret
    exact ⟨congrArg (fun b : Bool => Ending.returned (.bool b)) (by first | rfl | (simp; omega)), rfl⟩
end Go.Proofs.Ytbededljklnlfaa
