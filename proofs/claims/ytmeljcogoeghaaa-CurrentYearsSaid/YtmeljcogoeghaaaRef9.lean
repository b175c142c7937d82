/- The document's own: may a year, a rate, an amount, a bucket be? -/
import Derived.Test.YtmeljcogoeghaaaRows
import Derived.Test.YtmeljcogoeghaaaTot
import Derived.Test.YtmeljcogoeghaaaBkMath
import Derived.WalkKit
import Derived.WalkSpells
import Derived.WalkLawsBesides
import Derived.Lib.Hide
namespace Go.Proofs.Ytmeljcogoeghaaa
open Go.RowKit

theorem ryr_yes (y : Int) (w : World) (h1 : 0 ≤ y) (h2 : y ≤ 99) : Calls Try.prog 41 #[.int .i64 y] w fun e w' => e = .returned (.bool true) ∧ w = w' := by
  go_enter Try.func41, Try.ntmps41
  go_wp2
  all_goals
    go_ret
    exact ⟨congrArg (fun b : Bool => Ending.returned (.bool b)) (by first | rfl | (simp; omega)), rfl⟩
theorem ryr_no (y : Int) (w : World) (h : y < 0 ∨ 99 < y) : Calls Try.prog 41 #[.int .i64 y] w fun e w' => e = .returned (.bool false) ∧ w = w' := by
  go_enter Try.func41, Try.ntmps41
  go_wp2
  all_goals
    go_ret
    exact ⟨congrArg (fun b : Bool => Ending.returned (.bool b)) (by first | rfl | (simp; omega)), rfl⟩
theorem rrt_yes (y : Int) (w : World) (h1 : 0 ≤ y) (h2 : y ≤ 1000000) : Calls Try.prog 40 #[.int .i64 y] w fun e w' => e = .returned (.bool true) ∧ w = w' := by
  go_enter Try.func40, Try.ntmps40
  go_wp2
  all_goals
    go_ret
    exact ⟨congrArg (fun b : Bool => Ending.returned (.bool b)) (by first | rfl | (simp; omega)), rfl⟩
theorem rrt_no (y : Int) (w : World) (h : y < 0 ∨ 1000000 < y) : Calls Try.prog 40 #[.int .i64 y] w fun e w' => e = .returned (.bool false) ∧ w = w' := by
  go_enter Try.func40, Try.ntmps40
  go_wp2
  all_goals
    go_ret
    exact ⟨congrArg (fun b : Bool => Ending.returned (.bool b)) (by first | rfl | (simp; omega)), rfl⟩
theorem rmny_yes (n : Int) (w : World) (h : Mon n) : Calls Try.prog 62 #[.int .i64 n] w fun e w' => e = .returned (.bool true) ∧ w = w' := by
  unfold Mon at h
  obtain ⟨h1, h2⟩ := h
  go_enter Try.func62, Try.ntmps62
  go_wp2
  all_goals
    go_ret
    exact ⟨congrArg (fun b : Bool => Ending.returned (.bool b)) (by first | rfl | (simp; omega)), rfl⟩
theorem rmny_no (n : Int) (w : World) (h : ¬ Mon n) : Calls Try.prog 62 #[.int .i64 n] w fun e w' => e = .returned (.bool false) ∧ w = w' := by
  unfold Mon at h
  go_enter Try.func62, Try.ntmps62
  go_wp2
  all_goals
    go_ret
    exact ⟨congrArg (fun b : Bool => Ending.returned (.bool b)) (by first | rfl | (simp; omega)), rfl⟩
end Go.Proofs.Ytmeljcogoeghaaa
