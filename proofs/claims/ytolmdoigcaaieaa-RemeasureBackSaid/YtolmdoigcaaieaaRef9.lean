/- The document's own: may a year, a rate, an amount, a bucket be? -/
import Derived.Test.YtolmdoigcaaieaaRows
import Derived.Test.YtolmdoigcaaieaaM1
import Derived.Test.YtolmdoigcaaieaaBkMath
import Derived.WalkKit
import Derived.WalkSpells
import Derived.WalkLawsBesides
import Derived.Lib.Hide
namespace Go.Proofs.Ytolmdoigcaaieaa
open Go.RowKit

theorem ryr_yes (y : Int) (w : World) (h1 : 0 ≤ y) (h2 : y ≤ 99) : Calls Try.prog 44 #[.int .i64 y] w fun e w' => e = .returned (.bool true) ∧ w = w' := by
  go_enter Try.func44, Try.ntmps44
  go_wp2
  all_goals
    go_ret
    exact ⟨congrArg (fun b : Bool => Ending.returned (.bool b)) (by first | rfl | (simp; omega)), rfl⟩
theorem ryr_no (y : Int) (w : World) (h : y < 0 ∨ 99 < y) : Calls Try.prog 44 #[.int .i64 y] w fun e w' => e = .returned (.bool false) ∧ w = w' := by
  go_enter Try.func44, Try.ntmps44
  go_wp2
  all_goals
    go_ret
    exact ⟨congrArg (fun b : Bool => Ending.returned (.bool b)) (by first | rfl | (simp; omega)), rfl⟩
theorem rrt_yes (y : Int) (w : World) (h1 : 0 ≤ y) (h2 : y ≤ 1000000) : Calls Try.prog 25 #[.int .i64 y] w fun e w' => e = .returned (.bool true) ∧ w = w' := by
  go_enter Try.func25, Try.ntmps25
  go_wp2
  all_goals
    go_ret
    exact ⟨congrArg (fun b : Bool => Ending.returned (.bool b)) (by first | rfl | (simp; omega)), rfl⟩
theorem rrt_no (y : Int) (w : World) (h : y < 0 ∨ 1000000 < y) : Calls Try.prog 25 #[.int .i64 y] w fun e w' => e = .returned (.bool false) ∧ w = w' := by
  go_enter Try.func25, Try.ntmps25
  go_wp2
  all_goals
    go_ret
    exact ⟨congrArg (fun b : Bool => Ending.returned (.bool b)) (by first | rfl | (simp; omega)), rfl⟩
theorem rmny_yes (n : Int) (w : World) (h : Mon n) : Calls Try.prog 26 #[.int .i64 n] w fun e w' => e = .returned (.bool true) ∧ w = w' := by
  unfold Mon at h
  obtain ⟨h1, h2⟩ := h
  go_enter Try.func26, Try.ntmps26
  go_wp2
  all_goals
    go_ret
    exact ⟨congrArg (fun b : Bool => Ending.returned (.bool b)) (by first | rfl | (simp; omega)), rfl⟩
theorem rmny_no (n : Int) (w : World) (h : ¬ Mon n) : Calls Try.prog 26 #[.int .i64 n] w fun e w' => e = .returned (.bool false) ∧ w = w' := by
  unfold Mon at h
  go_enter Try.func26, Try.ntmps26
  go_wp2
  all_goals
    go_ret
    exact ⟨congrArg (fun b : Bool => Ending.returned (.bool b)) (by first | rfl | (simp; omega)), rfl⟩
theorem rbk_yes (c y : Int) (w : World) (h : BOk c y) : Calls Try.prog 36 #[.int .i64 c, .int .i64 y] w fun e w' => e = .returned (.bool true) ∧ w = w' := by
  obtain ⟨h1, h2, h3, h4⟩ := h
  go_enter Try.func36, Try.ntmps36
  go_wp2_with (go_at_call 44; (with_reducible refine (ryr_yes _ _ h3 h4).mono ?_); rintro e w' ⟨rfl, rfl⟩)
  go_ret
  exact ⟨rfl, rfl⟩
theorem rbk_no (c y : Int) (w : World) (h : ¬ BOk c y) : Calls Try.prog 36 #[.int .i64 c, .int .i64 y] w fun e w' => e = .returned (.bool false) ∧ w = w' := by
  unfold BOk at h
  rcases (show c < 1 ∨ (1 ≤ c ∧ 9 < c) ∨ (1 ≤ c ∧ c ≤ 9 ∧ (y < 0 ∨ 99 < y)) by omega) with q | ⟨q1, q2⟩ | ⟨q1, q2, q3⟩
  · clear h
    go_enter Try.func36, Try.ntmps36
    go_wp2
    go_ret
    exact ⟨rfl, rfl⟩
  · clear h
    go_enter Try.func36, Try.ntmps36
    go_wp2
    go_ret
    exact ⟨rfl, rfl⟩
  · have R1 := Lib.hid fun w => ryr_no y w q3
    clear h q3
    go_enter Try.func36, Try.ntmps36
    go_wp2_with (go_at_call 44; (with_reducible refine (R1.out _).mono ?_); rintro e w' ⟨rfl, rfl⟩)
    go_ret
    exact ⟨rfl, rfl⟩
end Go.Proofs.Ytolmdoigcaaieaa
