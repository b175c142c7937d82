/- The statements' own answers of chapter 1, and the small numbers that they are made of: a contract for each. Both the program and the plain answers are met by the same functions of the numbers. -/
import Derived.Test.YtgikhbfbjkdadaaRowMem
import Derived.WalkKit
import Derived.WalkSpells
import Derived.WalkLawsBesides
import Derived.Lib.Hide
namespace Go.Proofs.Ytgikhbfbjkdadaa
open Go.RowKit

/-- may an amount (or a sum of some) and a rate be? -/
def ofB (n r : Int) : Bool := decide ((-400000000000 ≤ n ∧ n ≤ 400000000000) ∧ 0 ≤ r ∧ r ≤ 10000000)
def ofV (n r : Int) : Int := if ofB n r then rof n r else 0
def moneyB (n : Int) : Bool := decide (-100000000000 ≤ n ∧ n ≤ 100000000000)
def rightB (r : Int) : Bool := decide (0 ≤ r ∧ r ≤ 1000000)
def floorB (n r : Int) : Bool := decide ((0 ≤ n ∧ n ≤ 100000000000) ∧ 0 ≤ r ∧ r ≤ 1000000)
def floorV (n r : Int) : Int := if floorB n r then n * r / 1000000 else 0

theorem money_v (n : Int) (w : World) :
    Calls Try.prog 17 #[.int .i64 n] w fun e w' => e = .returned (.bool (moneyB n)) ∧ w = w' := by
  by_cases h : -100000000000 ≤ n ∧ n ≤ 100000000000
  · rw [show moneyB n = true from decide_eq_true h]; exact money_yes n w h.1 h.2
  · rw [show moneyB n = false from decide_eq_false h]; exact money_no n w (by omega)
theorem rmoney_v (n : Int) (w : World) :
    Calls Try.prog 20 #[.int .i64 n] w fun e w' => e = .returned (.bool (moneyB n)) ∧ w = w' := by
  go_enter Try.func20, Try.ntmps20
  go_wp2
  all_goals
    go_ret
    exact ⟨ret_b (by unfold moneyB; first | (simp; done) | (simp; omega)), rfl⟩
theorem rmoney_yes (n : Int) (w : World) (h : Mon n) :
    Calls Try.prog 20 #[.int .i64 n] w fun e w' => e = .returned (.bool true) ∧ w = w' := by
  have := rmoney_v n w; rwa [show moneyB n = true from decide_eq_true h] at this
theorem rmoney_no (n : Int) (w : World) (h : ¬ Mon n) :
    Calls Try.prog 20 #[.int .i64 n] w fun e w' => e = .returned (.bool false) ∧ w = w' := by
  have := rmoney_v n w; rwa [show moneyB n = false from decide_eq_false h] at this
theorem within_some (v n : Int) (w : World) (h1 : 1 ≤ n) (h2 : n ≤ 4611686018427387904) :
    Calls Try.prog 8 #[.int .i64 v, .int .i64 n] w fun e w' => ∃ x, 0 ≤ x ∧ x < n ∧ e = .returned (.int .i64 x) ∧ w = w' :=
  (within_any v n w h1 h2).mono fun _ _ ⟨he, hw⟩ => ⟨_, Int.emod_nonneg v (by omega), Int.emod_lt_of_pos v (by omega), he, hw⟩
/-- any number, as an amount: some number -/
theorem amount_some (n : Int) (w : World) :
    Calls Try.prog 13 #[.int .i64 n] w fun e w' => ∃ y, e = .returned (.int .i64 y) ∧ w = w' := by
  go_enter Try.func13, Try.ntmps13
  go_wp2_with (go_at_call 8; (with_reducible refine (within_some _ _ _ (by omega) (by omega)).mono ?_); rintro e w' ⟨x, hx1, hx2, rfl, rfl⟩)
  all_goals
    go_ret
    exact ⟨_, rfl, rfl⟩
end Go.Proofs.Ytgikhbfbjkdadaa
