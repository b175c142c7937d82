/- The small numbers that the statements are made of: a contract for each. -/
import Derived.Test.YtdjepibgpgeifaaRate
import Derived.Test.YtdjepibgpgeifaaMem
import Derived.WalkKit
import Derived.WalkSpells
import Derived.WalkLawsBesides
import Derived.Lib.Hide
namespace Go.Proofs.Ytdjepibgpgeifaa
open Go.RowKit

theorem within_some (v n : Int) (w : World) (h1 : 1 ≤ n) (h2 : n ≤ 4611686018427387904) :
    Calls Try.prog 9 #[.int .i64 v, .int .i64 n] w fun e w' => ∃ x, 0 ≤ x ∧ x < n ∧ e = .returned (.int .i64 x) ∧ w = w' :=
  (within_any v n w h1 h2).mono fun _ _ ⟨he, hw⟩ => ⟨_, Int.emod_nonneg v (by omega), Int.emod_lt_of_pos v (by omega), he, hw⟩
/-- any number, as an amount: some number -/
theorem amount_some (n : Int) (w : World) :
    Calls Try.prog 17 #[.int .i64 n] w fun e w' => ∃ y, e = .returned (.int .i64 y) ∧ w = w' := by
  go_enter Try.func17, Try.ntmps17
  go_wp2_with (go_at_call 9; (with_reducible refine (within_some _ _ _ (by omega) (by omega)).mono ?_); rintro e w' ⟨x, hx1, hx2, rfl, rfl⟩)
  all_goals
    go_ret
    exact ⟨_, rfl, rfl⟩
end Go.Proofs.Ytdjepibgpgeifaa
