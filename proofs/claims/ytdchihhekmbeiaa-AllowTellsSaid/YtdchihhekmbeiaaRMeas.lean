/- The document's own measures of deferred tax: a contract for each. -/
import Derived.Test.YtdchihhekmbeiaaMsMath
import Derived.Test.YtdchihhekmbeiaaREnact
import Derived.Test.YtdchihhekmbeiaaRBucket
import Derived.Test.YtdchihhekmbeiaaM1
import Derived.Test.YtdchihhekmbeiaaRef01
import Derived.WalkKit
import Derived.WalkSpells
import Derived.WalkLawsBesides
import Derived.Lib.Hide
import Derived.IntWalk
import Derived.Deep.LoopGhost
import Derived.Deep.QuietTactic
import Derived.BigQuiet
import Derived.Deep.RegionHeld3
namespace Go.Proofs.Ytdchihhekmbeiaa
open Go.RowKit

theorem rshare_any (a r v e : Int) (H : ShareIs a r v e) (w : World) :
    Calls Try.prog 13 #[.int .i64 a, .int .i64 r] w fun e' w' => e' = .returned (.tuple #[.int .i64 v, .int .i64 e]) ∧ w = w' := by
  rcases H with ⟨h, rfl, rfl⟩ | ⟨⟨⟨h1, h2⟩, h3, h4⟩, rfl, rfl⟩
  · unfold RtOk at h
    rcases (show a < 0 ∨ (¬ a < 0 ∧ 100000000000 < a) ∨ (¬ a < 0 ∧ ¬ 100000000000 < a ∧ (r < 0 ∨ 1000000 < r)) by omega) with q | ⟨q1, q2⟩ | ⟨q1, q2, q3⟩
    all_goals
      clear h
      go_enter Try.func13, Try.ntmps13
      go_wp2_with (first | (go_at_call 17; (with_reducible refine (rrt_no _ _ (by omega)).mono ?_); rintro e w' ⟨rfl, rfl⟩))
      go_ret2
      exact ⟨rfl, rfl⟩
  · have E := Lib.hid (rfl : rof a r = rof a r)
    obtain ⟨x, hx⟩ : ∃ x, rof a r = x := ⟨_, rfl⟩
    have HX := Lib.hid hx
    rw [hx]
    clear hx E
    go_enter Try.func13, Try.ntmps13
    go_wp2_with (first | (go_at_call 17; (with_reducible refine (rrt_yes _ _ (by omega) (by omega)).mono ?_); rintro e w' ⟨rfl, rfl⟩) | (go_at_call 18; (with_reducible refine (rpart_v _ _ _ (by omega) (by omega) _ HX).mono ?_); rintro e w' ⟨rfl, rfl⟩))
    go_ret2
    exact ⟨rfl, rfl⟩
section
variable {w : World} {O : Nat → Nat} {base t sb n : Nat} {v : Value} {R : Nat → Rt}
end
end Go.Proofs.Ytdchihhekmbeiaa
