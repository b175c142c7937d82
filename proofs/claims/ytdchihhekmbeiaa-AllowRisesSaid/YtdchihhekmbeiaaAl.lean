/- Package allow, the program's own: a contract for each of its calls. -/
import Derived.Test.YtdchihhekmbeiaaAlMath
import Derived.Test.YtdchihhekmbeiaaM1
namespace Go.Proofs.Ytdchihhekmbeiaa
open Go.RowKit
theorem palw_any (a r v e : Int) (H : AlwIs a r v e) (w : World) :
    Calls Try.prog 8 #[.int .i64 a, .int .i64 r] w fun e' w' => e' = .returned (.tuple #[.int .i64 v, .int .i64 e]) ∧ w = w' := by
  rcases H with ⟨h, rfl, rfl⟩ | ⟨⟨⟨h1, h2⟩, h3, h4⟩, rfl, rfl⟩
  · unfold RtOk at h
    rcases (show a < 0 ∨ (¬ a < 0 ∧ 100000000000 < a) ∨ (¬ a < 0 ∧ a ≤ 100000000000 ∧ (r < 0 ∨ 1000000 < r)) by omega) with q | ⟨q1, q2⟩ | ⟨q1, q2, q3⟩
    · clear h
      go_enter Try.func8, Try.ntmps8
      go_wp2
      go_ret2
      exact ⟨rfl, rfl⟩
    · clear h
      go_enter Try.func8, Try.ntmps8
      go_wp2_with (first | (go_at_call 14; (with_reducible refine (money_no _ _ (by omega)).mono ?_); rintro e w' ⟨rfl, rfl⟩))
      go_ret2
      exact ⟨rfl, rfl⟩
    · clear h
      go_enter Try.func8, Try.ntmps8
      go_wp2_with (first | (go_at_call 14; (with_reducible refine (money_yes _ _ (by omega) (by omega)).mono ?_); rintro e w' ⟨rfl, rfl⟩) | (go_at_call 15; (with_reducible refine (right_no _ _ (by omega)).mono ?_); rintro e w' ⟨rfl, rfl⟩))
      go_ret2
      exact ⟨rfl, rfl⟩
  · obtain ⟨m1, m2⟩ := (rof_rest (n := a) (r := r) h1 ⟨h3, h4⟩).1
    obtain ⟨x, hx⟩ : ∃ x, rof a r = x := ⟨_, rfl⟩
    have HX := Lib.hid hx
    have q1 : ¬ a < 0 := by omega
    rw [hx] at m1 m2
    rw [hx]
    clear hx
    go_enter Try.func8, Try.ntmps8
    go_wp2_with (first | (go_at_call 14; (with_reducible refine (money_yes _ _ (by omega) (by omega)).mono ?_); rintro e w' ⟨rfl, rfl⟩) | (go_at_call 15; (with_reducible refine (right_yes _ _ (by omega) (by omega)).mono ?_); rintro e w' ⟨rfl, rfl⟩) | (go_at_call 16; (with_reducible refine (of_at _ _ _ _ (by omega) (by omega) (by omega) (by omega) HX).mono ?_); rintro e w' ⟨rfl, rfl⟩))
    go_ret2
    exact ⟨rfl, rfl⟩
theorem pchg_any (a b : Int) (w : World) (h : -1000000000000 ≤ a - b ∧ a - b ≤ 1000000000000) :
    Calls Try.prog 9 #[.int .i64 a, .int .i64 b] w fun e w' => e = .returned (.int .i64 (a - b)) ∧ w = w' := by
  go_enter Try.func9, Try.ntmps9
  go_wp2
  go_ret
  exact ⟨rfl, rfl⟩
end Go.Proofs.Ytdchihhekmbeiaa
