/- SidesMeet: its walk. -/
import Derived.Test.YtiakfkeeiokliaaSides
import Derived.Test.YtiakfkeeiokliaaPlay
import Derived.WalkKit
import Derived.WalkSpells
import Derived.WalkLawsBesides
import Derived.Lib.Hide
import Derived.Deep.LoopGhost
namespace Go.Proofs.Ytiakfkeeiokliaa
open Go.RowKit
attribute [local go_sem] run_store_complex

theorem sof_pos (n : Int) (w : World) (h1 : 0 < n) (h2 : n ≤ 100000000000) :
    Calls Try.prog 8 #[.int .i64 n] w fun e w' => e = .returned (.complex .f64 (fl n) (fl 0)) ∧ w = w' := by
  have := sof_in n w ⟨by omega, h2⟩
  rwa [show dbt n = n from if_pos h1, show cdt n = 0 from if_pos h1] at this
theorem sof_neg (n : Int) (w : World) (h1 : 0 ≤ n) (h2 : n ≤ 100000000000) :
    Calls Try.prog 8 #[.int .i64 (-n)] w fun e w' => e = .returned (.complex .f64 (fl 0) (fl n)) ∧ w = w' := by
  have := sof_in (-n) w ⟨by omega, by omega⟩
  rwa [show dbt (-n) = 0 from if_neg (by omega), show cdt (-n) = n by rw [cdt, if_neg (by omega)]; omega] at this
theorem even_zero (w : World) : Calls Try.prog 14 #[.complex .f64 0 0] w fun e w' => e = .returned (.bool true) ∧ w = w' := by
  have := even_yes 0 0 w (by omega) (by omega) rfl
  rwa [fl_zero] at this

set_option maxHeartbeats 4000000 in
set_option maxRecDepth 100000 in
theorem sidesMeet_walk (a0 : Int) (w : World) (_w0 : (Lit.int .i64 a0).wf = true) :
    Calls Try.prog 4 #[.int .i64 a0] w fun e w' => e = .returned (.bool true) ∧ Below w.heap.size w w' := by
  clear _w0
  obtain ⟨N, hN⟩ : ∃ N, a0 % 99999999999 = N := ⟨_, rfl⟩
  have n1 : 0 ≤ N := by omega
  have n2 : N ≤ 99999999998 := by omega
  have HN := Lib.hid hN
  clear hN
  have o0 : (FloatKind.f64.format.order (fl 0) (fl 0) == some .eq) = true := by rw [fl_zero]; decide
  have o1 : (FloatKind.f64.format.order (fl (1 + N)) (fl (1 + N)) == some .eq) = true := by rw [fl_order (by omega) (by omega) (by omega) (by omega)]; simp
  go_enter Try.func4, Try.ntmps4
  go_wp2_with (first | (go_at_call 7; (with_reducible refine (within_at _ _ _ _ (by omega) (by omega) HN).mono ?_); rintro e w' ⟨rfl, rfl⟩) | (go_at_call 8; (with_reducible refine (sof_pos (1 + N) _ (by omega) (by omega)).mono ?_); rintro e w' ⟨rfl, rfl⟩) | (go_at_call 8; (with_reducible refine (sof_pos 1 _ (by omega) (by omega)).mono ?_); rintro e w' ⟨rfl, rfl⟩) | (go_at_call 8; (with_reducible refine (sof_neg (1 + N) _ (by omega) (by omega)).mono ?_); rintro e w' ⟨rfl, rfl⟩) | (go_at_call 13; (with_reducible refine (turn_any _ _ _).mono ?_); rintro e w' ⟨rfl, rfl⟩) | (go_at_call 9; (with_reducible refine (ssum_two (1 + N) 0 0 (1 + N) _ _ _ (by simp) (by omega) (by omega) (by omega) (by omega) (by omega) (by omega)).mono ?_); rintro e w' ⟨rfl, rfl⟩) | (go_at_call 9; (with_reducible refine (ssum_three (1 + N) 0 0 (1 + N) 1 0 _ _ _ (by simp) (by omega) (by omega) (by omega) (by omega) (by omega) (by omega) (by omega) (by omega)).mono ?_); rintro e w' ⟨rfl, rfl⟩) | (go_at_call 9; (with_reducible refine (ssum_three (1 + N) 0 (1 + N) 0 0 (1 + N) _ _ _ (by simp) (by omega) (by omega) (by omega) (by omega) (by omega) (by omega) (by omega) (by omega)).mono ?_); rintro e w' ⟨rfl, rfl⟩) | (go_at_call 14; (with_reducible refine (even_zero _).mono ?_); rintro e w' ⟨rfl, rfl⟩) | (go_at_call 14; (with_reducible refine (even_yes (1 + N) (1 + N) _ (by omega) (by omega) (by omega)).mono ?_); rintro e w' ⟨rfl, rfl⟩) | (go_at_call 14; (with_reducible refine (even_no (1 + N) 0 _ (by omega) (by omega) (by omega) (by omega) (by omega)).mono ?_); rintro e w' ⟨rfl, rfl⟩) | (go_at_call 14; (with_reducible refine (even_no 0 (1 + N) _ (by omega) (by omega) (by omega) (by omega) (by omega)).mono ?_); rintro e w' ⟨rfl, rfl⟩) | (go_at_call 14; (with_reducible refine (even_no (1 + N + 1) (1 + N) _ (by omega) (by omega) (by omega) (by omega) (by omega)).mono ?_); rintro e w' ⟨rfl, rfl⟩) | (go_at_call 11; (with_reducible refine (net_any (1 + N + (1 + N)) (1 + N) _ (by omega) (by omega) (by omega) (by omega)).mono ?_); rintro e w' ⟨rfl, rfl⟩) | (go_at_call 12; (with_reducible refine (wakes4_any _).mono ?_); rintro e w' ⟨rfl, rfl⟩))
  go_ret
  exact ⟨rfl, (((Below.refl _ _).alloc (Nat.le_refl _) _).alloc (by simp) _).alloc (by simp; omega) _⟩
end Go.Proofs.Ytiakfkeeiokliaa
