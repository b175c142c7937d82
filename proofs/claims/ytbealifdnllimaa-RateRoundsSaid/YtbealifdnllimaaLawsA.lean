/- The statements of stage 1 over whole numbers alone: their walks. -/
import Derived.Test.YtbealifdnllimaaRate
import Derived.WalkKit
import Derived.WalkSpells
import Derived.WalkLawsBesides
import Derived.Lib.Hide
namespace Go.Proofs.Ytbealifdnllimaa
open Go.RowKit

set_option maxHeartbeats 2000000 in
theorem rateRounds_walk (a0 a1 : Int) (w : World) :
    Calls Try.prog 7 #[.int .i64 a0, .int .i64 a1] w fun e w' => e = .returned (.bool true) ∧ w = w' := by
  obtain ⟨N, hN⟩ : ∃ N, a0 % 800000000001 = N + 400000000000 := ⟨a0 % 800000000001 - 400000000000, by omega⟩
  obtain ⟨R, hR⟩ : ∃ R, a1 % 10000001 = R := ⟨_, rfl⟩
  have n1 : -400000000000 ≤ N := by omega
  have n2 : N ≤ 400000000000 := by omega
  have r1 : 0 ≤ R := by omega
  have r2 : R ≤ 10000000 := by omega
  have HN := Lib.hid hN; clear hN
  have HR := Lib.hid hR; clear hR
  obtain ⟨p1, p2⟩ := mul_bd n1 n2 r1 r2
  obtain ⟨b1, b2⟩ := rof_bd n1 n2 r1 r2
  obtain ⟨q1, q2, q3, q4⟩ := rof_near (n := N) r1
  have hneg := rof_neg (n := N) (r := R)
  obtain ⟨A, hA⟩ : ∃ A, rof N R = A := ⟨_, rfl⟩
  rw [hA] at b1 b2 q1 q2 q3 q4 hneg
  have A1 := Lib.hid hA; clear hA
  have A2 : Hid (rof (-N) R = -A) := Lib.hid hneg
  have A3 : Hid (rof N 1000000 = N) := Lib.hid (rof_whole N)
  have A4 : Hid (rof N 0 = 0) := Lib.hid (rof_none N)
  clear hneg
  rcases Int.lt_trichotomy N 0 with c1 | c1 | c1
  · have q4 := q4 (by omega)
    clear q3
    go_enter Try.func7, Try.ntmps7
    go_wp2_with (first | (go_at_call 10; (with_reducible refine (within_at _ _ _ _ (by omega) (by omega) HN).mono ?_); rintro e w' ⟨rfl, rfl⟩) | (go_at_call 10; (with_reducible refine (within_at _ _ _ _ (by omega) (by omega) HR).mono ?_); rintro e w' ⟨rfl, rfl⟩) | (go_at_call 11; (with_reducible refine (of_at _ _ _ _ (by omega) (by omega) (by omega) (by omega) A1).mono ?_); rintro e w' ⟨rfl, rfl⟩) | (go_at_call 11; (with_reducible refine (of_at _ _ _ _ (by omega) (by omega) (by omega) (by omega) A2).mono ?_); rintro e w' ⟨rfl, rfl⟩) | (go_at_call 11; (with_reducible refine (of_at _ _ _ _ (by omega) (by omega) (by omega) (by omega) A3).mono ?_); rintro e w' ⟨rfl, rfl⟩) | (go_at_call 11; (with_reducible refine (of_at _ _ _ _ (by omega) (by omega) (by omega) (by omega) A4).mono ?_); rintro e w' ⟨rfl, rfl⟩) | (go_at_call 15; (with_reducible refine (wakes_any _).mono ?_); rintro e w' ⟨rfl, rfl⟩))
    all_goals
      go_ret
      exact ⟨rfl, rfl⟩
  · have q4 := q4 (by omega)
    have q3 := q3 (by omega)
    have c2 : N ≤ 0 := by omega
    have c3 : 0 ≤ N := by omega
    clear c1
    go_enter Try.func7, Try.ntmps7
    go_wp2_with (first | (go_at_call 10; (with_reducible refine (within_at _ _ _ _ (by omega) (by omega) HN).mono ?_); rintro e w' ⟨rfl, rfl⟩) | (go_at_call 10; (with_reducible refine (within_at _ _ _ _ (by omega) (by omega) HR).mono ?_); rintro e w' ⟨rfl, rfl⟩) | (go_at_call 11; (with_reducible refine (of_at _ _ _ _ (by omega) (by omega) (by omega) (by omega) A1).mono ?_); rintro e w' ⟨rfl, rfl⟩) | (go_at_call 11; (with_reducible refine (of_at _ _ _ _ (by omega) (by omega) (by omega) (by omega) A2).mono ?_); rintro e w' ⟨rfl, rfl⟩) | (go_at_call 11; (with_reducible refine (of_at _ _ _ _ (by omega) (by omega) (by omega) (by omega) A3).mono ?_); rintro e w' ⟨rfl, rfl⟩) | (go_at_call 11; (with_reducible refine (of_at _ _ _ _ (by omega) (by omega) (by omega) (by omega) A4).mono ?_); rintro e w' ⟨rfl, rfl⟩) | (go_at_call 15; (with_reducible refine (wakes_any _).mono ?_); rintro e w' ⟨rfl, rfl⟩))
    all_goals
      go_ret
      exact ⟨rfl, rfl⟩
  · have q3 := q3 (by omega)
    clear q4
    go_enter Try.func7, Try.ntmps7
    go_wp2_with (first | (go_at_call 10; (with_reducible refine (within_at _ _ _ _ (by omega) (by omega) HN).mono ?_); rintro e w' ⟨rfl, rfl⟩) | (go_at_call 10; (with_reducible refine (within_at _ _ _ _ (by omega) (by omega) HR).mono ?_); rintro e w' ⟨rfl, rfl⟩) | (go_at_call 11; (with_reducible refine (of_at _ _ _ _ (by omega) (by omega) (by omega) (by omega) A1).mono ?_); rintro e w' ⟨rfl, rfl⟩) | (go_at_call 11; (with_reducible refine (of_at _ _ _ _ (by omega) (by omega) (by omega) (by omega) A2).mono ?_); rintro e w' ⟨rfl, rfl⟩) | (go_at_call 11; (with_reducible refine (of_at _ _ _ _ (by omega) (by omega) (by omega) (by omega) A3).mono ?_); rintro e w' ⟨rfl, rfl⟩) | (go_at_call 11; (with_reducible refine (of_at _ _ _ _ (by omega) (by omega) (by omega) (by omega) A4).mono ?_); rintro e w' ⟨rfl, rfl⟩) | (go_at_call 15; (with_reducible refine (wakes_any _).mono ?_); rintro e w' ⟨rfl, rfl⟩))
    all_goals
      go_ret
      exact ⟨rfl, rfl⟩

set_option maxHeartbeats 2000000 in
theorem rateFloors_walk (a0 a1 : Int) (w : World) :
    Calls Try.prog 8 #[.int .i64 a0, .int .i64 a1] w fun e w' => e = .returned (.bool true) ∧ w = w' := by
  obtain ⟨N, hN⟩ : ∃ N, a0 % 100000000001 = N := ⟨_, rfl⟩
  obtain ⟨R, hR⟩ : ∃ R, a1 % 1000001 = R := ⟨_, rfl⟩
  have n1 : 0 ≤ N := by omega
  have n2 : N ≤ 100000000000 := by omega
  have r1 : 0 ≤ R := by omega
  have r2 : R ≤ 1000000 := by omega
  have HN := Lib.hid hN; clear hN
  have HR := Lib.hid hR; clear hR
  have hm : N * (1000000 - R) = N * 1000000 - N * R := Int.mul_sub ..
  obtain ⟨p1, p2⟩ := mul_bd (A := 100000000000) (by omega) n2 r1 r2
  have p3 := (mul_sign (n := N) r1).1 n1
  have p4 := (mul_sign (n := N) (r := 1000000 - R) (by omega)).1 n1
  obtain ⟨A, hA⟩ : ∃ A, N * R / 1000000 = A := ⟨_, rfl⟩
  obtain ⟨B, hB⟩ : ∃ B, N * (1000000 - R) / 1000000 = B := ⟨_, rfl⟩
  obtain ⟨C, hC⟩ : ∃ C, rof N R = C := ⟨_, rfl⟩
  have d1 : 0 ≤ A := by omega
  have d2 : A ≤ N := by omega
  have d3 : C = A ∨ C = A + 1 := by unfold rof at hC; rw [if_neg (by omega)] at hC; omega
  have d4 : A + B = N ∨ A + B = N - 1 := by omega
  have d5 : 0 ≤ N * R - A * 1000000 := by omega
  have d6 : N * R - A * 1000000 < 1000000 := by omega
  have d7 : 0 ≤ B := by omega
  have d8 : B ≤ N := by omega
  have HA := Lib.hid hA; clear hA
  have HB := Lib.hid hB; clear hB
  have HC := Lib.hid hC; clear hC hm
  rcases d3 with rfl | rfl <;> rcases d4 with e | e
  · obtain rfl : B = N - C := by omega
    clear e
    go_enter Try.func8, Try.ntmps8
    go_wp2_with (first | (go_at_call 10; (with_reducible refine (within_at _ _ _ _ (by omega) (by omega) HN).mono ?_); rintro e w' ⟨rfl, rfl⟩) | (go_at_call 10; (with_reducible refine (within_at _ _ _ _ (by omega) (by omega) HR).mono ?_); rintro e w' ⟨rfl, rfl⟩) | (go_at_call 12; (with_reducible refine (floor_at _ _ _ _ (by omega) (by omega) (by omega) (by omega) HA).mono ?_); rintro e w' ⟨rfl, rfl⟩) | (go_at_call 12; (with_reducible refine (floor_at _ _ _ _ (by omega) (by omega) (by omega) (by omega) HB).mono ?_); rintro e w' ⟨rfl, rfl⟩) | (go_at_call 12; (with_reducible refine (floor_no _ _ _ (by omega)).mono ?_); rintro e w' ⟨rfl, rfl⟩) | (go_at_call 11; (with_reducible refine (of_at _ _ _ _ (by omega) (by omega) (by omega) (by omega) HC).mono ?_); rintro e w' ⟨rfl, rfl⟩) | (go_at_call 15; (with_reducible refine (wakes_any _).mono ?_); rintro e w' ⟨rfl, rfl⟩))
    all_goals
      go_ret
      exact ⟨rfl, rfl⟩
  · obtain rfl : B = N - 1 - C := by omega
    clear e
    go_enter Try.func8, Try.ntmps8
    go_wp2_with (first | (go_at_call 10; (with_reducible refine (within_at _ _ _ _ (by omega) (by omega) HN).mono ?_); rintro e w' ⟨rfl, rfl⟩) | (go_at_call 10; (with_reducible refine (within_at _ _ _ _ (by omega) (by omega) HR).mono ?_); rintro e w' ⟨rfl, rfl⟩) | (go_at_call 12; (with_reducible refine (floor_at _ _ _ _ (by omega) (by omega) (by omega) (by omega) HA).mono ?_); rintro e w' ⟨rfl, rfl⟩) | (go_at_call 12; (with_reducible refine (floor_at _ _ _ _ (by omega) (by omega) (by omega) (by omega) HB).mono ?_); rintro e w' ⟨rfl, rfl⟩) | (go_at_call 12; (with_reducible refine (floor_no _ _ _ (by omega)).mono ?_); rintro e w' ⟨rfl, rfl⟩) | (go_at_call 11; (with_reducible refine (of_at _ _ _ _ (by omega) (by omega) (by omega) (by omega) HC).mono ?_); rintro e w' ⟨rfl, rfl⟩) | (go_at_call 15; (with_reducible refine (wakes_any _).mono ?_); rintro e w' ⟨rfl, rfl⟩))
    all_goals
      go_ret
      exact ⟨rfl, rfl⟩
  · obtain rfl : B = N - A := by omega
    clear e
    go_enter Try.func8, Try.ntmps8
    go_wp2_with (first | (go_at_call 10; (with_reducible refine (within_at _ _ _ _ (by omega) (by omega) HN).mono ?_); rintro e w' ⟨rfl, rfl⟩) | (go_at_call 10; (with_reducible refine (within_at _ _ _ _ (by omega) (by omega) HR).mono ?_); rintro e w' ⟨rfl, rfl⟩) | (go_at_call 12; (with_reducible refine (floor_at _ _ _ _ (by omega) (by omega) (by omega) (by omega) HA).mono ?_); rintro e w' ⟨rfl, rfl⟩) | (go_at_call 12; (with_reducible refine (floor_at _ _ _ _ (by omega) (by omega) (by omega) (by omega) HB).mono ?_); rintro e w' ⟨rfl, rfl⟩) | (go_at_call 12; (with_reducible refine (floor_no _ _ _ (by omega)).mono ?_); rintro e w' ⟨rfl, rfl⟩) | (go_at_call 11; (with_reducible refine (of_at _ _ _ _ (by omega) (by omega) (by omega) (by omega) HC).mono ?_); rintro e w' ⟨rfl, rfl⟩) | (go_at_call 15; (with_reducible refine (wakes_any _).mono ?_); rintro e w' ⟨rfl, rfl⟩))
    all_goals
      go_ret
      exact ⟨rfl, rfl⟩
  · obtain rfl : B = N - 1 - A := by omega
    clear e
    go_enter Try.func8, Try.ntmps8
    go_wp2_with (first | (go_at_call 10; (with_reducible refine (within_at _ _ _ _ (by omega) (by omega) HN).mono ?_); rintro e w' ⟨rfl, rfl⟩) | (go_at_call 10; (with_reducible refine (within_at _ _ _ _ (by omega) (by omega) HR).mono ?_); rintro e w' ⟨rfl, rfl⟩) | (go_at_call 12; (with_reducible refine (floor_at _ _ _ _ (by omega) (by omega) (by omega) (by omega) HA).mono ?_); rintro e w' ⟨rfl, rfl⟩) | (go_at_call 12; (with_reducible refine (floor_at _ _ _ _ (by omega) (by omega) (by omega) (by omega) HB).mono ?_); rintro e w' ⟨rfl, rfl⟩) | (go_at_call 12; (with_reducible refine (floor_no _ _ _ (by omega)).mono ?_); rintro e w' ⟨rfl, rfl⟩) | (go_at_call 11; (with_reducible refine (of_at _ _ _ _ (by omega) (by omega) (by omega) (by omega) HC).mono ?_); rintro e w' ⟨rfl, rfl⟩) | (go_at_call 15; (with_reducible refine (wakes_any _).mono ?_); rintro e w' ⟨rfl, rfl⟩))
    all_goals
      go_ret
      exact ⟨rfl, rfl⟩

set_option maxHeartbeats 2000000 in
theorem rateEdges_walk (a0 a1 : Int) (w : World) :
    Calls Try.prog 3 #[.int .i64 a0, .int .i64 a1] w fun e w' => e = .returned (.bool true) ∧ w = w' := by
  obtain ⟨N, hN⟩ : ∃ N, a0 % 1000 = N := ⟨_, rfl⟩
  obtain ⟨R, hR⟩ : ∃ R, a1 % 1000001 = R := ⟨_, rfl⟩
  have n1 : 0 ≤ N := by omega
  have n2 : N ≤ 1000 := by omega
  have r1 : 0 ≤ R := by omega
  have r2 : R ≤ 1000000 := by omega
  have HN := Lib.hid hN; clear hN
  have HR := Lib.hid hR; clear hR
  have HA : Hid (100000000000 * R / 1000000 = 100000 * R) := Lib.hid (by omega)
  go_enter Try.func3, Try.ntmps3
  go_wp2_with (first | (go_at_call 10; (with_reducible refine (within_at _ _ _ _ (by omega) (by omega) HN).mono ?_); rintro e w' ⟨rfl, rfl⟩) | (go_at_call 10; (with_reducible refine (within_at _ _ _ _ (by omega) (by omega) HR).mono ?_); rintro e w' ⟨rfl, rfl⟩) | (go_at_call 12; (with_reducible refine (floor_at _ _ _ _ (by omega) (by omega) (by omega) (by omega) HA).mono ?_); rintro e w' ⟨rfl, rfl⟩) | (go_at_call 12; (with_reducible refine (floor_no _ _ _ (by omega)).mono ?_); rintro e w' ⟨rfl, rfl⟩) | (go_at_call 11; (with_reducible refine (of_in _ _ _ (by omega) (by omega) (by omega) (by omega)).mono ?_); rintro e w' ⟨rfl, rfl⟩) | (go_at_call 11; (with_reducible refine (of_out _ _ _ (by omega)).mono ?_); rintro e w' ⟨rfl, rfl⟩) | (go_at_call 13; (with_reducible refine (money_yes _ _ (by omega) (by omega)).mono ?_); rintro e w' ⟨rfl, rfl⟩) | (go_at_call 13; (with_reducible refine (money_no _ _ (by omega)).mono ?_); rintro e w' ⟨rfl, rfl⟩) | (go_at_call 14; (with_reducible refine (right_yes _ _ (by omega) (by omega)).mono ?_); rintro e w' ⟨rfl, rfl⟩) | (go_at_call 14; (with_reducible refine (right_no _ _ (by omega)).mono ?_); rintro e w' ⟨rfl, rfl⟩) | (go_at_call 15; (with_reducible refine (wakes_any _).mono ?_); rintro e w' ⟨rfl, rfl⟩))
  all_goals
    go_ret
    exact ⟨rfl, rfl⟩
set_option maxHeartbeats 2000000 in
theorem rateRises_walk (a0 a1 a2 a3 : Int) (w : World) :
    Calls Try.prog 4 #[.int .i64 a0, .int .i64 a1, .int .i64 a2, .int .i64 a3] w fun e w' => e = .returned (.bool true) ∧ w = w' := by
  obtain ⟨N, hN⟩ : ∃ N, a0 % 100000000000 = N := ⟨_, rfl⟩
  obtain ⟨M, hM⟩ : ∃ M, a1 % 1000 = M := ⟨_, rfl⟩
  obtain ⟨R, hR⟩ : ∃ R, a2 % 1000000 = R := ⟨_, rfl⟩
  obtain ⟨S, hS⟩ : ∃ S, a3 % 1000000 = S := ⟨_, rfl⟩
  have n1 : 0 ≤ N := by omega
  have n2 : N < 100000000000 := by omega
  have m1 : 0 ≤ M := by omega
  have m2 : M < 1000 := by omega
  have r1 : 0 ≤ R := by omega
  have r2 : R < 1000000 := by omega
  have s1 : 0 ≤ S := by omega
  have s2 : S < 1000000 := by omega
  have HN := Lib.hid hN; clear hN
  have HM := Lib.hid hM; clear hM
  have HR := Lib.hid hR; clear hR
  have HS := Lib.hid hS; clear hS
  obtain ⟨u1, u2⟩ := rof_bd (n := N) (r := R) (by omega) (by omega) (by omega) (by omega)
  obtain ⟨u3, u4⟩ := rof_bd (n := N + M) (r := R) (by omega) (by omega) (by omega) (by omega)
  obtain ⟨u5, u6⟩ := rof_bd (n := N) (r := S) (by omega) (by omega) (by omega) (by omega)
  obtain ⟨u7, u8⟩ := rof_bd (n := N) (r := R + S) (by omega) (by omega) (by omega) (by omega)
  obtain ⟨⟨x1, x2⟩, x3, x4, x5, x6⟩ := rises N M R S n1 m1 r1 s1 (by omega)
  obtain ⟨A, hA⟩ : ∃ A, rof N R = A := ⟨_, rfl⟩
  obtain ⟨B, hB⟩ : ∃ B, rof (N + M) R = B := ⟨_, rfl⟩
  obtain ⟨D, hD⟩ : ∃ D, rof N S = D := ⟨_, rfl⟩
  obtain ⟨T, hT⟩ : ∃ T, rof N (R + S) = T := ⟨_, rfl⟩
  have hW := rof_whole N
  rw [hA, hB] at x2
  rw [hA, hB] at x1
  rw [hA, hW] at x4
  rw [hA, hT] at x3
  rw [hA, hT, hD] at x5 x6
  rw [hA] at u1 u2
  rw [hB] at u3 u4
  rw [hD] at u5 u6
  rw [hT] at u7 u8
  have HA := Lib.hid hA; clear hA
  have HB := Lib.hid hB; clear hB
  have HD := Lib.hid hD; clear hD
  have HT := Lib.hid hT; clear hT
  have HW := Lib.hid hW; clear hW
  by_cases c : R + S ≤ 1000000
  all_goals
    go_enter Try.func4, Try.ntmps4
    go_wp2_with (first | (go_at_call 10; (with_reducible refine (within_at _ _ _ _ (by omega) (by omega) HN).mono ?_); rintro e w' ⟨rfl, rfl⟩) | (go_at_call 10; (with_reducible refine (within_at _ _ _ _ (by omega) (by omega) HM).mono ?_); rintro e w' ⟨rfl, rfl⟩) | (go_at_call 10; (with_reducible refine (within_at _ _ _ _ (by omega) (by omega) HR).mono ?_); rintro e w' ⟨rfl, rfl⟩) | (go_at_call 10; (with_reducible refine (within_at _ _ _ _ (by omega) (by omega) HS).mono ?_); rintro e w' ⟨rfl, rfl⟩) | (go_at_call 11; (with_reducible refine (of_at _ _ _ _ (by omega) (by omega) (by omega) (by omega) HA).mono ?_); rintro e w' ⟨rfl, rfl⟩) | (go_at_call 11; (with_reducible refine (of_at _ _ _ _ (by omega) (by omega) (by omega) (by omega) HB).mono ?_); rintro e w' ⟨rfl, rfl⟩) | (go_at_call 11; (with_reducible refine (of_at _ _ _ _ (by omega) (by omega) (by omega) (by omega) HD).mono ?_); rintro e w' ⟨rfl, rfl⟩) | (go_at_call 11; (with_reducible refine (of_at _ _ _ _ (by omega) (by omega) (by omega) (by omega) HT).mono ?_); rintro e w' ⟨rfl, rfl⟩) | (go_at_call 11; (with_reducible refine (of_at _ _ _ _ (by omega) (by omega) (by omega) (by omega) HW).mono ?_); rintro e w' ⟨rfl, rfl⟩) | (go_at_call 15; (with_reducible refine (wakes_any _).mono ?_); rintro e w' ⟨rfl, rfl⟩))
    go_ret
    exact ⟨rfl, rfl⟩
end Go.Proofs.Ytbealifdnllimaa
