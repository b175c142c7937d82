/- The small numbers that the statements are made of: a contract for each. -/
import Derived.Test.YtolmdoigcaaieaaRate
import Derived.Test.YtolmdoigcaaieaaMem
import Derived.WalkKit
import Derived.WalkSpells
import Derived.WalkLawsBesides
import Derived.Lib.Hide
namespace Go.Proofs.Ytolmdoigcaaieaa
open Go.RowKit

theorem within_some (v n : Int) (w : World) (h1 : 1 ≤ n) (h2 : n ≤ 4611686018427387904) :
    Calls Try.prog 8 #[.int .i64 v, .int .i64 n] w fun e w' => ∃ x, 0 ≤ x ∧ x < n ∧ e = .returned (.int .i64 x) ∧ w = w' :=
  (within_any v n w h1 h2).mono fun _ _ ⟨he, hw⟩ => ⟨_, Int.emod_nonneg v (by omega), Int.emod_lt_of_pos v (by omega), he, hw⟩
/-- any number, as an amount: some number -/
theorem amount_some (n : Int) (w : World) :
    Calls Try.prog 15 #[.int .i64 n] w fun e w' => ∃ y, e = .returned (.int .i64 y) ∧ w = w' := by
  go_enter Try.func15, Try.ntmps15
  go_wp2_with (go_at_call 8; (with_reducible refine (within_some _ _ _ (by omega) (by omega)).mono ?_); rintro e w' ⟨x, hx1, hx2, rfl, rfl⟩)
  all_goals
    go_ret
    exact ⟨_, rfl, rfl⟩
/-- any number, as a rate: some number -/
theorem rate_some (n : Int) (w : World) :
    Calls Try.prog 24 #[.int .i64 n] w fun e w' => ∃ y, e = .returned (.int .i64 y) ∧ Below w.heap.size w w' := by
  obtain ⟨x, hx⟩ : ∃ x : Nat, n % 10 = x := ⟨(n % 10).toNat, by omega⟩
  have hx10 : x < 10 := by omega
  have HX := Lib.hid hx
  clear hx
  have L := (lit_row w [250000, 300000, 190000, 0, 1000000, 333333, 500000, 1, 125000, 999999] 3).2 x hx10
  obtain ⟨z, hz⟩ : ∃ z, [250000, 300000, 190000, 0, 1000000, 333333, 500000, 1, 125000, 999999].getD x (0 : Int) = z := ⟨_, rfl⟩
  simp only [hz] at L
  obtain ⟨l1, _⟩ := L
  simp only [List.map_cons, List.map_nil] at l1
  clear hz
  go_enter Try.func24, Try.ntmps24
  go_wp2_with (first | (go_at_call 8; (with_reducible refine (within_at _ _ _ _ (by omega) (by omega) HX).mono ?_); rintro e w' ⟨rfl, rfl⟩))
  all_goals
    go_ret
    refine ⟨_, rfl, ?_⟩
    first | exact Below.refl _ _ | exact (Below.refl _ _).alloc (Nat.le_refl _) _
end Go.Proofs.Ytolmdoigcaaieaa
