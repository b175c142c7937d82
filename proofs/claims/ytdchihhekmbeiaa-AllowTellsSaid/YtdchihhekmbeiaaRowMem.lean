/- A row of whole numbers in a block of the call's own: read, stored, kept over calls; literal lists; sums in any order. -/
import Derived.Test.YtdchihhekmbeiaaSumLoop
import Derived.WalkKit
import Derived.Lib.Hide
namespace Go.Proofs.Ytdchihhekmbeiaa
open Go.RowKit

theorem SumIs.is (g : Nat → Int) (n : Nat) : ∃ r ok, SumIs g n r ok := by
  by_cases h : (∀ j, j < n → Mon (g j)) ∧ Mon (tot g n)
  · exact ⟨_, _, .inl ⟨rfl, rfl, h.2, h.1⟩⟩
  · refine ⟨0, false, .inr ⟨rfl, rfl, ?_⟩⟩
    by_cases hm : Mon (tot g n)
    · left
      have : ¬ ∀ j, j < n → Mon (g j) := fun k => h ⟨k, hm⟩
      simpa using this
    · exact .inr hm
theorem SumIs.rev {g : Nat → Int} {n : Nat} {r : Int} {ok : Bool} (h : SumIs g n r ok) : SumIs (fun j => g (n - 1 - j)) n r ok := by
  rcases h with ⟨h1, h2, h3, h4⟩ | ⟨h1, h2, ⟨j, hj, hb⟩ | hb⟩
  · exact .inl ⟨h1, by rw [tot_rev]; exact h2, by rw [tot_rev]; exact h3, fun j hj => h4 _ (by omega)⟩
  · exact .inr ⟨h1, h2, .inl ⟨n - 1 - j, by omega, by simp only []; rw [show n - 1 - (n - 1 - j) = j by omega]; exact hb⟩⟩
  · exact .inr ⟨h1, h2, .inr (by rw [tot_rev]; exact hb)⟩
theorem SumIs.ext {g h : Nat → Int} {n : Nat} {r : Int} {ok : Bool} (s : SumIs g n r ok) (e : ∀ j, j < n → g j = h j) : SumIs h n r ok := by
  unfold SumIs at *
  rw [tot_ext n e] at s
  rcases s with ⟨h1, h2, h3, h4⟩ | ⟨h1, h2, ⟨j, hj, hb⟩ | hb⟩
  · exact .inl ⟨h1, h2, h3, fun j hj => by rw [← e j hj]; exact h4 j hj⟩
  · exact .inr ⟨h1, h2, .inl ⟨j, hj, by rw [← e j hj]; exact hb⟩⟩
  · exact .inr ⟨h1, h2, .inr hb⟩
theorem sum_three : SumIs (fun j => [100000000000, 100000000000, -100000000000].getD j 0) 3 100000000000 true := by
  refine .inl ⟨rfl, by simp [tot], by simp [tot, Mon], fun j hj => ?_⟩
  rcases (show j = 0 ∨ j = 1 ∨ j = 2 by omega) with rfl | rfl | rfl <;> simp [Mon]
theorem sum_two : SumIs (fun j => [100000000000, 1].getD j 0) 2 0 false := .inr ⟨rfl, rfl, .inr (by simp [tot, Mon])⟩
end Go.Proofs.Ytdchihhekmbeiaa
