/- What is not expected of an asset: mathematics alone. -/
import Derived.Test.YtdchihhekmbeiaaMsMath
namespace Go.Proofs.Ytdchihhekmbeiaa

/-- what is taken off an asset -/
def AlwIs (a r v e : Int) : Prop := (¬ ((0 ≤ a ∧ a ≤ 100000000000) ∧ RtOk r) ∧ v = 0 ∧ e = 1) ∨ (((0 ≤ a ∧ a ≤ 100000000000) ∧ RtOk r) ∧ v = -rof a r ∧ e = 0)
theorem alw_share {a r v e : Int} (h : ShareIs a r v e) : AlwIs a r (-v) e := by
  rcases h with ⟨h, rfl, he⟩ | ⟨h, rfl, he⟩
  · exact .inl ⟨h, rfl, he⟩
  · exact .inr ⟨h, rfl, he⟩
theorem share_low {a r v e : Int} (h : ShareIs a r v e) : 0 ≤ v ∧ v ≤ 100000000000 := by
  rcases h with ⟨_, rfl, _⟩ | ⟨h, rfl, _⟩
  · omega
  · have m := rof_mon (a := a) (z := r) (by unfold Mon; omega) h.2
    have s := (mul_sign (n := a) h.2.1).1 h.1.1
    unfold Mon at m
    refine ⟨?_, m.2⟩
    rw [rof_pos h.1.1]; omega
theorem alw_no {a r : Int} (h : ¬ ((0 ≤ a ∧ a ≤ 100000000000) ∧ RtOk r)) : AlwIs a r 0 1 := .inl ⟨h, rfl, rfl⟩
theorem alw_yes {a r : Int} (h : 0 ≤ a ∧ a ≤ 100000000000) (hr : 0 ≤ r ∧ r ≤ 1000000) : AlwIs a r (-rof a r) 0 := .inr ⟨⟨h, hr⟩, rfl, rfl⟩
/-- a part and the rest's -/
theorem rof_rest {n r : Int} (h : 0 ≤ n) (hr : 0 ≤ r ∧ r ≤ 1000000) : (0 ≤ rof n r ∧ rof n r ≤ n) ∧ (rof n r + rof n (1000000 - r) = n ∨ rof n r + rof n (1000000 - r) = n + 1) := by
  have h1 := Int.mul_nonneg h hr.1
  have h2 := Int.mul_le_mul_of_nonneg_left hr.2 h
  rw [rof_pos h, rof_pos h, Int.mul_sub]
  omega
/-- of more, or at a greater rate, no less; by no more than there is more -/
theorem rof_rises {n m r s : Int} (hn : 0 ≤ n) (hm : 0 ≤ m) (hr : 0 ≤ r ∧ r ≤ 500000) (hs : 0 ≤ s) : rof n r ≤ rof (n + m) r ∧ rof (n + m) r - rof n r ≤ m ∧ rof n r ≤ rof n (r + s) := by
  have h1 := Int.mul_nonneg hm hr.1
  have h2 := Int.mul_le_mul_of_nonneg_left hr.2 hm
  have h3 := Int.mul_nonneg hn hs
  rw [rof_pos hn, rof_pos (show 0 ≤ n + m by omega), rof_pos hn, Int.add_mul, Int.mul_add]
  omega
end Go.Proofs.Ytdchihhekmbeiaa
