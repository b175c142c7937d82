/- Plain mathematics of parts of amounts; no function of the program is named here. -/
import Derived.WalkKit
namespace Go.Proofs.Ytolmdoigcaaieaa
/-- the part of n at the rate r, rounded, halves away from 0 -/
def rof (n r : Int) : Int := if n < 0 then -((-(n * r) + 500000) / 1000000) else (n * r + 500000) / 1000000
theorem mul_bd {n r A B : Int} (h1 : -A ≤ n) (h2 : n ≤ A) (h3 : 0 ≤ r) (h4 : r ≤ B) : -(A * B) ≤ n * r ∧ n * r ≤ A * B := by
  have hA : 0 ≤ A := by omega
  have a := Int.mul_le_mul_of_nonneg_right h2 h3
  have b := Int.mul_le_mul_of_nonneg_left h4 hA
  have c := Int.mul_le_mul_of_nonneg_right h1 h3
  rw [Int.neg_mul] at c
  omega
theorem rof_bd {n r : Int} (h1 : -400000000000 ≤ n) (h2 : n ≤ 400000000000) (h3 : 0 ≤ r) (h4 : r ≤ 10000000) : -4000000000000 ≤ rof n r ∧ rof n r ≤ 4000000000000 := by
  have := mul_bd h1 h2 h3 h4
  unfold rof; split <;> omega
theorem mul_sign {n r : Int} (h3 : 0 ≤ r) : (0 ≤ n → 0 ≤ n * r) ∧ (n < 0 → n * r ≤ 0) := by
  refine ⟨fun h => Int.mul_nonneg h h3, fun h => ?_⟩
  have := Int.mul_nonneg (show 0 ≤ -n by omega) h3
  rw [Int.neg_mul] at this; omega
theorem rof_near {n r : Int} (h3 : 0 ≤ r) : -500000 ≤ n * r - rof n r * 1000000 ∧ n * r - rof n r * 1000000 ≤ 500000 ∧ (0 ≤ n → n * r - rof n r * 1000000 < 500000) ∧ (n ≤ 0 → -500000 < n * r - rof n r * 1000000) := by
  have hs := mul_sign (n := n) h3
  have h0 : n = 0 → n * r = 0 := by rintro rfl; simp
  unfold rof; split <;> omega
theorem rof_neg {n r : Int} : rof (-n) r = -rof n r := by
  have h0 : n = 0 → n * r = 0 := by rintro rfl; simp
  unfold rof; rw [Int.neg_mul]; split <;> split <;> omega
theorem rof_whole (n : Int) : rof n 1000000 = n := by unfold rof; split <;> omega
theorem rof_none (n : Int) : rof n 0 = 0 := by unfold rof; simp
theorem rof_pos {n r : Int} (h : 0 ≤ n) : rof n r = (n * r + 500000) / 1000000 := by unfold rof; rw [if_neg (by omega)]
theorem rises (N M R S : Int) (n1 : 0 ≤ N) (m1 : 0 ≤ M) (r1 : 0 ≤ R) (s1 : 0 ≤ S) (r2 : R ≤ 1000000) :
    (rof N R ≤ rof (N + M) R ∧ rof (N + M) R - rof N R ≤ M) ∧ rof N R ≤ rof N (R + S) ∧ rof N R ≤ rof N 1000000 ∧ rof N (R + S) - rof N R - rof N S ≤ 1 ∧ -1 ≤ rof N (R + S) - rof N R - rof N S := by
  have a1 : (N + M) * R = N * R + M * R := Int.add_mul ..
  have a2 : N * (R + S) = N * R + N * S := Int.mul_add ..
  have b1 := Int.mul_nonneg m1 r1
  have b2 := Int.mul_nonneg n1 s1
  have b4 := Int.mul_nonneg n1 r1
  have b3 := Int.mul_le_mul_of_nonneg_left r2 m1
  have b5 := Int.mul_le_mul_of_nonneg_left r2 n1
  rw [rof_pos n1, rof_pos n1, rof_pos n1, rof_pos n1, rof_pos (by omega), a1, a2]
  omega
theorem ret_i {k : IntKind} {a b : Int} (h : a = b) : Ending.returned (.int k a) = .returned (.int k b) := by rw [h]
theorem ret_b {a b : Bool} (h : a = b) : Ending.returned (.bool a) = .returned (.bool b) := by rw [h]
theorem ret_ib {k : IntKind} {a b : Int} {p q : Bool} (h : a = b) (g : p = q) : Ending.returned (.tuple #[.int k a, .bool p]) = .returned (.tuple #[.int k b, .bool q]) := by rw [h, g]
end Go.Proofs.Ytolmdoigcaaieaa
