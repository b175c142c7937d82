/- Plain mathematics: sums of the first numbers of a row; a row with one number put in place of another. -/
import Derived.WalkKit
namespace Go.Proofs.Ytolmdoigcaaieaa
/-- an amount -/
def Mon (x : Int) : Prop := -100000000000 ≤ x ∧ x ≤ 100000000000
/-- the sum of the first k numbers -/
def tot (g : Nat → Int) : Nat → Int
  | 0 => 0
  | k + 1 => tot g k + g k
theorem tot_bd (g : Nat → Int) : ∀ k, (∀ j, j < k → Mon (g j)) → -100000000000 * (k : Int) ≤ tot g k ∧ tot g k ≤ 100000000000 * (k : Int)
  | 0, _ => by simp [tot]
  | k + 1, h => by
    have a := tot_bd g k (fun j hj => h j (by omega))
    have b := h k (by omega)
    unfold Mon at b
    rw [tot]; omega
theorem tot_ext {g h : Nat → Int} : ∀ n, (∀ j, j < n → g j = h j) → tot g n = tot h n
  | 0, _ => rfl
  | n + 1, e => by rw [tot, tot, tot_ext n (fun j hj => e j (by omega)), e n (by omega)]
theorem tot_shift (g : Nat → Int) : ∀ n, tot g (n + 1) = g 0 + tot (fun j => g (j + 1)) n
  | 0 => by simp [tot]
  | n + 1 => by rw [tot, tot_shift g n, tot]; omega
theorem tot_rev (g : Nat → Int) : ∀ n, tot (fun j => g (n - 1 - j)) n = tot g n
  | 0 => rfl
  | n + 1 => by
    rw [tot_shift, tot]
    have := tot_rev g n
    rw [← this, Int.add_comm]
    congr 1
    refine tot_ext n fun j hj => ?_
    show g _ = g _
    congr 1; omega

theorem tot_mul (a : Int) (g : Nat → Int) : ∀ n, tot (fun j => a * g j) n = a * tot g n
  | 0 => by simp [tot]
  | n + 1 => by rw [tot, tot, tot_mul a g n, Int.mul_add]
theorem tot_add (g h : Nat → Int) : ∀ n, tot (fun j => g j + h j) n = tot g n + tot h n
  | 0 => by simp [tot]
  | n + 1 => by rw [tot, tot, tot, tot_add g h n]; omega
theorem tot_neg (g : Nat → Int) : ∀ n, tot (fun j => -g j) n = -tot g n
  | 0 => by simp [tot]
  | n + 1 => by rw [tot, tot, tot_neg g n]; omega
theorem tot_le {g h : Nat → Int} : ∀ n, (∀ j, j < n → g j ≤ h j) → tot g n ≤ tot h n
  | 0, _ => Int.le_refl _
  | n + 1, e => by rw [tot, tot]; have := tot_le (g := g) (h := h) n (fun j hj => e j (by omega)); have := e n (by omega); omega
theorem tot_zero {g : Nat → Int} : ∀ n, (∀ j, j < n → g j = 0) → tot g n = 0
  | 0, _ => rfl
  | n + 1, e => by rw [tot, tot_zero n (fun j hj => e j (by omega)), e n (by omega)]; rfl
theorem tot_const (c : Int) : ∀ n : Nat, tot (fun _ => c) n = c * n
  | 0 => by simp [tot]
  | n + 1 => by rw [tot, tot_const c n]; rw [show ((n + 1 : Nat) : Int) = (n : Int) + 1 by omega, Int.mul_add]; omega
/-- the row h with x at place k -/
def upd (h : Nat → Int) (k : Nat) (x : Int) : Nat → Int := fun j => if j = k then x else h j
theorem upd_same (h : Nat → Int) (k : Nat) (x : Int) : upd h k x k = x := if_pos rfl
theorem upd_other (h : Nat → Int) {k j : Nat} (x : Int) (e : j ≠ k) : upd h k x j = h j := if_neg e
theorem tot_upd (h : Nat → Int) (k : Nat) (x : Int) : ∀ n, k < n → tot (upd h k x) n = tot h n - h k + x
  | n + 1, hk => by
    rw [tot, tot]
    by_cases e : k = n
    · subst e
      rw [upd_same, tot_ext (h := h) k (fun j hj => upd_other h x (by omega))]; omega
    · rw [tot_upd h k x n (by omega), upd_other h x (by omega)]; omega
theorem tot_nonneg {g : Nat → Int} : ∀ n, (∀ j, j < n → 0 ≤ g j) → 0 ≤ tot g n
  | 0, _ => Int.le_refl _
  | n + 1, e => by rw [tot]; have := tot_nonneg (g := g) n (fun j hj => e j (by omega)); have := e n (by omega); omega
theorem tot_pos_ex {g : Nat → Int} : ∀ n, 0 < tot g n → ∃ j, j < n ∧ 0 < g j
  | 0, h => by simp [tot] at h
  | n + 1, h => by
    rw [tot] at h
    by_cases e : 0 < g n
    · exact ⟨n, by omega, e⟩
    · obtain ⟨j, hj, k⟩ := tot_pos_ex (g := g) n (by omega); exact ⟨j, by omega, k⟩
theorem tot_one_le {g : Nat → Int} : ∀ n, (∀ j, j < n → 0 ≤ g j) → ∀ i, i < n → g i ≤ tot g n
  | n + 1, e, i, hi => by
    rw [tot]
    by_cases h : i = n
    · subst h; have := tot_nonneg (g := g) i (fun j hj => e j (by omega)); omega
    · have := tot_one_le (g := g) n (fun j hj => e j (by omega)) i (by omega); have := e n (by omega); omega
end Go.Proofs.Ytolmdoigcaaieaa
