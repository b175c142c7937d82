/- Buckets: few places make few rows; moves one behind the other, in whatever order: mathematics alone. -/
import Derived.Test.YtdjepibgpgeifaaBkMath2
namespace Go.Proofs.Ytdjepibgpgeifaa

/-- three classes, four years: twelve rows at most -/
theorem brow_small {n : Nat} {g : Nat → Bk} (r : BRow n g) (h : ∀ j, j < n → 1 ≤ (g j).c ∧ (g j).c ≤ 3 ∧ 0 ≤ (g j).y ∧ (g j).y ≤ 3) : n ≤ 12 := by
  have key : ∀ j : Nat, j < n → (j : Int) ≤ 4 * ((g j).c - 1) + (g j).y := by
    intro j
    induction j with
    | zero => intro hj; have := h 0 hj; omega
    | succ j ih =>
      intro hj
      have a := ih (by omega)
      have b := r.asc j (j + 1) (by omega) hj
      have c := h j (by omega)
      have d := h (j + 1) hj
      unfold Bl at b; omega
  rcases Nat.eq_zero_or_pos n with e | e
  · omega
  · have a := key (n - 1) (by omega)
    have b := h (n - 1) (by omega)
    omega
section
variable (x : Nat → Bk) (k n : Nat)
/-- one move more -/
theorem bget_step : upS (bget x k) (x k).c (x k).y (bget x k (x k).c (x k).y + (x k).a) = bget x (k + 1) := by
  funext c y
  rw [bget_succ]
  unfold upS bval
  by_cases q : c = (x k).c ∧ y = (x k).y
  · rw [if_pos q, if_pos ⟨q.1.symm, q.2.symm⟩, q.1, q.2]
  · rw [if_neg q, if_neg fun e => q ⟨e.1.symm, e.2.symm⟩]; omega
/-- the order of moves does not count -/
theorem bget_rev : bget (fun j => x (n - 1 - j)) n = bget x n := by
  funext c y
  exact tot_rev (fun j => bval (x j) c y) n
theorem btot_rev : btot (fun j => x (n - 1 - j)) n = btot x n := tot_rev (fun j => (x j).a) n
/-- small moves make small buckets -/
theorem bget_bd (h : ∀ j, j < k → -500 ≤ (x j).a ∧ (x j).a ≤ 500) (c y : Int) : -500 * (k : Int) ≤ bget x k c y ∧ bget x k c y ≤ 500 * (k : Int) := by
  induction k with
  | zero => simp [bget, tot]
  | succ k ih =>
    have a := ih fun j hj => h j (by omega)
    have b := h k (by omega)
    rw [bget_succ]
    unfold bval
    split <;> omega
theorem btot_bd (h : ∀ j, j < k → -500 ≤ (x j).a ∧ (x j).a ≤ 500) : -500 * (k : Int) ≤ btot x k ∧ btot x k ≤ 500 * (k : Int) := by
  induction k with
  | zero => simp [btot, tot]
  | succ k ih =>
    have a := ih fun j hj => h j (by omega)
    have b := h k (by omega)
    have e : btot x (k + 1) = btot x k + (x k).a := rfl
    rw [e]; omega
end
/-- rows of moves among three classes and four years are few -/
theorem few {n : Nat} {g x : Nat → Bk} {k : Nat} (b : BIs (bget x k) n g) (h : ∀ j, j < k → 1 ≤ (x j).c ∧ (x j).c ≤ 3 ∧ 0 ≤ (x j).y ∧ (x j).y ≤ 3) : n ≤ 12 :=
  brow_small b.1 fun j hj => by
    obtain ⟨i, hi, e1, e2⟩ := bget_some (g := x) (n := k) (c := (g j).c) (y := (g j).y) (by rw [b.at hj]; exact b.1.nz j hj)
    rw [← e1, ← e2]; exact h i hi
end Go.Proofs.Ytdjepibgpgeifaa
