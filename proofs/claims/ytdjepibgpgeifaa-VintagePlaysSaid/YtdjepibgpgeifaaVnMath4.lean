/- Losses that come one behind the other: few of them make few rows; their order does not count: mathematics alone. -/
import Derived.Test.YtdjepibgpgeifaaBkMath3
import Derived.Test.YtdjepibgpgeifaaVnMath2
namespace Go.Proofs.Ytdjepibgpgeifaa

/-- a small loss -/
def FewV (z : Bk) : Prop := (0 ≤ z.y ∧ z.y ≤ 5 ∧ z.y ≤ z.c ∧ z.c ≤ z.y + 4) ∧ 1 ≤ z.a ∧ z.a ≤ 5000
theorem fewv_ok {z : Bk} (h : FewV z) : VOk z.c z.y := by unfold FewV at h; unfold VOk; omega
/-- as many rows as losses came, at most -/
theorem vis_came (x : Nat → Bk) : ∀ k, (∀ j, j < k → FewV (x j)) → ∃ m g, VIs (bget x k) m g ∧ m ≤ k ∧ btot g m = btot x k
  | 0, _ => ⟨0, x, vis_zero x, Nat.le_refl _, rfl⟩
  | k + 1, h => by
    obtain ⟨m, g, b, hm, ht⟩ := vis_came x k fun j hj => h j (by omega)
    obtain ⟨m', g', b', ht', hm'⟩ := vis_set b (fewv_ok (h k (by omega))) (bget x k (x k).c (x k).y + (x k).a)
    rw [bget_step] at b'
    refine ⟨m', g', b', ?_, ?_⟩
    · split at hm' <;> split at hm' <;> omega
    · show btot g' m' = btot x k + (x k).a
      omega
theorem came_le {x : Nat → Bk} {k m : Nat} {g : Nat → Bk} (h : ∀ j, j < k → FewV (x j)) (b : VIs (bget x k) m g) : m ≤ k ∧ btot g m = btot x k := by
  obtain ⟨m', g', b', hm, ht⟩ := vis_came x k h
  obtain ⟨rfl, _⟩ := b.uniq b'
  exact ⟨hm, (b.total b').trans ht⟩
theorem came_bd {x : Nat → Bk} : ∀ k, (∀ j, j < k → FewV (x j)) → 0 ≤ btot x k ∧ btot x k ≤ 5000 * (k : Int)
  | 0, _ => by simp [btot, tot]
  | k + 1, h => by
    have a := came_bd k fun j hj => h j (by omega)
    have b := (h k (by omega)).2
    have e : btot x (k + 1) = btot x k + (x k).a := rfl
    rw [e]; omega
theorem came_ok {x : Nat → Bk} {k m : Nat} {g : Nat → Bk} (hk : k < 10) (hx : ∀ j, j < k + 1 → FewV (x j)) (b : VIs (bget x k) m g) : AErr (bget x k) m (btot g m) (x k).c (x k).y (x k).a 0 := by
  obtain ⟨h1, h2⟩ := came_le (fun j hj => hx j (by omega)) b
  have h3 := came_bd k fun j hj => hx j (by omega)
  have h4 := (hx k (by omega)).2
  exact .ok ⟨fewv_ok (hx k (by omega)), by omega, by omega⟩ (by rw [h2]; omega) (.inr (by omega))
/-- three origins, three lives: nine rows at most -/
def rnk (c y : Int) : Int := if c ≤ 0 then 0 else if c = 1 then 1 + y else if c = 2 then 3 + y else if c = 3 then 5 + y else 8
theorem vrow_nine {n : Nat} {g : Nat → Bk} (r : VRow n g) (h : ∀ j, j < n → 0 ≤ (g j).y ∧ (g j).y ≤ 2 ∧ (g j).y ≤ (g j).c ∧ (g j).c ≤ (g j).y + 2) : n ≤ 9 := by
  have key : ∀ j : Nat, j < n → (j : Int) ≤ rnk (g j).c (g j).y := by
    intro j
    induction j with
    | zero =>
      intro hj
      have := h 0 hj
      unfold rnk
      split
      · omega
      · split
        · omega
        · split
          · omega
          · split <;> omega
    | succ j ih =>
      intro hj
      have a := ih (by omega)
      have b := r.asc j (j + 1) (by omega) hj
      have c := h j (by omega)
      have d := h (j + 1) hj
      obtain ⟨p, hp⟩ : ∃ p, (g j).c = p := ⟨_, rfl⟩
      obtain ⟨q, hq⟩ : ∃ q, (g j).y = q := ⟨_, rfl⟩
      obtain ⟨p', hp'⟩ : ∃ p, (g (j + 1)).c = p := ⟨_, rfl⟩
      obtain ⟨q', hq'⟩ : ∃ q, (g (j + 1)).y = q := ⟨_, rfl⟩
      rw [hp, hq] at a b c
      rw [hp', hq'] at b d ⊢
      clear hp hq hp' hq' ih
      have lt : rnk p q < rnk p' q' := by
        unfold Bl at b
        rcases (show p = 0 ∨ p = 1 ∨ p = 2 ∨ p = 3 ∨ p = 4 by omega) with rfl | rfl | rfl | rfl | rfl <;> rcases (show p' = 0 ∨ p' = 1 ∨ p' = 2 ∨ p' = 3 ∨ p' = 4 by omega) with rfl | rfl | rfl | rfl | rfl <;> simp [rnk] <;> omega
      omega
  rcases Nat.eq_zero_or_pos n with e | e
  · omega
  · have a := key (n - 1) (by omega)
    have b := h (n - 1) (by omega)
    have : rnk (g (n - 1)).c (g (n - 1)).y ≤ 8 := by
      unfold rnk
      split
      · omega
      · split
        · omega
        · split
          · omega
          · split <;> omega
    omega
theorem came_nine {x : Nat → Bk} {k m : Nat} {g : Nat → Bk} (b : VIs (bget x k) m g) (h : ∀ j, j < k → 0 ≤ (x j).y ∧ (x j).y ≤ 2 ∧ (x j).y ≤ (x j).c ∧ (x j).c ≤ (x j).y + 2) : m ≤ 9 :=
  vrow_nine b.1 fun j hj => by
    obtain ⟨i, hi, e1, e2⟩ := bget_some (g := x) (n := k) (c := (g j).c) (y := (g j).y) (by rw [b.at hj]; exact b.1.nz j hj)
    rw [← e1, ← e2]; exact h i hi
end Go.Proofs.Ytdjepibgpgeifaa
