/- Why deferred tax is another one, when buckets move and rates change: mathematics alone. -/
import Derived.Test.YtmlafdehhbhbiaaM8
import Derived.Test.YtmlafdehhbhbiaaM9
namespace Go.Proofs.Ytmlafdehhbhbiaa

/-- what rates make of the opening -/
def rtU (f : Nat → Wy) (o z : Nat → Int) : Nat → Int := fun i => rof (f i).o (z i) - rof (f i).o (o i)
/-- what moved makes -/
def mvU (f : Nat → Wy) (z : Nat → Int) : Nat → Int := fun i => rof (f i).k (z i) - rof (f i).o (z i)
/-- may a row, and its rates, be? -/
def WayOk (f : Nat → Wy) (o z : Nat → Int) (i : Nat) : Prop := (RtOk (o i) ∧ RtOk (z i)) ∧ Mon (f i).o ∧ Mon (f i).k
def RArgs (q : Nat) (f : Nat → Wy) (k0 : Nat) (o : Nat → Int) (k1 : Nat) (z : Nat → Int) : Prop := k0 = q ∧ k1 = q ∧ ∀ i, i < q → WayOk f o z i
/-- the change, or why there is none -/
def RmIs (q : Nat) (f : Nat → Wy) (k0 : Nat) (o : Nat → Int) (k1 : Nat) (z : Nat → Int) (m r e : Int) : Prop :=
  (¬ RArgs q f k0 o k1 z ∧ m = 0 ∧ r = 0 ∧ e = 1) ∨ (RArgs q f k0 o k1 z ∧ ¬ (Mon (tot (mvU f z) q) ∧ Mon (tot (rtU f o z) q)) ∧ m = 0 ∧ r = 0 ∧ e = 6) ∨
  (RArgs q f k0 o k1 z ∧ (Mon (tot (mvU f z) q) ∧ Mon (tot (rtU f o z) q)) ∧ m = tot (mvU f z) q ∧ r = tot (rtU f o z) q ∧ e = 0)
section
variable {q k0 k1 k : Nat} {f f' : Nat → Wy} {o z : Nat → Int} {m r e : Int}
theorem rm_any (q : Nat) (f : Nat → Wy) (k0 : Nat) (o : Nat → Int) (k1 : Nat) (z : Nat → Int) : ∃ m r e, RmIs q f k0 o k1 z m r e := by
  by_cases h : RArgs q f k0 o k1 z
  · by_cases h2 : Mon (tot (mvU f z) q) ∧ Mon (tot (rtU f o z) q)
    · exact ⟨_, _, 0, .inr (.inr ⟨h, h2, rfl, rfl, rfl⟩)⟩
    · exact ⟨0, 0, 6, .inr (.inl ⟨h, h2, rfl, rfl, rfl⟩)⟩
  · exact ⟨0, 0, 1, .inl ⟨h, rfl, rfl, rfl⟩⟩
theorem RmIs.low (H : RmIs q f k0 o k1 z m r e) : Mon m ∧ Mon r := by
  rcases H with ⟨_, rfl, rfl, _⟩ | ⟨_, _, rfl, rfl, _⟩ | ⟨_, h, rfl, rfl, _⟩
  · exact ⟨by unfold Mon; omega, by unfold Mon; omega⟩
  · exact ⟨by unfold Mon; omega, by unfold Mon; omega⟩
  · exact h
theorem RmIs.ext (H : RmIs q f k0 o k1 z m r e) (h : ∀ i, i < q → f i = f' i) : RmIs q f' k0 o k1 z m r e := by
  have e1 : tot (mvU f z) q = tot (mvU f' z) q := tot_ext q fun i hi => by unfold mvU; rw [h i hi]
  have e2 : tot (rtU f o z) q = tot (rtU f' o z) q := tot_ext q fun i hi => by unfold rtU; rw [h i hi]
  have e3 : RArgs q f k0 o k1 z ↔ RArgs q f' k0 o k1 z := by
    unfold RArgs WayOk
    constructor
    · rintro ⟨a, b, c⟩; exact ⟨a, b, fun i hi => by rw [← h i hi]; exact c i hi⟩
    · rintro ⟨a, b, c⟩; exact ⟨a, b, fun i hi => by rw [h i hi]; exact c i hi⟩
  unfold RmIs at H ⊢
  rw [← e1, ← e2, ← e3]
  exact H
theorem row_bad (f : Nat → Wy) (o z : Nat → Int) : ∀ q, (∀ i, i < q → WayOk f o z i) ∨ ∃ i, i < q ∧ ¬ WayOk f o z i ∧ ∀ k, k < i → WayOk f o z k
  | 0 => .inl fun i h => by omega
  | q + 1 => by
    rcases row_bad f o z q with h | ⟨i, h1, h2, h3⟩
    · by_cases y : WayOk f o z q
      · refine .inl fun i hi => ?_
        by_cases e : i = q
        · subst e; exact y
        · exact h i (by omega)
      · exact .inr ⟨q, by omega, y, h⟩
    · exact .inr ⟨i, by omega, h2, h3⟩
/-- where it ends -/
theorem RmIs.ends (H : RmIs q f q o q z m r e) : ∃ L, L ≤ q ∧ (∀ k, k < L → WayOk f o z k) ∧ (L < q → ¬ WayOk f o z L) ∧
    ((L < q ∧ m = 0 ∧ r = 0 ∧ e = 1) ∨ (L = q ∧ ((¬ (Mon (tot (mvU f z) q) ∧ Mon (tot (rtU f o z) q)) ∧ m = 0 ∧ r = 0 ∧ e = 6) ∨ ((Mon (tot (mvU f z) q) ∧ Mon (tot (rtU f o z) q)) ∧ m = tot (mvU f z) q ∧ r = tot (rtU f o z) q ∧ e = 0)))) := by
  rcases row_bad f o z q with h | ⟨i, k1, k2, k3⟩
  · refine ⟨q, Nat.le_refl _, h, fun h => by omega, .inr ⟨rfl, ?_⟩⟩
    rcases H with ⟨a, _⟩ | ⟨_, a⟩ | ⟨_, a⟩
    · exact absurd ⟨rfl, rfl, h⟩ a
    · exact .inl a
    · exact .inr a
  · refine ⟨i, by omega, k3, fun _ => k2, .inl ⟨k1, ?_⟩⟩
    rcases H with ⟨_, a⟩ | ⟨a, _⟩ | ⟨a, _⟩
    · exact a
    · exact absurd (a.2.2 i k1) k2
    · exact absurd (a.2.2 i k1) k2
theorem row_bd {i : Nat} (h : WayOk f o z i) : (-200000000000 ≤ rtU f o z i ∧ rtU f o z i ≤ 200000000000) ∧ -200000000000 ≤ mvU f z i ∧ mvU f z i ≤ 200000000000 := by
  obtain ⟨⟨h1, h2⟩, h3, h4⟩ := h
  have a := rof_mon h3 h1
  have b := rof_mon h3 h2
  have c := rof_mon h4 h2
  unfold rtU mvU
  unfold Mon at a b c
  omega
theorem tot_wide (u : Nat → Int) (B : Int) : ∀ k, (∀ i, i < k → -B ≤ u i ∧ u i ≤ B) → -(B * (k : Int)) ≤ tot u k ∧ tot u k ≤ B * (k : Int)
  | 0, _ => by simp [tot]
  | k + 1, h => by
    have h1 := tot_wide u B k fun i hi => h i (by omega)
    have h2 := h k (by omega)
    rw [tot, show ((k + 1 : Nat) : Int) = (k : Int) + 1 by omega, Int.mul_add, Int.mul_one]
    omega
theorem rows_bd (h : ∀ i, i < k → WayOk f o z i) : (-(200000000000 * (k : Int)) ≤ tot (rtU f o z) k ∧ tot (rtU f o z) k ≤ 200000000000 * (k : Int)) ∧ -(200000000000 * (k : Int)) ≤ tot (mvU f z) k ∧ tot (mvU f z) k ≤ 200000000000 * (k : Int) :=
  ⟨tot_wide _ _ k fun i hi => (row_bd (h i hi)).1, tot_wide _ _ k fun i hi => (row_bd (h i hi)).2⟩
end
end Go.Proofs.Ytmlafdehhbhbiaa
