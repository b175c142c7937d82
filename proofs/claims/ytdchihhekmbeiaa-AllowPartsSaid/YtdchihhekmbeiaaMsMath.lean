/- Deferred tax: which rates, how much, why there is none: mathematics alone. -/
import Derived.Test.YtdchihhekmbeiaaEnMath
import Derived.Test.YtdchihhekmbeiaaBkMath
import Derived.Test.YtdchihhekmbeiaaM1
namespace Go.Proofs.Ytdchihhekmbeiaa

def PerOk (p : Int) : Prop := 0 ≤ p ∧ p ≤ 399
def RtOk (r : Int) : Prop := 0 ≤ r ∧ r ≤ 1000000
/-- the rates of rows, as known -/
def RatesIs (R : Nat → Rt) (n : Nat) (j : ByteArray) (g : Nat → Bk) (m : Nat) (p e : Int) (q : Nat) (r : Nat → Int) : Prop :=
  (¬ PerOk p ∧ e = 1 ∧ q = 0) ∨ (PerOk p ∧ e = 7 ∧ q = 0 ∧ ∃ i, i < m ∧ Known R n j (max (g i).y (p / 4)) p 0 false ∧ ∀ k, k < i → Known R n j (max (g k).y (p / 4)) p (r k) true) ∨
  (PerOk p ∧ e = 0 ∧ q = m ∧ ∀ i, i < m → Known R n j (max (g i).y (p / 4)) p (r i) true)
/-- the next year's rate -/
def NextIs (R : Nat → Rt) (n : Nat) (j : ByteArray) (p v e : Int) : Prop :=
  (¬ PerOk p ∧ v = 0 ∧ e = 1) ∨ (PerOk p ∧ v = 0 ∧ e = 7 ∧ Known R n j (min (p / 4 + 1) 99) p 0 false) ∨ (PerOk p ∧ e = 0 ∧ Known R n j (min (p / 4 + 1) 99) p v true)
/-- the parts of rows -/
def partU (g : Nat → Bk) (r : Nat → Int) : Nat → Int := fun i => rof (g i).a (r i)
/-- may rows and rates be? -/
def TArgs (g : Nat → Bk) (m : Nat) (r : Nat → Int) (k : Nat) : Prop := m = k ∧ ∀ i, i < m → Mon (g i).a ∧ RtOk (r i)
/-- deferred tax -/
def TempIs (g : Nat → Bk) (m : Nat) (r : Nat → Int) (k : Nat) (v e : Int) : Prop :=
  (¬ TArgs g m r k ∧ v = 0 ∧ e = 1) ∨ (TArgs g m r k ∧ ¬ Mon (-tot (partU g r) m) ∧ v = 0 ∧ e = 6) ∨ (TArgs g m r k ∧ Mon (-tot (partU g r) m) ∧ v = -tot (partU g r) m ∧ e = 0)
/-- that of losses -/
def ShareIs (a r v e : Int) : Prop := (¬ ((0 ≤ a ∧ a ≤ 100000000000) ∧ RtOk r) ∧ v = 0 ∧ e = 1) ∨ (((0 ≤ a ∧ a ≤ 100000000000) ∧ RtOk r) ∧ v = rof a r ∧ e = 0)
section
variable {R : Nat → Rt} {n m k q : Nat} {j : ByteArray} {g h : Nat → Bk} {r r' : Nat → Int} {p e v : Int}
theorem first_none (R : Nat → Rt) (n : Nat) (j : ByteArray) (y : Nat → Int) (p : Int) : ∀ m, ∃ r : Nat → Int, (∀ i, i < m → Known R n j (y i) p (r i) true) ∨ ∃ i, i < m ∧ Known R n j (y i) p 0 false ∧ ∀ k, k < i → Known R n j (y k) p (r k) true
  | 0 => ⟨fun _ => 0, .inl fun i h => by omega⟩
  | m + 1 => by
    obtain ⟨r, h⟩ := first_none R n j y p m
    rcases h with h | ⟨i, h1, h2, h3⟩
    · obtain ⟨z, ok, hz⟩ := known_any R n j (y m) p
      cases ok with
      | false =>
        refine ⟨r, .inr ⟨m, by omega, ?_, h⟩⟩
        rcases hz with ⟨h0, _⟩ | ⟨_, rfl, h0⟩
        · cases h0
        · exact .inr ⟨rfl, rfl, h0⟩
      | true =>
        refine ⟨fun i => if i = m then z else r i, .inl fun i hi => ?_⟩
        by_cases e : i = m
        · subst e; simpa using hz
        · dsimp only; rw [if_neg e]; exact h i (by omega)
    · exact ⟨r, .inr ⟨i, by omega, h2, h3⟩⟩
theorem rates_any (R : Nat → Rt) (n : Nat) (j : ByteArray) (g : Nat → Bk) (m : Nat) (p : Int) : ∃ e q r, RatesIs R n j g m p e q r := by
  by_cases hp : PerOk p
  · obtain ⟨r, h⟩ := first_none R n j (fun i => max (g i).y (p / 4)) p m
    rcases h with h | ⟨i, h1, h2, h3⟩
    · exact ⟨0, m, r, .inr (.inr ⟨hp, rfl, rfl, h⟩)⟩
    · exact ⟨7, 0, r, .inr (.inl ⟨hp, rfl, rfl, i, h1, h2, h3⟩)⟩
  · exact ⟨1, 0, fun _ => 0, .inl ⟨hp, rfl, rfl⟩⟩
theorem next_any (R : Nat → Rt) (n : Nat) (j : ByteArray) (p : Int) : ∃ v e, NextIs R n j p v e := by
  by_cases hp : PerOk p
  · obtain ⟨z, ok, hz⟩ := known_any R n j (min (p / 4 + 1) 99) p
    cases ok with
    | false =>
      rcases hz with ⟨h0, _⟩ | ⟨_, rfl, h0⟩
      · cases h0
      · exact ⟨0, 7, .inr (.inl ⟨hp, rfl, rfl, .inr ⟨rfl, rfl, h0⟩⟩)⟩
    | true => exact ⟨z, 0, .inr (.inr ⟨hp, rfl, hz⟩)⟩
  · exact ⟨0, 1, .inl ⟨hp, rfl, rfl⟩⟩
theorem temp_any (g : Nat → Bk) (m : Nat) (r : Nat → Int) (k : Nat) : ∃ v e, TempIs g m r k v e := by
  by_cases h1 : TArgs g m r k
  · by_cases h2 : Mon (-tot (partU g r) m)
    · exact ⟨_, 0, .inr (.inr ⟨h1, h2, rfl, rfl⟩)⟩
    · exact ⟨0, 6, .inr (.inl ⟨h1, h2, rfl, rfl⟩)⟩
  · exact ⟨0, 1, .inl ⟨h1, rfl, rfl⟩⟩
theorem share_any (a r : Int) : ∃ v e, ShareIs a r v e := by
  by_cases h : (0 ≤ a ∧ a ≤ 100000000000) ∧ RtOk r
  · exact ⟨_, 0, .inr ⟨h, rfl, rfl⟩⟩
  · exact ⟨0, 1, .inl ⟨h, rfl, rfl⟩⟩
/-- a part is an amount -/
theorem rof_mon {a z : Int} (ha : Mon a) (hz : RtOk z) : Mon (rof a z) := by
  unfold Mon at ha ⊢
  unfold RtOk at hz
  obtain ⟨h1, h2⟩ := mul_bd (n := a) (r := z) (A := 100000000000) ha.1 ha.2 hz.1 hz.2
  have := mul_sign (n := a) hz.1
  unfold rof; split <;> omega
theorem part_bd (h : ∀ i, i < m → Mon (g i).a ∧ RtOk (r i)) (hk : k ≤ m) : -100000000000 * (k : Int) ≤ tot (partU g r) k ∧ tot (partU g r) k ≤ 100000000000 * (k : Int) :=
  tot_bd _ k fun i hi => rof_mon (h i (by omega)).1 (h i (by omega)).2
/-- the first row or rate that may not be -/
theorem first_bad (g : Nat → Bk) (r : Nat → Int) : ∀ m, (∀ i, i < m → Mon (g i).a ∧ RtOk (r i)) ∨ ∃ i, i < m ∧ ¬ (Mon (g i).a ∧ RtOk (r i)) ∧ ∀ k, k < i → Mon (g k).a ∧ RtOk (r k)
  | 0 => .inl fun i h => by omega
  | m + 1 => by
    rcases first_bad g r m with h | ⟨i, h1, h2, h3⟩
    · by_cases z : Mon (g m).a ∧ RtOk (r m)
      · refine .inl fun i hi => ?_
        by_cases e : i = m
        · subst e; exact z
        · exact h i (by omega)
      · exact .inr ⟨m, by omega, z, h⟩
    · exact .inr ⟨i, by omega, h2, h3⟩
end
end Go.Proofs.Ytdchihhekmbeiaa
