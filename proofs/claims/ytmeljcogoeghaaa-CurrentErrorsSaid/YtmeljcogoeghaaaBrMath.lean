/- Law 12: from the books to the tax: mathematics, and a line's two cells. -/
import Derived.Test.YtmeljcogoeghaaaRec
import Derived.Test.YtmeljcogoeghaaaTot
namespace Go.Proofs.Ytmeljcogoeghaaa
open Go.RowKit

/-- the income by the tax, or that there is none -/
def IncIs (a b c n : Int) (ok : Bool) : Prop := (Mon a ∧ Mon b ∧ Mon c ∧ Mon (a + b - c) ∧ ok = true ∧ n = a + b - c) ∨ (¬ (Mon a ∧ Mon b ∧ Mon c ∧ Mon (a + b - c)) ∧ ok = false ∧ n = 0)
theorem inc_yes {a b c : Int} (h : Mon a ∧ Mon b ∧ Mon c ∧ Mon (a + b - c)) : IncIs a b c (a + b - c) true := .inl ⟨h.1, h.2.1, h.2.2.1, h.2.2.2, rfl, rfl⟩
theorem inc_no {a b c : Int} (h : ¬ (Mon a ∧ Mon b ∧ Mon c ∧ Mon (a + b - c))) : IncIs a b c 0 false := .inr ⟨h, rfl, rfl⟩
theorem inc_y {a b c n : Int} (h : Mon a ∧ Mon b ∧ Mon c ∧ Mon n) (e : n = a + b - c) : IncIs a b c n true := .inl ⟨h.1, h.2.1, h.2.2.1, e ▸ h.2.2.2, rfl, e⟩
theorem inc_any (a b c : Int) : ∃ n ok, IncIs a b c n ok := by
  by_cases h : Mon a ∧ Mon b ∧ Mon c ∧ Mon (a + b - c)
  · exact ⟨_, _, inc_yes h⟩
  · exact ⟨_, _, inc_no h⟩
/-- a line of the way -/
structure It where
  k : Int
  a : Int
def ie (x : It) : List Value := [.int .i64 x.k, .int .i64 x.a]
theorem ie_len (x : It) : (ie x).length = 2 := rfl
theorem ie_one (x : It) : ∀ u ∈ ie x, u.oneCell' = true := by
  intro u hu
  unfold ie at hu
  simp only [List.mem_cons, List.not_mem_nil, or_false] at hu
  rcases hu with rfl | rfl <;> rfl
/-- the four lines -/
def lns (a b c n : Int) : Nat → It := fun j => if j = 0 then ⟨1, a⟩ else if j = 1 then ⟨2, b⟩ else if j = 2 then ⟨3, -c⟩ else ⟨4, n⟩
theorem AtR.two {w : World} {A : Option Addr} {n : Nat} {g : Nat → It} (r : AtR ie 2 w A n g) {k : Nat} (hk : k < n) : ∃ b off, A = Option.some ⟨b, off, none⟩ ∧ b < w.heap.size ∧ w.cell? ⟨b, off + k * 2, none⟩ = Option.some (.int .i64 (g k).k) ∧ w.cell? ⟨b, off + k * 2 + 1, none⟩ = Option.some (.int .i64 (g k).a) := by
  obtain ⟨b, off, e, hb, hc⟩ := r.some (by omega)
  exact ⟨b, off, e, hb, hc k hk 0 _ rfl, hc k hk 1 _ rfl⟩
end Go.Proofs.Ytmeljcogoeghaaa
