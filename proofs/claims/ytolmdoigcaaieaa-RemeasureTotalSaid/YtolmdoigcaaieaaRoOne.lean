/- One bucket, and its way: plain; where it lies. -/
import Derived.Test.YtolmdoigcaaieaaRoFwd
namespace Go.Proofs.Ytolmdoigcaaieaa
open Go.RowKit

/-- one bucket -/
def oneB (c y a : Int) : Int → Int → Int := bget (fun _ => ⟨c, y, a⟩) 1
theorem oneB_at (c y a c' y' : Int) : oneB c y a c' y' = if c = c' ∧ y = y' then a else 0 := by
  unfold oneB bget tot tot bval
  rw [Int.zero_add]
theorem one_inv {c y a : Int} (h : BOk c y) (hz : a ≠ 0) (hm : Mon a) : BInv (oneB c y a) 1 (fun _ => ⟨c, y, a⟩) := by
  refine ⟨⟨⟨fun _ _ => h, fun _ _ => hz, fun i j hi hj => by omega⟩, fun _ _ => rfl⟩, by omega, fun c' y' => ?_, ?_⟩
  · rw [oneB_at]
    split
    · exact hm
    · unfold Mon; omega
  · show Mon (0 + a)
    rw [Int.zero_add]; exact hm
theorem fis_one {c y a b : Int} (h : BOk c y) (hz : a ≠ 0 ∨ b ≠ 0) : FIs (oneB c y a) (oneB c y b) 1 (fun _ => ⟨c, y, a, b - a, b⟩) := by
  refine ⟨⟨⟨fun _ _ => h, fun _ _ => (by show (1 : Int) ≠ 0; decide), fun i j hi hj => by omega⟩, fun c' y' => ?_⟩, fun _ _ => ?_, fun _ _ => ?_, fun _ _ => rfl⟩
  · show oneB c y 1 c' y' = both _ _ c' y'
    unfold both
    rw [oneB_at, oneB_at, oneB_at]
    by_cases e : c = c' ∧ y = y'
    · rw [if_pos e, if_pos e, if_pos e, if_neg (by omega)]
    · rw [if_neg e, if_neg e, if_neg e, if_pos ⟨rfl, rfl⟩]
  · show a = oneB c y a c y
    rw [oneB_at, if_pos ⟨rfl, rfl⟩]
  · show b = oneB c y b c y
    rw [oneB_at, if_pos ⟨rfl, rfl⟩]
theorem oneB_zero (c y : Int) : oneB c y 0 = fun _ _ => 0 := by
  funext c' y'
  rw [oneB_at]; split <;> rfl
theorem fis_nothing : FIs (fun _ _ => 0) (fun _ _ => 0) 0 (fun _ => ⟨0, 0, 0, 0, 0⟩) := by
  refine ⟨?_, fun _ h => by omega, fun _ h => by omega, fun _ h => by omega⟩
  have e : both (fun _ _ => 0) (fun _ _ => 0) = fun _ _ => 0 := by
    funext c y
    exact if_pos ⟨rfl, rfl⟩
  rw [e]
  exact bis_zero _
theorem at_one {w : World} {b : Nat} {c y a : Int} (h : ∀ j u, (be ⟨c, y, a⟩)[j]? = some u → w.cell? ⟨b, j, none⟩ = some u) (hb : b < w.heap.size) : AtR be 3 w (some ⟨b, 0, none⟩) 1 (fun _ => ⟨c, y, a⟩) :=
  .inr ⟨b, 0, rfl, hb, fun j hj i u hu => by
    obtain rfl : j = 0 := by omega
    show w.cell? ⟨b, 0 + 0 * 3 + i, none⟩ = some u
    rw [Nat.zero_mul, Nat.add_zero, Nat.zero_add]; exact h i u hu⟩
theorem at_none {w : World} (A : Option Addr) (g : Nat → Bk) : AtR be 3 w A 0 g := .inl rfl
end Go.Proofs.Ytolmdoigcaaieaa
