/- Package chart's functions, the document's own answers about accounts: a contract for each. -/
import Derived.Test.YtpbpflhoeidpnaaRows
import Derived.Test.YtpbpflhoeidpnaaMath
import Derived.Test.YtpbpflhoeidpnaaMem
import Derived.Test.YtpbpflhoeidpnaaMemV
import Derived.WalkKit
import Derived.WalkSpells
import Derived.WalkLawsBesides
import Derived.Lib.Hide
namespace Go.Proofs.Ytpbpflhoeidpnaa
open Go.RowKit

/-- the accounts' names: none at 0, and beyond 7 -/
def nm : Nat → ByteArray
  | 1 => ⟨#[99, 117, 114, 114, 101, 110, 116]⟩
  | 2 => ⟨#[112, 97, 121, 97, 98, 108, 101]⟩
  | 3 => ⟨#[100, 101, 102, 101, 114, 114, 101, 100]⟩
  | 4 => ⟨#[116, 101, 109, 112]⟩
  | 5 => ⟨#[108, 111, 115, 115, 101, 115]⟩
  | 6 => ⟨#[97, 108, 108, 111, 119, 97, 110, 99, 101]⟩
  | 7 => ⟨#[116, 114, 117, 101, 117, 112]⟩
  | _ => ⟨#[]⟩
theorem nm_some {k : Nat} (h1 : 1 ≤ k) (h2 : k ≤ 7) : nm k ≠ ⟨#[]⟩ := by
  rcases (show k = 1 ∨ k = 2 ∨ k = 3 ∨ k = 4 ∨ k = 5 ∨ k = 6 ∨ k = 7 by omega) with rfl | rfl | rfl | rfl | rfl | rfl | rfl <;> decide
theorem nm_inj {j k : Nat} (h1 : 1 ≤ j) (h2 : j ≤ 7) (h3 : 1 ≤ k) (h4 : k ≤ 7) (h : nm j = nm k) : j = k := by
  rcases (show j = 1 ∨ j = 2 ∨ j = 3 ∨ j = 4 ∨ j = 5 ∨ j = 6 ∨ j = 7 by omega) with rfl | rfl | rfl | rfl | rfl | rfl | rfl <;>
  rcases (show k = 1 ∨ k = 2 ∨ k = 3 ∨ k = 4 ∨ k = 5 ∨ k = 6 ∨ k = 7 by omega) with rfl | rfl | rfl | rfl | rfl | rfl | rfl <;>
  first | rfl | exact absurd h (by decide)
/-- whether a number is of a cost -/
def cst (a : Int) : Bool := a == 1 || a == 3 || a == 7
theorem bytes_is (t s : ByteArray) : (t.toList == s.toList) = true ↔ t = s := by
  rw [beq_iff_eq, ByteArray.toList_eq, ByteArray.toList_eq]
  exact ⟨fun h => Go.WideShapes.bytes_inj h, fun h => by rw [h]⟩
theorem bytes_not {t s : ByteArray} (h : t ≠ s) : (t.toList == s.toList) = false := by
  rw [Bool.eq_false_iff]; exact fun e => h ((bytes_is t s).1 e)

theorem cname_at (k : Nat) (w : World) (h1 : 1 ≤ k) (h2 : k ≤ 7) : Calls Try.prog 77 #[.int .i64 k] w fun e w' => e = .returned (.string (nm k)) ∧ w = w' := by
  rcases (show k = 1 ∨ k = 2 ∨ k = 3 ∨ k = 4 ∨ k = 5 ∨ k = 6 ∨ k = 7 by omega) with rfl | rfl | rfl | rfl | rfl | rfl | rfl
  all_goals
    go_enter Try.func77, Try.ntmps77
    go_wp2
    go_ret
    exact ⟨rfl, rfl⟩
theorem cname_no (a : Int) (w : World) (h : a < 1 ∨ 7 < a) : Calls Try.prog 77 #[.int .i64 a] w fun e w' => e = .returned (.string ⟨#[]⟩) ∧ w = w' := by
  have h1 : (a == 1) = false := by simp; omega
  have h2 : (a == 2) = false := by simp; omega
  have h3 : (a == 3) = false := by simp; omega
  have h4 : (a == 4) = false := by simp; omega
  have h5 : (a == 5) = false := by simp; omega
  have h6 : (a == 6) = false := by simp; omega
  have h7 : (a == 7) = false := by simp; omega
  clear h
  go_enter Try.func77, Try.ntmps77
  go_wp2
  go_ret
  exact ⟨rfl, rfl⟩
/-- the list of accounts in a new block -/
theorem caccs_any (w : World) : Calls Try.prog 56 #[] w fun e w' => e = .returned (.slice (some ⟨w.heap.size, 0, none⟩) 7 7) ∧ (Row w' w.heap.size 7 fun j => (j : Int) + 1) ∧ Below w.heap.size w w' := by
  have hr : Row (w.alloc (.cells #[.int .i64 1, .int .i64 2, .int .i64 3, .int .i64 4, .int .i64 5, .int .i64 6, .int .i64 7] 3)) w.heap.size 7 fun j => (j : Int) + 1 :=
    (lit_row w [1, 2, 3, 4, 5, 6, 7] 3).ext fun j hj => by
      rcases (show j = 0 ∨ j = 1 ∨ j = 2 ∨ j = 3 ∨ j = 4 ∨ j = 5 ∨ j = 6 by simp at hj; omega) with rfl | rfl | rfl | rfl | rfl | rfl | rfl <;> rfl
  have HR := Lib.hid hr
  have HB := Lib.hid ((Below.refl w.heap.size w).alloc (Nat.le_refl _) (.cells #[.int .i64 1, .int .i64 2, .int .i64 3, .int .i64 4, .int .i64 5, .int .i64 6, .int .i64 7] 3))
  clear hr
  go_enter Try.func56, Try.ntmps56
  go_wp2
  go_ret
  exact ⟨rfl, HR.out, HB.out⟩
/-- K is the account of the text s (b: there is one), as far as the first n accounts -/
def Found (s : ByteArray) (n K : Nat) (b : Bool) : Prop :=
  (b = true ∧ 1 ≤ K ∧ K ≤ n ∧ nm K = s) ∨ (b = false ∧ K = 0 ∧ ∀ j, 1 ≤ j → j ≤ n → nm j ≠ s)
theorem Found.start (s : ByteArray) : Found s 0 0 false := .inr ⟨rfl, rfl, fun j _ _ => by omega⟩
theorem Found.yes {s : ByteArray} {k : Nat} (h : nm (k + 1) = s) : Found s (k + 1) (k + 1) true := .inl ⟨rfl, by omega, Nat.le_refl _, h⟩
theorem Found.no {s : ByteArray} {k K : Nat} {b : Bool} (f : Found s k K b) (h : nm (k + 1) ≠ s) : Found s (k + 1) K b := by
  rcases f with ⟨e, h1, h2, h3⟩ | ⟨e, h1, h2⟩
  · exact .inl ⟨e, h1, by omega, h3⟩
  · refine .inr ⟨e, h1, fun j a c => ?_⟩
    by_cases hj : j = k + 1
    · subst hj; exact h
    · exact h2 j a (by omega)
theorem found_any (s : ByteArray) : ∀ n, ∃ K b, Found s n K b
  | 0 => ⟨_, _, Found.start s⟩
  | n + 1 => by
    by_cases h : nm (n + 1) = s
    · exact ⟨_, _, Found.yes h⟩
    · obtain ⟨K, b, f⟩ := found_any s n
      exact ⟨_, _, f.no h⟩
/-- the document's list of names -/
def nmv : Array Value := #[.string (nm 0), .string (nm 1), .string (nm 2), .string (nm 3), .string (nm 4), .string (nm 5), .string (nm 6), .string (nm 7)]
theorem nmv_cell (w : World) (t : TypeId) {j : Nat} (hj : j < 8) : (w.alloc (.cells nmv t)).cell? ⟨w.heap.size, j, none⟩ = some (.string (nm j)) := by
  rw [cell_of_row _ w.heap.size j _ t (0, 0) (heap_alloc_new w _)]
  rcases (show j = 0 ∨ j = 1 ∨ j = 2 ∨ j = 3 ∨ j = 4 ∨ j = 5 ∨ j = 6 ∨ j = 7 by omega) with rfl | rfl | rfl | rfl | rfl | rfl | rfl | rfl <;> rfl
theorem racc_yes (a : Int) (w : World) (h1 : 1 ≤ a) (h2 : a ≤ 7) : Calls Try.prog 67 #[.int .i64 a] w fun e w' => e = .returned (.bool true) ∧ w = w' := by
  go_enter Try.func67, Try.ntmps67
  go_wp2
  all_goals
    go_ret
    exact ⟨ret_b (by first | rfl | (simp; omega)), rfl⟩
theorem racc_no (a : Int) (w : World) (h : a < 1 ∨ 7 < a) : Calls Try.prog 67 #[.int .i64 a] w fun e w' => e = .returned (.bool false) ∧ w = w' := by
  go_enter Try.func67, Try.ntmps67
  go_wp2
  all_goals
    go_ret
    exact ⟨ret_b (by first | rfl | (simp; omega)), rfl⟩
end Go.Proofs.Ytpbpflhoeidpnaa
