/- The document's example of chapter 6; JournalForms: its walk. -/
import Derived.Test.YtpbpflhoeidpnaaJRight
import Derived.WalkKit
import Derived.WalkSpells
import Derived.WalkLawsBesides
import Derived.Lib.Hide
import Derived.Deep.LoopGhost
import Derived.Deep.RegionHeld3
namespace Go.Proofs.Ytpbpflhoeidpnaa
open Go.RowKit

def wkA (j : Nat) : Int := if j = 0 then 1 else if j = 1 then 2 else 1
def wkM (j : Nat) : Int := if j = 0 then 5 else if j = 1 then -5 else 2
def two (a b : Int) (j : Nat) : Int := if j = 0 then a else b
def three (a b c : Int) (j : Nat) : Int := if j = 0 then a else if j = 1 then b else c
theorem good_two {a b m n : Int} (h1 : 1 ≤ a) (h2 : a < b) (h3 : b ≤ 7) (h4 : m ≠ 0) (h5 : Mon m) (h6 : m + n = 0) : Good 2 (two a b) (two m n) := by
  refine ⟨by omega, fun j hj => ?_, fun j hj => ?_, by simp [tot, two]; omega⟩
  · unfold Mon at h5
    rcases (show j = 0 ∨ j = 1 by omega) with rfl | rfl
    · show LineOk a m; unfold LineOk Mon; omega
    · show LineOk b n; unfold LineOk Mon; omega
  · obtain rfl : j = 0 := by omega
    exact h2
theorem bad_two {a b m n : Int} (h : b ≤ a) : ¬ Good 2 (two a b) (two m n) := fun g => by
  have q : a < b := g.2.2.1 0 (by omega)
  omega
theorem AtL.alloc {w : World} {A : Option Addr} {n : Nat} {ga gm : Nat → Int} (h : AtL w A n ga gm) (o : Obj) : AtL (w.alloc o) A n ga gm := h.below ((Below.refl _ _).alloc (Nat.le_refl _) o)
/-- rows of lines, each with what is to be said of them -/
def FormsAt (w : World) (B n : Nat) : Prop := B < w.heap.size ∧ ∀ k, k < n → ∃ A m c q ga gm, w.cell? ⟨B, k * 2, none⟩ = some (.slice A m c) ∧ w.cell? ⟨B, k * 2 + 1, none⟩ = some (.bool q) ∧ AtL w A m ga gm ∧ m ≤ 3 ∧ (q = true → Good m ga gm) ∧ (q = false → ¬ Good m ga gm)
/-- the lists that JournalForms holds -/
def fmW (N : Int) (w : World) : World := (((((((((w.alloc (.cells #[.int .i64 1, .int .i64 N, .int .i64 2, .int .i64 (-N)] 26)).alloc (.cells #[.int .i64 2, .int .i64 (-N), .int .i64 1, .int .i64 N] 26)).alloc (.cells #[.int .i64 1, .int .i64 N, .int .i64 1, .int .i64 (-N)] 26)).alloc (.cells #[.int .i64 1, .int .i64 N] 26)).alloc (.cells #[.int .i64 0, .int .i64 N, .int .i64 2, .int .i64 (-N)] 26)).alloc (.cells #[.int .i64 7, .int .i64 N, .int .i64 8, .int .i64 (-N)] 26)).alloc (.cells #[.int .i64 1, .int .i64 N, .int .i64 2, .int .i64 (-N), .int .i64 3, .int .i64 0] 26)).alloc (.cells #[.int .i64 1, .int .i64 (100000000000 + N), .int .i64 2, .int .i64 (-100000000000 - N)] 26)).alloc (.cells #[.int .i64 3, .int .i64 (-100000000000), .int .i64 7, .int .i64 100000000000] 26))
def fmC (H : Nat) : Array Value := #[.slice none 0 0, .bool true, .slice (some ⟨H, 0, none⟩) 2 2, .bool true, .slice (some ⟨H + 1, 0, none⟩) 2 2, .bool false, .slice (some ⟨H + 1 + 1, 0, none⟩) 2 2, .bool false, .slice (some ⟨H + 1 + 1 + 1, 0, none⟩) 1 1, .bool false, .slice (some ⟨H + 1 + 1 + 1 + 1, 0, none⟩) 2 2, .bool false, .slice (some ⟨H + 1 + 1 + 1 + 1 + 1, 0, none⟩) 2 2, .bool false, .slice (some ⟨H + 1 + 1 + 1 + 1 + 1 + 1, 0, none⟩) 3 3, .bool false, .slice (some ⟨H + 1 + 1 + 1 + 1 + 1 + 1 + 1, 0, none⟩) 2 2, .bool false, .slice (some ⟨H + 1 + 1 + 1 + 1 + 1 + 1 + 1 + 1, 0, none⟩) 2 2, .bool true]
theorem fmW_size (N : Int) (w : World) : (fmW N w).heap.size = w.heap.size + 1 + 1 + 1 + 1 + 1 + 1 + 1 + 1 + 1 := by simp [fmW]
theorem fm_cell (w : World) (H t j : Nat) : (w.alloc (.cells (fmC H) t)).cell? ⟨w.heap.size, j, none⟩ = (fmC H)[j]? := cell_of_row _ w.heap.size j _ t (0, 0) (heap_alloc_new w _)
theorem forms_at (N : Int) (w : World) (t : TypeId) (h1 : 1 ≤ N) (h2 : N ≤ 100000000000) : FormsAt ((fmW N w).alloc (.cells (fmC w.heap.size) t)) (fmW N w).heap.size 10 := by
  have hM : Mon N := ⟨by omega, h2⟩
  refine ⟨by simp, fun k hk => ?_⟩
  rcases (show k = 0 ∨ k = 1 ∨ k = 2 ∨ k = 3 ∨ k = 4 ∨ k = 5 ∨ k = 6 ∨ k = 7 ∨ k = 8 ∨ k = 9 by omega) with rfl | rfl | rfl | rfl | rfl | rfl | rfl | rfl | rfl | rfl
  · exact ⟨none, 0, 0, true, fun _ => 0, fun _ => 0, fm_cell _ _ _ _, fm_cell _ _ _ _, .inl rfl, by omega, fun _ => ⟨by omega, fun j hj => by omega, fun j hj => by omega, rfl⟩, fun e => by cases e⟩
  · exact ⟨_, 2, 2, true, two 1 2, two N (-N), fm_cell _ _ _ _, fm_cell _ _ _ _, (((((((((lit_l _ _ _ _ 2 (two 1 2) (two N (-N)) (by simp) rfl).alloc _).alloc _).alloc _).alloc _).alloc _).alloc _).alloc _).alloc _).alloc _, by omega, fun _ => good_two (by omega) (by omega) (by omega) (by omega) hM (by omega), fun e => by cases e⟩
  · exact ⟨_, 2, 2, false, two 2 1, two (-N) N, fm_cell _ _ _ _, fm_cell _ _ _ _, ((((((((lit_l _ _ _ _ 2 (two 2 1) (two (-N) N) (by simp) rfl).alloc _).alloc _).alloc _).alloc _).alloc _).alloc _).alloc _).alloc _, by omega, fun e => (by cases e), fun _ => bad_two (by omega)⟩
  · exact ⟨_, 2, 2, false, two 1 1, two N (-N), fm_cell _ _ _ _, fm_cell _ _ _ _, (((((((lit_l _ _ _ _ 2 (two 1 1) (two N (-N)) (by simp) rfl).alloc _).alloc _).alloc _).alloc _).alloc _).alloc _).alloc _, by omega, fun e => (by cases e), fun _ => bad_two (by omega)⟩
  · exact ⟨_, 1, 1, false, two 1 1, two N N, fm_cell _ _ _ _, fm_cell _ _ _ _, ((((((lit_l _ _ _ _ 1 (two 1 1) (two N N) (by simp) rfl).alloc _).alloc _).alloc _).alloc _).alloc _).alloc _, by omega, fun e => (by cases e), fun _ g => by have q : tot (two N N) 1 = 0 := g.2.2.2; simp [tot, two] at q; omega⟩
  · exact ⟨_, 2, 2, false, two 0 2, two N (-N), fm_cell _ _ _ _, fm_cell _ _ _ _, (((((lit_l _ _ _ _ 2 (two 0 2) (two N (-N)) (by simp) rfl).alloc _).alloc _).alloc _).alloc _).alloc _, by omega, fun e => (by cases e), fun _ g => by have q : (1 : Int) ≤ 0 := (g.2.1 0 (by omega)).1; omega⟩
  · exact ⟨_, 2, 2, false, two 7 8, two N (-N), fm_cell _ _ _ _, fm_cell _ _ _ _, ((((lit_l _ _ _ _ 2 (two 7 8) (two N (-N)) (by simp) rfl).alloc _).alloc _).alloc _).alloc _, by omega, fun e => (by cases e), fun _ g => by have q : (8 : Int) ≤ 7 := (g.2.1 1 (by omega)).2.1; omega⟩
  · exact ⟨_, 3, 3, false, three 1 2 3, three N (-N) 0, fm_cell _ _ _ _, fm_cell _ _ _ _, (((lit_l _ _ _ _ 3 (three 1 2 3) (three N (-N) 0) (by simp) rfl).alloc _).alloc _).alloc _, by omega, fun e => (by cases e), fun _ g => by have q : (0 : Int) ≠ 0 := (g.2.1 2 (by omega)).2.2.1; omega⟩
  · exact ⟨_, 2, 2, false, two 1 2, two (100000000000 + N) (-100000000000 - N), fm_cell _ _ _ _, fm_cell _ _ _ _, ((lit_l _ _ _ _ 2 (two 1 2) (two (100000000000 + N) (-100000000000 - N)) (by simp) rfl).alloc _).alloc _, by omega, fun e => (by cases e), fun _ g => by have q : Mon (100000000000 + N) := (g.2.1 0 (by omega)).2.2.2; unfold Mon at q; omega⟩
  · exact ⟨_, 2, 2, true, two 3 7, two (-100000000000) 100000000000, fm_cell _ _ _ _, fm_cell _ _ _ _, (lit_l _ _ _ _ 2 (two 3 7) (two (-100000000000) 100000000000) (by simp) rfl).alloc _, by omega, fun _ => good_two (by omega) (by omega) (by omega) (by omega) ⟨by omega, by omega⟩ (by omega), fun e => by cases e⟩
theorem FormsAt.below {w w1 : World} {B n : Nat} (h : FormsAt w B n) (k : Below w.heap.size w w1) : FormsAt w1 B n := by
  refine ⟨Nat.lt_of_lt_of_le h.1 k.size, fun j hj => ?_⟩
  obtain ⟨A, m, c, q, ga, gm, c1, c2, c3, r⟩ := h.2 j hj
  exact ⟨A, m, c, q, ga, gm, (k.cell (p := ⟨B, j * 2, none⟩) h.1).trans c1, (k.cell (p := ⟨B, j * 2 + 1, none⟩) h.1).trans c2, c3.below k, r⟩
theorem fm_below (N : Int) (w : World) (o : Obj) : Below w.heap.size w ((fmW N w).alloc o) := by
  have s : ∀ {w' : World}, Below w.heap.size w w' → ∀ o, Below w.heap.size w (w'.alloc o) := fun h o => h.alloc h.size o
  exact s (s (s (s (s (s (s (s (s (s (Below.refl _ _) _) _) _) _) _) _) _) _) _) _
end Go.Proofs.Ytpbpflhoeidpnaa
