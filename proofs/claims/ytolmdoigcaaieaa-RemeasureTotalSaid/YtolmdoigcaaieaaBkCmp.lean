/- Package bucket: how two buckets compare; where one stands among others (cmp.Compare, cmp.Or, slices.BinarySearchFunc walked): a contract for each. -/
import Derived.Test.YtolmdoigcaaieaaRows
import Derived.Test.YtolmdoigcaaieaaRec
import Derived.Test.YtolmdoigcaaieaaCmp
import Derived.Test.YtolmdoigcaaieaaRBucket
import Derived.Test.YtolmdoigcaaieaaM1
import Derived.WalkKit
import Derived.WalkSpells
import Derived.WalkLawsBesides
import Derived.Lib.Hide
import Derived.IntWalk
import Derived.Deep.LoopGhost
import Derived.Deep.QuietTactic
import Derived.BigQuiet
import Derived.Deep.RegionHeld3
namespace Go.Proofs.Ytolmdoigcaaieaa
open Go.RowKit

/-- a bucket, as a value -/
abbrev ba (x : Bk) : Value := .agg #[.int .i64 x.c, .int .i64 x.y, .int .i64 x.a]
/-- how two buckets compare -/
def bkc (x z : Bk) : Int := orc (cmpc x.c z.c) (cmpc x.y z.y)
set_option maxRecDepth 100000 in
theorem bkc_neg {x z : Bk} : bkc x z < 0 ↔ Bl x.c x.y z.c z.y := by unfold bkc orc Bl cmpc; split <;> (repeat' split) <;> omega
set_option maxRecDepth 100000 in
theorem bkc_zero {x z : Bk} : bkc x z = 0 ↔ x.c = z.c ∧ x.y = z.y := by unfold bkc orc cmpc; split <;> (repeat' split) <;> omega
/-- where a bucket is, or would be -/
structure PAt (n : Nat) (g : Nat → Bk) (z : Bk) (p : Nat) (f : Bool) : Prop where
  le : p ≤ n
  lo : ∀ j, j < p → Bl (g j).c (g j).y z.c z.y
  hi : ∀ j, p ≤ j → j < n → ((g j).c = z.c ∧ (g j).y = z.y) ∨ Bl z.c z.y (g j).c (g j).y
  fd : f = true ↔ p < n ∧ (g p).c = z.c ∧ (g p).y = z.y
set_option maxRecDepth 100000 in
theorem bl_upto {n : Nat} {g : Nat → Bk} {c y : Int} {k j : Nat} (r : BRow n g) (hk : k < n) (h : Bl (g k).c (g k).y c y) (hj : j ≤ k) : Bl (g j).c (g j).y c y := by
  by_cases e : j = k
  · rw [e]; exact h
  · have := r.asc j k (by omega) hk
    unfold Bl at *; omega
set_option maxRecDepth 100000 in
theorem bl_from {n : Nat} {g : Nat → Bk} {c y : Int} {k j : Nat} (r : BRow n g) (hj : j < n) (h : ¬ Bl (g k).c (g k).y c y) (hk : k ≤ j) : ¬ Bl (g j).c (g j).y c y := by
  by_cases e : j = k
  · rw [e]; exact h
  · have := r.asc k j (by omega) hj
    unfold Bl at *; omega
set_option maxRecDepth 100000 in
theorem bl_where {n : Nat} {g : Nat → Bk} {c y : Int} {p : Nat} (_r : BRow n g) (h : ∀ j, p ≤ j → j < n → ¬ Bl (g j).c (g j).y c y) : ∀ j, p ≤ j → j < n → ((g j).c = c ∧ (g j).y = y) ∨ Bl c y (g j).c (g j).y := fun j h1 h2 => by
  have := h j h1 h2
  unfold Bl at *; omega
end Go.Proofs.Ytolmdoigcaaieaa
