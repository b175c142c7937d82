/- Which losses are used: what may be, in their order, till the room is used up; the only way to do so; in two steps as in one: mathematics alone. -/
import Derived.Test.YtmlafdehhbhbiaaGreatM3
namespace Go.Proofs.YtmlafdehhbhbiaaGreat
def eU (g : Nat → Bk) (year : Int) : Nat → Int := fun j => if (g j).c < year then 0 else (g j).a
def EU (g : Nat → Bk) (year : Int) (k : Nat) : Int := tot (eU g year) k
def vU (g : Nat → Bk) (year R : Int) : Nat → Int := fun k => min (EU g year (k + 1)) R - min (EU g year k) R
def usU (g : Nat → Bk) (year room : Int) : Nat → Int := vU g year (max room 0)
section
variable {g h : Nat → Bk} {year R R' room : Int} {n k : Nat} {u : Nat → Int}
theorem EU_succ (g : Nat → Bk) (year : Int) (k : Nat) : EU g year (k + 1) = EU g year k + eU g year k := rfl
theorem eU_nonneg (pos : ∀ j, j < n → 0 ≤ (g j).a) {j : Nat} (hj : j < n) : 0 ≤ eU g year j ∧ eU g year j ≤ (g j).a := by
 have := pos j hj
 unfold eU; split <;> omega
theorem EU_nonneg (pos : ∀ j, j < n → 0 ≤ (g j).a) (hk : k ≤ n) : 0 ≤ EU g year k := tot_nonneg k fun j hj => (eU_nonneg pos (by omega)).1
theorem vU_tot (g : Nat → Bk) (year : Int) (hR : 0 ≤ R) : ∀ k, tot (vU g year R) k = min (EU g year k) R
 | 0 => by show (0 : Int) = min 0 R; omega
 | k + 1 => by
   have := vU_tot g year hR k
   show tot (vU g year R) k + (min (EU g year (k + 1)) R - min (EU g year k) R) = _
   omega
theorem us_tot (g : Nat → Bk) (year room : Int) (k : Nat) : tot (usU g year room) k = min (EU g year k) (max room 0) := vU_tot g year (by omega) k
theorem us_step (pos : ∀ j, j < n → 0 ≤ (g j).a) (hk : k < n) : usU g year room k = if (g k).c < year then 0 else min (g k).a (max (room - tot (usU g year room) k) 0) := by
 rw [us_tot]
 have h0 := EU_nonneg (year := year) pos (show k ≤ n by omega)
 have h1 := pos k hk
 unfold usU vU
 rw [EU_succ]
 unfold eU
 split <;> omega
theorem us_in (pos : ∀ j, j < n → 0 ≤ (g j).a) (hk : k < n) : 0 ≤ usU g year room k ∧ usU g year room k ≤ (g k).a ∧ ((g k).c < year → usU g year room k = 0) := by
 have h0 := EU_nonneg (year := year) pos (show k ≤ n by omega)
 have h1 := pos k hk
 unfold usU vU
 rw [EU_succ]
 unfold eU
 split <;> omega
theorem us_room (pos : ∀ j, j < n → 0 ≤ (g j).a) (hk : k ≤ n) : 0 ≤ tot (usU g year room) k ∧ tot (usU g year room) k ≤ max room 0 := by
 rw [us_tot]
 have h0 := EU_nonneg (year := year) pos hk
 omega
variable {m : Nat} {p : Nat → Nat} {one two : Int}
end
end Go.Proofs.YtmlafdehhbhbiaaGreat
