/- Package rate's sums, in 128 bits: a contract for each of their functions, where the total fits 63 bits. -/
import Derived.Test.YtdchihhekmbeiaaM1
import Derived.WalkKit
import Derived.WalkSpells
import Derived.WalkLawsBesides
import Derived.Lib.Hide
import Derived.Laws.Externs
import Derived.Deep.QuietTactic
import Derived.BigQuiet
namespace Go.Proofs.Ytdchihhekmbeiaa
open Go.RowKit

/-- a number's upper and lower half, in two's complement of 128 bits -/
def hiOf (t : Int) : Int := if t < 0 then 18446744073709551615 else 0
def loOf (t : Int) : Int := t % 18446744073709551616

theorem plus_hi (t n : Int) (h1 : -4611686018427387904 ≤ t) (h2 : t ≤ 4611686018427387904) (h3 : -4611686018427387904 ≤ n) (h4 : n ≤ 4611686018427387904) :
    (hiOf t + hiOf n + (loOf t + n % 18446744073709551616 + 0) / 18446744073709551616) % 18446744073709551616 = hiOf (t + n) := by
  unfold hiOf loOf; split <;> split <;> split <;> omega
theorem plus_lo (t n : Int) : (loOf t + n % 18446744073709551616 + 0) % 18446744073709551616 = loOf (t + n) := by
  unfold loOf; omega
theorem carry_bd (t n : Int) : 0 ≤ (loOf t + n % 18446744073709551616 + 0) / 18446744073709551616 ∧ (loOf t + n % 18446744073709551616 + 0) / 18446744073709551616 ≤ 1 := by
  unfold loOf; omega
theorem hi_bd (t : Int) : 0 ≤ hiOf t ∧ hiOf t ≤ 18446744073709551615 := by unfold hiOf; split <;> omega
theorem lo_bd (t : Int) : 0 ≤ loOf t ∧ loOf t ≤ 18446744073709551615 := by unfold loOf; omega

theorem lo_back (t : Int) (h1 : -4611686018427387904 ≤ t) (h2 : t ≤ 4611686018427387904) : wrap64 (loOf t) = t := by
  simp only [wrap64, loOf]; omega

/-- what a sum answers -/
def SumIs (g : Nat → Int) (n : Nat) (r : Int) (ok : Bool) : Prop :=
  (ok = true ∧ r = tot g n ∧ Mon (tot g n) ∧ ∀ j, j < n → Mon (g j)) ∨ (ok = false ∧ r = 0 ∧ ((∃ j, j < n ∧ ¬ Mon (g j)) ∨ ¬ Mon (tot g n)))
theorem SumIs.bad {g : Nat → Int} {n k : Nat} {r : Int} {ok : Bool} (h : SumIs g n r ok) (hk : k < n) (hb : ¬ Mon (g k)) : ok = false ∧ r = 0 := by
  rcases h with ⟨_, _, _, h⟩ | ⟨h1, h2, _⟩
  · exact absurd (h k hk) hb
  · exact ⟨h1, h2⟩
theorem SumIs.good {g : Nat → Int} {n : Nat} {r : Int} {ok : Bool} (h : SumIs g n r ok) (hg : ∀ j, j < n → Mon (g j)) (hm : Mon (tot g n)) : ok = true ∧ r = tot g n := by
  rcases h with ⟨h1, h2, _⟩ | ⟨_, _, ⟨j, hj, hb⟩ | hb⟩
  · exact ⟨h1, h2⟩
  · exact absurd (hg j hj) hb
  · exact absurd hm hb
theorem SumIs.big {g : Nat → Int} {n : Nat} {r : Int} {ok : Bool} (h : SumIs g n r ok) (hm : ¬ Mon (tot g n)) : ok = false ∧ r = 0 := by
  rcases h with ⟨_, _, h, _⟩ | ⟨h1, h2, _⟩
  · exact absurd h hm
  · exact ⟨h1, h2⟩

end Go.Proofs.Ytdchihhekmbeiaa
