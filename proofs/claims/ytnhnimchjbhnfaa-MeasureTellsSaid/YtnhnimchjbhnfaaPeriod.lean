/- Package period's functions: a contract for each. -/
import Derived.Test.YtnhnimchjbhnfaaPerMath
import Derived.Test.YtnhnimchjbhnfaaRate
import Derived.Test.YtnhnimchjbhnfaaMem
import Derived.WalkKit
import Derived.WalkSpells
import Derived.WalkLawsBesides
import Derived.Lib.Hide
import Derived.Deep.QuietTactic
import Derived.BigQuiet
namespace Go.Proofs.Ytnhnimchjbhnfaa
open Go.RowKit

theorem pright_yes (p : Int) (w : World) (h1 : 0 ≤ p) (h2 : p ≤ 399) : Calls Try.prog 29 #[.int .i64 p] w fun e w' => e = .returned (.bool true) ∧ w = w' := by
  go_enter Try.func29, Try.ntmps29
  go_wp2
  all_goals
    go_ret
    exact ⟨ret_b (by first | rfl | (simp; omega)), rfl⟩
theorem pright_no (p : Int) (w : World) (h : p < 0 ∨ 399 < p) : Calls Try.prog 29 #[.int .i64 p] w fun e w' => e = .returned (.bool false) ∧ w = w' := by
  go_enter Try.func29, Try.ntmps29
  go_wp2
  all_goals
    go_ret
    exact ⟨ret_b (by first | rfl | (simp; omega)), rfl⟩
theorem pyear_yes (p : Int) (w : World) (h1 : 0 ≤ p) (h2 : p ≤ 399) : Calls Try.prog 31 #[.int .i64 p] w fun e w' => e = .returned (.int .i64 (p / 4)) ∧ w = w' := by
  go_enter Try.func31, Try.ntmps31
  go_wp2_with ((go_at_call 29; (with_reducible refine (pright_yes _ _ (by omega) (by omega)).mono ?_); rintro e w' ⟨rfl, rfl⟩))
  go_ret
  exact ⟨rfl, rfl⟩
theorem pyear_no (p : Int) (w : World) (h : p < 0 ∨ 399 < p) : Calls Try.prog 31 #[.int .i64 p] w fun e w' => e = .returned (.int .i64 (-1)) ∧ w = w' := by
  go_enter Try.func31, Try.ntmps31
  go_wp2_with ((go_at_call 29; (with_reducible refine (pright_no _ _ (by omega)).mono ?_); rintro e w' ⟨rfl, rfl⟩))
  go_ret
  exact ⟨rfl, rfl⟩
/-- the period that a text of six bytes would be of -/
def pnum (s : ByteArray) (h : s.size = 6) : Int := ((((s[2]'(by omega)).toNat : Int) - 48) * 10 + (((s[3]'(by omega)).toNat : Int) - 48)) * 4 + (((s[5]'(by omega)).toNat : Int) - 48) - 1
theorem pnum_ptb {p : Int} (h1 : 0 ≤ p) (h2 : p ≤ 399) : pnum (ptb p) (ptb_size p) = p := by
  have e2 : ((ptb p)[2]'(by rw [ptb_size]; omega)) = UInt8.ofNat (48 + p / 4 / 10).toNat := rfl
  have e3 : ((ptb p)[3]'(by rw [ptb_size]; omega)) = UInt8.ofNat (48 + p / 4 % 10).toNat := rfl
  have e5 : ((ptb p)[5]'(by rw [ptb_size]; omega)) = UInt8.ofNat (48 + (p % 4 + 1)).toNat := rfl
  unfold pnum
  rw [e2, e3, e5]
  simp
  omega
theorem ptb_14 : (ptb 14).toList = [50, 48, 48, 51, 113, 51] := by
  rw [ByteArray.toList_eq]; decide
end Go.Proofs.Ytnhnimchjbhnfaa
