/- Package period's functions: a contract for each. -/
import Derived.Test.YtolmdoigcaaieaaPerMath
import Derived.Test.YtolmdoigcaaieaaRate
import Derived.Test.YtolmdoigcaaieaaMem
import Derived.WalkKit
import Derived.WalkSpells
import Derived.WalkLawsBesides
import Derived.Lib.Hide
import Derived.Deep.QuietTactic
import Derived.BigQuiet
namespace Go.Proofs.Ytolmdoigcaaieaa
open Go.RowKit

/-- the period that a text of six bytes would be of -/
def pnum (s : ByteArray) (h : s.size = 6) : Int := ((((s[2]'(by omega)).toNat : Int) - 48) * 10 + (((s[3]'(by omega)).toNat : Int) - 48)) * 4 + (((s[5]'(by omega)).toNat : Int) - 48) - 1
theorem pnum_ptb {p : Int} (h1 : 0 ≤ p) (h2 : p ≤ 399) : pnum (ptb p) (ptb_size p) = p := by
  have e2 : ((ptb p)[2]'(by rw [ptb_size]; omega)) = UInt8.ofNat (48 + p / 4 / 10).toNat := rfl
  have e3 : ((ptb p)[3]'(by rw [ptb_size]; omega)) = UInt8.ofNat (48 + p / 4 % 10).toNat := rfl
  have e5 : ((ptb p)[5]'(by rw [ptb_size]; omega)) = UInt8.ofNat (48 + (p % 4 + 1)).toNat := rfl
  unfold pnum
  rw [e2, e3, e5]
  simp
  omega
theorem ptb_14 : (ptb 14).toList = [50, 48, 48, 51, 113, 51] := by
  rw [ByteArray.toList_eq]; decide
end Go.Proofs.Ytolmdoigcaaieaa
