/- The document's own answers about periods, and a text cut off: a contract for each. -/
import Derived.Test.YtolmdoigcaaieaaRows
import Derived.Test.YtolmdoigcaaieaaPerMath
import Derived.Test.YtolmdoigcaaieaaMem
import Derived.WalkKit
import Derived.WalkSpells
import Derived.WalkLawsBesides
import Derived.Lib.Hide
import Derived.Deep.QuietTactic
import Derived.BigQuiet
namespace Go.Proofs.Ytolmdoigcaaieaa
open Go.RowKit

theorem dig_at (n : Int) (h1 : 0 ≤ n) (h2 : n ≤ 9) : ((ByteArray.mk #[48, 49, 50, 51, 52, 53, 54, 55, 56, 57]).extract n.toNat 10).extract 0 1 = strOfNums [48 + n] := by
  rcases (show n = 0 ∨ n = 1 ∨ n = 2 ∨ n = 3 ∨ n = 4 ∨ n = 5 ∨ n = 6 ∨ n = 7 ∨ n = 8 ∨ n = 9 by omega) with rfl | rfl | rfl | rfl | rfl | rfl | rfl | rfl | rfl | rfl <;> rfl
theorem nums_append (xs ys : List Int) : strOfNums xs ++ strOfNums ys = strOfNums (xs ++ ys) := by
  unfold strOfNums
  rw [ByteArray.mk_append_mk, List.map_append]
theorem ptb_parts (p : Int) (h1 : 0 ≤ p) (h2 : p ≤ 399) : (ByteArray.mk #[50, 48]) ++ ((ByteArray.mk #[48, 49, 50, 51, 52, 53, 54, 55, 56, 57]).extract (p / 40).toNat 10).extract 0 1 ++ ((ByteArray.mk #[48, 49, 50, 51, 52, 53, 54, 55, 56, 57]).extract (p / 4 % 10).toNat 10).extract 0 1 ++ (ByteArray.mk #[113]) ++ ((ByteArray.mk #[48, 49, 50, 51, 52, 53, 54, 55, 56, 57]).extract (p % 4 + 1).toNat 10).extract 0 1 = ptb p := by
  rw [dig_at _ (by omega) (by omega), dig_at _ (by omega) (by omega), dig_at _ (by omega) (by omega)]
  rw [show (ByteArray.mk #[50, 48]) = strOfNums [50, 48] from rfl, show (ByteArray.mk #[113]) = strOfNums [113] from rfl, nums_append, nums_append, nums_append, nums_append]
  unfold ptb
  rw [show p / 4 / 10 = p / 40 by omega]
  rfl
/-- a text, cut off at n bytes -/
def cutb (s : ByteArray) (n : Int) : ByteArray := if n < s.size then s.extract 0 n.toNat else s
theorem cutb_size (s : ByteArray) (n : Int) (h : 0 ≤ n) : ((cutb s n).size : Int) ≤ n := by
  unfold cutb
  split
  · simp; omega
  · omega
end Go.Proofs.Ytolmdoigcaaieaa
