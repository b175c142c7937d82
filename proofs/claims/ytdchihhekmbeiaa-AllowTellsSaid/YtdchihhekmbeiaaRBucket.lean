/- The document's own register of buckets: Get, Total, Copy, set: a contract for each. -/
import Derived.Test.YtdchihhekmbeiaaRows
import Derived.Test.YtdchihhekmbeiaaRec
import Derived.Test.YtdchihhekmbeiaaBkMath2
import Derived.Test.YtdchihhekmbeiaaRef9
import Derived.WalkKit
import Derived.WalkSpells
import Derived.WalkLawsBesides
import Derived.Lib.Hide
import Derived.IntWalk
import Derived.Deep.LoopGhost
namespace Go.Proofs.Ytdchihhekmbeiaa
open Go.RowKit

/-- the three cells of a bucket -/
def be (x : Bk) : List Value := [.int .i64 x.c, .int .i64 x.y, .int .i64 x.a]
theorem be_len (x : Bk) : (be x).length = 3 := rfl
theorem be_one (x : Bk) : ∀ u ∈ be x, u.oneCell' = true := by
  intro u hu
  unfold be at hu
  simp only [List.mem_cons, List.not_mem_nil, or_false] at hu
  rcases hu with rfl | rfl | rfl <;> rfl
section
variable {w w1 : World} {O O1 : Nat → Nat} {base t t' sb n : Nat} {v : Value} {g : Nat → Bk} {S : Int → Int → Int}
theorem AtR.three {A : Option Addr} (r : AtR be 3 w A n g) {k : Nat} (hk : k < n) : ∃ b off, A = Option.some ⟨b, off, none⟩ ∧ b < w.heap.size ∧ w.cell? ⟨b, off + k * 3, none⟩ = Option.some (.int .i64 (g k).c) ∧ w.cell? ⟨b, off + k * 3 + 1, none⟩ = Option.some (.int .i64 (g k).y) ∧ w.cell? ⟨b, off + k * 3 + 2, none⟩ = Option.some (.int .i64 (g k).a) := by
  obtain ⟨b, off, e, hb, hc⟩ := r.some (by omega)
  exact ⟨b, off, e, hb, hc k hk 0 _ rfl, hc k hk 1 _ rfl, hc k hk 2 _ rfl⟩
end
end Go.Proofs.Ytdchihhekmbeiaa
