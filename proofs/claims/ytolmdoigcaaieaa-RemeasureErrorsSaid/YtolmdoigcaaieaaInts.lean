/- Lists of whole numbers: copies, cuts, the least of some, sums: a contract for each. -/
import Derived.Test.YtolmdoigcaaieaaRate
import Derived.Test.YtolmdoigcaaieaaMem
import Derived.WalkKit
import Derived.WalkSpells
import Derived.WalkLawsBesides
import Derived.Lib.Hide
import Derived.Laws.AppendOwnNone
namespace Go.Proofs.Ytolmdoigcaaieaa
open Go.RowKit

theorem int_info : (Try.prog.info? 3).map (fun i => (i.zero, i.size, i.bytes)) = some (some (.int .i64 0), 1, 8) := by kernel_rfl

theorem ints_get (zs : List Int) (n : Nat) (h : n ≤ zs.length) : (zs.take n).map (Value.int .i64) = (List.range n).map fun j => .int .i64 (zs.getD j 0) := by
  apply List.ext_getElem (by simp; omega)
  intro j h1 h2
  simp at h1 h2
  simp [List.getD, show j < zs.length by omega]
/-- the least of the first k + 1 numbers -/
def lst (g : Nat → Int) : Nat → Int
  | 0 => g 0
  | k + 1 => min (lst g k) (g (k + 1))
/-- the least of some numbers; 0 if there is none -/
def leastOf (zs : List Int) : Int := if zs = [] then 0 else lst (fun j => zs.getD j 0) (zs.length - 1)

theorem cells_one (w : World) (z : Int) (t : TypeId) : Cells (w.alloc (.cells #[.int .i64 z] t)) (w.heap.size + 1) (some ⟨w.heap.size, 0, none⟩) ([z].map (Value.int .i64)) := by
  refine .inr ⟨_, _, rfl, by omega, fun j u hu => ?_⟩
  have := cell_one_new w (.int .i64 z) t j u (by simpa using hu)
  rwa [show (⟨w.heap.size, 0, none⟩ : Addr).add j = ⟨w.heap.size, 0 + j, none⟩ by unfold Addr.add; split <;> simp_all] at this
end Go.Proofs.Ytolmdoigcaaieaa
