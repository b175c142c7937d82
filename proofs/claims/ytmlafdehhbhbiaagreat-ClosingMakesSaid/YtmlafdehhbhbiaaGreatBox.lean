/- Blocks of which all cells are known, under marks; an input handed over. -/
import Derived.Test.YtmlafdehhbhbiaaGreatMkVal
import Derived.Test.YtmlafdehhbhbiaaGreatMkQ
import Derived.Test.YtmlafdehhbhbiaaGreatPlay19b
import Derived.WalkKit
import Derived.WalkSpells
import Derived.WalkLawsBesides
import Derived.Lib.Hide
namespace Go.Proofs.YtmlafdehhbhbiaaGreat
open Go.RowKit
set_option maxHeartbeats 4000000 in
set_option maxRecDepth 100000 in
theorem linp (i : MIn) (w : World) : Calls Tryz.prog 21 #[.agg (inL i).toArray] w fun e w' => e = .returned (.agg (inL i).toArray) ∧ Below w.heap.size w w' := by
 go_enter Tryz.func21, Tryz.ntmps21
 go_upto_region 1 with fail
 have h0 : ((w.alloc (.cells (inL i).toArray 66)).alloc (.cells #[.string ⟨#[]⟩, .int .i64 0, .int .i64 0, .int .i64 0, .int .i64 0, .int .i64 0, .int .i64 0, .int .i64 0] 31)).heap[w.heap.size]? = some (.cells (inL i).toArray 66 (0, 0)) := by
   rw [heap_alloc_old _ _ (by simp)]; exact heap_alloc_last w _
 have h1 := heap_alloc_last (w.alloc (.cells (inL i).toArray 66)) (.cells #[.string ⟨#[]⟩, .int .i64 0, .int .i64 0, .int .i64 0, .int .i64 0, .int .i64 0, .int .i64 0, .int .i64 0] 31)
 have kb := ((Below.refl w.heap.size w).alloc (Nat.le_refl _) (.cells (inL i).toArray 66)).alloc (by simp) (.cells #[.string ⟨#[]⟩, .int .i64 0, .int .i64 0, .int .i64 0, .int .i64 0, .int .i64 0, .int .i64 0, .int .i64 0] 31)
 have z : (w.alloc (.cells (inL i).toArray 66)).heap.size = w.heap.size + 1 := by simp
 rw [z] at h1
 obtain ⟨wx, hwx⟩ : ∃ wx, (w.alloc (.cells (inL i).toArray 66)).alloc (.cells #[.string ⟨#[]⟩, .int .i64 0, .int .i64 0, .int .i64 0, .int .i64 0, .int .i64 0, .int .i64 0, .int .i64 0] 31) = wx := ⟨_, rfl⟩
 rw [hwx] at h0 h1 kb
 rw [hwx]
 have H0 := Lib.hid (row_range h0)
 have H1 := Lib.hid h1
 have KB := Lib.hid kb
 clear h0 h1 kb z hwx
 go_wp2_with (first | ((with_reducible show wpList _ _ _ _ _ _); (refine wpList_load_mid rfl 66 (.tmp 1) rfl w.heap.size 0 rfl (inL i) _ H0.out Tryz.underlying66 rfl (in_size _) ?_)) | ((with_reducible show wpList _ _ _ _ _ _); (refine wpList_store_row rfl 31 (.tmp 2) (.tmp 3) rfl (w.heap.size + 1) (inL i).toArray rfl rfl _ _ H1.out (cin_size _) rfl (in_one _) ?_)))
 (try simp only [Exit.inBlock, Exit.then])
 refine bodyPost_ret (results_cell rfl _ _ (w.heap.size + 1) _ rfl (run_loadVar_row _ _ _ _ _ (0, 0) _ (setRow_heap _ _ _ _ _ _ H1.out) Tryz.underlying31 rfl (cin_size _))) rfl ?_
 exact ⟨rfl, below_setRow KB.out (by omega) _⟩
end Go.Proofs.YtmlafdehhbhbiaaGreat
