/- The example of chapter 2, as the statements ask it. -/
import Derived.Test.YtgikhbfbjkdadaaSplit
import Derived.WalkKit
import Derived.WalkSpells
import Derived.WalkLawsBesides
import Derived.Lib.Hide
import Derived.Deep.QuietTactic
import Derived.BigQuiet
namespace Go.Proofs.Ytgikhbfbjkdadaa
open Go.RowKit

theorem splitOk_ten : SplitOk 10 3 (fun j => [1, 1, 1].getD j 0) := by
  refine ⟨by unfold Mon; omega, by omega, fun j hj => ?_, by decide⟩
  rcases (show j = 0 ∨ j = 1 ∨ j = 2 by omega) with rfl | rfl | rfl <;> simp
theorem split_ten : ∀ j, j < 3 → splitV 10 3 (fun j => [1, 1, 1].getD j 0) j = [4, 3, 3].getD j 0 := by decide
set_option maxHeartbeats 1000000 in
theorem wakes2_any (w : World) : Calls Try.prog 10 #[] w fun e w' => e = .returned (.bool true) ∧ Below w.heap.size w w' := by
  have H1 := Lib.hid splitOk_ten
  go_enter Try.func10, Try.ntmps10
  go_wp2_with fail
  have L1 := Lib.hid (lit_row w [1, 1, 1] 3)
  have hb1 := Lib.hid ((Below.refl w.heap.size w).alloc (Nat.le_refl _) (.cells #[.int .i64 1, .int .i64 1, .int .i64 1] 3))
  refine (split_yes 10 w.heap.size 0 3 3 _ _ L1.out.1 L1.out.hid H1).mono ?_; rintro e w2 ⟨B, rfl, hB, hr, hb2⟩
  have hr := Lib.hid hr
  have hb := Lib.hid (hb1.out.trans (hb2.mono hb1.out.size))
  clear hb1 hb2 hB L1
  go_wp2_with fail
  have L1 := Lib.hid (lit_row w2 [4, 3, 3] 3)
  have hb3 := Lib.hid ((Below.refl w2.heap.size w2).alloc (Nat.le_refl _) (.cells #[.int .i64 4, .int .i64 3, .int .i64 3] 3))
  refine (same_true _ _ 3 3 3 _ _ _ (hr.out.below hb3.out).at L1.out.at (by omega) split_ten).mono ?_; rintro e w4 ⟨rfl, hb4⟩
  have hb5 := Lib.hid (hb.out.trans ((hb3.out.trans (hb4.mono hb3.out.size)).mono hb.out.size))
  clear hb hb3 hb4 hr L1
  go_wp2
  go_ret
  exact ⟨rfl, hb5.out⟩

end Go.Proofs.Ytgikhbfbjkdadaa
