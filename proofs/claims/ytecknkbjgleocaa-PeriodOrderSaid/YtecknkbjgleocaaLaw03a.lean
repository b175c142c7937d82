/- PeriodOrder: its walk. -/
import Derived.Test.YtecknkbjgleocaaPeriod
import Derived.WalkKit
import Derived.WalkSpells
import Derived.WalkLawsBesides
import Derived.Lib.Hide
namespace Go.Proofs.Ytecknkbjgleocaa
open Go.RowKit

set_option maxHeartbeats 1000000 in
theorem periodOrder_walk (a0 a1 : Int) (w : World) :
    Calls Try.prog 3 #[.int .i64 a0, .int .i64 a1] w fun e w' => e = .returned (.bool true) ∧ Below w.heap.size w w' := by
  obtain ⟨p, hp⟩ : ∃ p, a0 % 400 = p := ⟨_, rfl⟩
  obtain ⟨q, hq⟩ : ∃ q, a1 % 400 = q := ⟨_, rfl⟩
  have p1 : 0 ≤ p := by omega
  have p2 : p ≤ 399 := by omega
  have q1 : 0 ≤ q := by omega
  have q2 : q ≤ 399 := by omega
  have HP := Lib.hid hp
  have HQ := Lib.hid hq
  clear hp hq
  have hl := ptb_less p1 p2 q1 q2
  have he := ptb_eql p1 p2 q1 q2
  have HB := Lib.hid (Below.refl w.heap.size w)
  have d1 : p / 4 * 4 ≤ p := by omega
  have d2 : p < p / 4 * 4 + 4 := by omega
  rcases (show p < q ∨ p = q ∨ q < p by omega) with c | c | c
  · have c1 : (p == q) = false := by simp; omega
    have c2 : ¬ q < p := by omega
    have c3 : p / 4 ≤ q / 4 := by omega
    rw [decide_eq_true c] at hl
    rw [decide_eq_false (by omega : ¬ p = q)] at he
    go_enter Try.func3, Try.ntmps3
    go_wp2_with (first | (go_at_call 7; (with_reducible refine (within_at _ _ _ _ (by omega) (by omega) HP).mono ?_); rintro e w' ⟨rfl, rfl⟩) | (go_at_call 7; (with_reducible refine (within_at _ _ _ _ (by omega) (by omega) HQ).mono ?_); rintro e w' ⟨rfl, rfl⟩) | (go_at_call 8; (with_reducible refine (ptext_yes _ _ (by omega) (by omega)).mono ?_); rintro e w2 ⟨rfl, hb2⟩; replace HB := Lib.hid (HB.out.trans (hb2.mono HB.out.size)); clear hb2) | (go_at_call 9; (with_reducible refine (pyear_yes _ _ (by omega) (by omega)).mono ?_); rintro e w' ⟨rfl, rfl⟩) | (go_at_call 10; (with_reducible refine (pfirst_yes _ _ (by omega) (by omega)).mono ?_); rintro e w' ⟨rfl, rfl⟩) | (go_at_call 11; refine (wakes3_any _).mono ?_; rintro e w3 ⟨rfl, hb3⟩; replace HB := Lib.hid (HB.out.trans (hb3.mono HB.out.size)); clear hb3))
    go_ret
    exact ⟨ret_b (by first | rfl | (simp; omega)), HB.out⟩
  · subst c
    have c2 : ¬ p < p := by omega
    rw [decide_eq_false c2] at hl
    rw [decide_eq_true rfl] at he
    go_enter Try.func3, Try.ntmps3
    go_wp2_with (first | (go_at_call 7; (with_reducible refine (within_at _ _ _ _ (by omega) (by omega) HP).mono ?_); rintro e w' ⟨rfl, rfl⟩) | (go_at_call 7; (with_reducible refine (within_at _ _ _ _ (by omega) (by omega) HQ).mono ?_); rintro e w' ⟨rfl, rfl⟩) | (go_at_call 8; (with_reducible refine (ptext_yes _ _ (by omega) (by omega)).mono ?_); rintro e w2 ⟨rfl, hb2⟩; replace HB := Lib.hid (HB.out.trans (hb2.mono HB.out.size)); clear hb2) | (go_at_call 9; (with_reducible refine (pyear_yes _ _ (by omega) (by omega)).mono ?_); rintro e w' ⟨rfl, rfl⟩) | (go_at_call 10; (with_reducible refine (pfirst_yes _ _ (by omega) (by omega)).mono ?_); rintro e w' ⟨rfl, rfl⟩) | (go_at_call 11; refine (wakes3_any _).mono ?_; rintro e w3 ⟨rfl, hb3⟩; replace HB := Lib.hid (HB.out.trans (hb3.mono HB.out.size)); clear hb3))
    go_ret
    exact ⟨ret_b (by first | rfl | (simp; omega)), HB.out⟩
  · have c1 : (p == q) = false := by simp; omega
    have c2 : ¬ p < q := by omega
    rw [decide_eq_false c2] at hl
    rw [decide_eq_false (by omega : ¬ p = q)] at he
    go_enter Try.func3, Try.ntmps3
    go_wp2_with (first | (go_at_call 7; (with_reducible refine (within_at _ _ _ _ (by omega) (by omega) HP).mono ?_); rintro e w' ⟨rfl, rfl⟩) | (go_at_call 7; (with_reducible refine (within_at _ _ _ _ (by omega) (by omega) HQ).mono ?_); rintro e w' ⟨rfl, rfl⟩) | (go_at_call 8; (with_reducible refine (ptext_yes _ _ (by omega) (by omega)).mono ?_); rintro e w2 ⟨rfl, hb2⟩; replace HB := Lib.hid (HB.out.trans (hb2.mono HB.out.size)); clear hb2) | (go_at_call 9; (with_reducible refine (pyear_yes _ _ (by omega) (by omega)).mono ?_); rintro e w' ⟨rfl, rfl⟩) | (go_at_call 10; (with_reducible refine (pfirst_yes _ _ (by omega) (by omega)).mono ?_); rintro e w' ⟨rfl, rfl⟩) | (go_at_call 11; refine (wakes3_any _).mono ?_; rintro e w3 ⟨rfl, hb3⟩; replace HB := Lib.hid (HB.out.trans (hb3.mono HB.out.size)); clear hb3))
    go_ret
    exact ⟨ret_b (by first | rfl | (simp; omega)), HB.out⟩
end Go.Proofs.Ytecknkbjgleocaa
