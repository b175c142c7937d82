/- Package bridge: a contract for each of its functions. -/
import Derived.Test.YtmeljcogoeghaaaBrMath
import Derived.Test.YtmeljcogoeghaaaSumLoop
import Derived.Test.YtmeljcogoeghaaaPlay
import Derived.WalkKit
import Derived.WalkSpells
import Derived.WalkLawsBesides
import Derived.Lib.Hide
import Derived.IntWalk
namespace Go.Proofs.Ytmeljcogoeghaaa
open Go.RowKit

theorem inc_sum {a b c n : Int} {ok : Bool} (h : IncIs a b c n ok) (hc : -9223372036854775808 ≤ c ∧ c ≤ 9223372036854775807) : SumIs (fun j => [a, b, wrap64 (-c)].getD j 0) 3 n ok := by
  have hw : wrap64 (-c) = if c = -9223372036854775808 then c else -c := by unfold wrap64; split <;> omega
  have e : tot (fun j => [a, b, wrap64 (-c)].getD j 0) 3 = a + b + wrap64 (-c) := by simp [tot]
  rcases h with ⟨h1, h2, h3, h4, rfl, rfl⟩ | ⟨h1, rfl, rfl⟩
  · unfold Mon at h1 h2 h3 h4
    rw [if_neg (by omega)] at hw
    refine .inl ⟨rfl, ?_, ?_, ?_⟩
    · rw [e, hw]; omega
    · rw [e, hw]; unfold Mon; omega
    · intro j hj
      rcases (show j = 0 ∨ j = 1 ∨ j = 2 by omega) with rfl | rfl | rfl
      · exact h1
      · exact h2
      · show Mon (wrap64 (-c)); rw [hw]; unfold Mon; omega
  · refine .inr ⟨rfl, rfl, ?_⟩
    by_cases ha : Mon a
    · by_cases hb : Mon b
      · by_cases hcm : Mon c
        · refine .inr ?_
          rw [e, hw, if_neg (by unfold Mon at hcm; omega)]
          intro q
          exact h1 ⟨ha, hb, hcm, by rwa [Int.sub_eq_add_neg]⟩
        · refine .inl ⟨2, by omega, ?_⟩
          show ¬ Mon (wrap64 (-c))
          rw [hw]; unfold Mon at hcm ⊢; split <;> omega
      · exact .inl ⟨1, by omega, hb⟩
    · exact .inl ⟨0, by omega, ha⟩
theorem pinc {a b c n : Int} {ok : Bool} (h : IncIs a b c n ok) (hc : -9223372036854775808 ≤ c ∧ c ≤ 9223372036854775807) (w : World) :
    Calls Try.prog 25 #[.int .i64 a, .int .i64 b, .int .i64 c] w fun e w' => e = .returned (.tuple #[.int .i64 n, .bool ok]) ∧ Below w.heap.size w w' := by
  have HS := Lib.hid (inc_sum h hc)
  clear h hc
  obtain ⟨u, hu⟩ : ∃ u, wrap64 (-c) = u := ⟨_, rfl⟩
  rw [hu] at HS
  have L := Lib.hid (lit_row w [a, b, u] 3)
  have C1 := Lib.hid (fun w1 : World => fun (q : Row w1 w.heap.size 3 (fun j => [a, b, u].getD j 0)) => sum_some w.heap.size 0 3 3 _ n ok w1 q.1 q.hid (by omega) (by omega) HS)
  go_enter Try.func25, Try.ntmps25
  go_wp2_with fail
  refine (C1.out _ L.out).mono ?_
  rintro e w1 ⟨rfl, hb1⟩
  have K1 := Lib.hid (((Below.refl _ _).alloc (Nat.le_refl _) _).trans (hb1.mono (by simp)))
  clear hb1
  go_wp2
  go_ret2
  exact ⟨rfl, K1.out⟩
/-- any number, as an amount: a number of 64 bits -/
theorem amount_wf (n : Int) (hn : -9223372036854775808 ≤ n ∧ n ≤ 9223372036854775807) (w : World) :
    Calls Try.prog 18 #[.int .i64 n] w fun e w' => ∃ y, (-9223372036854775808 ≤ y ∧ y ≤ 9223372036854775807) ∧ e = .returned (.int .i64 y) ∧ w = w' := by
  go_enter Try.func18, Try.ntmps18
  go_wp2_with (go_at_call 7; (with_reducible refine (within_some _ _ _ (by omega) (by omega)).mono ?_); rintro e w' ⟨x, hx1, hx2, rfl, rfl⟩)
  all_goals
    go_ret
    exact ⟨_, by omega, rfl, rfl⟩
end Go.Proofs.Ytmeljcogoeghaaa
