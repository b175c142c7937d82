/- Package bridge: a contract for each of its functions. -/
import Derived.Test.YtbededljklnlfaaBrMath
import Derived.Test.YtbededljklnlfaaSumLoop
import Derived.Test.YtbededljklnlfaaPlay
import Derived.WalkKit
import Derived.WalkSpells
import Derived.WalkLawsBesides
import Derived.Lib.Hide
import Derived.IntWalk
namespace Go.Proofs.Ytbededljklnlfaa
open Go.RowKit

theorem inc_sum {a b c n : Int} {ok : Bool} (h : IncIs a b c n ok) (hc : -9223372036854775808 ≤ c ∧ c ≤ 9223372036854775807) : SumIs (fun j => [a, b, wrap64 (-c)].getD j 0) 3 n ok := by
  have hw : wrap64 (-c) = if c = -9223372036854775808 then c else -c := by unfold wrap64; split <;> omega
  have e : tot (fun j => [a, b, wrap64 (-c)].getD j 0) 3 = a + b + wrap64 (-c) := by simp [tot]
  rcases h with ⟨h1, h2, h3, h4, rfl, rfl⟩ | ⟨h1, rfl, rfl⟩
  · unfold Mon at h1 h2 h3 h4
    rw [if_neg (by omega)] at hw
    refine .inl ⟨rfl, ?_, ?_, ?_⟩
    · rw [e, hw]; omega
    · rw [e, hw]; unfold Mon; omega
    · intro j hj
      rcases (show j = 0 ∨ j = 1 ∨ j = 2 by omega) with rfl | rfl | rfl
      · exact h1
      · exact h2
      · show Mon (wrap64 (-c)); rw [hw]; unfold Mon; omega
  · refine .inr ⟨rfl, rfl, ?_⟩
    by_cases ha : Mon a
    · by_cases hb : Mon b
      · by_cases hcm : Mon c
        · refine .inr ?_
          rw [e, hw, if_neg (by unfold Mon at hcm; omega)]
          intro q
          exact h1 ⟨ha, hb, hcm, by rwa [Int.sub_eq_add_neg]⟩
        · refine .inl ⟨2, by omega, ?_⟩
          show ¬ Mon (wrap64 (-c))
          rw [hw]; unfold Mon at hcm ⊢; split <;> omega
      · exact .inl ⟨1, by omega, hb⟩
    · exact .inl ⟨0, by omega, ha⟩
theorem pinc {a b c n : Int} {ok : Bool} (h : IncIs a b c n ok) (hc : -9223372036854775808 ≤ c ∧ c ≤ 9223372036854775807) (w : World) :
    Calls Try.prog 8 #[.int .i64 a, .int .i64 b, .int .i64 c] w fun e w' => e = .returned (.tuple #[.int .i64 n, .bool ok]) ∧ Below w.heap.size w w' := by
  have HS := Lib.hid (inc_sum h hc)
  clear h hc
  obtain ⟨u, hu⟩ : ∃ u, wrap64 (-c) = u := ⟨_, rfl⟩
  rw [hu] at HS
  have L := Lib.hid (lit_row w [a, b, u] 3)
  have C1 := Lib.hid (fun w1 : World => fun (q : Row w1 w.heap.size 3 (fun j => [a, b, u].getD j 0)) => sum_some w.heap.size 0 3 3 _ n ok w1 q.1 q.hid (by omega) (by omega) HS)
  go_enter Try.func8, Try.ntmps8
  go_wp2_with fail
  refine (C1.out _ L.out).mono ?_
  rintro e w1 ⟨rfl, hb1⟩
  have K1 := Lib.hid (((Below.refl _ _).alloc (Nat.le_refl _) _).trans (hb1.mono (by simp)))
  clear hb1
  go_wp2
  go_ret2
  exact ⟨rfl, K1.out⟩
theorem lns_lit (w : World) (a b c n : Int) : AtR ie 2 (w.alloc (.cells #[.int .i64 1, .int .i64 a, .int .i64 2, .int .i64 b, .int .i64 3, .int .i64 (-c), .int .i64 4, .int .i64 n] 26)) (some ⟨w.heap.size, 0, none⟩) 4 (lns a b c n) :=
  .inr ⟨w.heap.size, 0, rfl, by simp, fun j hj i u hu => by
    have hi : i < 2 := by
      have := (List.getElem?_eq_some_iff.1 hu).1
      rw [ie_len] at this; exact this
    rw [Nat.zero_add]
    refine rec_lit w [.int .i64 1, .int .i64 a, .int .i64 2, .int .i64 b, .int .i64 3, .int .i64 (-c), .int .i64 4, .int .i64 n] 26 w.heap.size rfl _ u ?_
    rcases (show j = 0 ∨ j = 1 ∨ j = 2 ∨ j = 3 by omega) with rfl | rfl | rfl | rfl <;> rcases (show i = 0 ∨ i = 1 by omega) with rfl | rfl <;> exact hu⟩
theorem plines_yes {a b c n : Int} (h : IncIs a b c n true) (w : World) :
    Calls Try.prog 7 #[.int .i64 a, .int .i64 b, .int .i64 c] w fun e w' => ∃ b' off c', e = .returned (.slice (some ⟨b', off, none⟩) 4 c') ∧ AtR ie 2 w' (some ⟨b', off, none⟩) 4 (lns a b c n) ∧ (4 ≤ c' ∧ c' ≤ maxLen) ∧ Below w.heap.size w w' := by
  have hm : Mon c := by
    rcases h with ⟨_, _, h3, _⟩ | ⟨_, q, _⟩
    · exact h3
    · cases q
  unfold Mon at hm
  have I := Lib.hid h
  clear h
  go_enter Try.func7, Try.ntmps7
  go_wp2_with fail
  refine (pinc I.out (by omega) _).mono ?_
  rintro e w1 ⟨rfl, hb1⟩
  have K1 := Lib.hid hb1
  clear hb1
  go_wp2
  go_ret
  exact ⟨_, _, _, rfl, lns_lit w1 a b c n, by decide, K1.out.alloc K1.out.size _⟩
theorem plines_no {a b c n : Int} (h : IncIs a b c n false) (hc : -9223372036854775808 ≤ c ∧ c ≤ 9223372036854775807) (w : World) :
    Calls Try.prog 7 #[.int .i64 a, .int .i64 b, .int .i64 c] w fun e w' => ∃ A c', e = .returned (.slice A 0 c') ∧ Below w.heap.size w w' := by
  have I := Lib.hid h
  have HC := Lib.hid hc
  clear h hc
  go_enter Try.func7, Try.ntmps7
  go_wp2_with fail
  refine (pinc I.out HC.out _).mono ?_
  rintro e w1 ⟨rfl, hb1⟩
  have K1 := Lib.hid hb1
  clear hb1
  go_wp2
  go_ret
  exact ⟨_, _, rfl, K1.out⟩
/-- any number, as an amount: a number of 64 bits -/
theorem amount_wf (n : Int) (hn : -9223372036854775808 ≤ n ∧ n ≤ 9223372036854775807) (w : World) :
    Calls Try.prog 10 #[.int .i64 n] w fun e w' => ∃ y, (-9223372036854775808 ≤ y ∧ y ≤ 9223372036854775807) ∧ e = .returned (.int .i64 y) ∧ w = w' := by
  go_enter Try.func10, Try.ntmps10
  go_wp2_with (go_at_call 6; (with_reducible refine (within_some _ _ _ (by omega) (by omega)).mono ?_); rintro e w' ⟨x, hx1, hx2, rfl, rfl⟩)
  all_goals
    go_ret
    exact ⟨_, by omega, rfl, rfl⟩
end Go.Proofs.Ytbededljklnlfaa
