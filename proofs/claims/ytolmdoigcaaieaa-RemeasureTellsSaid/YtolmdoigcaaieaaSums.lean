/- Package rate's sums, in 128 bits: a contract for each of their functions, where the total fits 63 bits. -/
import Derived.Test.YtolmdoigcaaieaaM1
import Derived.WalkKit
import Derived.WalkSpells
import Derived.WalkLawsBesides
import Derived.Lib.Hide
import Derived.Laws.Externs
import Derived.Deep.QuietTactic
import Derived.BigQuiet
namespace Go.Proofs.Ytolmdoigcaaieaa
open Go.RowKit

/-- a number's upper and lower half, in two's complement of 128 bits -/
def hiOf (t : Int) : Int := if t < 0 then 18446744073709551615 else 0
def loOf (t : Int) : Int := t % 18446744073709551616

theorem add64_run (x y c : Int) (w : World) (hx : 0 ≤ x) (hy : 0 ≤ y) (hc0 : 0 ≤ c) (hc : c ≤ 1) :
    (callFunc 42 #[.int .u64 x, .int .u64 y, .int .u64 c]).run Try.prog w =
      .ok (.value (.tuple #[.int .u64 ((x + y + c) % 18446744073709551616), .int .u64 ((x + y + c) / 18446744073709551616)])) w := by
  rw [run_callFunc_extern Try.func42 (by kernel_rfl) (by kernel_rfl) (by kernel_rfl) (e := add64Entry) (by kernel_rfl), run_add64 x y c hx hy hc0 hc]
  rfl

theorem signs_any (n : Int) (w : World) (h1 : -4611686018427387904 ≤ n) (h2 : n ≤ 4611686018427387904) :
    Calls Try.prog 43 #[.int .i64 n] w fun e w' => e = .returned (.int .u64 (hiOf n)) ∧ w = w' := by
  by_cases h : n < 0
  all_goals
    go_enter Try.func43, Try.ntmps43
    go_wp2
    go_ret
    exact ⟨ret_i (by first | (rw [IntKind.wrap_u64]; unfold hiOf; split <;> omega) | (unfold hiOf; split <;> omega)), rfl⟩

theorem plus_hi (t n : Int) (h1 : -4611686018427387904 ≤ t) (h2 : t ≤ 4611686018427387904) (h3 : -4611686018427387904 ≤ n) (h4 : n ≤ 4611686018427387904) :
    (hiOf t + hiOf n + (loOf t + n % 18446744073709551616 + 0) / 18446744073709551616) % 18446744073709551616 = hiOf (t + n) := by
  unfold hiOf loOf; split <;> split <;> split <;> omega
theorem plus_lo (t n : Int) : (loOf t + n % 18446744073709551616 + 0) % 18446744073709551616 = loOf (t + n) := by
  unfold loOf; omega
theorem carry_bd (t n : Int) : 0 ≤ (loOf t + n % 18446744073709551616 + 0) / 18446744073709551616 ∧ (loOf t + n % 18446744073709551616 + 0) / 18446744073709551616 ≤ 1 := by
  unfold loOf; omega
theorem hi_bd (t : Int) : 0 ≤ hiOf t ∧ hiOf t ≤ 18446744073709551615 := by unfold hiOf; split <;> omega
theorem lo_bd (t : Int) : 0 ≤ loOf t ∧ loOf t ≤ 18446744073709551615 := by unfold loOf; omega

set_option maxHeartbeats 400000 in
theorem plus_any (t n : Int) (w : World) (h1 : -2305843009213693952 ≤ t) (h2 : t ≤ 2305843009213693952) (h3 : -2305843009213693952 ≤ n) (h4 : n ≤ 2305843009213693952) :
    Calls Try.prog 34 #[.agg #[.int .u64 (hiOf t), .int .u64 (loOf t)], .int .i64 n] w fun e w' =>
      e = .returned (.agg #[.int .u64 (hiOf (t + n)), .int .u64 (loOf (t + n))]) ∧ Below w.heap.size w w' := by
  obtain ⟨hb1, hb2⟩ := hi_bd t
  obtain ⟨lb1, lb2⟩ := lo_bd t
  obtain ⟨cb1, cb2⟩ := carry_bd t n
  obtain ⟨hn1, hn2⟩ := hi_bd n
  obtain ⟨r1, r2⟩ := hi_bd (t + n)
  obtain ⟨r3, r4⟩ := lo_bd (t + n)
  have hw : IntKind.u64.wrap n = n % 18446744073709551616 := IntKind.wrap_u64 n
  have W0 : 0 ≤ IntKind.u64.wrap n := by rw [hw]; omega
  have e1 : ∀ w, (callFunc 42 #[.int .u64 (loOf t), .int .u64 (IntKind.u64.wrap n), .int .u64 0]).run Try.prog w =
      .ok (.value (.tuple #[.int .u64 (loOf (t + n)), .int .u64 ((loOf t + n % 18446744073709551616 + 0) / 18446744073709551616)])) w := fun w => by
    rw [add64_run _ _ _ w lb1 W0 (by omega) (by omega), hw, plus_lo]
  generalize hc : (loOf t + n % 18446744073709551616 + 0) / 18446744073709551616 = c at *
  have e2 : ∀ w, (callFunc 42 #[.int .u64 (hiOf t), .int .u64 (hiOf n), .int .u64 c]).run Try.prog w =
      .ok (.value (.tuple #[.int .u64 (hiOf (t + n)), .int .u64 ((hiOf t + hiOf n + c) / 18446744073709551616)])) w := fun w => by
    rw [add64_run _ _ _ w hb1 hn1 cb1 cb2, ← hc, plus_hi _ _ (by omega) (by omega) (by omega) (by omega)]
  clear hc hw W0
  go_enter Try.func34, Try.ntmps34
  go_wp2
  go_quiet ((go_at_call 43; exact quiet_same (signs_any _ _ (by omega) (by omega))))
  go_wp2
  exact bodyPost_ret (v := .agg #[.int .u64 (hiOf (t + n)), .int .u64 (loOf (t + n))]) (by simp [results, Try.results34, go_sem]) rfl ⟨rfl, ((below_drewN (((Below.refl _ _).alloc (Nat.le_refl _) _).alloc (by simp) _) nq).setCell (by simp) _).setCell (by simp) _⟩

theorem lo_back (t : Int) (h1 : -4611686018427387904 ≤ t) (h2 : t ≤ 4611686018427387904) : wrap64 (loOf t) = t := by
  simp only [wrap64, loOf]; omega

set_option maxHeartbeats 400000 in
theorem total_yes (t : Int) (w : World) (h1 : -100000000000 ≤ t) (h2 : t ≤ 100000000000) :
    Calls Try.prog 35 #[.agg #[.int .u64 (hiOf t), .int .u64 (loOf t)]] w fun e w' =>
      e = .returned (.tuple #[.int .i64 t, .bool true]) ∧ Below w.heap.size w w' := by
  obtain ⟨hb1, hb2⟩ := hi_bd t
  obtain ⟨lb1, lb2⟩ := lo_bd t
  have HW := Lib.hid (lo_back t (by omega) (by omega))
  have cs : ∀ w, Calls Try.prog 43 #[.int .i64 (wrap64 (loOf t))] w fun e w' => e = .returned (.int .u64 (hiOf t)) ∧ w = w' := fun w => by
    rw [HW.out]; exact signs_any _ _ (by omega) (by omega)
  have cm : ∀ w, Calls Try.prog 28 #[.int .i64 (wrap64 (loOf t))] w fun e w' => e = .returned (.bool true) ∧ w = w' := fun w => by
    rw [HW.out]; exact money_yes _ _ (by omega) (by omega)
  have CS := Lib.hid cs; clear cs
  have CM := Lib.hid cm; clear cm
  go_enter Try.func35, Try.ntmps35
  go_wp2
  go_quiet ((first | (go_at_call 43; exact quiet_same (CS.out _)) | (go_at_call 28; exact quiet_same (CM.out _))))
  go_wp2
  go_ret2
  exact ⟨ret_ib HW.out rfl, below_drewN ((Below.refl _ _).alloc (Nat.le_refl _) _) nq⟩

set_option maxHeartbeats 400000 in
theorem total_no (t : Int) (w : World) (h1 : -2305843009213693952 ≤ t) (h2 : t ≤ 2305843009213693952) (h3 : t < -100000000000 ∨ 100000000000 < t) :
    Calls Try.prog 35 #[.agg #[.int .u64 (hiOf t), .int .u64 (loOf t)]] w fun e w' =>
      e = .returned (.tuple #[.int .i64 0, .bool false]) ∧ Below w.heap.size w w' := by
  obtain ⟨hb1, hb2⟩ := hi_bd t
  obtain ⟨lb1, lb2⟩ := lo_bd t
  have HW := Lib.hid (lo_back t (by omega) (by omega))
  have cs : ∀ w, Calls Try.prog 43 #[.int .i64 (wrap64 (loOf t))] w fun e w' => e = .returned (.int .u64 (hiOf t)) ∧ w = w' := fun w => by
    rw [HW.out]; exact signs_any _ _ (by omega) (by omega)
  have cm : ∀ w, Calls Try.prog 28 #[.int .i64 (wrap64 (loOf t))] w fun e w' => e = .returned (.bool false) ∧ w = w' := fun w => by
    rw [HW.out]; exact money_no _ _ h3
  have CS := Lib.hid cs; clear cs
  have CM := Lib.hid cm; clear cm
  clear h3
  go_enter Try.func35, Try.ntmps35
  go_wp2
  go_quiet ((first | (go_at_call 43; exact quiet_same (CS.out _)) | (go_at_call 28; exact quiet_same (CM.out _))))
  go_wp2
  go_ret2
  exact ⟨rfl, below_drewN ((Below.refl _ _).alloc (Nat.le_refl _) _) nq⟩

/-- what a sum answers -/
def SumIs (g : Nat → Int) (n : Nat) (r : Int) (ok : Bool) : Prop :=
  (ok = true ∧ r = tot g n ∧ Mon (tot g n) ∧ ∀ j, j < n → Mon (g j)) ∨ (ok = false ∧ r = 0 ∧ ((∃ j, j < n ∧ ¬ Mon (g j)) ∨ ¬ Mon (tot g n)))
theorem SumIs.bad {g : Nat → Int} {n k : Nat} {r : Int} {ok : Bool} (h : SumIs g n r ok) (hk : k < n) (hb : ¬ Mon (g k)) : ok = false ∧ r = 0 := by
  rcases h with ⟨_, _, _, h⟩ | ⟨h1, h2, _⟩
  · exact absurd (h k hk) hb
  · exact ⟨h1, h2⟩
theorem SumIs.good {g : Nat → Int} {n : Nat} {r : Int} {ok : Bool} (h : SumIs g n r ok) (hg : ∀ j, j < n → Mon (g j)) (hm : Mon (tot g n)) : ok = true ∧ r = tot g n := by
  rcases h with ⟨h1, h2, _⟩ | ⟨_, _, ⟨j, hj, hb⟩ | hb⟩
  · exact ⟨h1, h2⟩
  · exact absurd (hg j hj) hb
  · exact absurd hm hb
theorem SumIs.big {g : Nat → Int} {n : Nat} {r : Int} {ok : Bool} (h : SumIs g n r ok) (hm : ¬ Mon (tot g n)) : ok = false ∧ r = 0 := by
  rcases h with ⟨_, _, h, _⟩ | ⟨h1, h2, _⟩
  · exact absurd h hm
  · exact ⟨h1, h2⟩

end Go.Proofs.Ytolmdoigcaaieaa
