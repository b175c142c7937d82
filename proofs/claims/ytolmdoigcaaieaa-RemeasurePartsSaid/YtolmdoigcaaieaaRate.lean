/- What package rate's functions, and the statements' own small helps, answer: a contract for each. -/
import Derived.Test.YtolmdoigcaaieaaRows
import Derived.Test.YtolmdoigcaaieaaMath
import Derived.WalkKit
import Derived.WalkSpells
import Derived.Lib.Hide
import Derived.WalkLawsBesides
namespace Go.Proofs.Ytolmdoigcaaieaa
open Go.RowKit

theorem within_any (v n : Int) (w : World) (h1 : 1 ≤ n) (h2 : n ≤ 4611686018427387904) :
    Calls Try.prog 8 #[.int .i64 v, .int .i64 n] w fun e w' => e = .returned (.int .i64 (v % n)) ∧ w = w' := by
  have ht := Int.tmod_eq_emod_of_nonneg (a := v) (b := n)
  have hb : v.tmod n < n ∧ -n < v.tmod n := ⟨Int.tmod_lt_of_pos v (by omega), by have := Int.lt_tmod_of_pos v (show 0 < n by omega); omega⟩
  obtain ⟨hb1, hb2⟩ := hb
  have e1 : v % n = if v.tmod n < 0 then v.tmod n + n else v.tmod n := by
    have hq : v.tmod n = v - n * v.tdiv n := by have := Int.tmod_add_mul_tdiv v n; omega
    split
    · have : (v.tmod n + n) % n = v % n := by
        rw [hq]; rw [show v - n * v.tdiv n + n = v + n * (1 - v.tdiv n) by rw [Int.mul_sub]; omega]; exact Int.add_mul_emod_self_left ..
      rw [← this]; exact (Int.emod_eq_of_lt (by omega) (by omega))
    · have : (v.tmod n) % n = v % n := by
        rw [hq]; rw [show v - n * v.tdiv n = v + n * (- v.tdiv n) by rw [Int.mul_neg]; omega]; exact Int.add_mul_emod_self_left ..
      rw [← this]; exact (Int.emod_eq_of_lt (by omega) (by omega))
  have H := Lib.hid e1; clear e1 ht
  by_cases h : v.tmod n < 0
  all_goals
    go_enter Try.func8, Try.ntmps8
    go_wp2
    go_ret
    exact ⟨ret_i (by have := H.out; first | rwa [if_pos h, eq_comm] at this | rwa [if_neg (by omega), eq_comm] at this), rfl⟩

theorem of_in (n r : Int) (w : World) (h1 : -400000000000 ≤ n) (h2 : n ≤ 400000000000) (h3 : 0 ≤ r) (h4 : r ≤ 10000000) :
    Calls Try.prog 33 #[.int .i64 n, .int .i64 r] w fun e w' => e = .returned (.tuple #[.int .i64 (rof n r), .bool true]) ∧ w = w' := by
  obtain ⟨hb1, hb2⟩ := mul_bd h1 h2 h3 h4
  obtain ⟨hs1, hs2⟩ := mul_sign (n := n) h3
  by_cases h : n < 0
  · have hz := hs2 h
    have e : (n * r + -500000).tdiv 1000000 = rof n r := by
      unfold rof; rw [if_pos h]
      rw [show n * r + -500000 = -(-(n*r) + 500000) by omega, Int.neg_tdiv, Int.tdiv_eq_ediv_of_nonneg (by omega)]
    have E := Lib.hid e; clear e hs1 hs2
    go_enter Try.func33, Try.ntmps33
    go_wp2
    go_ret2
    exact ⟨ret_ib (by first | rfl | exact E.out) rfl, rfl⟩
  · have hz := hs1 (by omega)
    have e : (n * r + 500000) / 1000000 = rof n r := by
      unfold rof; rw [if_neg h]
    have E := Lib.hid e; clear e hs1 hs2
    go_enter Try.func33, Try.ntmps33
    go_wp2
    go_ret2
    exact ⟨ret_ib (by first | rfl | exact E.out) rfl, rfl⟩

theorem of_out (n r : Int) (w : World) (h : n < -400000000000 ∨ 400000000000 < n ∨ r < 0 ∨ 10000000 < r) :
    Calls Try.prog 33 #[.int .i64 n, .int .i64 r] w fun e w' => e = .returned (.tuple #[.int .i64 0, .bool false]) ∧ w = w' := by
  by_cases a : n < -400000000000 <;> by_cases b : 400000000000 < n <;> by_cases c : r < 0 <;> by_cases d : 10000000 < r <;> first | omega | skip
  all_goals
    clear h
    go_enter Try.func33, Try.ntmps33
    go_wp2
    go_ret2
    exact ⟨rfl, rfl⟩

theorem within_at (v n x : Int) (w : World) (h1 : 1 ≤ n) (h2 : n ≤ 4611686018427387904) (H : Hid (v % n = x)) :
    Calls Try.prog 8 #[.int .i64 v, .int .i64 n] w fun e w' => e = .returned (.int .i64 x) ∧ w = w' :=
  (within_any v n w h1 h2).mono fun _ _ ⟨he, hw⟩ => ⟨by rw [he, H.out], hw⟩
theorem of_at (n r a : Int) (w : World) (h1 : -400000000000 ≤ n) (h2 : n ≤ 400000000000) (h3 : 0 ≤ r) (h4 : r ≤ 10000000) (H : Hid (rof n r = a)) :
    Calls Try.prog 33 #[.int .i64 n, .int .i64 r] w fun e w' => e = .returned (.tuple #[.int .i64 a, .bool true]) ∧ w = w' :=
  (of_in n r w h1 h2 h3 h4).mono fun _ _ ⟨he, hw⟩ => ⟨by rw [he, H.out], hw⟩

theorem money_yes (n : Int) (w : World) (h1 : -100000000000 ≤ n) (h2 : n ≤ 100000000000) :
    Calls Try.prog 28 #[.int .i64 n] w fun e w' => e = .returned (.bool true) ∧ w = w' := by
  go_enter Try.func28, Try.ntmps28
  go_wp2
  all_goals
    go_ret
    exact ⟨ret_b (by first | rfl | (simp; omega)), rfl⟩
theorem money_no (n : Int) (w : World) (h : n < -100000000000 ∨ 100000000000 < n) :
    Calls Try.prog 28 #[.int .i64 n] w fun e w' => e = .returned (.bool false) ∧ w = w' := by
  go_enter Try.func28, Try.ntmps28
  go_wp2
  all_goals
    go_ret
    exact ⟨ret_b (by first | rfl | (simp; omega)), rfl⟩
theorem right_yes (n : Int) (w : World) (h1 : 0 ≤ n) (h2 : n ≤ 1000000) :
    Calls Try.prog 29 #[.int .i64 n] w fun e w' => e = .returned (.bool true) ∧ w = w' := by
  go_enter Try.func29, Try.ntmps29
  go_wp2
  all_goals
    go_ret
    exact ⟨ret_b (by first | rfl | (simp; omega)), rfl⟩
theorem right_no (n : Int) (w : World) (h : n < 0 ∨ 1000000 < n) :
    Calls Try.prog 29 #[.int .i64 n] w fun e w' => e = .returned (.bool false) ∧ w = w' := by
  go_enter Try.func29, Try.ntmps29
  go_wp2
  all_goals
    go_ret
    exact ⟨ret_b (by first | rfl | (simp; omega)), rfl⟩
end Go.Proofs.Ytolmdoigcaaieaa
