/- The statements' own answers of chapter 1, and the small numbers that they are made of: a contract for each. Both the program and the plain answers are met by the same functions of the numbers. -/
import Derived.Test.YtmgnnkampdepeaaRowMem
import Derived.Test.YtmgnnkampdepeaaPlay
import Derived.WalkKit
import Derived.WalkSpells
import Derived.WalkLawsBesides
import Derived.Lib.Hide
namespace Go.Proofs.Ytmgnnkampdepeaa
open Go.RowKit

/-- may an amount (or a sum of some) and a rate be? -/
def ofB (n r : Int) : Bool := decide ((-400000000000 ≤ n ∧ n ≤ 400000000000) ∧ 0 ≤ r ∧ r ≤ 10000000)
def ofV (n r : Int) : Int := if ofB n r then rof n r else 0
def moneyB (n : Int) : Bool := decide (-100000000000 ≤ n ∧ n ≤ 100000000000)
def rightB (r : Int) : Bool := decide (0 ≤ r ∧ r ≤ 1000000)
def floorB (n r : Int) : Bool := decide ((0 ≤ n ∧ n ≤ 100000000000) ∧ 0 ≤ r ∧ r ≤ 1000000)
def floorV (n r : Int) : Int := if floorB n r then n * r / 1000000 else 0

theorem floor_v (n r : Int) (w : World) :
    Calls Try.prog 22 #[.int .i64 n, .int .i64 r] w fun e w' => e = .returned (.tuple #[.int .i64 (floorV n r), .bool (floorB n r)]) ∧ w = w' := by
  by_cases h : (0 ≤ n ∧ n ≤ 100000000000) ∧ 0 ≤ r ∧ r ≤ 1000000
  · have hb : floorB n r = true := by unfold floorB; exact decide_eq_true h
    rw [floorV, hb, if_pos rfl]
    exact floor_yes n r w h.1.1 h.1.2 h.2.1 h.2.2
  · have hb : floorB n r = false := by unfold floorB; exact decide_eq_false h
    rw [floorV, hb]
    exact floor_no n r w (by omega)
theorem money_v (n : Int) (w : World) :
    Calls Try.prog 26 #[.int .i64 n] w fun e w' => e = .returned (.bool (moneyB n)) ∧ w = w' := by
  by_cases h : -100000000000 ≤ n ∧ n ≤ 100000000000
  · rw [show moneyB n = true from decide_eq_true h]; exact money_yes n w h.1 h.2
  · rw [show moneyB n = false from decide_eq_false h]; exact money_no n w (by omega)
theorem right_v (n : Int) (w : World) :
    Calls Try.prog 27 #[.int .i64 n] w fun e w' => e = .returned (.bool (rightB n)) ∧ w = w' := by
  by_cases h : 0 ≤ n ∧ n ≤ 1000000
  · rw [show rightB n = true from decide_eq_true h]; exact right_yes n w h.1 h.2
  · rw [show rightB n = false from decide_eq_false h]; exact right_no n w (by omega)

theorem rmoney_v (n : Int) (w : World) :
    Calls Try.prog 28 #[.int .i64 n] w fun e w' => e = .returned (.bool (moneyB n)) ∧ w = w' := by
  go_enter Try.func28, Try.ntmps28
  go_wp2
  all_goals
    go_ret
    exact ⟨ret_b (by unfold moneyB; first | (simp; done) | (simp; omega)), rfl⟩
theorem rright_v (n : Int) (w : World) :
    Calls Try.prog 29 #[.int .i64 n] w fun e w' => e = .returned (.bool (rightB n)) ∧ w = w' := by
  go_enter Try.func29, Try.ntmps29
  go_wp2
  all_goals
    go_ret
    exact ⟨ret_b (by unfold rightB; first | (simp; done) | (simp; omega)), rfl⟩
theorem rmoney_yes (n : Int) (w : World) (h : Mon n) :
    Calls Try.prog 28 #[.int .i64 n] w fun e w' => e = .returned (.bool true) ∧ w = w' := by
  have := rmoney_v n w; rwa [show moneyB n = true from decide_eq_true h] at this
theorem rmoney_no (n : Int) (w : World) (h : ¬ Mon n) :
    Calls Try.prog 28 #[.int .i64 n] w fun e w' => e = .returned (.bool false) ∧ w = w' := by
  have := rmoney_v n w; rwa [show moneyB n = false from decide_eq_false h] at this
theorem rright_yes (n : Int) (w : World) (h : 0 ≤ n ∧ n ≤ 1000000) :
    Calls Try.prog 29 #[.int .i64 n] w fun e w' => e = .returned (.bool true) ∧ w = w' := by
  have := rright_v n w; rwa [show rightB n = true from decide_eq_true h] at this
theorem rright_no (n : Int) (w : World) (h : ¬ (0 ≤ n ∧ n ≤ 1000000)) :
    Calls Try.prog 29 #[.int .i64 n] w fun e w' => e = .returned (.bool false) ∧ w = w' := by
  have := rright_v n w; rwa [show rightB n = false from decide_eq_false h] at this

theorem rfloor_v (n r : Int) (w : World) :
    Calls Try.prog 23 #[.int .i64 n, .int .i64 r] w fun e w' => e = .returned (.tuple #[.int .i64 (floorV n r), .bool (floorB n r)]) ∧ w = w' := by
  by_cases h1 : n < 0
  · have hb : floorB n r = false := decide_eq_false (by omega)
    rw [floorV, hb]
    go_enter Try.func23, Try.ntmps23
    go_wp2
    go_ret2
    exact ⟨rfl, rfl⟩
  by_cases h2 : Mon n
  · by_cases h3 : 0 ≤ r ∧ r ≤ 1000000
    · have H2 := Lib.hid h2
      unfold Mon at h2
      have hb : floorB n r = true := decide_eq_true (by omega)
      rw [floorV, hb, if_pos rfl]
      obtain ⟨b1, b2⟩ := mul_bd (n := n) (A := 100000000000) (by omega) h2.2 h3.1 h3.2
      have hz := (mul_sign (n := n) h3.1).1 (by omega)
      have H3 := Lib.hid h3
      clear h2 h3 hb
      go_enter Try.func23, Try.ntmps23
      go_wp2_with (first | (go_at_call 28; (with_reducible refine (rmoney_yes _ _ H2.out).mono ?_); rintro e w' ⟨rfl, rfl⟩) | (go_at_call 29; (with_reducible refine (rright_yes _ _ H3.out).mono ?_); rintro e w' ⟨rfl, rfl⟩))
      go_ret2
      exact ⟨rfl, rfl⟩
    · have hb : floorB n r = false := decide_eq_false (by omega)
      rw [floorV, hb]
      have H2 := Lib.hid h2
      have H3 := Lib.hid h3
      clear h2 h3 hb
      go_enter Try.func23, Try.ntmps23
      go_wp2_with (first | (go_at_call 28; (with_reducible refine (rmoney_yes _ _ H2.out).mono ?_); rintro e w' ⟨rfl, rfl⟩) | (go_at_call 29; (with_reducible refine (rright_no _ _ H3.out).mono ?_); rintro e w' ⟨rfl, rfl⟩))
      go_ret2
      exact ⟨rfl, rfl⟩
  · have hb : floorB n r = false := decide_eq_false (by unfold Mon at h2; omega)
    rw [floorV, hb]
    have H2 := Lib.hid h2
    clear h2 hb
    go_enter Try.func23, Try.ntmps23
    go_wp2_with (first | (go_at_call 28; (with_reducible refine (rmoney_no _ _ H2.out).mono ?_); rintro e w' ⟨rfl, rfl⟩))
    go_ret2
    exact ⟨rfl, rfl⟩

end Go.Proofs.Ytmgnnkampdepeaa
