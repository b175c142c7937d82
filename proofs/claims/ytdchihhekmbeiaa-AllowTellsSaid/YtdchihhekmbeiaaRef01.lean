/- The statements' own answers of chapter 1, and the small numbers that they are made of: a contract for each. Both the program and the plain answers are met by the same functions of the numbers. -/
import Derived.Test.YtdchihhekmbeiaaRowMem
import Derived.Test.YtdchihhekmbeiaaM1
import Derived.WalkKit
import Derived.WalkSpells
import Derived.WalkLawsBesides
import Derived.Lib.Hide
namespace Go.Proofs.Ytdchihhekmbeiaa
open Go.RowKit

/-- may an amount (or a sum of some) and a rate be? -/
def ofB (n r : Int) : Bool := decide ((-400000000000 ≤ n ∧ n ≤ 400000000000) ∧ 0 ≤ r ∧ r ≤ 10000000)
def ofV (n r : Int) : Int := if ofB n r then rof n r else 0
def moneyB (n : Int) : Bool := decide (-100000000000 ≤ n ∧ n ≤ 100000000000)
def rightB (r : Int) : Bool := decide (0 ≤ r ∧ r ≤ 1000000)
def floorB (n r : Int) : Bool := decide ((0 ≤ n ∧ n ≤ 100000000000) ∧ 0 ≤ r ∧ r ≤ 1000000)
def floorV (n r : Int) : Int := if floorB n r then n * r / 1000000 else 0

theorem of_v (n r : Int) (w : World) :
    Calls Try.prog 16 #[.int .i64 n, .int .i64 r] w fun e w' => e = .returned (.tuple #[.int .i64 (ofV n r), .bool (ofB n r)]) ∧ w = w' := by
  by_cases h : (-400000000000 ≤ n ∧ n ≤ 400000000000) ∧ 0 ≤ r ∧ r ≤ 10000000
  · have hb : ofB n r = true := by unfold ofB; exact decide_eq_true h
    rw [ofV, hb, if_pos rfl]
    exact of_in n r w h.1.1 h.1.2 h.2.1 h.2.2
  · have hb : ofB n r = false := by unfold ofB; exact decide_eq_false h
    rw [ofV, hb]
    exact of_out n r w (by omega)
theorem money_v (n : Int) (w : World) :
    Calls Try.prog 14 #[.int .i64 n] w fun e w' => e = .returned (.bool (moneyB n)) ∧ w = w' := by
  by_cases h : -100000000000 ≤ n ∧ n ≤ 100000000000
  · rw [show moneyB n = true from decide_eq_true h]; exact money_yes n w h.1 h.2
  · rw [show moneyB n = false from decide_eq_false h]; exact money_no n w (by omega)
theorem right_v (n : Int) (w : World) :
    Calls Try.prog 15 #[.int .i64 n] w fun e w' => e = .returned (.bool (rightB n)) ∧ w = w' := by
  by_cases h : 0 ≤ n ∧ n ≤ 1000000
  · rw [show rightB n = true from decide_eq_true h]; exact right_yes n w h.1 h.2
  · rw [show rightB n = false from decide_eq_false h]; exact right_no n w (by omega)

theorem rright_v (n : Int) (w : World) :
    Calls Try.prog 17 #[.int .i64 n] w fun e w' => e = .returned (.bool (rightB n)) ∧ w = w' := by
  go_enter Try.func17, Try.ntmps17
  go_wp2
  all_goals
    go_ret
    exact ⟨ret_b (by unfold rightB; first | (simp; done) | (simp; omega)), rfl⟩
theorem rright_yes (n : Int) (w : World) (h : 0 ≤ n ∧ n ≤ 1000000) :
    Calls Try.prog 17 #[.int .i64 n] w fun e w' => e = .returned (.bool true) ∧ w = w' := by
  have := rright_v n w; rwa [show rightB n = true from decide_eq_true h] at this
theorem rright_no (n : Int) (w : World) (h : ¬ (0 ≤ n ∧ n ≤ 1000000)) :
    Calls Try.prog 17 #[.int .i64 n] w fun e w' => e = .returned (.bool false) ∧ w = w' := by
  have := rright_v n w; rwa [show rightB n = false from decide_eq_false h] at this

theorem rof_up (n r : Int) (w : World) (h1 : 0 ≤ n) (h2 : n ≤ 400000000000) (h3 : 0 ≤ r) (h4 : r ≤ 10000000) :
    Calls Try.prog 19 #[.int .i64 n, .int .i64 r] w fun e w' => e = .returned (.tuple #[.int .i64 (rof n r), .bool true]) ∧ w = w' := by
  obtain ⟨b1, b2⟩ := mul_bd (A := 400000000000) (by omega) h2 h3 h4
  have hz := (mul_sign (n := n) h3).1 h1
  have e := rof_pos (r := r) h1
  have E := Lib.hid e
  clear e
  by_cases hh : 1000000 ≤ 2 * (n * r % 1000000)
  · go_enter Try.func19, Try.ntmps19
    go_wp2_with fail
    go_ret2
    exact ⟨ret_ib (by rw [E.out]; omega) rfl, rfl⟩
  · go_enter Try.func19, Try.ntmps19
    go_wp2_with fail
    go_ret2
    exact ⟨ret_ib (by rw [E.out]; omega) rfl, rfl⟩
theorem rof_v (n r : Int) (w : World) :
    Calls Try.prog 19 #[.int .i64 n, .int .i64 r] w fun e w' => e = .returned (.tuple #[.int .i64 (ofV n r), .bool (ofB n r)]) ∧ w = w' := by
  by_cases h : (-400000000000 ≤ n ∧ n ≤ 400000000000) ∧ 0 ≤ r ∧ r ≤ 10000000
  · have hb : ofB n r = true := decide_eq_true h
    rw [ofV, hb, if_pos rfl]
    obtain ⟨⟨h1, h2⟩, h3, h4⟩ := h
    by_cases hn : n < 0
    · have e := rof_neg (n := n) (r := r)
      obtain ⟨q1, q2⟩ := rof_bd (n := n) h1 h2 h3 h4
      obtain ⟨a, ha⟩ : ∃ a, rof n r = a := ⟨_, rfl⟩
      rw [ha] at e q1 q2 ⊢
      have cr : ∀ w, Calls Try.prog 19 #[.int .i64 (-n), .int .i64 r] w fun e w' => e = .returned (.tuple #[.int .i64 (-a), .bool true]) ∧ w = w' := fun w => by
        have := rof_up (-n) r w (by omega) (by omega) h3 h4; rwa [e] at this
      have CR := Lib.hid cr
      clear cr e ha hb
      go_enter Try.func19, Try.ntmps19
      go_wp2_with (go_at_call 19; (with_reducible refine (CR.out _).mono ?_); rintro e w' ⟨rfl, rfl⟩)
      go_ret2
      exact ⟨ret_ib (by omega) rfl, rfl⟩
    · exact rof_up n r w (by omega) h2 h3 h4
  · have hb : ofB n r = false := decide_eq_false h
    rw [ofV, hb]
    clear hb
    by_cases a : n < -400000000000 <;> by_cases b : 400000000000 < n <;> by_cases c : r < 0 <;> by_cases d : 10000000 < r <;> first | omega | skip
    all_goals
      clear h
      go_enter Try.func19, Try.ntmps19
      go_wp2_with fail
      go_ret2
      exact ⟨rfl, rfl⟩

/-- the rounded part alone -/
theorem rpart_v (n r : Int) (w : World) (h1 : -400000000000 ≤ n ∧ n ≤ 400000000000) (h2 : 0 ≤ r ∧ r ≤ 10000000) (a : Int) (H : Hid (rof n r = a)) :
    Calls Try.prog 18 #[.int .i64 n, .int .i64 r] w fun e w' => e = .returned (.int .i64 a) ∧ w = w' := by
  have E : Hid (ofV n r = a) := Lib.hid (by unfold ofV ofB; rw [if_pos (decide_eq_true ⟨h1, h2⟩)]; exact H.out)
  clear h1 h2
  go_enter Try.func18, Try.ntmps18
  go_wp2_with (go_at_call 19; (with_reducible refine (rof_v _ _ _).mono ?_); rintro e w' ⟨rfl, rfl⟩)
  go_ret
  exact ⟨by rw [E.out]; rfl, rfl⟩
end Go.Proofs.Ytdchihhekmbeiaa
