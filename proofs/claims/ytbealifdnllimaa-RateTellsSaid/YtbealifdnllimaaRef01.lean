/- The statements' own answers of chapter 1, and the small numbers that they are made of: a contract for each. Both the program and the plain answers are met by the same functions of the numbers. -/
import Derived.Test.YtbealifdnllimaaRowMem
import Derived.WalkKit
import Derived.WalkSpells
import Derived.WalkLawsBesides
import Derived.Lib.Hide
namespace Go.Proofs.Ytbealifdnllimaa
open Go.RowKit

/-- may an amount (or a sum of some) and a rate be? -/
def ofB (n r : Int) : Bool := decide ((-400000000000 ≤ n ∧ n ≤ 400000000000) ∧ 0 ≤ r ∧ r ≤ 10000000)
def ofV (n r : Int) : Int := if ofB n r then rof n r else 0
def moneyB (n : Int) : Bool := decide (-100000000000 ≤ n ∧ n ≤ 100000000000)
def rightB (r : Int) : Bool := decide (0 ≤ r ∧ r ≤ 1000000)
def floorB (n r : Int) : Bool := decide ((0 ≤ n ∧ n ≤ 100000000000) ∧ 0 ≤ r ∧ r ≤ 1000000)
def floorV (n r : Int) : Int := if floorB n r then n * r / 1000000 else 0

theorem of_v (n r : Int) (w : World) :
    Calls Try.prog 11 #[.int .i64 n, .int .i64 r] w fun e w' => e = .returned (.tuple #[.int .i64 (ofV n r), .bool (ofB n r)]) ∧ w = w' := by
  by_cases h : (-400000000000 ≤ n ∧ n ≤ 400000000000) ∧ 0 ≤ r ∧ r ≤ 10000000
  · have hb : ofB n r = true := by unfold ofB; exact decide_eq_true h
    rw [ofV, hb, if_pos rfl]
    exact of_in n r w h.1.1 h.1.2 h.2.1 h.2.2
  · have hb : ofB n r = false := by unfold ofB; exact decide_eq_false h
    rw [ofV, hb]
    exact of_out n r w (by omega)
theorem floor_v (n r : Int) (w : World) :
    Calls Try.prog 12 #[.int .i64 n, .int .i64 r] w fun e w' => e = .returned (.tuple #[.int .i64 (floorV n r), .bool (floorB n r)]) ∧ w = w' := by
  by_cases h : (0 ≤ n ∧ n ≤ 100000000000) ∧ 0 ≤ r ∧ r ≤ 1000000
  · have hb : floorB n r = true := by unfold floorB; exact decide_eq_true h
    rw [floorV, hb, if_pos rfl]
    exact floor_yes n r w h.1.1 h.1.2 h.2.1 h.2.2
  · have hb : floorB n r = false := by unfold floorB; exact decide_eq_false h
    rw [floorV, hb]
    exact floor_no n r w (by omega)
theorem money_v (n : Int) (w : World) :
    Calls Try.prog 13 #[.int .i64 n] w fun e w' => e = .returned (.bool (moneyB n)) ∧ w = w' := by
  by_cases h : -100000000000 ≤ n ∧ n ≤ 100000000000
  · rw [show moneyB n = true from decide_eq_true h]; exact money_yes n w h.1 h.2
  · rw [show moneyB n = false from decide_eq_false h]; exact money_no n w (by omega)
theorem right_v (n : Int) (w : World) :
    Calls Try.prog 14 #[.int .i64 n] w fun e w' => e = .returned (.bool (rightB n)) ∧ w = w' := by
  by_cases h : 0 ≤ n ∧ n ≤ 1000000
  · rw [show rightB n = true from decide_eq_true h]; exact right_yes n w h.1 h.2
  · rw [show rightB n = false from decide_eq_false h]; exact right_no n w (by omega)

theorem rmoney_v (n : Int) (w : World) :
    Calls Try.prog 22 #[.int .i64 n] w fun e w' => e = .returned (.bool (moneyB n)) ∧ w = w' := by
  go_enter Try.func22, Try.ntmps22
  go_wp2
  all_goals
    go_ret
    exact ⟨ret_b (by unfold moneyB; first | (simp; done) | (simp; omega)), rfl⟩
theorem rright_v (n : Int) (w : World) :
    Calls Try.prog 23 #[.int .i64 n] w fun e w' => e = .returned (.bool (rightB n)) ∧ w = w' := by
  go_enter Try.func23, Try.ntmps23
  go_wp2
  all_goals
    go_ret
    exact ⟨ret_b (by unfold rightB; first | (simp; done) | (simp; omega)), rfl⟩
theorem rmoney_yes (n : Int) (w : World) (h : Mon n) :
    Calls Try.prog 22 #[.int .i64 n] w fun e w' => e = .returned (.bool true) ∧ w = w' := by
  have := rmoney_v n w; rwa [show moneyB n = true from decide_eq_true h] at this
theorem rmoney_no (n : Int) (w : World) (h : ¬ Mon n) :
    Calls Try.prog 22 #[.int .i64 n] w fun e w' => e = .returned (.bool false) ∧ w = w' := by
  have := rmoney_v n w; rwa [show moneyB n = false from decide_eq_false h] at this
theorem rright_yes (n : Int) (w : World) (h : 0 ≤ n ∧ n ≤ 1000000) :
    Calls Try.prog 23 #[.int .i64 n] w fun e w' => e = .returned (.bool true) ∧ w = w' := by
  have := rright_v n w; rwa [show rightB n = true from decide_eq_true h] at this
theorem rright_no (n : Int) (w : World) (h : ¬ (0 ≤ n ∧ n ≤ 1000000)) :
    Calls Try.prog 23 #[.int .i64 n] w fun e w' => e = .returned (.bool false) ∧ w = w' := by
  have := rright_v n w; rwa [show rightB n = false from decide_eq_false h] at this

theorem rfloor_v (n r : Int) (w : World) :
    Calls Try.prog 21 #[.int .i64 n, .int .i64 r] w fun e w' => e = .returned (.tuple #[.int .i64 (floorV n r), .bool (floorB n r)]) ∧ w = w' := by
  by_cases h1 : n < 0
  · have hb : floorB n r = false := decide_eq_false (by omega)
    rw [floorV, hb]
    go_enter Try.func21, Try.ntmps21
    go_wp2
    go_ret2
    exact ⟨rfl, rfl⟩
  by_cases h2 : Mon n
  · by_cases h3 : 0 ≤ r ∧ r ≤ 1000000
    · have H2 := Lib.hid h2
      unfold Mon at h2
      have hb : floorB n r = true := decide_eq_true (by omega)
      rw [floorV, hb, if_pos rfl]
      obtain ⟨b1, b2⟩ := mul_bd (n := n) (A := 100000000000) (by omega) h2.2 h3.1 h3.2
      have hz := (mul_sign (n := n) h3.1).1 (by omega)
      have H3 := Lib.hid h3
      clear h2 h3 hb
      go_enter Try.func21, Try.ntmps21
      go_wp2_with (first | (go_at_call 22; (with_reducible refine (rmoney_yes _ _ H2.out).mono ?_); rintro e w' ⟨rfl, rfl⟩) | (go_at_call 23; (with_reducible refine (rright_yes _ _ H3.out).mono ?_); rintro e w' ⟨rfl, rfl⟩))
      go_ret2
      exact ⟨rfl, rfl⟩
    · have hb : floorB n r = false := decide_eq_false (by omega)
      rw [floorV, hb]
      have H2 := Lib.hid h2
      have H3 := Lib.hid h3
      clear h2 h3 hb
      go_enter Try.func21, Try.ntmps21
      go_wp2_with (first | (go_at_call 22; (with_reducible refine (rmoney_yes _ _ H2.out).mono ?_); rintro e w' ⟨rfl, rfl⟩) | (go_at_call 23; (with_reducible refine (rright_no _ _ H3.out).mono ?_); rintro e w' ⟨rfl, rfl⟩))
      go_ret2
      exact ⟨rfl, rfl⟩
  · have hb : floorB n r = false := decide_eq_false (by unfold Mon at h2; omega)
    rw [floorV, hb]
    have H2 := Lib.hid h2
    clear h2 hb
    go_enter Try.func21, Try.ntmps21
    go_wp2_with (first | (go_at_call 22; (with_reducible refine (rmoney_no _ _ H2.out).mono ?_); rintro e w' ⟨rfl, rfl⟩))
    go_ret2
    exact ⟨rfl, rfl⟩

theorem rof_up (n r : Int) (w : World) (h1 : 0 ≤ n) (h2 : n ≤ 400000000000) (h3 : 0 ≤ r) (h4 : r ≤ 10000000) :
    Calls Try.prog 20 #[.int .i64 n, .int .i64 r] w fun e w' => e = .returned (.tuple #[.int .i64 (rof n r), .bool true]) ∧ w = w' := by
  obtain ⟨b1, b2⟩ := mul_bd (A := 400000000000) (by omega) h2 h3 h4
  have hz := (mul_sign (n := n) h3).1 h1
  have e := rof_pos (r := r) h1
  have E := Lib.hid e
  clear e
  by_cases hh : 1000000 ≤ 2 * (n * r % 1000000)
  · go_enter Try.func20, Try.ntmps20
    go_wp2_with fail
    go_ret2
    exact ⟨ret_ib (by rw [E.out]; omega) rfl, rfl⟩
  · go_enter Try.func20, Try.ntmps20
    go_wp2_with fail
    go_ret2
    exact ⟨ret_ib (by rw [E.out]; omega) rfl, rfl⟩
theorem rof_v (n r : Int) (w : World) :
    Calls Try.prog 20 #[.int .i64 n, .int .i64 r] w fun e w' => e = .returned (.tuple #[.int .i64 (ofV n r), .bool (ofB n r)]) ∧ w = w' := by
  by_cases h : (-400000000000 ≤ n ∧ n ≤ 400000000000) ∧ 0 ≤ r ∧ r ≤ 10000000
  · have hb : ofB n r = true := decide_eq_true h
    rw [ofV, hb, if_pos rfl]
    obtain ⟨⟨h1, h2⟩, h3, h4⟩ := h
    by_cases hn : n < 0
    · have e := rof_neg (n := n) (r := r)
      obtain ⟨q1, q2⟩ := rof_bd (n := n) h1 h2 h3 h4
      obtain ⟨a, ha⟩ : ∃ a, rof n r = a := ⟨_, rfl⟩
      rw [ha] at e q1 q2 ⊢
      have cr : ∀ w, Calls Try.prog 20 #[.int .i64 (-n), .int .i64 r] w fun e w' => e = .returned (.tuple #[.int .i64 (-a), .bool true]) ∧ w = w' := fun w => by
        have := rof_up (-n) r w (by omega) (by omega) h3 h4; rwa [e] at this
      have CR := Lib.hid cr
      clear cr e ha hb
      go_enter Try.func20, Try.ntmps20
      go_wp2_with (go_at_call 20; (with_reducible refine (CR.out _).mono ?_); rintro e w' ⟨rfl, rfl⟩)
      go_ret2
      exact ⟨ret_ib (by omega) rfl, rfl⟩
    · exact rof_up n r w (by omega) h2 h3 h4
  · have hb : ofB n r = false := decide_eq_false h
    rw [ofV, hb]
    clear hb
    by_cases a : n < -400000000000 <;> by_cases b : 400000000000 < n <;> by_cases c : r < 0 <;> by_cases d : 10000000 < r <;> first | omega | skip
    all_goals
      clear h
      go_enter Try.func20, Try.ntmps20
      go_wp2_with fail
      go_ret2
      exact ⟨rfl, rfl⟩

theorem within_some (v n : Int) (w : World) (h1 : 1 ≤ n) (h2 : n ≤ 4611686018427387904) :
    Calls Try.prog 10 #[.int .i64 v, .int .i64 n] w fun e w' => ∃ x, 0 ≤ x ∧ x < n ∧ e = .returned (.int .i64 x) ∧ w = w' :=
  (within_any v n w h1 h2).mono fun _ _ ⟨he, hw⟩ => ⟨_, Int.emod_nonneg v (by omega), Int.emod_lt_of_pos v (by omega), he, hw⟩
/-- any number, as an amount: some number -/
theorem amount_some (n : Int) (w : World) :
    Calls Try.prog 18 #[.int .i64 n] w fun e w' => ∃ y, e = .returned (.int .i64 y) ∧ w = w' := by
  go_enter Try.func18, Try.ntmps18
  go_wp2_with (go_at_call 10; (with_reducible refine (within_some _ _ _ (by omega) (by omega)).mono ?_); rintro e w' ⟨x, hx1, hx2, rfl, rfl⟩)
  all_goals
    go_ret
    exact ⟨_, rfl, rfl⟩
/-- any number, as a rate: some number -/
theorem rate_some (n : Int) (w : World) :
    Calls Try.prog 19 #[.int .i64 n] w fun e w' => ∃ y, e = .returned (.int .i64 y) ∧ Below w.heap.size w w' := by
  obtain ⟨x, hx⟩ : ∃ x : Nat, n % 10 = x := ⟨(n % 10).toNat, by omega⟩
  have hx10 : x < 10 := by omega
  have HX := Lib.hid hx
  clear hx
  have L := (lit_row w [250000, 300000, 190000, 0, 1000000, 333333, 500000, 1, 125000, 999999] 3).2 x hx10
  obtain ⟨z, hz⟩ : ∃ z, [250000, 300000, 190000, 0, 1000000, 333333, 500000, 1, 125000, 999999].getD x (0 : Int) = z := ⟨_, rfl⟩
  simp only [hz] at L
  obtain ⟨l1, _⟩ := L
  simp only [List.map_cons, List.map_nil] at l1
  clear hz
  go_enter Try.func19, Try.ntmps19
  go_wp2_with (first | (go_at_call 10; (with_reducible refine (within_at _ _ _ _ (by omega) (by omega) HX).mono ?_); rintro e w' ⟨rfl, rfl⟩))
  all_goals
    go_ret
    refine ⟨_, rfl, ?_⟩
    first | exact Below.refl _ _ | exact (Below.refl _ _).alloc (Nat.le_refl _) _
end Go.Proofs.Ytbealifdnllimaa
