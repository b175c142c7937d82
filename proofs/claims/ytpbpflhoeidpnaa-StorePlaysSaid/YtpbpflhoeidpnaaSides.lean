/- What package sides' functions answer: a contract for each. -/
import Derived.Test.YtpbpflhoeidpnaaRows
import Derived.Test.YtpbpflhoeidpnaaFlt
import Derived.Test.YtpbpflhoeidpnaaTot
import Derived.Test.YtpbpflhoeidpnaaRate
import Derived.Test.YtpbpflhoeidpnaaMemV
import Derived.WalkKit
import Derived.WalkSpells
import Derived.WalkLawsBesides
import Derived.Lib.Hide
namespace Go.Proofs.Ytpbpflhoeidpnaa
open Go.RowKit

theorem run_store_complex (P : Program) (w : World) (a : Addr) (m : Mode) (k : FloatKind) (x y : Nat) : (store a (.complex k x y) m).run P w = stored P w a (.complex k x y) m := run_store P w a _ m rfl
attribute [local go_sem] run_store_complex

theorem cpl_info : (Try.prog.info? 88).map (fun i => (i.zero, i.size, i.bytes)) = some (some (.complex .f64 0 0), 1, 16) := by kernel_rfl
/-- a number's debit, and its credit -/
def dbt (n : Int) : Int := if 0 < n then n else 0
def cdt (n : Int) : Int := if 0 < n then 0 else -n
theorem side_bd {n : Int} (h : Mon n) : 0 ≤ dbt n ∧ dbt n ≤ 100000000000 ∧ 0 ≤ cdt n ∧ cdt n ≤ 100000000000 := by
  unfold Mon at h; unfold dbt cdt; split <;> omega
theorem side_net (n : Int) : dbt n - cdt n = n := by unfold dbt cdt; split <;> omega

/-- sums of numbers that are none below 0 only rise -/
theorem sums_up {gd gc : Nat → Int} {n : Nat} (h : ∀ j, j < n → 0 ≤ gd j ∧ 0 ≤ gc j) : ∀ k, k ≤ n → 0 ≤ tot gd k ∧ 0 ≤ tot gc k ∧ tot gd k ≤ tot gd n ∧ tot gc k ≤ tot gc n := by
  have up : ∀ (g : Nat → Int) (n : Nat), (∀ j, j < n → 0 ≤ g j) → ∀ k, k ≤ n → 0 ≤ tot g k ∧ tot g k ≤ tot g n := by
    intro g n hg k hk
    refine ⟨?_, ?_⟩
    · induction k with
      | zero => exact Int.le_refl _
      | succ k ih => rw [tot]; have := ih (by omega); have := hg k (by omega); omega
    · induction n with
      | zero => rw [show k = 0 by omega]; exact Int.le_refl _
      | succ n ih =>
        by_cases e : k = n + 1
        · rw [e]; exact Int.le_refl _
        · rw [tot]; have := ih (fun j hj => hg j (by omega)) (by omega); have := hg n (by omega); omega
  intro k hk
  have a := up gd n (fun j hj => (h j hj).1) k hk
  have b := up gc n (fun j hj => (h j hj).2) k hk
  exact ⟨a.1, b.1, a.2, b.2⟩
theorem sof_in (n : Int) (w : World) (h : Mon n) :
    Calls Try.prog 76 #[.int .i64 n] w fun e w' => e = .returned (.complex .f64 (fl (dbt n)) (fl (cdt n))) ∧ w = w' := by
  obtain ⟨h1, h2⟩ := h
  by_cases hp : 0 < n
  · have e1 : dbt n = n := if_pos hp
    have e2 : cdt n = 0 := if_pos hp
    rw [e1, e2, fl_zero]; clear e1 e2
    go_enter Try.func76, Try.ntmps76
    go_wp2_with (go_at_call 73; (with_reducible refine (money_yes _ _ (by omega) (by omega)).mono ?_); rintro e w' ⟨rfl, rfl⟩)
    go_ret
    exact ⟨rfl, rfl⟩
  · have e1 : dbt n = 0 := if_neg hp
    have e2 : cdt n = -n := if_neg hp
    rw [e1, e2, fl_zero]; clear e1 e2
    go_enter Try.func76, Try.ntmps76
    go_wp2_with (go_at_call 73; (with_reducible refine (money_yes _ _ (by omega) (by omega)).mono ?_); rintro e w' ⟨rfl, rfl⟩)
    go_ret
    exact ⟨rfl, rfl⟩
theorem sof_out (n : Int) (w : World) (h : n < -100000000000 ∨ 100000000000 < n) :
    Calls Try.prog 76 #[.int .i64 n] w fun e w' => e = .returned (.complex .f64 0 0) ∧ w = w' := by
  go_enter Try.func76, Try.ntmps76
  go_wp2_with (go_at_call 73; (with_reducible refine (money_no _ _ h).mono ?_); rintro e w' ⟨rfl, rfl⟩)
  go_ret
  exact ⟨rfl, rfl⟩
theorem both_any (d c : Int) (w : World) (d1 : 0 ≤ d) (d2 : d < 9007199254740992) (c1 : 0 ≤ c) (c2 : c < 9007199254740992) :
    Calls Try.prog 74 #[.complex .f64 (fl d) (fl c)] w fun e w' => e = .returned (.tuple #[.int .i64 d, .int .i64 c]) ∧ w = w' := by
  have q1 : ∀ w, (convert 98 3 (.float .f64 (fl d))).run Try.prog w = .ok (.int .i64 d) w := fun w => run_convert_float_int w _ _ .f64 .i64 _ _ (by rw [Try.underlying98]; rfl) Try.underlying3 (fl_int d1 d2)
  have q2 : ∀ w, (convert 98 3 (.float .f64 (fl c))).run Try.prog w = .ok (.int .i64 c) w := fun w => run_convert_float_int w _ _ .f64 .i64 _ _ (by rw [Try.underlying98]; rfl) Try.underlying3 (fl_int c1 c2)
  clear d1 d2 c1 c2
  generalize fl d = a at *
  generalize fl c = b at *
  go_enter Try.func74, Try.ntmps74
  go_wp2_with (simp only [q1, q2])
  go_ret2
  exact ⟨rfl, rfl⟩
theorem net_any (d c : Int) (w : World) (d1 : 0 ≤ d) (d2 : d < 9007199254740992) (c1 : 0 ≤ c) (c2 : c < 9007199254740992) :
    Calls Try.prog 65 #[.complex .f64 (fl d) (fl c)] w fun e w' => e = .returned (.int .i64 (d - c)) ∧ w = w' := by
  go_enter Try.func65, Try.ntmps65
  go_wp2_with (go_at_call 74; (with_reducible refine (both_any d c _ d1 d2 c1 c2).mono ?_); rintro e w' ⟨rfl, rfl⟩)
  go_ret
  exact ⟨rfl, rfl⟩
theorem even_any (d c : Int) (w : World) (d1 : 0 ≤ d) (d2 : d < 9007199254740992) (c1 : 0 ≤ c) (c2 : c < 9007199254740992) :
    Calls Try.prog 71 #[.complex .f64 (fl d) (fl c)] w fun e w' => e = .returned (.bool (decide (d = c))) ∧ w = w' := by
  have E := Lib.hid (fl_order d1 c1 d2 c2)
  clear d1 d2 c1 c2
  go_enter Try.func71, Try.ntmps71
  go_wp2
  go_ret
  exact ⟨ret_b E.out, rfl⟩
/-- a debit and a credit as one number -/
abbrev cx (d c : Int) : Value := .complex .f64 (fl d) (fl c)
/-- the sum of a row of sides: both kept apart, exactly, as long as they are below 2^53 -/
theorem ssum_any (A : Option Addr) (n c : Nat) (gd gc : Nat → Int) (w : World) (hA : AtV w A n (fun j => cx (gd j) (gc j))) (hn : n ≤ c) (hc : c ≤ maxLen)
    (HP : Hid (∀ j, j < n → 0 ≤ gd j ∧ 0 ≤ gc j)) (hD : tot gd n < 9007199254740992) (hC : tot gc n < 9007199254740992) :
    Calls Try.prog 75 #[.slice A n c] w fun e w' => e = .returned (cx (tot gd n) (tot gc n)) ∧ w = w' := by
  unfold maxLen at hc
  have P := sums_up HP.out
  have HPR := Lib.hid P; clear P
  have HA := Lib.hid hA; clear hA
  have HD := Lib.hid hD; clear hD
  have HC := Lib.hid hC; clear hC
  have Z := Lib.hid fl_zero
  go_enter Try.func75, Try.ntmps75
  go_wp2
  go_loop [3, 8] (fun t i => ∃ k : Nat, k ≤ n ∧ i = .int .i64 k ∧ t = cx (tot gd k) (tot gc k)) (fun _ i => n - (intOf i).toNat)
  case atStart => exact ⟨0, Nat.zero_le _, rfl, by rw [tot, tot, cx, Z.out]⟩
  case round =>
    obtain ⟨k, hk, rfl, rfl⟩ := hrel
    by_cases hlt : k < n
    · obtain ⟨b, off, rfl, hb, hcell⟩ := HA.out.some (by omega)
      have ck : w.cell? ⟨b, off + k, none⟩ = some (.complex .f64 (fl (gd k)) (fl (gc k))) := hcell k hlt
      clear hcell
      obtain ⟨s1, s2, s3, s4⟩ := HPR.out (k + 1) (by omega)
      obtain ⟨t1, t2, _, _⟩ := HPR.out k (by omega)
      have g := HP.out k hlt
      have hop := fun t w => run_complex_sum (P := Try.prog) w .add (Or.inl rfl) t .f64 _ _ _ _ _ _ (fl_sum t1 t2 g.1 g.2 (by have := HD.out; rw [tot] at s3; omega) (by have := HC.out; rw [tot] at s4; omega))
      clear s1 s2 s3 s4 t1 t2 g
      go_wp2_with (simp only [hop])
      go_round
      case rel => exact ⟨k + 1, by omega, by go_num, by rw [tot, tot]⟩
      case measure => simp [intOf]; omega
    · obtain rfl : k = n := by omega
      clear hlt
      go_wp2
      go_ret
      exact ⟨rfl, rfl⟩
theorem tot_push (g : Nat → Int) (m : Nat) (x : Int) : tot (fun j => if j = m then x else g j) (m + 1) = tot g m + x := by
  rw [tot, if_pos rfl, tot_ext m (h := g) fun j hj => by rw [if_neg (by omega)]]
theorem push_cx (gd gc : Nat → Int) (m : Nat) (d c : Int) (j : Nat) : (if j = m then cx d c else cx (gd j) (gc j)) = cx ((fun j => if j = m then d else gd j) j) ((fun j => if j = m then c else gc j) j) := by
  by_cases e : j = m
  · simp [e]
  · simp [e]
/-- each number of a row of sides is an amount's -/
def Sd (gd gc : Nat → Int) (m : Nat) : Prop := ∀ j, j < m → 0 ≤ gd j ∧ gd j ≤ 100000000000 ∧ 0 ≤ gc j ∧ gc j ≤ 100000000000
theorem Sd.push {gd gc : Nat → Int} {m : Nat} (h : Sd gd gc m) {d c : Int} (d1 : 0 ≤ d) (d2 : d ≤ 100000000000) (c1 : 0 ≤ c) (c2 : c ≤ 100000000000) :
    Sd (fun j => if j = m then d else gd j) (fun j => if j = m then c else gc j) (m + 1) := by
  intro j hj
  by_cases e : j = m
  · simp [e]; omega
  · have := h j (by omega); simpa [e] using this
theorem Sd.pos {gd gc : Nat → Int} {m : Nat} (h : Sd gd gc m) : ∀ j, j < m → 0 ≤ gd j ∧ 0 ≤ gc j := fun j hj => by have := h j hj; omega
theorem Sd.bd {gd gc : Nat → Int} {m : Nat} (h : Sd gd gc m) : 0 ≤ tot gd m ∧ tot gd m ≤ 100000000000 * m ∧ 0 ≤ tot gc m ∧ tot gc m ≤ 100000000000 * m := by
  have a := sums_up h.pos m (Nat.le_refl _)
  have b := tot_bd gd m fun j hj => by have := h j hj; unfold Mon; omega
  have c := tot_bd gc m fun j hj => by have := h j hj; unfold Mon; omega
  omega

theorem ssum_nil (w : World) : Calls Try.prog 75 #[.slice none 0 0] w fun e w' => e = .returned (.complex .f64 0 0) ∧ w = w' := by
  have := ssum_any none 0 0 (fun _ => 0) (fun _ => 0) w (.inl rfl) (Nat.le_refl _) (Nat.zero_le _) (Lib.hid fun j hj => by omega) (by simp [tot]) (by simp [tot])
  rwa [show tot (fun _ => (0 : Int)) 0 = 0 from rfl, cx, fl_zero] at this
/-- of two, of three that were put down one by one -/
theorem ssum_two (d1 c1 d2 c2 : Int) (t : TypeId) (b : Nat) (w : World) (hb : w.heap.size = b) (h1 : 0 ≤ d1) (h2 : 0 ≤ c1) (h3 : 0 ≤ d2) (h4 : 0 ≤ c2) (h5 : d1 + d2 < 9007199254740992) (h6 : c1 + c2 < 9007199254740992) :
    Calls Try.prog 75 #[.slice (some ⟨b, 0, none⟩) 2 2] (w.alloc (.cells #[.complex .f64 (fl d1) (fl c1), .complex .f64 (fl d2) (fl c2)] t)) fun e w' => e = .returned (.complex .f64 (fl (d1 + d2)) (fl (c1 + c2))) ∧ w.alloc (.cells #[.complex .f64 (fl d1) (fl c1), .complex .f64 (fl d2) (fl c2)] t) = w' := by
  have hA := (lit_v w [cx d1 c1, cx d2 c2] t b hb (cx d1 c1)).ext (f' := fun j => cx ([d1, d2].getD j 0) ([c1, c2].getD j 0)) fun j hj => by
    rcases (show j = 0 ∨ j = 1 by simp at hj; omega) with rfl | rfl <;> rfl
  have e1 : tot (fun j => [d1, d2].getD j 0) 2 = d1 + d2 := by simp [tot]
  have e2 : tot (fun j => [c1, c2].getD j 0) 2 = c1 + c2 := by simp [tot]
  have := ssum_any _ 2 2 (fun j => [d1, d2].getD j 0) (fun j => [c1, c2].getD j 0) _ hA (Nat.le_refl _) (by unfold maxLen; omega) (Lib.hid fun j hj => by
    rcases (show j = 0 ∨ j = 1 by omega) with rfl | rfl <;> simp [*]) (by rw [e1]; exact h5) (by rw [e2]; exact h6)
  rw [e1, e2] at this
  exact this
theorem ssum_three (d1 c1 d2 c2 d3 c3 : Int) (t : TypeId) (b : Nat) (w : World) (hb : w.heap.size = b) (h1 : 0 ≤ d1) (h2 : 0 ≤ c1) (h3 : 0 ≤ d2) (h4 : 0 ≤ c2) (h3' : 0 ≤ d3) (h4' : 0 ≤ c3) (h5 : d1 + d2 + d3 < 9007199254740992) (h6 : c1 + c2 + c3 < 9007199254740992) :
    Calls Try.prog 75 #[.slice (some ⟨b, 0, none⟩) 3 3] (w.alloc (.cells #[.complex .f64 (fl d1) (fl c1), .complex .f64 (fl d2) (fl c2), .complex .f64 (fl d3) (fl c3)] t)) fun e w' => e = .returned (.complex .f64 (fl (d1 + d2 + d3)) (fl (c1 + c2 + c3))) ∧ w.alloc (.cells #[.complex .f64 (fl d1) (fl c1), .complex .f64 (fl d2) (fl c2), .complex .f64 (fl d3) (fl c3)] t) = w' := by
  have hA := (lit_v w [cx d1 c1, cx d2 c2, cx d3 c3] t b hb (cx d1 c1)).ext (f' := fun j => cx ([d1, d2, d3].getD j 0) ([c1, c2, c3].getD j 0)) fun j hj => by
    rcases (show j = 0 ∨ j = 1 ∨ j = 2 by simp at hj; omega) with rfl | rfl | rfl <;> rfl
  have e1 : tot (fun j => [d1, d2, d3].getD j 0) 3 = d1 + d2 + d3 := by simp [tot]
  have e2 : tot (fun j => [c1, c2, c3].getD j 0) 3 = c1 + c2 + c3 := by simp [tot]
  have := ssum_any _ 3 3 (fun j => [d1, d2, d3].getD j 0) (fun j => [c1, c2, c3].getD j 0) _ hA (Nat.le_refl _) (by unfold maxLen; omega) (Lib.hid fun j hj => by
    rcases (show j = 0 ∨ j = 1 ∨ j = 2 by omega) with rfl | rfl | rfl <;> simp [*]) (by rw [e1]; exact h5) (by rw [e2]; exact h6)
  rw [e1, e2] at this
  exact this
theorem even_yes (d c : Int) (w : World) (d1 : 0 ≤ d) (d2 : d < 9007199254740992) (h : d = c) :
    Calls Try.prog 71 #[.complex .f64 (fl d) (fl c)] w fun e w' => e = .returned (.bool true) ∧ w = w' := by
  have := even_any d c w d1 d2 (by omega) (by omega)
  rwa [decide_eq_true h] at this
theorem even_no (d c : Int) (w : World) (d1 : 0 ≤ d) (d2 : d < 9007199254740992) (c1 : 0 ≤ c) (c2 : c < 9007199254740992) (h : d ≠ c) :
    Calls Try.prog 71 #[.complex .f64 (fl d) (fl c)] w fun e w' => e = .returned (.bool false) ∧ w = w' := by
  have := even_any d c w d1 d2 c1 c2
  rwa [decide_eq_false h] at this
theorem lit_fl3 : fl 3 = 4613937818241073152 := by rw [fl_wd (by omega) (by omega)]; decide
theorem lit_fl4 : fl 4 = 4616189618054758400 := by rw [fl_wd (by omega) (by omega)]; decide
end Go.Proofs.Ytpbpflhoeidpnaa
