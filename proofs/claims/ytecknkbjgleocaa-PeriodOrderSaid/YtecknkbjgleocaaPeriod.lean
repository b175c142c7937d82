/- Package period's functions: a contract for each. -/
import Derived.Test.YtecknkbjgleocaaPerMath
import Derived.Test.YtecknkbjgleocaaRate
import Derived.Test.YtecknkbjgleocaaMem
import Derived.WalkKit
import Derived.WalkSpells
import Derived.WalkLawsBesides
import Derived.Lib.Hide
import Derived.Deep.QuietTactic
import Derived.BigQuiet
namespace Go.Proofs.Ytecknkbjgleocaa
open Go.RowKit

theorem pright_yes (p : Int) (w : World) (h1 : 0 ≤ p) (h2 : p ≤ 399) : Calls Try.prog 12 #[.int .i64 p] w fun e w' => e = .returned (.bool true) ∧ w = w' := by
  go_enter Try.func12, Try.ntmps12
  go_wp2
  all_goals
    go_ret
    exact ⟨ret_b (by first | rfl | (simp; omega)), rfl⟩
theorem pright_no (p : Int) (w : World) (h : p < 0 ∨ 399 < p) : Calls Try.prog 12 #[.int .i64 p] w fun e w' => e = .returned (.bool false) ∧ w = w' := by
  go_enter Try.func12, Try.ntmps12
  go_wp2
  all_goals
    go_ret
    exact ⟨ret_b (by first | rfl | (simp; omega)), rfl⟩
theorem pyear_yes (p : Int) (w : World) (h1 : 0 ≤ p) (h2 : p ≤ 399) : Calls Try.prog 9 #[.int .i64 p] w fun e w' => e = .returned (.int .i64 (p / 4)) ∧ w = w' := by
  go_enter Try.func9, Try.ntmps9
  go_wp2_with ((go_at_call 12; (with_reducible refine (pright_yes _ _ (by omega) (by omega)).mono ?_); rintro e w' ⟨rfl, rfl⟩))
  go_ret
  exact ⟨rfl, rfl⟩
theorem pyear_no (p : Int) (w : World) (h : p < 0 ∨ 399 < p) : Calls Try.prog 9 #[.int .i64 p] w fun e w' => e = .returned (.int .i64 (-1)) ∧ w = w' := by
  go_enter Try.func9, Try.ntmps9
  go_wp2_with ((go_at_call 12; (with_reducible refine (pright_no _ _ (by omega)).mono ?_); rintro e w' ⟨rfl, rfl⟩))
  go_ret
  exact ⟨rfl, rfl⟩
theorem pfirst_yes (y : Int) (w : World) (h1 : 0 ≤ y) (h2 : y ≤ 99) : Calls Try.prog 10 #[.int .i64 y] w fun e w' => e = .returned (.int .i64 (y * 4)) ∧ w = w' := by
  go_enter Try.func10, Try.ntmps10
  go_wp2
  go_ret
  exact ⟨rfl, rfl⟩
theorem pfirst_no (y : Int) (w : World) (h : y < 0 ∨ 99 < y) : Calls Try.prog 10 #[.int .i64 y] w fun e w' => e = .returned (.int .i64 (-1)) ∧ w = w' := by
  go_enter Try.func10, Try.ntmps10
  go_wp2
  all_goals
    go_ret
    exact ⟨rfl, rfl⟩
theorem pdigit_at (n : Int) (w : World) (h1 : 0 ≤ n) (h2 : n ≤ 9) : Calls Try.prog 18 #[.int .i64 n] w fun e w' => e = .returned (.int .u8 (48 + n)) ∧ w = w' := by
  go_enter Try.func18, Try.ntmps18
  go_wp2
  go_ret
  exact ⟨ret_i (by omega), rfl⟩
theorem pvalue_at (b : Int) (w : World) (h1 : 0 ≤ b) (h2 : b ≤ 255) : Calls Try.prog 19 #[.int .u8 b] w fun e w' => e = .returned (.int .i64 (b - 48)) ∧ w = w' := by
  go_enter Try.func19, Try.ntmps19
  go_wp2
  go_ret
  exact ⟨ret_i (by omega), rfl⟩
/-- a literal list of bytes in a new block, as a text -/
theorem conv_lit (w : World) (xs : List Int) (n : Nat) (h : xs.length = n) : (convert 32 9 (.slice (some ⟨w.heap.size, 0, none⟩) n n)).run Try.prog (w.alloc (.cells (xs.map (Value.int .u8)).toArray 5)) = .ok (.string (strOfNums xs)) (w.alloc (.cells (xs.map (Value.int .u8)).toArray 5)) := by
  refine run_convert_bytes_arg _ 32 5 Try.underlying32 Try.underlying5 w.heap.size 0 n n xs h (fun i hi => ?_) 9 Try.underlying9
  rw [Nat.zero_add, cell_of_row _ w.heap.size i _ 5 (0, 0) (heap_alloc_new w _)]
  simp [List.getD, show i < xs.length by omega]
theorem ptext_yes (p : Int) (w : World) (h1 : 0 ≤ p) (h2 : p ≤ 399) : Calls Try.prog 8 #[.int .i64 p] w fun e w' => e = .returned (.string (ptb p)) ∧ Below w.heap.size w w' := by
  have hcv := conv_lit w [50, 48, 48 + p / 4 / 10, 48 + p / 4 % 10, 113, 48 + (p % 4 + 1)] 6 rfl
  simp only [List.map_cons, List.map_nil] at hcv
  change _ = Result.ok (Value.string (ptb p)) _ at hcv
  have hb := Lib.hid ((Below.refl w.heap.size w).alloc (Nat.le_refl _) (.cells #[.int .u8 50, .int .u8 48, .int .u8 (48 + p / 4 / 10), .int .u8 (48 + p / 4 % 10), .int .u8 113, .int .u8 (48 + (p % 4 + 1))] 5))
  go_enter Try.func8, Try.ntmps8
  go_wp2_with (first | (go_at_call 12; (with_reducible refine (pright_yes _ _ (by omega) (by omega)).mono ?_); rintro e w' ⟨rfl, rfl⟩) | (go_at_call 9; (with_reducible refine (pyear_yes _ _ (by omega) (by omega)).mono ?_); rintro e w' ⟨rfl, rfl⟩) | (go_at_call 18; (with_reducible refine (pdigit_at _ _ (by omega) (by omega)).mono ?_); rintro e w' ⟨rfl, rfl⟩))
  go_ret
  exact ⟨rfl, hb.out⟩
theorem ptext_no (p : Int) (w : World) (h : p < 0 ∨ 399 < p) : Calls Try.prog 8 #[.int .i64 p] w fun e w' => e = .returned (.string ⟨#[]⟩) ∧ w = w' := by
  go_enter Try.func8, Try.ntmps8
  go_wp2_with ((go_at_call 12; (with_reducible refine (pright_no _ _ (by omega)).mono ?_); rintro e w' ⟨rfl, rfl⟩))
  go_ret
  exact ⟨rfl, rfl⟩

/-- the period that a text of six bytes would be of -/
def pnum (s : ByteArray) (h : s.size = 6) : Int := ((((s[2]'(by omega)).toNat : Int) - 48) * 10 + (((s[3]'(by omega)).toNat : Int) - 48)) * 4 + (((s[5]'(by omega)).toNat : Int) - 48) - 1
theorem pnum_ptb {p : Int} (h1 : 0 ≤ p) (h2 : p ≤ 399) : pnum (ptb p) (ptb_size p) = p := by
  have e2 : ((ptb p)[2]'(by rw [ptb_size]; omega)) = UInt8.ofNat (48 + p / 4 / 10).toNat := rfl
  have e3 : ((ptb p)[3]'(by rw [ptb_size]; omega)) = UInt8.ofNat (48 + p / 4 % 10).toNat := rfl
  have e5 : ((ptb p)[5]'(by rw [ptb_size]; omega)) = UInt8.ofNat (48 + (p % 4 + 1)).toNat := rfl
  unfold pnum
  rw [e2, e3, e5]
  simp
  omega
theorem parse_len (s : ByteArray) (w : World) (h : s.size ≠ 6) : Calls Try.prog 17 #[.string s] w fun e w' => e = .returned (.tuple #[.int .i64 0, .bool false]) ∧ w = w' := by
  have hx : ((s.size : Int) != 6) = true := by simp; omega
  clear h
  go_enter Try.func17, Try.ntmps17
  go_wp2
  go_ret2
  exact ⟨rfl, rfl⟩
theorem parse_six (s : ByteArray) (w : World) (hs : s.size = 6) (t : ByteArray) (b : Bool) (HB : Hid ((t.toList == s.toList) = b))
    (HT : Hid (∀ w, Calls Try.prog 8 #[.int .i64 (pnum s hs)] w fun e w' => e = .returned (.string t) ∧ Below w.heap.size w w')) :
    Calls Try.prog 17 #[.string s] w fun e w' => e = .returned (.tuple #[.int .i64 (if b = true then pnum s hs else 0), .bool b]) ∧ Below w.heap.size w w' := by
  have l2 : 2 < s.size := by omega
  have l3 : 3 < s.size := by omega
  have l5 : 5 < s.size := by omega
  have hx : ((s.size : Int) != 6) = false := by simp; omega
  have ht : ∀ w, Calls Try.prog 8 #[.int .i64 (((((s[2].toNat : Nat) : Int) - 48) * 10 + (((s[3].toNat : Nat) : Int) - 48)) * 4 + (((s[5].toNat : Nat) : Int) - 48) - 1)] w fun e w' => e = .returned (.string t) ∧ Below w.heap.size w w' := HT.out
  have HT' := Lib.hid ht
  have hp : pnum s hs = ((((s[2].toNat : Nat) : Int) - 48) * 10 + (((s[3].toNat : Nat) : Int) - 48)) * 4 + (((s[5].toNat : Nat) : Int) - 48) - 1 := rfl
  have HP := Lib.hid hp
  clear ht hp
  have b2 := UInt8.toNat_lt s[2]
  have b3 := UInt8.toNat_lt s[3]
  have b5 := UInt8.toNat_lt s[5]
  have hb := HB.out
  clear HB HT
  cases b
  all_goals
    go_enter Try.func17, Try.ntmps17
    go_wp2
    go_quiet ((go_at_call 19; exact quiet_same (pvalue_at _ _ (by omega) (by omega))))
    go_wp2_with (first | ((go_at_call 19; (with_reducible refine (pvalue_at _ _ (by omega) (by omega)).mono ?_); rintro e w' ⟨rfl, rfl⟩)) | (go_at_call 8; refine (HT'.out _).mono ?_; rintro e w2 ⟨rfl, hb2⟩; have HB2 := Lib.hid hb2; clear hb2))
    go_ret2
    exact ⟨ret_ib (by first | rfl | exact HP.out.symm) rfl, below_of_drewN HB2.out⟩
theorem parse_yes (p : Int) (w : World) (h1 : 0 ≤ p) (h2 : p ≤ 399) : Calls Try.prog 17 #[.string (ptb p)] w fun e w' => e = .returned (.tuple #[.int .i64 p, .bool true]) ∧ Below w.heap.size w w' := by
  refine (parse_six (ptb p) w (ptb_size p) (ptb p) true (Lib.hid (by simp)) (Lib.hid fun w => ?_)).mono ?_
  · rw [pnum_ptb h1 h2]; exact ptext_yes p w h1 h2
  · rintro e w' ⟨rfl, hb⟩
    exact ⟨by rw [pnum_ptb h1 h2]; rfl, hb⟩
theorem parse_no (s : ByteArray) (w : World) (h : ∀ p, 0 ≤ p → p ≤ 399 → ptb p ≠ s) : Calls Try.prog 17 #[.string s] w fun e w' => e = .returned (.tuple #[.int .i64 0, .bool false]) ∧ Below w.heap.size w w' := by
  by_cases hs : s.size = 6
  · by_cases hr : 0 ≤ pnum s hs ∧ pnum s hs ≤ 399
    · refine (parse_six s w hs (ptb (pnum s hs)) false (Lib.hid ?_) (Lib.hid fun w => ptext_yes _ w hr.1 hr.2)).mono ?_
      · have := h _ hr.1 hr.2
        rw [beq_eq_false_iff_ne, ByteArray.toList_eq, ByteArray.toList_eq]
        exact fun e => this (Go.WideShapes.bytes_inj e)
      · rintro e w' ⟨rfl, hb⟩
        exact ⟨rfl, hb⟩
    · refine (parse_six s w hs ⟨#[]⟩ false (Lib.hid ?_) (Lib.hid fun w => (ptext_no _ w (by omega)).mono fun e w' h => ⟨h.1, h.2 ▸ Below.refl _ _⟩)).mono ?_
      · rw [beq_eq_false_iff_ne, ByteArray.toList_eq, ByteArray.toList_eq]
        intro e
        have := Go.WideShapes.bytes_inj e
        subst this
        simp [ByteArray.size] at hs
      · rintro e w' ⟨rfl, hb⟩
        exact ⟨rfl, hb⟩
  · exact (parse_len s w hs).mono fun e w' h => ⟨h.1, h.2 ▸ Below.refl _ _⟩
theorem ptb_14 : (ptb 14).toList = [50, 48, 48, 51, 113, 51] := by
  rw [ByteArray.toList_eq]; decide
theorem wakes3_any (w : World) : Calls Try.prog 11 #[] w fun e w' => e = .returned (.bool true) ∧ Below w.heap.size w w' := by
  have h14 := ptb_14
  go_enter Try.func11, Try.ntmps11
  go_wp2_with (first | (go_at_call 8; (with_reducible refine (ptext_yes _ _ (by omega) (by omega)).mono ?_); rintro e w2 ⟨rfl, hb2⟩; have HB2 := Lib.hid hb2; clear hb2) | (go_at_call 8; (with_reducible refine (ptext_no _ _ (by omega)).mono ?_); rintro e w3 ⟨rfl, rfl⟩))
  go_ret
  exact ⟨by simp, HB2.out⟩
end Go.Proofs.Ytecknkbjgleocaa
