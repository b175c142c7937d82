/- PeriodBack: its walk. -/
import Derived.Test.YtecknkbjgleocaaPeriod
import Derived.WalkKit
import Derived.WalkSpells
import Derived.WalkLawsBesides
import Derived.Lib.Hide
import Derived.Deep.RegionHeld3
import Derived.IntWalk
namespace Go.Proofs.Ytecknkbjgleocaa
open Go.RowKit

theorem conv_one (w W : World) (c : Int) (h : W.cell? ⟨w.heap.size, 0, none⟩ = some (.int .u8 c)) : (convert 32 9 (.slice (some ⟨w.heap.size, 0, none⟩) 1 1)).run Try.prog W = .ok (.string (strOfNums [c])) W :=
  run_convert_bytes_arg _ 32 5 Try.underlying32 Try.underlying5 w.heap.size 0 1 1 [c] rfl (fun i hi => by rw [show i = 0 by omega]; exact h) 9 Try.underlying9
set_option maxHeartbeats 2000000 in
theorem periodBack_walk (a0 a1 a2 : Int) (w : World) (_w0 : (Lit.int .i64 a0).wf = true) (_w1 : (Lit.int .i64 a1).wf = true) (_w2 : (Lit.int .u8 a2).wf = true) :
    Calls Try.prog 5 #[.int .i64 a0, .int .i64 a1, .int .u8 a2] w fun e w' => e = .returned (.bool true) ∧ Below w.heap.size w w' := by
  obtain ⟨p, hp⟩ : ∃ p, a0 % 400 = p := ⟨_, rfl⟩
  obtain ⟨x, hx⟩ : ∃ x, a1 % 6 = x := ⟨_, rfl⟩
  have p1 : 0 ≤ p := by omega
  have p2 : p ≤ 399 := by omega
  have x1 : 0 ≤ x := by omega
  have x2 : x < 6 := by omega
  have x3 : x ≤ 6 := by omega
  have HP := Lib.hid hp
  have HX := Lib.hid hx
  clear hp hx
  obtain ⟨s, hs⟩ : ∃ s, s = ptb p := ⟨_, rfl⟩
  have hz : s.size = 6 := by rw [hs, ptb_size]
  have HS := Lib.hid hs
  have tx : ∀ w, Calls Try.prog 8 #[.int .i64 p] w fun e w' => e = .returned (.string s) ∧ Below w.heap.size w w' := fun w => by rw [hs]; exact ptext_yes p w p1 p2
  have ps : ∀ w, Calls Try.prog 17 #[.string s] w fun e w' => e = .returned (.tuple #[.int .i64 p, .bool true]) ∧ Below w.heap.size w w' := fun w => by rw [hs]; exact parse_yes p w p1 p2
  have TX := Lib.hid tx
  have PS := Lib.hid ps
  clear tx ps hs
  have HB := Lib.hid (Below.refl w.heap.size w)
  go_enter Try.func5, Try.ntmps5
  go_wp2_with (first
    | (go_at_call 7; (with_reducible refine (within_at _ _ _ _ (by omega) (by omega) HP).mono ?_); rintro e w' ⟨rfl, rfl⟩)
    | (go_at_call 7; (with_reducible refine (within_at _ _ _ _ (by omega) (by omega) HX).mono ?_); rintro e w' ⟨rfl, rfl⟩)
    | (go_at_call 8; (with_reducible refine (TX.out _).mono ?_); rintro e w2 ⟨rfl, hb2⟩; replace HB := Lib.hid (HB.out.trans (hb2.mono HB.out.size)); clear hb2)
    | (go_at_call 17; (with_reducible refine (PS.out _).mono ?_); rintro e w3 ⟨rfl, hb3⟩; replace HB := Lib.hid (HB.out.trans (hb3.mono HB.out.size)); clear hb3))
  have hcv : (convert 32 9 (.slice (some ⟨w3.heap.size, 0, none⟩) 1 1)).run Try.prog ((w3.alloc (.cells #[.int .u8 a2] 5)).drew) = .ok (.string (strOfNums [a2])) ((w3.alloc (.cells #[.int .u8 a2] 5)).drew) := by
    refine conv_one w3 _ a2 ?_
    rw [World.cell?_drew, cell_of_row _ w3.heap.size 0 _ 5 (0, 0) (heap_alloc_new w3 _)]; rfl
  have hwr : IntKind.i64.wrap (x + 1) = x + 1 := IntWalk.i64_in _ (by omega)
  have HB2 := Lib.hid (HB.out.alloc HB.out.size (.cells #[.int .u8 a2] 5)).drew
  have x4 : 0 ≤ x + 1 := by omega
  have x5 : x + 1 ≤ 6 := by omega
  have hz1 : (strOfNums [a2]).size = 1 := by rw [strOfNums_size]; rfl
  rw [show Op.convert 32 9 (Operand.tmp 44) = id (Op.convert 32 9 (Operand.tmp 44)) from rfl]
  rw [show Op.binOp BinOp.add 9 (Operand.tmp 42) (Operand.tmp 45) 9 = id (Op.binOp BinOp.add 9 (Operand.tmp 42) (Operand.tmp 45) 9) from rfl]
  rw [show Op.binOp BinOp.add 9 (Operand.tmp 46) (Operand.tmp 50) 9 = id (Op.binOp BinOp.add 9 (Operand.tmp 46) (Operand.tmp 50) 9) from rfl]
  have hi1 : id (Op.convert 32 9 (Operand.tmp 44)) = Op.convert 32 9 (Operand.tmp 44) := rfl
  have hi2 : id (Op.binOp BinOp.add 9 (Operand.tmp 42) (Operand.tmp 45) 9) = Op.binOp BinOp.add 9 (Operand.tmp 42) (Operand.tmp 45) 9 := rfl
  have hi3 : id (Op.binOp BinOp.add 9 (Operand.tmp 46) (Operand.tmp 50) 9) = Op.binOp BinOp.add 9 (Operand.tmp 46) (Operand.tmp 50) 9 := rfl
  go_region_held3 (fun _ => True) (trivial) (fail)
  generalize s.extract 0 x.toNat ++ strOfNums [a2] ++ s.extract (x + 1).toNat 6 = t
  have HB := HB2
  clear HB2 hcv hwr hz1 hi1 hi2 hi3 x1 x2 x3 x4 x5
  have P5 : Hid (∀ w, Calls Try.prog 17 #[.string (s.extract 0 5)] w fun e w' => e = .returned (.tuple #[.int .i64 0, .bool false]) ∧ w = w') := Lib.hid fun w => parse_len _ w (by simp [hz])
  have P7 : Hid (∀ w, Calls Try.prog 17 #[.string (s ++ ⟨#[48]⟩)] w fun e w' => e = .returned (.tuple #[.int .i64 0, .bool false]) ∧ w = w') := Lib.hid fun w => parse_len _ w (by rw [ByteArray.size_append, hz]; decide)
  by_cases ht : t = s
  · subst ht
    have PT := PS
    have TT := TX
    clear PS TX
    go_wp2_with (first
      | (go_at_call 17; (with_reducible refine (PT.out _).mono ?_); rintro e w4 ⟨rfl, hb4⟩; replace HB := Lib.hid (HB.out.trans (hb4.mono HB.out.size)); clear hb4)
      | (go_at_call 17; (with_reducible refine (P5.out _).mono ?_); rintro e w' ⟨rfl, rfl⟩)
      | (go_at_call 17; (with_reducible refine (P7.out _).mono ?_); rintro e w' ⟨rfl, rfl⟩)
      | (go_at_call 8; (with_reducible refine (TT.out _).mono ?_); rintro e w5 ⟨rfl, hb5⟩; replace HB := Lib.hid (HB.out.trans (hb5.mono HB.out.size)); clear hb5)
      | (go_at_call 11; refine (wakes3_any _).mono ?_; rintro e w3 ⟨rfl, hb3⟩; replace HB := Lib.hid (HB.out.trans (hb3.mono HB.out.size)); clear hb3))
    go_ret
    exact ⟨ret_b (by first | rfl | simp), HB.out⟩
  · have hq : (t.toList == s.toList) = false := by
      rw [beq_eq_false_iff_ne, ByteArray.toList_eq, ByteArray.toList_eq]
      exact fun e => ht (Go.WideShapes.bytes_inj e)
    by_cases he : ∃ q, 0 ≤ q ∧ q ≤ 399 ∧ ptb q = t
    · obtain ⟨q, q1, q2, hqt⟩ := he
      have hqp : (q == p) = false := by
        rw [beq_eq_false_iff_ne]
        rintro rfl
        exact ht (by rw [HS.out, hqt])
      have PT : Hid (∀ w, Calls Try.prog 17 #[.string t] w fun e w' => e = .returned (.tuple #[.int .i64 q, .bool true]) ∧ Below w.heap.size w w') := Lib.hid fun w => by rw [← hqt]; exact parse_yes q w q1 q2
      have TT : Hid (∀ w, Calls Try.prog 8 #[.int .i64 q] w fun e w' => e = .returned (.string t) ∧ Below w.heap.size w w') := Lib.hid fun w => by rw [← hqt]; exact ptext_yes q w q1 q2
      clear hqt PS TX ht
      go_wp2_with (first
        | (go_at_call 17; (with_reducible refine (PT.out _).mono ?_); rintro e w4 ⟨rfl, hb4⟩; replace HB := Lib.hid (HB.out.trans (hb4.mono HB.out.size)); clear hb4)
        | (go_at_call 17; (with_reducible refine (P5.out _).mono ?_); rintro e w' ⟨rfl, rfl⟩)
        | (go_at_call 17; (with_reducible refine (P7.out _).mono ?_); rintro e w' ⟨rfl, rfl⟩)
        | (go_at_call 8; (with_reducible refine (TT.out _).mono ?_); rintro e w5 ⟨rfl, hb5⟩; replace HB := Lib.hid (HB.out.trans (hb5.mono HB.out.size)); clear hb5)
        | (go_at_call 11; refine (wakes3_any _).mono ?_; rintro e w3 ⟨rfl, hb3⟩; replace HB := Lib.hid (HB.out.trans (hb3.mono HB.out.size)); clear hb3))
      go_ret
      exact ⟨ret_b (by first | rfl | simp), HB.out⟩
    · have PT : Hid (∀ w, Calls Try.prog 17 #[.string t] w fun e w' => e = .returned (.tuple #[.int .i64 0, .bool false]) ∧ Below w.heap.size w w') := Lib.hid fun w => parse_no t w fun q a b c => he ⟨q, a, b, c⟩
      have TT := TX
      clear PS TX ht he
      go_wp2_with (first
        | (go_at_call 17; (with_reducible refine (PT.out _).mono ?_); rintro e w4 ⟨rfl, hb4⟩; replace HB := Lib.hid (HB.out.trans (hb4.mono HB.out.size)); clear hb4)
        | (go_at_call 17; (with_reducible refine (P5.out _).mono ?_); rintro e w' ⟨rfl, rfl⟩)
        | (go_at_call 17; (with_reducible refine (P7.out _).mono ?_); rintro e w' ⟨rfl, rfl⟩)
        | (go_at_call 8; (with_reducible refine (TT.out _).mono ?_); rintro e w5 ⟨rfl, hb5⟩; replace HB := Lib.hid (HB.out.trans (hb5.mono HB.out.size)); clear hb5)
        | (go_at_call 11; refine (wakes3_any _).mono ?_; rintro e w3 ⟨rfl, hb3⟩; replace HB := Lib.hid (HB.out.trans (hb3.mono HB.out.size)); clear hb3))
      go_ret
      exact ⟨ret_b (by first | rfl | simp), HB.out⟩
end Go.Proofs.Ytecknkbjgleocaa
