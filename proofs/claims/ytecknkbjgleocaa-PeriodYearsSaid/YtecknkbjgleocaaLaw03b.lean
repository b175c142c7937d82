/- PeriodYears: its walk. -/
import Derived.Test.YtecknkbjgleocaaPeriod
import Derived.WalkKit
import Derived.WalkSpells
import Derived.WalkLawsBesides
import Derived.Lib.Hide
import Derived.Deep.LoopGhost
import Derived.Deep.RegionHeld3
import Derived.IntWalk
namespace Go.Proofs.Ytecknkbjgleocaa
open Go.RowKit

theorem ptb_ends (p : Int) : ((ptb p).extract 0 2).toList = [50, 48] ∧ ((ptb p).extract 4 6).toList = [113, UInt8.ofNat (48 + (p % 4 + 1)).toNat] := ⟨by rw [ByteArray.toList_eq]; rfl, by rw [ByteArray.toList_eq]; rfl⟩
set_option maxHeartbeats 2000000 in
theorem periodYears_walk (a0 : Int) (w : World) :
    Calls Try.prog 6 #[.int .i64 a0] w fun e w' => e = .returned (.bool true) ∧ Below w.heap.size w w' := by
  obtain ⟨y, hy⟩ : ∃ y, a0 % 100 = y := ⟨_, rfl⟩
  have y1 : 0 ≤ y := by omega
  have y2 : y ≤ 99 := by omega
  have HY := Lib.hid hy
  clear hy
  have HB := Lib.hid (Below.refl w.heap.size w)
  go_enter Try.func6, Try.ntmps6
  go_wp2_with (first | (go_at_call 7; (with_reducible refine (within_at _ _ _ _ (by omega) (by omega) HY).mono ?_); rintro e w' ⟨rfl, rfl⟩) | (go_at_call 10; (with_reducible refine (pfirst_yes _ _ (by omega) (by omega)).mono ?_); rintro e w' ⟨rfl, rfl⟩))
  go_loopg [4] 4 (fun gh i wr => ∃ k : Nat, k ≤ 4 ∧ gh = 4 - k ∧ i = .int .i64 k ∧ Below w.heap.size w wr)
  case atStart => exact ⟨0, Nat.zero_le _, rfl, rfl, HB.out⟩
  case round =>
    obtain ⟨k, hk, hgk, rfl, hbw⟩ := hrel
    have HGK := Lib.hid hgk
    have HB := Lib.hid hbw
    clear hgk hbw
    by_cases hlt : k < 4
    · have e1 : (y * 4 + (k : Int)) / 4 = y := by omega
      have e2 : (y * 4 + (k : Int)) % 4 = k := by omega
      obtain ⟨x1, x2⟩ := ptb_ends (y * 4 + k)
      obtain ⟨P, hP⟩ : ∃ P, P = ptb (y * 4 + k) := ⟨_, rfl⟩
      have hs : P.size = 6 := by rw [hP, ptb_size]
      rw [← hP] at x1 x2
      obtain ⟨Q, hQ⟩ : ∃ Q : ByteArray, Q = [ByteArray.mk #[113, 49], ByteArray.mk #[113, 50], ByteArray.mk #[113, 51], ByteArray.mk #[113, 52]].getD k ⟨#[]⟩ := ⟨_, rfl⟩
      have x3 : ((P.extract 4 6).toList == Q.toList) = true := by
        rw [x2, e2, hQ]
        rcases (show k = 0 ∨ k = 1 ∨ k = 2 ∨ k = 3 by omega) with rfl | rfl | rfl | rfl <;> simp [ByteArray.toList_eq]
      have x4 : ((P.extract 0 2).toList == [50, 48]) = true := by rw [x1]; rfl
      clear x1 x2 e2
      have n1 : ((y * 4 + (k : Int)) / 4 != y) = false := by rw [e1]; simp
      clear e1
      have HP := Lib.hid hP
      clear hP
      have tx : ∀ w', Calls Try.prog 8 #[.int .i64 (y * 4 + k)] w' fun e w2 => e = .returned (.string P) ∧ Below w'.heap.size w' w2 := fun w' => by rw [HP.out]; exact ptext_yes _ _ (by omega) (by omega)
      have TX := Lib.hid tx
      clear tx
      go_wp2_with fail
      refine (TX.out _).mono ?_; rintro e w2 ⟨rfl, hb2⟩
      have HB2 := Lib.hid (HB.out.trans (hb2.mono HB.out.size))
      have HB3 := Lib.hid (HB2.out.alloc HB2.out.size (.cells #[.string ⟨#[113, 49]⟩, .string ⟨#[113, 50]⟩, .string ⟨#[113, 51]⟩, .string ⟨#[113, 52]⟩] 9))
      clear hb2 HB
      have hc : (w2.alloc (.cells #[.string ⟨#[113, 49]⟩, .string ⟨#[113, 50]⟩, .string ⟨#[113, 51]⟩, .string ⟨#[113, 52]⟩] 9)).cell? ⟨w2.heap.size, k, none⟩ = some (.string Q) := by
        rw [cell_of_row _ w2.heap.size k _ 9 (0, 0) (heap_alloc_new w2 _), hQ]
        rcases (show k = 0 ∨ k = 1 ∨ k = 2 ∨ k = 3 by omega) with rfl | rfl | rfl | rfl <;> rfl
      have HQ := Lib.hid hQ
      clear hQ
      have hk4 : (k : Int) < 4 := by omega
      have r1 : 0 ≤ y * 4 + (k : Int) := by omega
      have r2 : y * 4 + (k : Int) ≤ 399 := by omega
      have hwr : IntKind.i64.wrap (y * 4 + (k : Int)) = y * 4 + k := IntWalk.i64_in _ (by omega)
      go_wp2
      rw [show Op.load 9 (Operand.tmp 46) = id (Op.load 9 (Operand.tmp 46)) from rfl]
      have hid : id (Op.load 9 (Operand.tmp 46)) = Op.load 9 (Operand.tmp 46) := rfl
      go_region_held3 (fun _ => True) (trivial) (first | (go_at_call 12; (with_reducible refine (pright_yes _ _ r1 r2).mono ?_); rintro e w' ⟨rfl, rfl⟩) | (go_at_call 9; (with_reducible refine (pyear_yes _ _ r1 r2).mono ?_); rintro e w' ⟨rfl, rfl⟩))
      go_wp2
      go_roundg (4 - (k + 1))
      case measure => have := HGK.out; omega
      case rel => exact ⟨k + 1, by omega, rfl, by go_num, HB3.out.drew⟩
    · obtain rfl : k = 4 := by omega
      clear hlt hk HGK
      by_cases h0 : y = 0
      · subst h0
        go_wp2_with (first | (go_at_call 9; (with_reducible refine (pyear_no _ _ (by omega)).mono ?_); rintro e w' ⟨rfl, rfl⟩) | (go_at_call 10; (with_reducible refine (pfirst_no _ _ (by omega)).mono ?_); rintro e w' ⟨rfl, rfl⟩) | (go_at_call 11; refine (wakes3_any _).mono ?_; rintro e w3 ⟨rfl, hb3⟩; replace HB := Lib.hid (HB.out.trans (hb3.mono HB.out.size)); clear hb3))
        go_ret
        exact ⟨ret_b (by first | rfl | simp), HB.out⟩
      · have y3 : 1 ≤ y := by omega
        have e1 : ((y * 4 - 1) / 4 == y - 1) = true := by simp; omega
        clear h0
        go_wp2_with (first | (go_at_call 9; (with_reducible refine (pyear_yes _ _ (by omega) (by omega)).mono ?_); rintro e w' ⟨rfl, rfl⟩) | (go_at_call 9; (with_reducible refine (pyear_no _ _ (by omega)).mono ?_); rintro e w' ⟨rfl, rfl⟩) | (go_at_call 10; (with_reducible refine (pfirst_no _ _ (by omega)).mono ?_); rintro e w' ⟨rfl, rfl⟩) | (go_at_call 11; refine (wakes3_any _).mono ?_; rintro e w3 ⟨rfl, hb3⟩; replace HB := Lib.hid (HB.out.trans (hb3.mono HB.out.size)); clear hb3))
        go_ret
        exact ⟨ret_b (by first | rfl | simp), HB.out⟩
end Go.Proofs.Ytecknkbjgleocaa
