/- Package rate's Sum: a contract, for lists of up to a million numbers. -/
import Derived.Test.YtolmdoigcaaieaaSums
import Derived.WalkKit
import Derived.WalkSpells
import Derived.WalkLawsBesides
import Derived.Lib.Hide
import Derived.Laws.Externs
import Derived.Deep.QuietTactic
import Derived.BigQuiet
namespace Go.Proofs.Ytolmdoigcaaieaa
open Go.RowKit

set_option maxHeartbeats 1000000 in
theorem sum_none (A : Option Addr) (c : Nat) (w : World) :
    Calls Try.prog 21 #[.slice A 0 c] w fun e w' => e = .returned (.tuple #[.int .i64 0, .bool true]) ∧ Below w.heap.size w w' := by
  have H0 : Hid (hiOf 0 = 0 ∧ loOf 0 = 0) := Lib.hid (by decide)
  have ct : ∀ w, Calls Try.prog 35 #[.agg #[.int .u64 0, .int .u64 0]] w fun e w' => e = .returned (.tuple #[.int .i64 0, .bool true]) ∧ Below w.heap.size w w' := fun w => by
    have := total_yes 0 w (by omega) (by omega)
    rwa [H0.out.1, H0.out.2] at this
  have CT := Lib.hid ct; clear ct
  go_enter Try.func21, Try.ntmps21
  go_wp2
  refine wp_loop_rounds 1 ?_; rw [rounds_succ]
  go_wp2_with (go_at_call 35; refine (CT.out _).mono ?_; rintro e w1 ⟨rfl, hb⟩)
  go_ret2
  exact ⟨rfl, ((Below.refl _ _).alloc (Nat.le_refl _) _).trans (hb.mono (by simp))⟩

/-- at the head of a round: k numbers are summed, all amounts; their total stands in block s, in two halves -/
def SumAt (w : World) (s : Nat) (g : Nat → Int) (k : Nat) (wr : World) : Prop :=
  (∀ j, j < k → Mon (g j)) ∧ s < wr.heap.size ∧ wr.cell? ⟨s, 0, none⟩ = some (.int .u64 (hiOf (tot g k))) ∧ wr.cell? ⟨s, 1, none⟩ = some (.int .u64 (loOf (tot g k))) ∧
    wr.frozen? ⟨s, 0, none⟩ = false ∧ wr.frozen? ⟨s, 1, none⟩ = false ∧ Below s w wr
theorem SumAt.next {w w1 wr : World} {s k : Nat} {g : Nat → Int} {u v : Value} (hM : ∀ j, j < k → Mon (g j)) (hm : Mon (g k)) (hs : s < wr.heap.size) (hb1 : Below wr.heap.size wr w1)
    (d0 : w1.cell? ⟨s, 0, none⟩ = some u) (d1 : w1.cell? ⟨s, 1, none⟩ = some v) (d2 : w1.frozen? ⟨s, 0, none⟩ = false) (d3 : w1.frozen? ⟨s, 1, none⟩ = false) (hbw : Below s w wr) :
    SumAt w s g (k + 1) ((w1.setCell ⟨s, 0, none⟩ (.int .u64 (hiOf (tot g k + g k)))).setCell ⟨s, 1, none⟩ (.int .u64 (loOf (tot g k + g k)))) := by
  have d1' : (w1.setCell ⟨s, 0, none⟩ (.int .u64 (hiOf (tot g k + g k)))).cell? ⟨s, 1, none⟩ = some v := by
    rw [World.cell?_setCell_other _ _ _ _ (by simp)]; exact d1
  refine ⟨fun j hj => ?_, ?_, ?_, ?_, ?_, ?_, ?_⟩
  · rcases Nat.lt_or_ge j k with h | h
    · exact hM j h
    · rw [show j = k by omega]; exact hm
  · have := hb1.size; simp; omega
  · rw [World.cell?_setCell_other _ _ _ _ (by simp)]
    exact World.cell?_setCell_same _ _ _ d0
  · exact World.cell?_setCell_same _ _ _ d1'
  · simpa using d2
  · simpa using d3
  · exact ((hbw.trans (hb1.mono (by omega))).setCell (Nat.le_refl _) _).setCell (Nat.le_refl _) _
set_option maxHeartbeats 2000000 in
theorem sum_some (b off n c : Nat) (g : Nat → Int) (r : Int) (ok : Bool) (w : World) (hb : b < w.heap.size)
    (HC : Hid (∀ j, j < n → w.cell? ⟨b, off + j, none⟩ = some (.int .i64 (g j)))) (hn : n ≤ 1000000) (hnc : n ≤ c) (HR : Hid (SumIs g n r ok)) :
    Calls Try.prog 21 #[.slice (some ⟨b, off, none⟩) n c] w fun e w' => e = .returned (.tuple #[.int .i64 r, .bool ok]) ∧ Below w.heap.size w w' := by
  have H0 : Hid (hiOf 0 = 0 ∧ loOf 0 = 0) := Lib.hid (by decide)
  go_enter Try.func21, Try.ntmps21
  go_wp2
  go_loopw [9] (fun i wr => ∃ k : Nat, k ≤ n ∧ i = .int .i64 k ∧ SumAt w w.heap.size g k wr) (fun i _ => n - (intOf i).toNat)
  case atStart => exact ⟨0, Nat.zero_le _, rfl, fun j hj => by omega, by simp, by simp [tot, H0.out.1], by simp [tot, H0.out.2], by simp, by simp, (Below.refl _ _).alloc (Nat.le_refl _) _⟩
  case round =>
    obtain ⟨k, hk, rfl, hM, hs, c0, c1, f0, f1, hbw⟩ := hrel
    obtain ⟨tb1, tb2⟩ := tot_bd g k hM
    have HM := Lib.hid hM; clear hM
    by_cases hlt : k < n
    · have ck : wr.cell? ⟨b, off + k, none⟩ = some (.int .i64 (g k)) := (hbw.cell (p := ⟨b, off + k, none⟩) hb).trans (HC.out k hlt)
      by_cases hm : Mon (g k)
      · obtain ⟨m1, m2⟩ := hm
        go_wp2_with (first | (go_at_call 28; (with_reducible refine (money_yes _ _ m1 m2).mono ?_); rintro e w' ⟨rfl, rfl⟩) | (go_at_call 34; (with_reducible refine (plus_any _ _ _ (by omega) (by omega) (by omega) (by omega)).mono ?_); rintro e w1 ⟨rfl, hb1⟩; obtain ⟨hbc, hbf⟩ := bcell hb1; have d0 := (hbc w.heap.size 0 hs).trans c0; have d1 := (hbc w.heap.size 1 hs).trans c1; have d2 := (hbf w.heap.size 0 hs).trans f0; have d3 := (hbf w.heap.size 1 hs).trans f1; clear hbc hbf))
        have hm : Mon (g k) := ⟨m1, m2⟩
        go_roundw
        case rel => exact ⟨k + 1, by omega, by go_num, SumAt.next HM.out hm hs hb1 d0 d1 d2 d3 hbw⟩
        case measure => simp [intOf]; omega
      · have m1 : g k < -100000000000 ∨ 100000000000 < g k := by unfold Mon at hm; omega
        obtain ⟨e1, e2⟩ := HR.out.bad hlt hm
        have E1 := Lib.hid e1
        have E2 := Lib.hid e2
        clear e1 e2 hm
        go_wp2_with (first | (go_at_call 28; (with_reducible refine (money_no _ _ m1).mono ?_); rintro e w' ⟨rfl, rfl⟩))
        go_ret2
        exact ⟨ret_ib E2.out.symm E1.out.symm, hbw⟩
    · obtain rfl : k = n := by omega
      clear hlt
      by_cases hm : Mon (tot g k)
      · obtain ⟨e1, e2⟩ := HR.out.good HM.out hm
        have E1 := Lib.hid e1
        have E2 := Lib.hid e2
        obtain ⟨m1, m2⟩ := hm
        clear e1 e2
        go_wp2_with (go_at_call 35; (with_reducible refine (total_yes _ _ m1 m2).mono ?_); rintro e w1 ⟨rfl, hb1⟩)
        go_ret2
        exact ⟨ret_ib E2.out.symm E1.out.symm, hbw.trans (hb1.mono (by omega))⟩
      · obtain ⟨e1, e2⟩ := HR.out.big hm
        have E1 := Lib.hid e1
        have E2 := Lib.hid e2
        have m1 : tot g k < -100000000000 ∨ 100000000000 < tot g k := by unfold Mon at hm; omega
        clear e1 e2 hm
        go_wp2_with (go_at_call 35; (with_reducible refine (total_no _ _ (by omega) (by omega) m1).mono ?_); rintro e w1 ⟨rfl, hb1⟩)
        go_ret2
        exact ⟨ret_ib E2.out.symm E1.out.symm, hbw.trans (hb1.mono (by omega))⟩
end Go.Proofs.Ytolmdoigcaaieaa
