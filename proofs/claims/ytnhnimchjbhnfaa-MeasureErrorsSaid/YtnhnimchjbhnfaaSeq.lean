/- Two lists of whole numbers are held against each other: a contract. -/
import Derived.Test.YtnhnimchjbhnfaaInts
import Derived.WalkKit
import Derived.WalkSpells
import Derived.WalkLawsBesides
import Derived.Lib.Hide
import Derived.Deep.QuietTactic
import Derived.BigQuiet
namespace Go.Proofs.Ytnhnimchjbhnfaa
open Go.RowKit

theorem below_drawn {B : Nat} {a w : World} (h : Below B a w) (n : Nat) : Below B a (w.drewN n) := below_drewN h n
theorem same_true (A A' : Option Addr) (n c c' : Nat) (g g' : Nat → Int) (w : World) (h : At w A n g) (h' : At w A' n g') (hn : n ≤ 1000000) (e : ∀ j, j < n → g j = g' j) :
    Calls Try.prog 12 #[.slice A n c, .slice A' n c'] w fun e w' => e = .returned (.bool true) ∧ Below w.heap.size w w' := by
  rcases Nat.eq_zero_or_pos n with h0 | h0
  · subst h0
    clear h h' e
    go_enter Try.func12, Try.ntmps12
    go_wp2
    refine wp_loop_rounds 1 ?_; rw [rounds_succ]
    go_wp2
    go_ret
    exact ⟨rfl, Below.refl _ _⟩
  · obtain ⟨b, off, rfl, hb, hc⟩ := h.some h0
    obtain ⟨b', off', rfl, hb', hc'⟩ := h'.some h0
    have HC := Lib.hid hc
    have HC' := Lib.hid hc'
    have HE := Lib.hid e
    clear hc hc' e h h'
    go_enter Try.func12, Try.ntmps12
    go_wp2
    go_loopw [5] (fun i wr => ∃ k : Nat, k ≤ n ∧ i = .int .i64 k ∧ Below w.heap.size w wr) (fun i _ => n - (intOf i).toNat)
    case atStart => exact ⟨0, Nat.zero_le _, rfl, Below.refl _ _⟩
    case round =>
      obtain ⟨k, hk, rfl, hbw⟩ := hrel
      by_cases hlt : k < n
      · have ck : wr.cell? ⟨b, off + k, none⟩ = some (.int .i64 (g' k)) := by rw [← HE.out k hlt]; exact (hbw.cell (p := ⟨b, off + k, none⟩) hb).trans (HC.out k hlt)
        have ck' : wr.cell? ⟨b', off' + k, none⟩ = some (.int .i64 (g' k)) := (hbw.cell (p := ⟨b', off' + k, none⟩) hb').trans (HC'.out k hlt)
        go_wp2
        go_quiet (fail)
        go_wp2
        go_roundw
        case rel => exact ⟨k + 1, by omega, by go_num, below_drawn hbw _⟩
        case measure => simp [intOf]; omega
      · obtain rfl : k = n := by omega
        go_wp2
        go_ret
        exact ⟨rfl, hbw⟩
end Go.Proofs.Ytnhnimchjbhnfaa
