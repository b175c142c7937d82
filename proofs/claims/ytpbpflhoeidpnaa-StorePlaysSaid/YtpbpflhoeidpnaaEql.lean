/- Lines held against lines, by slices.Equal and by the document's Same: a contract for each. -/
import Derived.Test.YtpbpflhoeidpnaaJrn
import Derived.Test.YtpbpflhoeidpnaaJour4
import Derived.WalkKit
import Derived.WalkSpells
import Derived.WalkLawsBesides
import Derived.Lib.Hide
import Derived.Deep.QuietTactic
import Derived.BigQuiet
import Derived.Laws.StructEq
namespace Go.Proofs.Ytpbpflhoeidpnaa
open Go.RowKit

/-- the same lines -/
def SameL (n n' : Nat) (ga gm ga' gm' : Nat → Int) : Prop := n = n' ∧ ∀ j, j < n → ga j = ga' j ∧ gm j = gm' j
set_option maxHeartbeats 4000000 in
set_option maxRecDepth 100000 in
theorem eql_true (A A' : Option Addr) (n c c' : Nat) (ga gm ga' gm' : Nat → Int) (w : World) (h : AtL w A n ga gm) (h' : AtL w A' n ga' gm') (hn : n ≤ 1000000) (e : ∀ j, j < n → ga j = ga' j ∧ gm j = gm' j) :
    Calls Try.prog 72 #[.slice A n c, .slice A' n c'] w fun e w' => e = .returned (.bool true) ∧ Below w.heap.size w w' := by
  rcases Nat.eq_zero_or_pos n with h0 | h0
  · subst h0
    clear h h' e
    go_enter Try.func72, Try.ntmps72
    go_wp2
    refine wp_loop_rounds 1 ?_; rw [rounds_succ]
    go_wp2
    go_ret
    exact ⟨rfl, Below.refl _ _⟩
  · obtain ⟨b, off, rfl, hb, hc⟩ := h.some h0
    obtain ⟨b', off', rfl, hb', hc'⟩ := h'.some h0
    have HC := Lib.hid hc
    have HC' := Lib.hid hc'
    have HE := Lib.hid e
    clear hc hc' e h h'
    go_enter Try.func72, Try.ntmps72
    go_wp2
    go_loopw [13] (fun i wr => ∃ k : Nat, k ≤ n ∧ i = .int .i64 k ∧ Below w.heap.size w wr) (fun i _ => n - (intOf i).toNat)
    case atStart => exact ⟨0, Nat.zero_le _, rfl, Below.refl _ _⟩
    case round =>
      obtain ⟨k, hk, rfl, hbw⟩ := hrel
      by_cases hlt : k < n
      · have ck : wr.cell? ⟨b, off + k * 2, none⟩ = some (.int .i64 (ga' k)) := by rw [← (HE.out k hlt).1]; exact (hbw.cell (p := ⟨b, off + k * 2, none⟩) hb).trans (HC.out k hlt).1
        have dk : wr.cell? ⟨b, off + k * 2 + 1, none⟩ = some (.int .i64 (gm' k)) := by rw [← (HE.out k hlt).2]; exact (hbw.cell (p := ⟨b, off + k * 2 + 1, none⟩) hb).trans (HC.out k hlt).2
        have ck' : wr.cell? ⟨b', off' + k * 2, none⟩ = some (.int .i64 (ga' k)) := (hbw.cell (p := ⟨b', off' + k * 2, none⟩) hb').trans (HC'.out k hlt).1
        have dk' : wr.cell? ⟨b', off' + k * 2 + 1, none⟩ = some (.int .i64 (gm' k)) := (hbw.cell (p := ⟨b', off' + k * 2 + 1, none⟩) hb').trans (HC'.out k hlt).2
        go_wp2
        go_quiet (fail)
        go_wp2
        go_roundw
        case rel => exact ⟨k + 1, by omega, by go_num, below_drewN hbw _⟩
        case measure => simp [intOf]; omega
      · obtain rfl : k = n := by omega
        go_wp2
        go_ret
        exact ⟨rfl, hbw⟩
theorem eql_len (A A' : Option Addr) (n n' c c' : Nat) (w : World) (hn : n ≠ n') :
    Calls Try.prog 72 #[.slice A n c, .slice A' n' c'] w fun e w' => e = .returned (.bool false) ∧ Below w.heap.size w w' := by
  have h1 : ((n : Int) == (n' : Int)) = false := by simp; omega
  clear hn
  go_enter Try.func72, Try.ntmps72
  go_wp2
  go_ret
  exact ⟨rfl, Below.refl _ _⟩
set_option maxHeartbeats 4000000 in
set_option maxRecDepth 100000 in
theorem eql_diff (A A' : Option Addr) (n c c' i : Nat) (ga gm ga' gm' : Nat → Int) (w : World) (h : AtL w A n ga gm) (h' : AtL w A' n ga' gm') (hn : n ≤ 1000000) (hi : i < n) (e : ∀ j, j < i → ga j = ga' j ∧ gm j = gm' j) (d : ¬ (ga i = ga' i ∧ gm i = gm' i)) :
    Calls Try.prog 72 #[.slice A n c, .slice A' n c'] w fun e w' => e = .returned (.bool false) ∧ Below w.heap.size w w' := by
  obtain ⟨b, off, rfl, hb, hc⟩ := h.some (by omega)
  obtain ⟨b', off', rfl, hb', hc'⟩ := h'.some (by omega)
  have HC := Lib.hid hc
  have HC' := Lib.hid hc'
  have HE := Lib.hid e
  have HD : Hid (ga i ≠ ga' i ∨ (ga i = ga' i ∧ gm i ≠ gm' i)) := Lib.hid (by
    by_cases q : ga i = ga' i
    · exact .inr ⟨q, fun r => d ⟨q, r⟩⟩
    · exact .inl q)
  clear hc hc' e h h' d
  go_enter Try.func72, Try.ntmps72
  go_wp2
  go_loopw [13] (fun s wr => ∃ k : Nat, k ≤ i ∧ s = .int .i64 k ∧ Below w.heap.size w wr) (fun s _ => n - (intOf s).toNat)
  case atStart => exact ⟨0, Nat.zero_le _, rfl, Below.refl _ _⟩
  case round =>
    obtain ⟨k, hk, rfl, hbw⟩ := hrel
    have hlt : k < n := by omega
    have dk : wr.cell? ⟨b, off + k * 2 + 1, none⟩ = some (.int .i64 (gm k)) := (hbw.cell (p := ⟨b, off + k * 2 + 1, none⟩) hb).trans (HC.out k hlt).2
    have ck : wr.cell? ⟨b, off + k * 2, none⟩ = some (.int .i64 (ga k)) := (hbw.cell (p := ⟨b, off + k * 2, none⟩) hb).trans (HC.out k hlt).1
    have ck' : wr.cell? ⟨b', off' + k * 2, none⟩ = some (.int .i64 (ga' k)) := (hbw.cell (p := ⟨b', off' + k * 2, none⟩) hb').trans (HC'.out k hlt).1
    have dk' : wr.cell? ⟨b', off' + k * 2 + 1, none⟩ = some (.int .i64 (gm' k)) := (hbw.cell (p := ⟨b', off' + k * 2 + 1, none⟩) hb').trans (HC'.out k hlt).2
    by_cases hki : k < i
    · rw [(HE.out k hki).1] at ck
      rw [(HE.out k hki).2] at dk
      go_wp2
      go_quiet (fail)
      go_wp2
      go_roundw
      case rel => exact ⟨k + 1, by omega, by go_num, below_drewN hbw _⟩
      case measure => simp [intOf]; omega
    · obtain rfl : k = i := by omega
      clear hki hk
      rcases HD.out with q | ⟨q1, q2⟩
      · have q1 : (ga k == ga' k) = false := by simpa using q
        clear q
        go_wp2
        go_quiet (fail)
        go_wp2
        go_ret
        exact ⟨rfl, below_drewN hbw _⟩
      · rw [q1] at ck
        have q1 : (gm k == gm' k) = false := by simpa using q2
        clear q2
        go_wp2
        go_quiet (fail)
        go_wp2
        go_ret
        exact ⟨rfl, below_drewN hbw _⟩
theorem eql_yes (A A' : Option Addr) (n n' c c' : Nat) (ga gm ga' gm' : Nat → Int) (w : World) (h : AtL w A n ga gm) (h' : AtL w A' n' ga' gm') (hn : n ≤ 1000000) (H : Hid (SameL n n' ga gm ga' gm')) :
    Calls Try.prog 72 #[.slice A n c, .slice A' n' c'] w fun e w' => e = .returned (.bool true) ∧ Below w.heap.size w w' := by
  obtain ⟨rfl, e⟩ := H.out
  exact eql_true A A' n c c' ga gm ga' gm' w h h' hn e
theorem eql_no (A A' : Option Addr) (n n' c c' : Nat) (ga gm ga' gm' : Nat → Int) (w : World) (h : AtL w A n ga gm) (h' : AtL w A' n' ga' gm') (hn : n ≤ 1000000) (H : Hid (¬ SameL n n' ga gm ga' gm')) :
    Calls Try.prog 72 #[.slice A n c, .slice A' n' c'] w fun e w' => e = .returned (.bool false) ∧ Below w.heap.size w w' := by
  by_cases q : n = n'
  · subst q
    obtain ⟨i, a, b, d⟩ := first_bad (P := fun j => ga j = ga' j ∧ gm j = gm' j) (n := n) fun r => H.out ⟨rfl, r⟩
    exact eql_diff A A' n c c' i ga gm ga' gm' w h h' hn a b d
  · exact eql_len A A' n n' c c' w q
set_option maxHeartbeats 4000000 in
set_option maxRecDepth 100000 in
theorem rsame_true (A A' : Option Addr) (n c c' : Nat) (ga gm ga' gm' : Nat → Int) (w : World) (h : AtL w A n ga gm) (h' : AtL w A' n ga' gm') (hn : n ≤ 1000000) (e : ∀ j, j < n → ga j = ga' j ∧ gm j = gm' j) :
    Calls Try.prog 54 #[.slice A n c, .slice A' n c'] w fun e w' => e = .returned (.bool true) ∧ Below w.heap.size w w' := by
  rcases Nat.eq_zero_or_pos n with h0 | h0
  · subst h0
    clear h h' e
    go_enter Try.func54, Try.ntmps54
    go_wp2
    refine wp_loop_rounds 1 ?_; rw [rounds_succ]
    go_wp2
    go_ret
    exact ⟨rfl, Below.refl _ _⟩
  · obtain ⟨b, off, rfl, hb, hc⟩ := h.some h0
    obtain ⟨b', off', rfl, hb', hc'⟩ := h'.some h0
    have HC := Lib.hid hc
    have HC' := Lib.hid hc'
    have HE := Lib.hid e
    clear hc hc' e h h'
    go_enter Try.func54, Try.ntmps54
    go_wp2
    go_loopw [13] (fun i wr => ∃ k : Nat, k ≤ n ∧ i = .int .i64 k ∧ Below w.heap.size w wr) (fun i _ => n - (intOf i).toNat)
    case atStart => exact ⟨0, Nat.zero_le _, rfl, Below.refl _ _⟩
    case round =>
      obtain ⟨k, hk, rfl, hbw⟩ := hrel
      by_cases hlt : k < n
      · have ck : wr.cell? ⟨b, off + k * 2, none⟩ = some (.int .i64 (ga' k)) := by rw [← (HE.out k hlt).1]; exact (hbw.cell (p := ⟨b, off + k * 2, none⟩) hb).trans (HC.out k hlt).1
        have dk : wr.cell? ⟨b, off + k * 2 + 1, none⟩ = some (.int .i64 (gm' k)) := by rw [← (HE.out k hlt).2]; exact (hbw.cell (p := ⟨b, off + k * 2 + 1, none⟩) hb).trans (HC.out k hlt).2
        have ck' : wr.cell? ⟨b', off' + k * 2, none⟩ = some (.int .i64 (ga' k)) := (hbw.cell (p := ⟨b', off' + k * 2, none⟩) hb').trans (HC'.out k hlt).1
        have dk' : wr.cell? ⟨b', off' + k * 2 + 1, none⟩ = some (.int .i64 (gm' k)) := (hbw.cell (p := ⟨b', off' + k * 2 + 1, none⟩) hb').trans (HC'.out k hlt).2
        go_wp2
        go_quiet (fail)
        go_wp2
        go_roundw
        case rel => exact ⟨k + 1, by omega, by go_num, below_drewN hbw _⟩
        case measure => simp [intOf]; omega
      · obtain rfl : k = n := by omega
        go_wp2
        go_ret
        exact ⟨rfl, hbw⟩
theorem rsame_len (A A' : Option Addr) (n n' c c' : Nat) (w : World) (hn : n ≠ n') :
    Calls Try.prog 54 #[.slice A n c, .slice A' n' c'] w fun e w' => e = .returned (.bool false) ∧ Below w.heap.size w w' := by
  have h1 : ((n : Int) == (n' : Int)) = false := by simp; omega
  clear hn
  go_enter Try.func54, Try.ntmps54
  go_wp2
  go_ret
  exact ⟨rfl, Below.refl _ _⟩
set_option maxHeartbeats 4000000 in
set_option maxRecDepth 100000 in
theorem rsame_diff (A A' : Option Addr) (n c c' i : Nat) (ga gm ga' gm' : Nat → Int) (w : World) (h : AtL w A n ga gm) (h' : AtL w A' n ga' gm') (hn : n ≤ 1000000) (hi : i < n) (e : ∀ j, j < i → ga j = ga' j ∧ gm j = gm' j) (d : ¬ (ga i = ga' i ∧ gm i = gm' i)) :
    Calls Try.prog 54 #[.slice A n c, .slice A' n c'] w fun e w' => e = .returned (.bool false) ∧ Below w.heap.size w w' := by
  obtain ⟨b, off, rfl, hb, hc⟩ := h.some (by omega)
  obtain ⟨b', off', rfl, hb', hc'⟩ := h'.some (by omega)
  have HC := Lib.hid hc
  have HC' := Lib.hid hc'
  have HE := Lib.hid e
  have HD : Hid (ga i ≠ ga' i ∨ (ga i = ga' i ∧ gm i ≠ gm' i)) := Lib.hid (by
    by_cases q : ga i = ga' i
    · exact .inr ⟨q, fun r => d ⟨q, r⟩⟩
    · exact .inl q)
  clear hc hc' e h h' d
  go_enter Try.func54, Try.ntmps54
  go_wp2
  go_loopw [13] (fun s wr => ∃ k : Nat, k ≤ i ∧ s = .int .i64 k ∧ Below w.heap.size w wr) (fun s _ => n - (intOf s).toNat)
  case atStart => exact ⟨0, Nat.zero_le _, rfl, Below.refl _ _⟩
  case round =>
    obtain ⟨k, hk, rfl, hbw⟩ := hrel
    have hlt : k < n := by omega
    have dk : wr.cell? ⟨b, off + k * 2 + 1, none⟩ = some (.int .i64 (gm k)) := (hbw.cell (p := ⟨b, off + k * 2 + 1, none⟩) hb).trans (HC.out k hlt).2
    have ck : wr.cell? ⟨b, off + k * 2, none⟩ = some (.int .i64 (ga k)) := (hbw.cell (p := ⟨b, off + k * 2, none⟩) hb).trans (HC.out k hlt).1
    have ck' : wr.cell? ⟨b', off' + k * 2, none⟩ = some (.int .i64 (ga' k)) := (hbw.cell (p := ⟨b', off' + k * 2, none⟩) hb').trans (HC'.out k hlt).1
    have dk' : wr.cell? ⟨b', off' + k * 2 + 1, none⟩ = some (.int .i64 (gm' k)) := (hbw.cell (p := ⟨b', off' + k * 2 + 1, none⟩) hb').trans (HC'.out k hlt).2
    by_cases hki : k < i
    · rw [(HE.out k hki).1] at ck
      rw [(HE.out k hki).2] at dk
      go_wp2
      go_quiet (fail)
      go_wp2
      go_roundw
      case rel => exact ⟨k + 1, by omega, by go_num, below_drewN hbw _⟩
      case measure => simp [intOf]; omega
    · obtain rfl : k = i := by omega
      clear hki hk
      rcases HD.out with q | ⟨q1, q2⟩
      · have q1 : (ga k == ga' k) = false := by simpa using q
        clear q
        go_wp2
        go_quiet (fail)
        go_wp2
        go_ret
        exact ⟨rfl, below_drewN hbw _⟩
      · rw [q1] at ck
        have q1 : (gm k == gm' k) = false := by simpa using q2
        clear q2
        go_wp2
        go_quiet (fail)
        go_wp2
        go_ret
        exact ⟨rfl, below_drewN hbw _⟩
theorem rsame_yes (A A' : Option Addr) (n n' c c' : Nat) (ga gm ga' gm' : Nat → Int) (w : World) (h : AtL w A n ga gm) (h' : AtL w A' n' ga' gm') (hn : n ≤ 1000000) (H : Hid (SameL n n' ga gm ga' gm')) :
    Calls Try.prog 54 #[.slice A n c, .slice A' n' c'] w fun e w' => e = .returned (.bool true) ∧ Below w.heap.size w w' := by
  obtain ⟨rfl, e⟩ := H.out
  exact rsame_true A A' n c c' ga gm ga' gm' w h h' hn e
theorem rsame_no (A A' : Option Addr) (n n' c c' : Nat) (ga gm ga' gm' : Nat → Int) (w : World) (h : AtL w A n ga gm) (h' : AtL w A' n' ga' gm') (hn : n ≤ 1000000) (H : Hid (¬ SameL n n' ga gm ga' gm')) :
    Calls Try.prog 54 #[.slice A n c, .slice A' n' c'] w fun e w' => e = .returned (.bool false) ∧ Below w.heap.size w w' := by
  by_cases q : n = n'
  · subst q
    obtain ⟨i, a, b, d⟩ := first_bad (P := fun j => ga j = ga' j ∧ gm j = gm' j) (n := n) fun r => H.out ⟨rfl, r⟩
    exact rsame_diff A A' n c c' i ga gm ga' gm' w h h' hn a b d
  · exact rsame_len A A' n n' c c' w q
end Go.Proofs.Ytpbpflhoeidpnaa
