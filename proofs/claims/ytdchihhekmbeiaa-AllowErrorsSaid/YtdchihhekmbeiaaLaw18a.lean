/- Law 18: the document's example; AllowParts, AllowRises, AllowErrors: their walks. -/
import Derived.Test.YtdchihhekmbeiaaAl
import Derived.WalkKit
import Derived.WalkSpells
import Derived.WalkLawsBesides
import Derived.Lib.Hide
import Derived.IntWalk
namespace Go.Proofs.Ytdchihhekmbeiaa
open Go.RowKit

theorem pchg_at (a b d : Int) (w : World) (H : Hid (a - b = d)) (h : -1000000000000 ≤ d ∧ d ≤ 1000000000000) :
    Calls Try.prog 9 #[.int .i64 a, .int .i64 b] w fun e w' => e = .returned (.int .i64 d) ∧ w = w' := by
  have e := H.out
  subst e
  exact pchg_any a b w h
theorem wakes18_any (w : World) : Calls Try.prog 10 #[] w fun e w' => e = .returned (.bool true) ∧ w = w' := by
  have H1 := Lib.hid (show AlwIs 100 400000 (-40) 0 from .inr ⟨⟨by omega, by unfold RtOk; omega⟩, by decide, rfl⟩)
  have H2 := Lib.hid (show (-40 : Int) - -60 = 20 from rfl)
  go_enter Try.func10, Try.ntmps10
  go_wp2_with (first | (go_at_call 8; (with_reducible refine (palw_any _ _ _ _ H1.out _).mono ?_); rintro e w' ⟨rfl, rfl⟩) | (go_at_call 9; (with_reducible refine (pchg_at _ _ _ _ H2 (by omega)).mono ?_); rintro e w' ⟨rfl, rfl⟩))
  go_ret
  exact ⟨rfl, rfl⟩
set_option maxHeartbeats 4000000 in
theorem allowParts_walk (a0 a1 : Int) (w : World) :
    Calls Try.prog 5 #[.int .i64 a0, .int .i64 a1] w fun e w' => e = .returned (.bool true) ∧ w = w' := by
  have W := Lib.hid fun w => wakes18_any w
  obtain ⟨n, hn⟩ : ∃ n, a0 % 100000000001 = n := ⟨_, rfl⟩
  obtain ⟨r, hr⟩ : ∃ r, a1 % 1000001 = r := ⟨_, rfl⟩
  have bn : 0 ≤ n ∧ n ≤ 100000000000 := by omega
  have br : 0 ≤ r ∧ r ≤ 1000000 := by omega
  have E1 := Lib.hid hn
  have E2 := Lib.hid hr
  obtain ⟨⟨p1, p2⟩, p3⟩ := rof_rest bn.1 br
  obtain ⟨q, hq⟩ : ∃ q, 1000000 - r = q := ⟨_, rfl⟩
  have bq : 0 ≤ q ∧ q ≤ 1000000 := by omega
  obtain ⟨⟨p4, p5⟩, _⟩ := rof_rest bn.1 bq
  rw [hq] at p3
  have A1 := alw_yes bn br
  have A2 := alw_yes (r := 1000000) bn (by omega)
  have A3 := alw_yes (r := 0) bn (by omega)
  have A4 := alw_yes bn bq
  obtain ⟨x, hx⟩ : ∃ x, rof n r = x := ⟨_, rfl⟩
  obtain ⟨y, hy⟩ : ∃ y, rof n q = y := ⟨_, rfl⟩
  rw [hx] at A1 p1 p2 p3
  rw [hy] at A4 p3 p4 p5
  rw [rof_whole] at A2
  rw [rof_none] at A3
  have H1 := Lib.hid A1
  have H2 := Lib.hid A2
  have H3 := Lib.hid (show AlwIs n 0 0 0 from A3)
  have H4 := Lib.hid A4
  clear A1 A2 A3 A4 hx hy hn hr
  rcases (show (-x + -y == -n) = true ∨ ((-x + -y == -n) = false ∧ (-x + -y == -n - 1) = true) by
    rcases p3 with h | h
    · exact .inl (by simp; omega)
    · exact .inr ⟨by simp; omega, by simp; omega⟩) with e | ⟨e, e'⟩
  all_goals
    clear p3
    go_enter Try.func5, Try.ntmps5
    go_wp2_with (first | (go_at_call 7; (with_reducible refine (within_at _ _ _ _ (by omega) (by omega) E1).mono ?_); rintro e w' ⟨rfl, rfl⟩) | (go_at_call 7; (with_reducible refine (within_at _ _ _ _ (by omega) (by omega) E2).mono ?_); rintro e w' ⟨rfl, rfl⟩) | (go_at_call 8; (with_reducible refine (palw_any _ _ _ _ H1.out _).mono ?_); rintro e w' ⟨rfl, rfl⟩) | (go_at_call 8; (with_reducible refine (palw_any _ _ _ _ H2.out _).mono ?_); rintro e w' ⟨rfl, rfl⟩) | (go_at_call 8; (with_reducible refine (palw_any _ _ _ _ H3.out _).mono ?_); rintro e w' ⟨rfl, rfl⟩) | (go_at_call 8; (with_reducible refine (palw_any _ _ _ _ H4.out _).mono ?_); rintro e w' ⟨rfl, rfl⟩) | (go_at_call 10; (with_reducible refine (W.out _).mono ?_); rintro e w' ⟨rfl, rfl⟩))
    go_ret
    exact ⟨rfl, rfl⟩
set_option maxHeartbeats 4000000 in
theorem allowRises_walk (a0 a1 a2 a3 : Int) (w : World) :
    Calls Try.prog 6 #[.int .i64 a0, .int .i64 a1, .int .i64 a2, .int .i64 a3] w fun e w' => e = .returned (.bool true) ∧ w = w' := by
  have W := Lib.hid fun w => wakes18_any w
  obtain ⟨n, hn⟩ : ∃ n, a0 % 50000000000 = n := ⟨_, rfl⟩
  obtain ⟨m, hm⟩ : ∃ m, a1 % 100000 = m := ⟨_, rfl⟩
  obtain ⟨r, hr⟩ : ∃ r, a2 % 500001 = r := ⟨_, rfl⟩
  obtain ⟨s, hs⟩ : ∃ s, a3 % 500000 = s := ⟨_, rfl⟩
  have bn : 0 ≤ n ∧ n < 50000000000 := by omega
  have bm : 0 ≤ m ∧ m < 100000 := by omega
  have br : 0 ≤ r ∧ r ≤ 500000 := by omega
  have bs : 0 ≤ s ∧ s < 500000 := by omega
  have E1 := Lib.hid hn
  have E2 := Lib.hid hm
  have E3 := Lib.hid hr
  have E4 := Lib.hid hs
  obtain ⟨p1, p2, p3⟩ := rof_rises bn.1 bm.1 br bs.1
  have A1 := alw_yes (a := n) (r := r) (by omega) (by omega)
  have A2 := alw_yes (a := n + m) (r := r) (by omega) (by omega)
  have A3 := alw_yes (a := n) (r := r + s) (by omega) (by omega)
  have d1 := (rof_rest (n := n) (r := r) (by omega) (by omega)).1
  have d2 := (rof_rest (n := n + m) (r := r) (by omega) (by omega)).1
  have d3 := (rof_rest (n := n) (r := r + s) (by omega) (by omega)).1
  obtain ⟨x, hx⟩ : ∃ x, rof n r = x := ⟨_, rfl⟩
  obtain ⟨y, hy⟩ : ∃ y, rof (n + m) r = y := ⟨_, rfl⟩
  obtain ⟨z, hz⟩ : ∃ z, rof n (r + s) = z := ⟨_, rfl⟩
  rw [hx] at A1 p1 p2 p3 d1
  rw [hy] at A2 p1 p2 d2
  rw [hz] at A3 p3 d3
  obtain ⟨d, hd⟩ : ∃ d, -x - -y = d := ⟨_, rfl⟩
  have bd : 0 ≤ d ∧ d ≤ m := by omega
  have H1 := Lib.hid A1
  have H2 := Lib.hid A2
  have H3 := Lib.hid A3
  have H4 := Lib.hid hd
  have c1 : -y ≤ -x := by omega
  have c2 : -z ≤ -x := by omega
  clear A1 A2 A3 hx hy hz hn hm hr hs hd p1 p2 p3
  go_enter Try.func6, Try.ntmps6
  go_wp2_with (first | (go_at_call 7; (with_reducible refine (within_at _ _ _ _ (by omega) (by omega) E1).mono ?_); rintro e w' ⟨rfl, rfl⟩) | (go_at_call 7; (with_reducible refine (within_at _ _ _ _ (by omega) (by omega) E2).mono ?_); rintro e w' ⟨rfl, rfl⟩) | (go_at_call 7; (with_reducible refine (within_at _ _ _ _ (by omega) (by omega) E3).mono ?_); rintro e w' ⟨rfl, rfl⟩) | (go_at_call 7; (with_reducible refine (within_at _ _ _ _ (by omega) (by omega) E4).mono ?_); rintro e w' ⟨rfl, rfl⟩) | (go_at_call 8; (with_reducible refine (palw_any _ _ _ _ H1.out _).mono ?_); rintro e w' ⟨rfl, rfl⟩) | (go_at_call 8; (with_reducible refine (palw_any _ _ _ _ H2.out _).mono ?_); rintro e w' ⟨rfl, rfl⟩) | (go_at_call 8; (with_reducible refine (palw_any _ _ _ _ H3.out _).mono ?_); rintro e w' ⟨rfl, rfl⟩) | (go_at_call 9; (with_reducible refine (pchg_at _ _ _ _ H4 (by omega)).mono ?_); rintro e w' ⟨rfl, rfl⟩) | (go_at_call 10; (with_reducible refine (W.out _).mono ?_); rintro e w' ⟨rfl, rfl⟩))
  go_ret
  exact ⟨rfl, rfl⟩
set_option maxHeartbeats 4000000 in
theorem allowErrors_walk (a0 a1 a2 a3 : Int) (w : World) :
    Calls Try.prog 3 #[.int .i64 a0, .int .i64 a1, .int .i64 a2, .int .i64 a3] w fun e w' => e = .returned (.bool true) ∧ w = w' := by
  have W := Lib.hid fun w => wakes18_any w
  obtain ⟨n, hn⟩ : ∃ n, a0 % 1000 + 1 = n := ⟨_, rfl⟩
  have E1 := Lib.hid (show a0 % 1000 = n - 1 by omega)
  have bn : 1 ≤ n ∧ n ≤ 1000 := by omega
  have f1 : 1 + (n - 1) = n := by omega
  obtain ⟨x, hx⟩ : ∃ x, -(a1 % 1000) = x := ⟨_, rfl⟩
  obtain ⟨y, hy⟩ : ∃ y, -(a2 % 1000) = y := ⟨_, rfl⟩
  obtain ⟨z, hz⟩ : ∃ z, -(a3 % 1000) = z := ⟨_, rfl⟩
  have E2 := Lib.hid (show a1 % 1000 = -x by omega)
  have E3 := Lib.hid (show a2 % 1000 = -y by omega)
  have E4 := Lib.hid (show a3 % 1000 = -z by omega)
  have bx : -1000 ≤ x ∧ x ≤ 0 := by omega
  have bY : -1000 ≤ y ∧ y ≤ 0 := by omega
  have bz : -1000 ≤ z ∧ z ≤ 0 := by omega
  have H1 := Lib.hid (show AlwIs (-n) 5 0 1 from alw_no (by omega))
  have H2 := Lib.hid (show AlwIs (100000000000 + n) 5 0 1 from alw_no (by omega))
  have H3 := Lib.hid (show AlwIs n (-n) 0 1 from alw_no (by unfold RtOk; omega))
  have H4 := Lib.hid (show AlwIs n (1000000 + n) 0 1 from alw_no (by unfold RtOk; omega))
  obtain ⟨d1, hd1⟩ : ∃ d, x - y = d := ⟨_, rfl⟩
  obtain ⟨d2, hd2⟩ : ∃ d, y - z = d := ⟨_, rfl⟩
  have D1 := Lib.hid hd1
  have D2 := Lib.hid hd2
  have D3 := Lib.hid (show x - z = d1 + d2 by omega)
  have D4 := Lib.hid (show x - x = 0 by omega)
  have b1 : -1000 ≤ d1 ∧ d1 ≤ 1000 := by omega
  have b2 : -1000 ≤ d2 ∧ d2 ≤ 1000 := by omega
  have q1 : (d1 + d2 == d1 + d2) = true := by simp
  have cs : (0 ≤ d1 ∧ y ≤ x) ∨ (¬ 0 ≤ d1 ∧ ¬ y ≤ x) := by omega
  clear hn hx hy hz hd1 hd2
  rcases cs with ⟨c1, c2⟩ | ⟨c1, c2⟩
  all_goals
    go_enter Try.func3, Try.ntmps3
    go_wp2_with (first | (go_at_call 7; (with_reducible refine (within_at _ _ _ _ (by omega) (by omega) E1).mono ?_); rintro e w' ⟨rfl, rfl⟩) | (go_at_call 7; (with_reducible refine (within_at _ _ _ _ (by omega) (by omega) E2).mono ?_); rintro e w' ⟨rfl, rfl⟩) | (go_at_call 7; (with_reducible refine (within_at _ _ _ _ (by omega) (by omega) E3).mono ?_); rintro e w' ⟨rfl, rfl⟩) | (go_at_call 7; (with_reducible refine (within_at _ _ _ _ (by omega) (by omega) E4).mono ?_); rintro e w' ⟨rfl, rfl⟩) | (go_at_call 8; (with_reducible refine (palw_any _ _ _ _ H1.out _).mono ?_); rintro e w' ⟨rfl, rfl⟩) | (go_at_call 8; (with_reducible refine (palw_any _ _ _ _ H2.out _).mono ?_); rintro e w' ⟨rfl, rfl⟩) | (go_at_call 8; (with_reducible refine (palw_any _ _ _ _ H3.out _).mono ?_); rintro e w' ⟨rfl, rfl⟩) | (go_at_call 8; (with_reducible refine (palw_any _ _ _ _ H4.out _).mono ?_); rintro e w' ⟨rfl, rfl⟩) | (go_at_call 9; (with_reducible refine (pchg_at _ _ _ _ D1 (by omega)).mono ?_); rintro e w' ⟨rfl, rfl⟩) | (go_at_call 9; (with_reducible refine (pchg_at _ _ _ _ D2 (by omega)).mono ?_); rintro e w' ⟨rfl, rfl⟩) | (go_at_call 9; (with_reducible refine (pchg_at _ _ _ _ D3 (by omega)).mono ?_); rintro e w' ⟨rfl, rfl⟩) | (go_at_call 9; (with_reducible refine (pchg_at _ _ _ _ D4 (by omega)).mono ?_); rintro e w' ⟨rfl, rfl⟩) | (go_at_call 10; (with_reducible refine (W.out _).mono ?_); rintro e w' ⟨rfl, rfl⟩))
    go_ret
    exact ⟨rfl, rfl⟩
end Go.Proofs.Ytdchihhekmbeiaa
