/- BridgeSums: its walk. -/
import Derived.Test.YtbededljklnlfaaLaw12a
import Derived.WalkKit
import Derived.WalkSpells
import Derived.WalkLawsBesides
import Derived.Lib.Hide
import Derived.IntWalk
import Derived.BigQuiet
import Derived.Deep.QuietTactic
import Derived.Deep.RegionHeld3
namespace Go.Proofs.Ytbededljklnlfaa
open Go.RowKit

set_option maxHeartbeats 8000000 in
theorem bridgeSums_walk (a0 a1 a2 a3 : Int) (w : World) (_w0 : (Lit.int .i64 a0).wf = true) (_w1 : (Lit.int .i64 a1).wf = true) (_w2 : (Lit.int .i64 a2).wf = true) (_w3 : (Lit.int .i64 a3).wf = true) :
    Calls Try.prog 3 #[.int .i64 a0, .int .i64 a1, .int .i64 a2, .int .i64 a3] w fun e w' => e = .returned (.bool true) ∧ Below w.heap.size w w' := by
  clear _w0 _w1 _w2 _w3
  obtain ⟨X, hX⟩ : ∃ X, a0 % 200001 = X := ⟨_, rfl⟩
  obtain ⟨Y, hY⟩ : ∃ Y, a1 % 200001 = Y := ⟨_, rfl⟩
  obtain ⟨Z, hZ⟩ : ∃ Z, a2 % 200001 = Z := ⟨_, rfl⟩
  obtain ⟨M, hM⟩ : ∃ M, a3 % 1000 = M := ⟨_, rfl⟩
  have bX : 0 ≤ X ∧ X ≤ 200000 := by omega
  have bY : 0 ≤ Y ∧ Y ≤ 200000 := by omega
  have bZ : 0 ≤ Z ∧ Z ≤ 200000 := by omega
  have bM : 0 ≤ M ∧ M ≤ 999 := by omega
  have HX := Lib.hid hX
  have HY := Lib.hid hY
  have HZ := Lib.hid hZ
  have HM := Lib.hid hM
  clear hX hY hZ hM
  go_enter Try.func3, Try.ntmps3
  go_wp2_with (first | (go_at_call 6; (with_reducible refine (within_at _ _ _ _ (by omega) (by omega) HX).mono ?_); rintro e w' ⟨rfl, rfl⟩) | (go_at_call 6; (with_reducible refine (within_at _ _ _ _ (by omega) (by omega) HY).mono ?_); rintro e w' ⟨rfl, rfl⟩) | (go_at_call 6; (with_reducible refine (within_at _ _ _ _ (by omega) (by omega) HZ).mono ?_); rintro e w' ⟨rfl, rfl⟩) | (go_at_call 6; (with_reducible refine (within_at _ _ _ _ (by omega) (by omega) HM).mono ?_); rintro e w' ⟨rfl, rfl⟩))
  obtain ⟨x, hx⟩ : ∃ x, X - 100000 = x := ⟨_, rfl⟩
  obtain ⟨y, hy⟩ : ∃ y, Y - 100000 = y := ⟨_, rfl⟩
  obtain ⟨z, hz⟩ : ∃ z, Z - 100000 = z := ⟨_, rfl⟩
  have kx : -100000 ≤ x ∧ x ≤ 100000 := by omega
  have ky : -100000 ≤ y ∧ y ≤ 100000 := by omega
  have kz : -100000 ≤ z ∧ z ≤ 100000 := by omega
  obtain ⟨n, hn⟩ : ∃ n, x + y - z = n := ⟨_, rfl⟩
  obtain ⟨u, hu⟩ : ∃ u, -z = u := ⟨_, rfl⟩
  have I0 := Lib.hid (show IncIs x y z n true from inc_y (by unfold Mon; omega) (by omega))
  have I2 := Lib.hid (show IncIs x (y + M) z (n + M) true from inc_y (by unfold Mon; omega) (by omega))
  have I3 := Lib.hid (show IncIs x y (z + M) (n - M) true from inc_y (by unfold Mon; omega) (by omega))
  have I4 := Lib.hid (show IncIs (-x) (-y) (-z) (-n) true from inc_y (by unfold Mon; omega) (by omega))
  have p1 : (x + y + u != n) = false := by simp; omega
  have p2 : x + y + u = n := by omega
  have bn : -400000 ≤ n ∧ n ≤ 400000 := by omega
  have bu : -100000 ≤ u ∧ u ≤ 100000 := by omega
  rw [hx, hy, hz]
  have HU := Lib.hid hu
  have P2 := Lib.hid p2
  clear HX HY HZ HM hx hy hz hn hu bX bY bZ p2
  refine (plines_yes I0.out _).mono ?_
  rintro e w1 ⟨b, off, c, rfl, hat, hc, hb1⟩
  have K1 := Lib.hid hb1
  obtain ⟨_, _, e, hbl, _, d0⟩ := hat.two (show 0 < 4 by omega)
  injection e with e
  injection e with e1 e2
  subst e1 e2
  obtain ⟨_, _, e, _, _, d1⟩ := hat.two (show 1 < 4 by omega)
  injection e with e
  injection e with e1 e2
  subst e1 e2
  obtain ⟨_, _, e, _, _, d2⟩ := hat.two (show 2 < 4 by omega)
  injection e with e
  injection e with e1 e2
  subst e1 e2
  obtain ⟨_, _, e, _, _, d3⟩ := hat.two (show 3 < 4 by omega)
  injection e with e
  injection e with e1 e2
  subst e1 e2
  have c0 : w1.cell? ⟨b, off + 1, none⟩ = some (.int .i64 x) := d0
  have c1 : w1.cell? ⟨b, off + 2 + 1, none⟩ = some (.int .i64 y) := d1
  have c2 : w1.cell? ⟨b, off + 4 + 1, none⟩ = some (.int .i64 u) := by rw [← HU.out]; exact d2
  have c3 : w1.cell? ⟨b, off + 6 + 1, none⟩ = some (.int .i64 n) := d3
  have HC := Lib.hid hc
  clear hat hb1 d0 d1 d2 d3 hc
  go_wp2
  go_big_quiet (fail)
  have KD : Hid (Below w.heap.size w (w1.drewN nq)) := Lib.hid (below_drewN K1.out nq)
  have g3 : Hid ((w1.drewN nq).cell? ⟨b, off + 6 + 1, none⟩ = some (.int .i64 n)) := Lib.hid c3
  clear c0 c1 c2
  go_wp2_with fail
  refine (pinc I0.out (by omega) _).mono ?_
  rintro e w2 ⟨rfl, hb2⟩
  have K2 := Lib.hid (KD.out.trans (hb2.mono KD.out.size)); have z2 := cell_keep g3.out hb2
  clear hb2
  go_wp2_with fail
  refine (pinc I2.out (by omega) _).mono ?_
  rintro e w3 ⟨rfl, hb3⟩
  have K3 := Lib.hid (K2.out.trans (hb3.mono K2.out.size)); have z3 := cell_keep z2 hb3
  clear hb3
  go_wp2_with fail
  refine (pinc I3.out (by omega) _).mono ?_
  rintro e w4 ⟨rfl, hb4⟩
  have K4 := Lib.hid (K3.out.trans (hb4.mono K3.out.size)); have z4 := cell_keep z3 hb4
  clear hb4
  go_wp2_with fail
  refine (pinc I4.out (by omega) _).mono ?_
  rintro e w5 ⟨rfl, hb5⟩
  have K5 := Lib.hid (K4.out.trans (hb5.mono K4.out.size)); have z5 := cell_keep z4 hb5
  clear hb5
  go_wp2_with fail
  refine (wakes12_any _).mono ?_
  rintro e w6 ⟨rfl, hb6⟩
  have K6 := Lib.hid (K5.out.trans (hb6.mono K5.out.size))
  clear hb6
  go_wp2
  go_ret
  exact ⟨rfl, K6.out⟩
end Go.Proofs.Ytbededljklnlfaa
