/- UseMore: its walk. -/
import Derived.Test.YtmgnnkampdepeaaLaw14b
import Derived.WalkKit
import Derived.WalkSpells
import Derived.WalkLawsBesides
import Derived.Lib.Hide
import Derived.IntWalk
import Derived.BigQuiet
import Derived.Deep.LoopGhost
import Derived.Deep.QuietTactic
import Derived.Deep.DeepCutAuto
namespace Go.Proofs.Ytmgnnkampdepeaa
open Go.RowKit

set_option maxHeartbeats 8000000 in
set_option maxRecDepth 100000 in
theorem useMore_walk (a0 : Option Addr) (len0 cap0 : Nat) (z0 : List Int) (a1 a2 a3 : Int) (w : World) (w0 : IsRow .i64 w a0 len0 cap0 z0) (_k1 : (Lit.int .i64 a1).wf = true) (_k2 : (Lit.int .i64 a2).wf = true) (_k3 : (Lit.int .i64 a3).wf = true) :
    Calls Try.prog 3 #[.slice a0 len0 cap0, .int .i64 a1, .int .i64 a2, .int .i64 a3] w fun e w' => e = .returned (.bool true) ∧ Below w.heap.size w w' := by
  have W := Lib.hid fun w => wakes14_any w
  have CL := Lib.hid (plosses_some a0 len0 cap0 z0 w w0)
  obtain ⟨x, hx⟩ : ∃ x, a1 % 9 = x := ⟨_, rfl⟩
  obtain ⟨y, hy⟩ : ∃ y, a2 % 5000 = y := ⟨_, rfl⟩
  obtain ⟨z, hz⟩ : ∃ z, a3 % 5000 = z := ⟨_, rfl⟩
  have HX := Lib.hid hx
  have HY := Lib.hid hy
  have HZ := Lib.hid hz
  have y1 : 0 ≤ y := by omega
  have y2 : y < 5000 := by omega
  have z1 : 0 ≤ z := by omega
  have z2 : z < 5000 := by omega
  clear w0 _k1 _k2 _k3 hx hy hz
  go_enter Try.func3, Try.ntmps3
  go_wp2_with fail
  refine (CL.out).mono ?_
  rintro e w1 ⟨sb, S, O, rfl, hnow⟩
  have LOW := Lib.hid hnow.low
  obtain ⟨v, n, g, s, iv⟩ := hnow.st
  have c0 := s.hd.c0
  obtain ⟨A, cc, rfl, hc, hm, _, ha⟩ := s.at
  have hn := iv.le
  have HAT := Lib.hid ha
  have IV := Lib.hid iv
  clear hnow s ha iv CL
  have CV := Lib.hid fun (w5 : World) (k5 : Below w1.heap.size w1 w5) (r : Int) (hr : -9223372036854775808 ≤ r ∧ r ≤ 9223372036854775807) => puvec A n cc g x r w5 (HAT.out.below k5) ⟨hc, hm⟩ (by omega) (fun j hj => ⟨IV.out.pos j hj, by have := (IV.out.one hj).2; have := IV.out.all; omega⟩) hr
  go_wp2_with (first | (go_at_call 9; (with_reducible refine (within_at _ _ _ _ (by omega) (by omega) HX).mono ?_); rintro e w' ⟨rfl, rfl⟩) | (go_at_call 9; (with_reducible refine (within_at _ _ _ _ (by omega) (by omega) HY).mono ?_); rintro e w' ⟨rfl, rfl⟩) | (go_at_call 9; (with_reducible refine (within_at _ _ _ _ (by omega) (by omega) HZ).mono ?_); rintro e w' ⟨rfl, rfl⟩))
  refine (CV.out _ (Below.refl _ _) _ (by omega)).mono ?_
  rintro e w2 ⟨v2, rfl, ho2, hb2⟩
  have K2 := Lib.hid hb2
  have HO2 := Lib.hid ho2
  clear ho2 hb2
  go_wp2_with fail
  refine (CV.out _ K2.out (y + z) (by omega)).mono ?_
  rintro e w3 ⟨v3, rfl, ho3, hb3⟩
  have K3 := Lib.hid (K2.out.trans (hb3.mono K2.out.size))
  replace HO2 := Lib.hid (HO2.out.below hb3)
  have HO3 := Lib.hid ho3
  clear ho3 hb3
  have ey : Hid (wrap64 (-y) = -y) := Lib.hid (by unfold wrap64; omega)
  go_wp2_with fail
  try rw [ey.out]
  refine (CV.out _ K3.out (-y) (by omega)).mono ?_
  rintro e w4 ⟨v4, rfl, ho4, hb4⟩
  have K4 := Lib.hid (K3.out.trans (hb4.mono K3.out.size))
  replace HO2 := Lib.hid (HO2.out.below hb4)
  replace HO3 := Lib.hid (HO3.out.below hb4)
  have HO4 := Lib.hid ho4
  clear ho4 hb4
  go_wp2_with fail
  refine (CV.out _ K4.out 1200000000000 (by omega)).mono ?_
  rintro e w5 ⟨v5, rfl, ho5, hb5⟩
  have K5 := Lib.hid (K4.out.trans (hb5.mono K4.out.size))
  replace HO2 := Lib.hid (HO2.out.below hb5)
  replace HO3 := Lib.hid (HO3.out.below hb5)
  replace HO4 := Lib.hid (HO4.out.below hb5)
  obtain ⟨A2, c2, rfl, _, _, hat2⟩ := HO2.out.at
  obtain ⟨A3, c3, rfl, _, _, hat3⟩ := HO3.out.at
  obtain ⟨A4, c4, rfl, _, _, hat4⟩ := HO4.out.at
  obtain ⟨A5, c5, rfl, _, _, hat5⟩ := ho5.at
  have H2 := Lib.hid hat2
  have H3 := Lib.hid hat3
  have H4 := Lib.hid hat4
  have H5 := Lib.hid hat5
  have ee : ((n : Int) != (n : Int)) = false := by simp
  clear ho5 hb5 hat2 hat3 hat4 hat5
  go_wp2
  go_loopg [74] n (fun gh i wr => ∃ k : Nat, k ≤ n ∧ gh = n - k ∧ i = .int .i64 k ∧ Below w5.heap.size w5 wr)
  case atStart => exact ⟨0, Nat.zero_le _, rfl, rfl, Below.refl _ _⟩
  case round =>
    obtain ⟨k, hk, hgk, rfl, hbw⟩ := hrel
    have HGK := Lib.hid hgk
    have HW := Lib.hid hbw
    clear hgk hbw
    by_cases hlt : k < n
    · obtain ⟨b, off, rfl, hb, r0, r1, r2⟩ := ((HAT.out.below K5.out).below HW.out).threeV hlt
      have K6 := Lib.hid (HW.out.alloc HW.out.size (.cells #[.int .i64 (g k).y, .int .i64 (g k).c, .int .i64 (g k).a] 31))
      obtain ⟨b2, o2, rfl, hb2, hc2⟩ := (H2.out.below K6.out).some (by omega)
      obtain ⟨b3, o3, rfl, hb3, hc3⟩ := (H3.out.below K6.out).some (by omega)
      obtain ⟨b4, o4, rfl, hb4, hc4⟩ := (H4.out.below K6.out).some (by omega)
      obtain ⟨b5, o5, rfl, hb5, hc5⟩ := (H5.out.below K6.out).some (by omega)
      have q2 := hc2 k hlt
      have q3 := hc3 k hlt
      have q4 := hc4 k hlt
      have q5 := hc5 k hlt
      rw [us_none IV.out.pos hlt (by omega)] at q4
      rw [us_all IV.out.pos hlt (by have := IV.out.all; omega)] at q5
      have hmore := us_more (year := x) IV.out.pos hlt (show y ≤ y + z by omega)
      obtain ⟨ua, hua⟩ : ∃ ua, usU g x y k = ua := ⟨_, rfl⟩
      obtain ⟨ub, hub⟩ : ∃ ub, usU g x (y + z) k = ub := ⟨_, rfl⟩
      rw [hua] at q2 hmore
      rw [hub] at q3 hmore
      have d1 : decide (ub < ua) = false := by simpa using hmore
      have k0 : (0 : Int) ≤ (k : Int) := by omega
      have k1 : (k : Int) < (n : Int) := by omega
      clear hc2 hc3 hc4 hc5 hua hub hmore
      by_cases hy : (g k).c < x
      · rw [show eU g x k = 0 from if_pos hy] at q5
        have hy' : decide ((g k).c < x) = true := by simpa using hy
        clear hy
        go_wp2
        go_big_quiet (fail)
        go_wp2
        go_roundg (n - (k + 1))
        case measure => have := HGK.out; omega
        case rel => exact ⟨k + 1, by omega, rfl, by go_num, below_drewN K6.out _⟩
      · rw [show eU g x k = (g k).a from if_neg hy] at q5
        have hy' : decide ((g k).c < x) = false := by simpa using hy
        have ee2 : ((g k).a != (g k).a) = false := by simp
        clear hy
        go_wp2
        go_big_quiet (fail)
        go_wp2
        go_roundg (n - (k + 1))
        case measure => have := HGK.out; omega
        case rel => exact ⟨k + 1, by omega, rfl, by go_num, below_drewN K6.out _⟩
    · obtain rfl : k = n := by omega
      clear hlt
      have U2 := Lib.hid fun (w7 : World) (k7 : Below wr.heap.size wr w7) => puused A2 k c2 (usU g x y) w7 ((H2.out.below HW.out).below k7) (by omega) (us_mon IV.out x y)
      have U3 := Lib.hid (puused A3 k c3 (usU g x (y + z)) wr (H3.out.below HW.out) (by omega) (us_mon IV.out x (y + z)))
      have t2 := us_tot g x y k
      have t3 := us_tot g x (y + z) k
      have t0 := EU_nonneg (year := x) IV.out.pos (Nat.le_refl k)
      obtain ⟨ta, hta⟩ : ∃ ta, tot (usU g x y) k = ta := ⟨_, rfl⟩
      obtain ⟨tb, htb⟩ : ∃ tb, tot (usU g x (y + z)) k = tb := ⟨_, rfl⟩
      rw [hta] at U2 t2
      rw [htb] at U3 t3
      have d1 : tb - ta ≤ z := by omega
      have d2 : ta ≤ y := by omega
      have ta0 : 0 ≤ ta := by omega
      have tb0 : 0 ≤ tb := by omega
      have ta1 : tb ≤ 10000 := by omega
      clear t2 t3 t0 hta htb
      go_wp2_with fail
      refine (U3.out).mono ?_
      rintro e w6 ⟨rfl, hb6⟩
      have K6 := Lib.hid hb6
      clear hb6
      go_wp2_with fail
      refine (U2.out _ K6.out).mono ?_
      rintro e w7 ⟨rfl, hb7⟩
      have K7 := Lib.hid (K6.out.trans (hb7.mono K6.out.size))
      clear hb7
      go_wp2_with fail
      refine (U2.out _ K7.out).mono ?_
      rintro e w8 ⟨rfl, hb8⟩
      have K8 := Lib.hid (K7.out.trans (hb8.mono K7.out.size))
      clear hb8
      go_wp2_with (go_at_call 12; (refine (W.out _).mono ?_); rintro e w9 ⟨rfl, hb9⟩; have K9 := Lib.hid (K8.out.trans (hb9.mono K8.out.size)); clear hb9)
      go_ret
      have z1 := LOW.out
      have z2 := K5.out
      have z3 := HW.out
      exact ⟨rfl, ((z1.trans (z2.mono z1.size)).trans (z3.mono (Nat.le_trans z1.size z2.size))).trans (K9.out.mono (Nat.le_trans (Nat.le_trans z1.size z2.size) z3.size))⟩
end Go.Proofs.Ytmgnnkampdepeaa
