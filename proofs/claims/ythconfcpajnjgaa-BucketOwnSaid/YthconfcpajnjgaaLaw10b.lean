/- Registers of which all is known; BucketOver: its walk. -/
import Derived.Test.YthconfcpajnjgaaLaw10a
import Derived.WalkKit
import Derived.WalkSpells
import Derived.WalkLawsBesides
import Derived.Lib.Hide
import Derived.IntWalk
import Derived.Deep.LoopGhost
namespace Go.Proofs.Ythconfcpajnjgaa
open Go.RowKit

/-- a register of which the buckets, how many there are, and their sum are known -/
structure PK (w0 w : World) (O : Nat → Nat) (sb : Nat) (S : Int → Int → Int) (n : Nat) (T : Int) : Prop where
  now : NowP w0 w O 1 sb S
  is : ∃ g, BIs S n g ∧ btot g n = T
section
variable {w0 w w1 : World} {O : Nat → Nat} {sb n : Nat} {S : Int → Int → Int} {T : Int}
theorem PK.below (h : PK w0 w O sb S n T) (k : Below w.heap.size w w1) : PK w0 w1 O sb S n T := ⟨h.now.below k, h.is⟩
theorem PK.le (h : PK w0 w O sb S n T) : n ≤ 12 ∧ Mon T := by
  obtain ⟨g, b, e⟩ := h.is
  obtain ⟨m, g', iv⟩ := h.now.told
  obtain ⟨e1, _⟩ := iv.is.uniq b
  have e2 := iv.is.total b
  exact ⟨by have := iv.le; omega, by rw [← e, ← e2]; exact iv.all⟩
theorem pkmove_ok (h : PK w0 w O sb S n T) (c y a V : Int) (hV : S c y + a = V) (h1 : BOk c y ∧ Mon a) (h2 : Mon V ∧ Mon (T + a)) (h3 : cntB n (S c y) V ≤ 12) :
    Calls Try.prog 10 #[ptr sb, .int .i64 c, .int .i64 y, .int .i64 a] w fun e' w' => e' = .returned (.int .i64 0) ∧ ∃ O' m, PK w0 w' O' sb (upS S c y V) m (T + a) ∧ (m : Int) = cntB n (S c y) V := by
  subst hV
  obtain ⟨g, b, rfl⟩ := h.is
  refine (pbmove h.now (by decide) b c y a 0 (.ok h1 h2 h3)).mono ?_
  rintro e' w' ⟨rfl, O', h', _⟩
  have h'' : NowP w0 w' O' 1 sb (upS S c y (S c y + a)) := h'
  obtain ⟨m, g', iv⟩ := h''.told
  obtain ⟨k1, k2⟩ := bis_count b h1.1 iv.is
  exact ⟨rfl, O', m, ⟨h'', g', iv.is, by omega⟩, k1⟩
theorem pkmove_no (h : PK w0 w O sb S n T) (c y a e : Int) (he : MErr S n T c y a e) (h0 : e ≠ 0) :
    Calls Try.prog 10 #[ptr sb, .int .i64 c, .int .i64 y, .int .i64 a] w fun e' w' => e' = .returned (.int .i64 e) ∧ ∃ O', PK w0 w' O' sb S n T := by
  obtain ⟨g, b, rfl⟩ := h.is
  refine (pbmove h.now (by decide) b c y a e he).mono ?_
  rintro e' w' ⟨rfl, O', h', _⟩
  unfold mvS at h'
  rw [if_neg h0] at h'
  exact ⟨rfl, O', h', g, b, rfl⟩
theorem pkrec_ok (h : PK w0 w O sb S n T) (c y c' y' a V U : Int) (hV : S c y - a = V) (hU : S c' y' + a = U) (h1 : BOk c y ∧ BOk c' y' ∧ Mon a ∧ ¬ (c = c' ∧ y = y')) (h2 : Mon V ∧ Mon U) (h3 : cntR n (S c y) (S c' y') a ≤ 12) :
    Calls Try.prog 12 #[ptr sb, .int .i64 c, .int .i64 y, .int .i64 c', .int .i64 y', .int .i64 a] w fun e' w' => e' = .returned (.int .i64 0) ∧ ∃ O' m, PK w0 w' O' sb (upS (upS S c y V) c' y' U) m T ∧ (m : Int) = cntR n (S c y) (S c' y') a := by
  subst hV hU
  obtain ⟨g, b, rfl⟩ := h.is
  refine (pbrec h.now (by decide) b c y c' y' a 0 (.ok h1 h2 h3)).mono ?_
  rintro e' w' ⟨rfl, O', h', _⟩
  have h'' : NowP w0 w' O' 1 sb (upS (upS S c y (S c y - a)) c' y' (S c' y' + a)) := h'
  obtain ⟨m, g', iv⟩ := h''.told
  obtain ⟨m1, g1, b1, t1, k1⟩ := bis_set b h1.1 (S c y - a)
  obtain ⟨k3, k4⟩ := bis_count b1 h1.2.1 iv.is
  have ne : upS S c y (S c y - a) c' y' = S c' y' := if_neg fun z => h1.2.2.2 ⟨z.1.symm, z.2.symm⟩
  rw [ne] at k3 k4
  exact ⟨rfl, O', m, ⟨h'', g', iv.is, by omega⟩, by unfold cntB at k3; unfold cntR cntB; omega⟩
theorem pkrec_no (h : PK w0 w O sb S n T) (c y c' y' a e : Int) (he : RErr S n c y c' y' a e) (h0 : e ≠ 0) :
    Calls Try.prog 12 #[ptr sb, .int .i64 c, .int .i64 y, .int .i64 c', .int .i64 y', .int .i64 a] w fun e' w' => e' = .returned (.int .i64 e) ∧ ∃ O', PK w0 w' O' sb S n T := by
  obtain ⟨g, b, rfl⟩ := h.is
  refine (pbrec h.now (by decide) b c y c' y' a e he).mono ?_
  rintro e' w' ⟨rfl, O', h', _⟩
  unfold rcS at h'
  rw [if_neg h0] at h'
  exact ⟨rfl, O', h', g, b, rfl⟩
theorem pkget (h : PK w0 w O sb S n T) (c y V : Int) (hV : S c y = V) :
    Calls Try.prog 13 #[ptr sb, .int .i64 c, .int .i64 y] w fun e w' => e = .returned (.int .i64 V) ∧ PK w0 w' O sb S n T := by
  refine (pbget h.now c y).mono ?_
  rintro e w' ⟨rfl, hb⟩
  exact ⟨by rw [hV], h.below hb⟩
theorem pktotal (h : PK w0 w O sb S n T) :
    Calls Try.prog 11 #[ptr sb] w fun e w' => e = .returned (.int .i64 T) ∧ PK w0 w' O sb S n T := by
  obtain ⟨g, b, e⟩ := h.is
  refine (pbtotal h.now b).mono ?_
  rintro e' w' ⟨rfl, hb⟩
  exact ⟨by rw [e], h.below hb⟩
theorem pkrows (h : PK w0 w O sb S n T) :
    Calls Try.prog 14 #[ptr sb] w fun e w' => ∃ A c, e = .returned (.slice A n c) ∧ n ≤ c ∧ c ≤ maxLen ∧ PK w0 w' O sb S n T := by
  obtain ⟨g, b, e⟩ := h.is
  refine (pbrows h.now b).mono ?_
  rintro e' w' ⟨A, c, rfl, h1, h2, _, hb⟩
  exact ⟨A, c, rfl, h1, h2, h.below hb⟩
end
theorem wrap_in {x : Int} (h1 : -9223372036854775808 ≤ x) (h2 : x ≤ 9223372036854775807) : wrap64 x = x := by
  unfold wrap64
  omega
theorem pk_new {w0 w : World} {O : Nat → Nat} {sb : Nat} (h : NowP w0 w O 1 sb S0) : PK w0 w O sb S0 0 0 := ⟨h, fun _ => ⟨0, 0, 0⟩, bis_zero _, rfl⟩
set_option maxHeartbeats 8000000 in
set_option maxRecDepth 100000 in
theorem bucketOver_walk (a0 : Int) (w : World) (_w0 : (Lit.int .i64 a0).wf = true) :
    Calls Try.prog 3 #[.int .i64 a0] w fun e w' => e = .returned (.bool true) ∧ Below w.heap.size w w' := by
  clear _w0
  have CN := Lib.hid (pbnew w w (fun _ => 0) (Fin0.zero _ _) (Below.refl _ _) 1)
  go_enter Try.func3, Try.ntmps3
  go_wp2_with fail
  refine (CN.out).mono ?_
  rintro e w1 ⟨sb, O1, rfl, n1, _⟩
  have K0 := Lib.hid (pk_new n1)
  clear n1 CN
  go_wp2_with fail
  refine (within_some _ _ _ (by omega) (by omega)).mono ?_
  rintro e w' ⟨q, q1, q2, rfl, rfl⟩
  obtain ⟨x, hx⟩ : ∃ x, 1 + q = x := ⟨_, rfl⟩
  have ew0 : IntKind.i64.wrap (1 + q) = x := by rw [← hx]; exact IntWalk.i64_in _ (by omega)
  have x1 : 1 ≤ x ∧ x ≤ 1000 := by omega
  clear hx
  go_wp2_with fail
  refine (pkmove_ok K0.out 1 1 100000000000 100000000000 (by unfold S0; omega) ⟨by unfold BOk; omega, by unfold Mon; omega⟩ ⟨by unfold Mon; omega, by unfold Mon; omega⟩ (by unfold cntB S0; simp)).mono ?_
  rintro e w2 ⟨rfl, O2, m2, k2, hm2⟩
  obtain rfl : m2 = 1 := by unfold cntB S0 at hm2; simp at hm2; omega
  obtain ⟨S1, hS1⟩ : ∃ S1, upS S0 1 1 100000000000 = S1 := ⟨_, rfl⟩
  rw [hS1, show (0 : Int) + 100000000000 = 100000000000 by omega] at k2
  have f11 : S1 1 1 = 100000000000 := by rw [← hS1]; rfl
  have f22 : S1 2 2 = 0 := by rw [← hS1]; rfl
  have f33 : S1 3 3 = 0 := by rw [← hS1]; rfl
  have K1 := Lib.hid k2
  have F11 := Lib.hid f11
  have F22 := Lib.hid f22
  have F33 := Lib.hid f33
  clear k2 hm2 hS1 f11 f22 f33 K0
  have ewn : wrap64 (-x) = -x := wrap_in (by omega) (by omega)
  go_wp2_with fail
  refine (pkmove_no K1.out 1 1 x 6 (.over ⟨by unfold BOk; omega, by unfold Mon; omega⟩ fun z => by rw [F11.out] at z; unfold Mon at z; omega) (by decide)).mono ?_
  rintro e w3 ⟨rfl, O3, k3⟩
  have K2 := Lib.hid k3
  clear k3 K1
  go_wp2_with fail
  refine (pkmove_no K2.out 2 2 x 6 (.over ⟨by unfold BOk; omega, by unfold Mon; omega⟩ fun z => by unfold Mon at z; omega) (by decide)).mono ?_
  rintro e w4 ⟨rfl, O4, k4⟩
  have K3 := Lib.hid k4
  clear k4 K2
  go_wp2_with fail
  refine (pkmove_ok K3.out 2 2 (-x) (-x) (by rw [F22.out]; omega) ⟨by unfold BOk; omega, by unfold Mon; omega⟩ ⟨by unfold Mon; omega, by unfold Mon; omega⟩ (by rw [F22.out]; unfold cntB; split <;> omega)).mono ?_
  rintro e w5 ⟨rfl, O5, m5, k5, hm5⟩
  obtain rfl : m5 = 2 := by rw [F22.out] at hm5; unfold cntB at hm5; rw [if_pos rfl, if_neg (show ¬ -x = 0 by omega)] at hm5; omega
  obtain ⟨S2, hS2⟩ : ∃ S2, upS S1 2 2 (-x) = S2 := ⟨_, rfl⟩
  rw [hS2] at k5
  have K4 := Lib.hid k5
  have G11 := Lib.hid (show S2 1 1 = 100000000000 by rw [← hS2]; exact F11.out)
  have G22 := Lib.hid (show S2 2 2 = -x by rw [← hS2]; rfl)
  have G33 := Lib.hid (show S2 3 3 = 0 by rw [← hS2]; exact F33.out)
  clear k5 hm5 hS2 K3 F11 F22 F33
  go_wp2_with fail
  refine (pkmove_ok K4.out 3 3 x x (by rw [G33.out]; omega) ⟨by unfold BOk; omega, by unfold Mon; omega⟩ ⟨by unfold Mon; omega, by unfold Mon; omega⟩ (by rw [G33.out]; unfold cntB; split <;> omega)).mono ?_
  rintro e w6 ⟨rfl, O6, m6, k6, hm6⟩
  obtain rfl : m6 = 3 := by rw [G33.out] at hm6; unfold cntB at hm6; rw [if_pos rfl, if_neg (show ¬ x = 0 by omega)] at hm6; omega
  obtain ⟨S3, hS3⟩ : ∃ S3, upS S2 3 3 x = S3 := ⟨_, rfl⟩
  rw [hS3, show 100000000000 + -x + x = (100000000000 : Int) by omega] at k6
  have K5 := Lib.hid k6
  have H11 := Lib.hid (show S3 1 1 = 100000000000 by rw [← hS3]; exact G11.out)
  have H22 := Lib.hid (show S3 2 2 = -x by rw [← hS3]; exact G22.out)
  have H33 := Lib.hid (show S3 3 3 = x by rw [← hS3]; rfl)
  clear k6 hm6 hS3 K4 G11 G22 G33
  go_wp2_with fail
  refine (pktotal K5.out).mono ?_
  rintro e w7 ⟨rfl, k7⟩
  have K6 := Lib.hid k7
  clear k7 K5
  go_wp2_with fail
  refine (pkrec_no K6.out 3 3 1 1 x 6 (.over ⟨by unfold BOk; omega, by unfold BOk; omega, by unfold Mon; omega, by omega⟩ fun z => by rw [H11.out] at z; unfold Mon at z; omega) (by decide)).mono ?_
  rintro e w8 ⟨rfl, O8, k8⟩
  have K7 := Lib.hid k8
  clear k8 K6
  go_wp2_with fail
  refine (pkrec_no K7.out 1 1 3 3 100000000000 6 (.over ⟨by unfold BOk; omega, by unfold BOk; omega, by unfold Mon; omega, by omega⟩ fun z => by rw [H33.out] at z; unfold Mon at z; omega) (by decide)).mono ?_
  rintro e w9 ⟨rfl, O9, k9⟩
  have K8 := Lib.hid k9
  clear k9 K7
  have y0 : Hid (cntR 3 (S3 1 1) (S3 2 2) 100000000000 = 2) := Lib.hid (by
    rw [H11.out, H22.out]
    unfold cntR cntB
    rw [if_neg (show ¬ (100000000000 : Int) = 0 by omega), if_pos (show (100000000000 : Int) - 100000000000 = 0 by omega), if_neg (show ¬ -x = 0 by omega), if_neg (show ¬ -x + 100000000000 = 0 by omega)]
    omega)
  go_wp2_with fail
  refine (pkrec_ok K8.out 1 1 2 2 100000000000 0 (100000000000 - x) (by rw [H11.out]; omega) (by rw [H22.out]; omega) ⟨by unfold BOk; omega, by unfold BOk; omega, by unfold Mon; omega, by omega⟩ ⟨by unfold Mon; omega, by unfold Mon; omega⟩ (by rw [y0.out]; omega)).mono ?_
  rintro e w10 ⟨rfl, O10, m10, k10, hm10⟩
  obtain rfl : m10 = 2 := by rw [y0.out] at hm10; omega
  obtain ⟨S4, hS4⟩ : ∃ S4, upS (upS S3 1 1 0) 2 2 (100000000000 - x) = S4 := ⟨_, rfl⟩
  rw [hS4] at k10
  have K9 := Lib.hid k10
  have I11 := Lib.hid (show S4 1 1 = 0 by rw [← hS4]; rfl)
  have I22 := Lib.hid (show S4 2 2 = 100000000000 - x by rw [← hS4]; rfl)
  clear k10 hm10 hS4 K8 H11 H22 H33 y0
  have ew1 : IntKind.i64.wrap (100000000000 - x) = 100000000000 - x := IntWalk.i64_in _ (by omega)
  have ee : ((100000000000 - x : Int) == 100000000000 - x) = true := by simp
  go_wp2_with fail
  refine (pkget K9.out 2 2 _ I22.out).mono ?_
  rintro e w11 ⟨rfl, k11⟩
  have K10 := Lib.hid k11
  clear k11 K9
  go_wp2_with fail
  refine (pkget K10.out 1 1 _ I11.out).mono ?_
  rintro e w12 ⟨rfl, k12⟩
  have K11 := Lib.hid k12
  clear k12 K10
  go_wp2_with fail
  refine (pktotal K11.out).mono ?_
  rintro e w13 ⟨rfl, k13⟩
  have K12 := Lib.hid k13
  clear k13 K11
  go_wp2_with fail
  refine (pkrows K12.out).mono ?_
  rintro e w14 ⟨A, cc, rfl, _, _, k14⟩
  have L14 := Lib.hid k14.now.low
  clear k14 K12
  go_wp2_with fail
  refine (wakes10_any _).mono ?_
  rintro e w15 ⟨rfl, hb⟩
  have L15 := Lib.hid (L14.out.trans (hb.mono L14.out.size))
  clear hb
  go_wp2
  go_ret
  exact ⟨rfl, L15.out⟩
end Go.Proofs.Ythconfcpajnjgaa
