/- BucketLimits: its walk. -/
import Derived.Test.YthconfcpajnjgaaLaw10b
import Derived.WalkKit
import Derived.WalkSpells
import Derived.WalkLawsBesides
import Derived.Lib.Hide
import Derived.IntWalk
import Derived.Deep.LoopGhost
namespace Go.Proofs.Ythconfcpajnjgaa
open Go.RowKit

/-- the first k buckets of BucketLimits -/
def SL (k : Nat) : Int → Int → Int := fun c y => if 0 ≤ y ∧ y < k ∧ c = 1 + y % 9 then 5 else 0
theorem sl_zero : SL 0 = S0 := by
  funext c y
  unfold SL S0
  rw [if_neg (by omega)]
theorem sl_push (k : Nat) (c : Int) (hc : c = 1 + (k : Int) % 9) : upS (SL k) c k 5 = SL (k + 1) := by
  funext c' y'
  unfold upS SL
  by_cases q : c' = c ∧ y' = k
  · rw [if_pos q, if_pos (by omega)]
  · rw [if_neg q]
    by_cases z : 0 ≤ y' ∧ y' < (k : Int) ∧ c' = 1 + y' % 9
    · rw [if_pos z, if_pos (by omega)]
    · rw [if_neg z, if_neg (by omega)]
theorem sl_at {k n : Nat} (h : k < n) (c : Int) (hc : c = 1 + (k : Int) % 9) : SL n c k = 5 := if_pos (by omega)
theorem sl_not (n : Nat) (c y : Int) (h : (n : Int) ≤ y) : SL n c y = 0 := if_neg (by omega)
set_option maxHeartbeats 8000000 in
set_option maxRecDepth 100000 in
theorem bucketLimits_walk (a0 : Int) (w : World) (_w0 : (Lit.int .i64 a0).wf = true) :
    Calls Try.prog 7 #[.int .i64 a0] w fun e w' => e = .returned (.bool true) ∧ Below w.heap.size w w' := by
  clear _w0
  have CN := Lib.hid (pbnew w w (fun _ => 0) (Fin0.zero _ _) (Below.refl _ _) 1)
  go_enter Try.func7, Try.ntmps7
  go_wp2_with fail
  refine (CN.out).mono ?_
  rintro e w1 ⟨sb, O1, rfl, n1, _⟩
  have k0 := pk_new n1
  rw [← sl_zero] at k0
  have K0 := Lib.hid k0
  clear n1 CN k0
  go_wp2
  go_loopg [4] 12 (fun gh i wr => ∃ (k : Nat) (O : Nat → Nat), k ≤ 12 ∧ gh = 12 - k ∧ i = .int .i64 k ∧ PK w wr O sb (SL k) k (5 * (k : Int)))
  case atStart => exact ⟨0, _, by omega, rfl, rfl, K0.out⟩
  case round =>
    obtain ⟨k, O, hk, hgk, rfl, hk1⟩ := hrel
    have HGK := Lib.hid hgk
    have K1 := Lib.hid hk1
    clear hgk hk1 K0
    by_cases hlt : k < 12
    · obtain ⟨m, hm⟩ : ∃ m : Int, Int.tmod (k : Int) 9 = m := ⟨_, rfl⟩
      have hm1 : m = (k : Int) % 9 := by rw [← hm, Int.tmod_eq_emod_of_nonneg (by omega)]
      obtain ⟨c, hc⟩ : ∃ c : Int, 1 + m = c := ⟨_, rfl⟩
      have hc1 : c = 1 + (k : Int) % 9 := by omega
      have ew : IntKind.i64.wrap (1 + m) = c := by rw [← hc]; exact IntWalk.i64_in _ (by omega)
      have HC := Lib.hid hc1
      have h0 := Lib.hid (sl_not k c k (Int.le_refl _))
      have hb : BOk c k := by unfold BOk; omega
      have HB := Lib.hid hb
      have CM := Lib.hid (pkmove_ok K1.out c k 5 5 (by rw [h0.out]; omega) ⟨hb, by unfold Mon; omega⟩ ⟨by unfold Mon; omega, by unfold Mon; omega⟩ (by rw [h0.out]; unfold cntB; simp; omega))
      clear hm1 hc hc1 hb
      go_wp2_with fail
      refine (CM.out).mono ?_
      rintro e w2 ⟨rfl, O2, m2, k2, hm2⟩
      rw [h0.out] at hm2
      obtain rfl : m2 = k + 1 := by unfold cntB at hm2; simp at hm2; omega
      rw [sl_push k c HC.out, show 5 * (k : Int) + 5 = 5 * ((k + 1 : Nat) : Int) by omega] at k2
      have K2 := Lib.hid k2
      clear k2 hm2 CM
      go_wp2
      go_roundg (12 - (k + 1))
      case measure => have := HGK.out; omega
      case rel => exact ⟨k + 1, O2, by omega, rfl, by go_num, K2.out⟩
    · obtain rfl : k = 12 := by omega
      clear hlt hk
      go_wp2_with fail
      refine (within_some _ _ _ (by omega) (by omega)).mono ?_
      rintro e w' ⟨q, q1, q2, rfl, rfl⟩
      obtain ⟨q, rfl⟩ : ∃ p : Nat, q = p := ⟨q.toNat, by omega⟩
      have hq : q < 12 := by omega
      obtain ⟨m, hm⟩ : ∃ m : Int, Int.tmod (q : Int) 9 = m := ⟨_, rfl⟩
      have hm1 : m = (q : Int) % 9 := by rw [← hm, Int.tmod_eq_emod_of_nonneg (by omega)]
      obtain ⟨c, hc⟩ : ∃ c : Int, 1 + m = c := ⟨_, rfl⟩
      have hc1 : c = 1 + (q : Int) % 9 := by omega
      have ew : IntKind.i64.wrap (1 + m) = c := by rw [← hc]; exact IntWalk.i64_in _ (by omega)
      have hb : BOk c q := by unfold BOk; omega
      have HB := Lib.hid hb
      have F1 := Lib.hid (sl_at hq c hc1)
      have F2 := Lib.hid (sl_not 12 1 50 (by omega))
      have F3 := Lib.hid (sl_not 12 2 60 (by omega))
      clear hm1 hc hc1
      have c1 := Lib.hid (pkmove_no K1.out 1 50 1 5 (.limit ⟨by unfold BOk; omega, by unfold Mon; omega⟩ ⟨by rw [F2.out]; unfold Mon; omega, by unfold Mon; omega⟩ (by rw [F2.out]; unfold cntB; simp)) (by decide))
      go_wp2_with fail
      refine (c1.out).mono ?_
      rintro e w2 ⟨rfl, O2, k2⟩
      have c2 := Lib.hid (pkrec_no k2 c q 1 50 2 5 (.limit ⟨hb, by unfold BOk; omega, by unfold Mon; omega, by omega⟩ ⟨by rw [F1.out]; unfold Mon; omega, by rw [F2.out]; unfold Mon; omega⟩ (by rw [F1.out, F2.out]; unfold cntR cntB; simp)) (by decide))
      clear k2 c1 K1
      go_wp2_with fail
      refine (c2.out).mono ?_
      rintro e w3 ⟨rfl, O3, k3⟩
      have y0 : Hid (cntR 12 (SL 12 c q) (SL 12 1 50) 5 = 12) := Lib.hid (by rw [F1.out, F2.out]; unfold cntR cntB; simp)
      have c3 := Lib.hid (pkrec_ok k3 c q 1 50 5 0 5 (by rw [F1.out]; omega) (by rw [F2.out]; omega) ⟨hb, by unfold BOk; omega, by unfold Mon; omega, by omega⟩ ⟨by unfold Mon; omega, by unfold Mon; omega⟩ (by rw [y0.out]; omega))
      clear k3 c2
      go_wp2_with fail
      refine (c3.out).mono ?_
      rintro e w4 ⟨rfl, O4, m4, k4, hm4⟩
      obtain rfl : m4 = 12 := by rw [y0.out] at hm4; omega
      obtain ⟨S1, hS1⟩ : ∃ S1, upS (upS (SL 12) c q 0) 1 50 5 = S1 := ⟨_, rfl⟩
      rw [hS1] at k4
      have G1 := Lib.hid (show S1 1 50 = 5 by rw [← hS1]; exact upS_at _ _ _ _)
      have G2 := Lib.hid (show S1 c q = 0 by
        rw [← hS1]
        unfold upS
        rw [if_neg (by omega), if_pos ⟨rfl, rfl⟩])
      have G3 := Lib.hid (show S1 2 60 = 0 by
        rw [← hS1]
        unfold upS
        rw [if_neg (by omega), if_neg (by omega)]
        exact F3.out)
      have c4 := Lib.hid (pkget k4 1 50 5 G1.out)
      clear k4 hm4 hS1 c3 y0 F1 F2 F3
      go_wp2_with fail
      refine (c4.out).mono ?_
      rintro e w5 ⟨rfl, k5⟩
      have c5 := Lib.hid (pkget k5 c q 0 G2.out)
      clear k5 c4
      go_wp2_with fail
      refine (c5.out).mono ?_
      rintro e w6 ⟨rfl, k6⟩
      have c6 := Lib.hid (pkrows k6)
      clear k6 c5
      go_wp2_with fail
      refine (c6.out).mono ?_
      rintro e w7 ⟨A, cc, rfl, _, _, k7⟩
      have c7 := Lib.hid (pkmove_no k7 2 60 1 5 (.limit ⟨by unfold BOk; omega, by unfold Mon; omega⟩ ⟨by rw [G3.out]; unfold Mon; omega, by unfold Mon; omega⟩ (by rw [G3.out]; unfold cntB; simp)) (by decide))
      clear k7 c6
      go_wp2_with fail
      refine (c7.out).mono ?_
      rintro e w8 ⟨rfl, O8, k8⟩
      have c8 := Lib.hid (pkmove_ok k8 1 50 (-5) 0 (by rw [G1.out]; omega) ⟨by unfold BOk; omega, by unfold Mon; omega⟩ ⟨by unfold Mon; omega, by unfold Mon; omega⟩ (by rw [G1.out]; unfold cntB; simp))
      clear k8 c7
      go_wp2_with fail
      refine (c8.out).mono ?_
      rintro e w9 ⟨rfl, O9, m9, k9, hm9⟩
      obtain rfl : m9 = 11 := by rw [G1.out] at hm9; unfold cntB at hm9; simp at hm9; omega
      obtain ⟨S2, hS2⟩ : ∃ S2, upS S1 1 50 0 = S2 := ⟨_, rfl⟩
      rw [hS2] at k9
      have H3 := Lib.hid (show S2 2 60 = 0 by
        rw [← hS2]
        unfold upS
        rw [if_neg (by omega)]
        exact G3.out)
      have c9 := Lib.hid (pkmove_ok k9 2 60 1 1 (by rw [H3.out]; omega) ⟨by unfold BOk; omega, by unfold Mon; omega⟩ ⟨by unfold Mon; omega, by unfold Mon; omega⟩ (by rw [H3.out]; unfold cntB; simp))
      clear k9 hm9 hS2 c8 G1 G2 G3
      go_wp2_with fail
      refine (c9.out).mono ?_
      rintro e w10 ⟨rfl, O10, m10, k10, _⟩
      have c10 := Lib.hid (pkmove_no k10 0 1 1 1 (.arg fun z => by have := z.1; unfold BOk at this; omega) (by decide))
      clear k10 c9
      go_wp2_with fail
      refine (c10.out).mono ?_
      rintro e w11 ⟨rfl, O11, k11⟩
      have c11 := Lib.hid (pkmove_no k11 1 100 1 1 (.arg fun z => by have := z.1; unfold BOk at this; omega) (by decide))
      clear k11 c10
      go_wp2_with fail
      refine (c11.out).mono ?_
      rintro e w12 ⟨rfl, O12, k12⟩
      have c12 := Lib.hid (pkmove_no k12 1 1 100000000001 1 (.arg fun z => by have := z.2; unfold Mon at this; omega) (by decide))
      clear k12 c11
      go_wp2_with fail
      refine (c12.out).mono ?_
      rintro e w13 ⟨rfl, O13, k13⟩
      have c13 := Lib.hid (pkrec_no k13 1 1 1 1 1 1 (.arg fun z => z.2.2.2 ⟨rfl, rfl⟩) (by decide))
      clear k13 c12
      go_wp2_with fail
      refine (c13.out).mono ?_
      rintro e w14 ⟨rfl, O14, k14⟩
      have L14 := Lib.hid k14.now.low
      clear k14 c13
      go_wp2_with fail
      refine (wakes10_any _).mono ?_
      rintro e w15 ⟨rfl, hb⟩
      have L15 := Lib.hid (L14.out.trans (hb.mono L14.out.size))
      clear hb
      go_wp2
      go_ret
      exact ⟨rfl, L15.out⟩
end Go.Proofs.Ythconfcpajnjgaa
