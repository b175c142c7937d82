/- VintageErrors: its walk. -/
import Derived.Test.YtdjepibgpgeifaaLaw13a
import Derived.Test.YtdjepibgpgeifaaPlay
import Derived.Test.YtdjepibgpgeifaaInts
import Derived.WalkKit
import Derived.WalkSpells
import Derived.WalkLawsBesides
import Derived.Lib.Hide
import Derived.IntWalk
import Derived.BigQuiet
import Derived.Deep.LoopGhost
import Derived.Deep.QuietTactic
namespace Go.Proofs.Ytdjepibgpgeifaa
open Go.RowKit

theorem vis_from {S : Int → Int → Int} {n : Nat} {g : Nat → Bk} (r : VRow n g) (h1 : ∀ j, j < n → S (g j).c (g j).y = (g j).a) (h2 : ∀ c y, S c y ≠ 0 → ∃ j, j < n ∧ (g j).c = c ∧ (g j).y = y) : VIs S n g := by
  refine ⟨r, fun c y => ?_⟩
  by_cases h : S c y = 0
  · rw [h]
    refine tot_zero n fun j hj => ?_
    show bval (g j) c y = 0
    unfold bval
    split
    · rename_i q
      rw [← h1 j hj, q.1, q.2]; exact h
    · rfl
  · obtain ⟨j, hj, e1, e2⟩ := h2 c y h
    subst e1 e2
    rw [vget_at r hj, h1 j hj]
/-- the first k losses of VintageErrors -/
def SV (N : Int) (k : Nat) : Int → Int → Int := fun c y => if 0 ≤ y ∧ y < k ∧ c = 50 - y then N else 0
theorem sv_zero (N : Int) : SV N 0 = fun _ _ => 0 := by
  funext c y
  unfold SV
  rw [if_neg (by omega)]
theorem sv_push (N : Int) (k : Nat) : upS (SV N k) (50 - k) k N = SV N (k + 1) := by
  funext c' y'
  unfold upS SV
  by_cases q : c' = 50 - (k : Int) ∧ y' = k
  · rw [if_pos q, if_pos (by omega)]
  · rw [if_neg q]
    by_cases z : 0 ≤ y' ∧ y' < (k : Int) ∧ c' = 50 - y'
    · rw [if_pos z, if_pos (by omega)]
    · rw [if_neg z, if_neg (by omega)]
theorem sv_not (N : Int) (k : Nat) (c y : Int) (h : (k : Int) ≤ y) : SV N k c y = 0 := if_neg (by omega)
/-- all of them, one a unit more -/
def GV (N : Int) : Nat → Bk := fun j => ⟨39 + j, 11 - j, if j = 8 then N + 1 else N⟩
theorem gv_row {N : Int} (hN : 1 ≤ N) (i n : Nat) (h : i + n ≤ 12) : VRow n (fun j => GV N (i + j)) := by
  refine ⟨fun j hj => ?_, fun j hj => ?_, fun a b hab hb => ?_⟩
  · show VOk (39 + ((i + j : Nat) : Int)) (11 - ((i + j : Nat) : Int))
    unfold VOk; omega
  · show (if i + j = 8 then N + 1 else N) ≠ 0
    split <;> omega
  · show Bl (39 + ((i + a : Nat) : Int)) _ (39 + ((i + b : Nat) : Int)) _
    unfold Bl; omega
theorem gv_all {N : Int} (hN : 1 ≤ N) : VIs (upS (SV N 12) 47 3 (N + 1)) 12 (fun j => GV N (0 + j)) := by
  refine vis_from (gv_row hN 0 12 (by omega)) (fun j hj => ?_) fun c y h => ?_
  · show upS (SV N 12) 47 3 (N + 1) (39 + ((0 + j : Nat) : Int)) (11 - ((0 + j : Nat) : Int)) = if 0 + j = 8 then N + 1 else N
    unfold upS SV
    by_cases e : j = 8
    · subst e; rfl
    · rw [if_neg (by omega), if_pos (by omega), if_neg (by omega)]
  · unfold upS SV at h
    refine ⟨(11 - y).toNat, ?_⟩
    show _ ∧ 39 + ((0 + (11 - y).toNat : Nat) : Int) = c ∧ 11 - ((0 + (11 - y).toNat : Nat) : Int) = y
    split at h
    · omega
    · split at h
      · omega
      · exact absurd rfl h
theorem gv_rest {N : Int} (hN : 1 ≤ N) : VIs (xpS (upS (SV N 12) 47 3 (N + 1)) 40) 11 (fun j => GV N (1 + j)) := by
  refine vis_from (gv_row hN 1 11 (by omega)) (fun j hj => ?_) fun c y h => ?_
  · show xpS (upS (SV N 12) 47 3 (N + 1)) 40 (39 + ((1 + j : Nat) : Int)) (11 - ((1 + j : Nat) : Int)) = if 1 + j = 8 then N + 1 else N
    unfold xpS upS SV
    rw [if_neg (by omega)]
    by_cases e : j = 7
    · subst e; rfl
    · rw [if_neg (by omega), if_pos (by omega), if_neg (by omega)]
  · unfold xpS upS SV at h
    refine ⟨(10 - y).toNat, ?_⟩
    show _ ∧ 39 + ((1 + (10 - y).toNat : Nat) : Int) = c ∧ 11 - ((1 + (10 - y).toNat : Nat) : Int) = y
    split at h
    · exact absurd rfl h
    · split at h
      · omega
      · split at h
        · omega
        · exact absurd rfl h
theorem gv_none {N : Int} : xpS (upS (SV N 12) 47 3 (N + 1)) 39 = upS (SV N 12) 47 3 (N + 1) := by
  funext c y
  unfold xpS
  split
  · unfold upS SV
    rw [if_neg (by omega), if_neg (by omega)]
  · rfl
theorem gv_tot (N : Int) : btot (fun j => GV N (0 + j)) 12 = N * 12 + 1 ∧ btot (fun j => GV N (1 + j)) 11 = N * 11 + 1 := by
  constructor
  · simp only [btot, tot, GV]; simp; omega
  · simp only [btot, tot, GV]; simp; omega
set_option maxHeartbeats 8000000 in
set_option maxRecDepth 100000 in
theorem vintageErrors_walk (a0 : Int) (w : World) (_w0 : (Lit.int .i64 a0).wf = true) :
    Calls Try.prog 3 #[.int .i64 a0] w fun e w' => e = .returned (.bool true) ∧ Below w.heap.size w w' := by
  clear _w0
  have CN := Lib.hid (pvnew w w (fun _ => 0) (Fin0.zero _ _) (Below.refl _ _) 1)
  have hmk : ∀ w : World, (Instr.makeSlice 34 (.int .i64 3) (.int .i64 3)).run Try.prog w = .ok (.slice (some ⟨w.heap.size, 0, none⟩) 3 3) (w.alloc (.cells (madeCells #[.int .i64 0] 3) 3)) :=
    fun w => run_make_row' (P := Try.prog) 34 3 (.int .i64 0) 8 Try.underlying34 int_info rfl .i64 .i64 3 (by omega) (by omega) w
  go_enter Try.func3, Try.ntmps3
  go_wp2_with fail
  refine (CN.out).mono ?_
  rintro e w1 ⟨sb, O1, rfl, n1, _⟩
  have k1 := pv_new n1
  clear n1 CN
  go_wp2_with fail
  refine (within_some _ _ _ (by omega) (by omega)).mono ?_
  rintro e w' ⟨q, q1, q2, rfl, rfl⟩
  obtain ⟨N, hN⟩ : ∃ N, 1 + q = N := ⟨_, rfl⟩
  have n1 : 1 ≤ N ∧ N ≤ 1000 := by omega
  have ew : IntKind.i64.wrap (1 + q) = N := by rw [← hN]; exact IntWalk.i64_in _ (by omega)
  clear q1 q2 hN
  have C2 := Lib.hid (pvadd_no k1 3 (-1) N 1 (.arg (by unfold VOk; omega)) (by decide))
  clear k1
  go_wp2_with fail
  refine (C2.out).mono ?_
  rintro e w2 ⟨rfl, O2, k2⟩
  clear C2
  have C3 := Lib.hid (pvadd_no k2 150 100 N 1 (.arg (by unfold VOk; omega)) (by decide))
  clear k2
  go_wp2_with fail
  refine (C3.out).mono ?_
  rintro e w3 ⟨rfl, O3, k3⟩
  clear C3
  have C4 := Lib.hid (pvadd_no k3 4 5 N 1 (.arg (by unfold VOk; omega)) (by decide))
  clear k3
  go_wp2_with fail
  refine (C4.out).mono ?_
  rintro e w4 ⟨rfl, O4, k4⟩
  clear C4
  have C5 := Lib.hid (pvadd_no k4 199 5 N 1 (.arg (by unfold VOk; omega)) (by decide))
  clear k4
  go_wp2_with fail
  refine (C5.out).mono ?_
  rintro e w5 ⟨rfl, O5, k5⟩
  clear C5
  have C6 := Lib.hid (pvadd_no k5 6 5 0 1 (.arg (by unfold VOk; omega)) (by decide))
  clear k5
  go_wp2_with fail
  refine (C6.out).mono ?_
  rintro e w6 ⟨rfl, O6, k6⟩
  clear C6
  have C7 := Lib.hid (pvadd_no k6 6 5 (-N) 1 (.arg (by unfold VOk; omega)) (by decide))
  clear k6
  go_wp2_with fail
  refine (C7.out).mono ?_
  rintro e w7 ⟨rfl, O7, k7⟩
  clear C7
  have C8 := Lib.hid (pvadd_no k7 6 5 100000000001 1 (.arg (by unfold VOk; omega)) (by decide))
  clear k7
  go_wp2_with fail
  refine (C8.out).mono ?_
  rintro e w8 ⟨rfl, O8, k8⟩
  clear C8
  have K0 := Lib.hid k8
  clear k8
  go_wp2_with fail
  obtain ⟨W, hW⟩ : ∃ W, W = w8.alloc (.cells #[.int .i64 1, .int .i64 1, .int .i64 1, .int .i64 1, .int .i64 1, .int .i64 1, .int .i64 1] 25) := ⟨_, rfl⟩
  have KW := Lib.hid (show PV w W O8 sb (fun _ _ => 0) 0 0 by rw [hW]; exact K0.out.below ((Below.refl _ _).alloc (Nat.le_refl _) _))
  have CW : Hid (∀ j : Nat, j < 7 → W.cell? ⟨w8.heap.size, j, none⟩ = some (.int .i64 1)) := Lib.hid fun j hj => by
    rw [hW]
    refine rec_lit w8 [.int .i64 1, .int .i64 1, .int .i64 1, .int .i64 1, .int .i64 1, .int .i64 1, .int .i64 1] 25 w8.heap.size rfl j _ ?_
    rcases (show j = 0 ∨ j = 1 ∨ j = 2 ∨ j = 3 ∨ j = 4 ∨ j = 5 ∨ j = 6 by omega) with rfl | rfl | rfl | rfl | rfl | rfl | rfl <;> rfl
  rw [← hW]
  clear hW K0
  go_loopg [38] 7 (fun gh i wr => ∃ k : Nat, k ≤ 7 ∧ gh = 7 - k ∧ i = .int .i64 k ∧ wr = W)
  case atStart => exact ⟨0, by omega, rfl, rfl, rfl⟩
  case round =>
    obtain ⟨k, hk, hgk, rfl, rfl⟩ := hrel
    have HGK := Lib.hid hgk
    clear hgk
    by_cases hlt : k < 7
    · have ck := CW.out k hlt
      go_wp2
      go_roundg (7 - (k + 1))
      case measure => have := HGK.out; omega
      case rel => exact ⟨k + 1, by omega, rfl, by go_num, rfl⟩
    · obtain rfl : k = 7 := by omega
      clear hlt hk CW
      go_wp2
      go_loopg [6] 12 (fun gh i wr => ∃ (k : Nat) (O : Nat → Nat), k ≤ 12 ∧ gh = 12 - k ∧ i = .int .i64 k ∧ PV w wr O sb (SV N k) k (N * (k : Int)))
      case atStart => exact ⟨0, _, by omega, rfl, rfl, by rw [sv_zero]; simpa using KW.out⟩
      case round =>
        obtain ⟨k, O, hk, hgk, rfl, hk1⟩ := hrel
        have HGK := Lib.hid hgk
        have K1 := Lib.hid hk1
        clear hgk hk1
        by_cases hlt : k < 12
        · have hT : N * (k : Int) + N = N * ((k + 1 : Nat) : Int) := by rw [Int.natCast_succ, Int.mul_add, Int.mul_one]
          have hb : N * (k : Int) ≤ 12000 := by
            have := Int.mul_le_mul (show N ≤ 1000 by omega) (show (k : Int) ≤ 12 by omega) (by omega) (by omega)
            omega
          have ew2 : IntKind.i64.wrap (50 - (k : Int)) = 50 - (k : Int) := IntWalk.i64_in _ (by omega)
          have CM := Lib.hid (pvadd_ok K1.out (50 - (k : Int)) k N N (by rw [sv_not N k _ _ (Int.le_refl _)]; omega) (by unfold VOk; omega) (by omega) (.inr hlt))
          have HT := Lib.hid hT
          clear hT hb
          go_wp2_with fail
          refine (CM.out).mono ?_
          rintro e w9 ⟨rfl, O9, m9, k9, hm9⟩
          rw [sv_not N k _ _ (Int.le_refl _), if_pos rfl] at hm9
          obtain rfl : m9 = k + 1 := by omega
          rw [sv_push, HT.out] at k9
          have K9 := Lib.hid k9
          clear k9 hm9 CM
          go_wp2
          go_roundg (12 - (k + 1))
          case measure => have := HGK.out; omega
          case rel => exact ⟨k + 1, O9, by omega, rfl, by go_num, K9.out⟩
        · obtain rfl : k = 12 := by omega
          have E1 : SV N 12 60 30 = 0 := sv_not N 12 60 30 (by omega)
          have E2 : SV N 12 47 3 = N := rfl
          have C1 := Lib.hid (pvadd_no K1.out 60 30 1 5 (.limit (by unfold VOk; omega) (by omega) E1 (by omega)) (by decide))
          clear hlt hk E1 K1
          go_wp2_with fail
          refine (C1.out).mono ?_
          rintro e wa ⟨rfl, Oa, ka⟩
          have C2 := Lib.hid (pvadd_ok ka 47 3 1 (N + 1) (by rw [E2]) (by unfold VOk; omega) (by omega) (.inl (by rw [E2]; omega)))
          clear ka C1
          go_wp2_with fail
          refine (C2.out).mono ?_
          rintro e wb ⟨rfl, Ob, mb, kb, hmb⟩
          rw [E2, if_neg (by omega)] at hmb
          obtain rfl : mb = 12 := by omega
          have kb2 : PV w wb Ob sb (upS (SV N 12) 47 3 (N + 1)) 12 (N * 12 + 1) := kb
          have C3 := Lib.hid (pvadd_no kb2 47 3 100000000000 6 (.over (by unfold VOk; omega) (by omega)) (by decide))
          clear kb kb2 C2 hmb E2
          go_wp2_with fail
          refine (C3.out).mono ?_
          rintro e wc ⟨rfl, Oc, kc⟩
          have C4 := Lib.hid (pvleft_k kc)
          clear kc C3
          go_wp2_with fail
          refine (C4.out).mono ?_
          rintro e wd ⟨rfl, kd⟩
          have KD := Lib.hid kd
          have C5 := Lib.hid (pvrows kd.now (gv_all n1.1))
          have HG := Lib.hid (gv_tot N)
          clear kd C4
          go_wp2_with fail
          refine (C5.out).mono ?_
          rintro e we ⟨A, cr, rfl, hr1, hr2, ho, hbe⟩
          have KE := Lib.hid (KD.out.below hbe)
          obtain ⟨_, _, e, _, _, _, hat⟩ := ho.at ve_len
          injection e with e1 _ e3
          subst e1 e3
          have HA := Lib.hid hat
          clear hr1 hr2 ho hbe hat C5 KD
          go_wp2
          go_loopg [84] 12 (fun gh i wr => ∃ k : Nat, k ≤ 12 ∧ gh = 12 - k ∧ i = .int .i64 k ∧ Below we.heap.size we wr)
          case atStart => exact ⟨0, by omega, rfl, rfl, Below.refl _ _⟩
          case round =>
            obtain ⟨k, hk, hgk, rfl, hbw⟩ := hrel
            have HGK := Lib.hid hgk
            have HB := Lib.hid hbw
            clear hgk hbw
            by_cases hlt : k < 12
            · obtain ⟨b, off, rfl, hb, c0, c1, c2⟩ := (HA.out.below HB.out).threeV hlt
              have c0' : wr.cell? ⟨b, off + k * 3, none⟩ = some (.int .i64 (11 - (k : Int))) := by rw [c0]; show some (Value.int .i64 (11 - ((0 + k : Nat) : Int))) = _; rw [Nat.zero_add]
              have c1' : wr.cell? ⟨b, off + k * 3 + 1, none⟩ = some (.int .i64 (39 + (k : Int))) := by rw [c1]; show some (Value.int .i64 (39 + ((0 + k : Nat) : Int))) = _; rw [Nat.zero_add]
              clear c0 c1
              go_wp2
              go_roundg (12 - (k + 1))
              case measure => have := HGK.out; omega
              case rel => exact ⟨k + 1, by omega, rfl, by go_num, HB.out.alloc HB.out.size _⟩
            · obtain rfl : k = 12 := by omega
              have KF := Lib.hid (KE.out.below HB.out)
              clear hlt hk HA
              go_wp2_with fail
              have KG := Lib.hid (KF.out.below ((Below.refl wr.heap.size wr).alloc (Nat.le_refl _) (.cells (madeCells #[.int .i64 0] 3) 3)))
              have r3 := made_row wr 3 3
              have CT := Lib.hid (pvtake_no KG.out (gv_all n1.1) (U := some ⟨wr.heap.size, 0, none⟩) (q := 3) (c := 3) (u := fun _ => 0) (.inr ⟨wr.heap.size, 0, rfl, r3.1, fun j hj => by rw [Nat.zero_add]; exact (r3.2 j hj).1⟩) (fun b off e => by injection e with e; injection e with e1 _; rw [← e1, KF.out.now.fin.2 _ (Nat.le_refl _)]; decide) (fun z => by have := z.1; omega))
              clear r3 KG
              refine (CT.out).mono ?_
              rintro e wf ⟨rfl, Of, kf⟩
              have CE := Lib.hid (pvexp_k kf 39 12 (N * 12 + 1) ⟨_, by rw [gv_none]; exact gv_all n1.1, HG.out.1⟩)
              clear kf CT
              go_wp2_with fail
              refine (CE.out).mono ?_
              rintro e wg ⟨rfl, Og, kg⟩
              rw [gv_none] at kg
              have CE2 := Lib.hid (pvexp_k kg 40 11 (N * 11 + 1) ⟨_, gv_rest n1.1, HG.out.2⟩)
              have e0 : N * 12 + 1 - (N * 12 + 1) = 0 := by omega
              have e1 : N * 12 + 1 - (N * 11 + 1) = N := by omega
              rw [e0]
              clear kg CE
              go_wp2_with fail
              refine (CE2.out).mono ?_
              rintro e wh ⟨rfl, Oh, kh⟩
              rw [e1]
              have C6 := Lib.hid (pvrows kh.now (gv_rest n1.1))
              have KH := Lib.hid kh
              clear kh CE2 e0 e1
              go_wp2_with fail
              refine (C6.out).mono ?_
              rintro e wi ⟨A6, c6, rfl, _, _, _, hbi⟩
              have KI := Lib.hid (KH.out.below hbi)
              clear hbi C6 KH
              go_wp2_with fail
              refine (wakes13_any _).mono ?_
              rintro e wj ⟨rfl, hbj⟩
              have KJ := Lib.hid (KI.out.below hbj).low
              clear hbj KI
              go_wp2
              go_ret
              exact ⟨rfl, KJ.out⟩
end Go.Proofs.Ytdjepibgpgeifaa
