/- VintageKept: its walk. -/
import Derived.Test.YtdjepibgpgeifaaLaw13a
import Derived.Test.YtdjepibgpgeifaaActs13
import Derived.Test.YtdjepibgpgeifaaPlay
import Derived.Test.YtdjepibgpgeifaaInts
import Derived.WalkKit
import Derived.WalkSpells
import Derived.WalkLawsBesides
import Derived.Lib.Hide
import Derived.IntWalk
import Derived.BigQuiet
import Derived.Deep.LoopGhost
import Derived.Deep.QuietTactic
import Derived.Deep.CutBlock
import Derived.Deep.DeepCutAuto
namespace Go.Proofs.Ytdjepibgpgeifaa
open Go.RowKit

theorem pre_tot {g : Nat → Int} {n k : Nat} (h : ∀ j, j < n → 0 ≤ g j) (hk : k ≤ n) : 0 ≤ tot g k ∧ tot g k ≤ tot g n := tot_upto h hk
theorem PV.inv {w0 w : World} {O : Nat → Nat} {sb n : Nat} {S : Int → Int → Int} {T : Int} (h : PV w0 w O sb S n T) : ∃ g, VInv S n g ∧ btot g n = T := by
  obtain ⟨g, b, e⟩ := h.is
  obtain ⟨m, g', iv⟩ := h.now.told
  obtain ⟨e1, e2⟩ := iv.is.uniq b
  subst e1
  exact ⟨g', iv, by rw [iv.is.total b]; exact e⟩
theorem PV.nn {w0 w : World} {O : Nat → Nat} {sb n : Nat} {S : Int → Int → Int} {T : Int} (h : PV w0 w O sb S n T) : 0 ≤ T ∧ T ≤ 100000000000 := by
  obtain ⟨g, iv, rfl⟩ := h.inv
  exact ⟨iv.low, iv.all⟩
/-- a year's expiry, whatever there is -/
theorem pvexp_any {w0 w : World} {O : Nat → Nat} {sb n : Nat} {S : Int → Int → Int} {T : Int} (h : PV w0 w O sb S n T) (year : Int) :
    Calls Try.prog 14 #[ptr sb, .int .i64 year] w fun e w' => ∃ (O' : Nat → Nat) (n' : Nat) (T' : Int), e = .returned (.int .i64 (T - T')) ∧ T' ≤ T ∧ PV w0 w' O' sb (xpS S year) n' T' := by
  obtain ⟨g, iv, rfl⟩ := h.inv
  obtain ⟨m, f0, f⟩ := flt_any (n := n) (G := lessG g (goneU g year)) (fun j hj => iv.is.1.ok j hj) (fun i j hi hj => iv.is.1.asc i j hi hj) g n (Nat.le_refl _)
  have f2 := f.done
  rw [less_gone iv.is] at f2
  refine (pvexp_k h year m (btot f0 m) ⟨f0, f2, rfl⟩).mono ?_
  rintro e w' ⟨rfl, O', k⟩
  have le : btot f0 m ≤ btot g n := by
    have e1 := (iv.less (iv.gone year) f).2
    have e2 := tot_nonneg n fun j hj => (iv.gone year j hj).1
    omega
  exact ⟨O', m, _, rfl, le, k⟩
/-- a small loss, whatever there is -/
theorem pvadd_any {w0 w : World} {O : Nat → Nat} {sb n : Nat} {S : Int → Int → Int} {T : Int} (h : PV w0 w O sb S n T) (c y a : Int) (h1 : VOk c y ∧ 1 ≤ a ∧ a ≤ 100000000000) (h2 : T + a ≤ 100000000000) :
    Calls Try.prog 10 #[ptr sb, .int .i64 y, .int .i64 c, .int .i64 a] w fun e w' => ∃ (r : Int) (O' : Nat → Nat) (S' : Int → Int → Int) (n' : Nat) (T' : Int), e = .returned (.int .i64 r) ∧ PV w0 w' O' sb S' n' T' ∧ ((r = 0 ∧ T' = T + a) ∨ (r = 5 ∧ T' = T)) := by
  by_cases h3 : S c y ≠ 0 ∨ n < 12
  · refine (pvadd_ok h c y a _ rfl h1 h2 h3).mono ?_
    rintro e w' ⟨rfl, O', m, k, _⟩
    exact ⟨_, _, _, _, _, rfl, k, .inl ⟨rfl, rfl⟩⟩
  · refine (pvadd_no h c y a 5 (.limit h1 h2 (by omega) (by omega)) (by decide)).mono ?_
    rintro e w' ⟨rfl, O', k⟩
    exact ⟨_, _, _, _, _, rfl, k, .inr ⟨rfl, rfl⟩⟩
/-- what may be taken, whatever there is -/
theorem pvtake_any {w0 w : World} {O : Nat → Nat} {sb n : Nat} {S : Int → Int → Int} {T : Int} (h : PV w0 w O sb S n T) {g : Nat → Bk} (iv : VInv S n g) (hT : btot g n = T) {U : Option Addr} {c : Nat} {u : Nat → Int} (hu : At w U n u) (hU : ∀ b off, U = some ⟨b, off, none⟩ → O b ≠ 1) (ok : ∀ j, j < n → 0 ≤ u j ∧ u j ≤ (g j).a) :
    Calls Try.prog 13 #[ptr sb, .slice U n c] w fun e w' => e = .returned (.int .i64 0) ∧ ∃ (O' : Nat → Nat) (S' : Int → Int → Int) (n' : Nat), PV w0 w' O' sb S' n' (T - tot u n) := by
  subst hT
  have hn := iv.le
  refine (pvtake h.now (by decide) iv.is hu hU 0 (.inl ⟨⟨rfl, ok⟩, rfl⟩)).mono ?_
  rintro e w' ⟨rfl, O', h', _⟩
  unfold tkS at h'
  rw [if_pos rfl] at h'
  obtain ⟨m, f0, f⟩ := flt_any (n := n) (G := lessG g u) (fun j hj => iv.is.1.ok j hj) (fun i j hi hj => iv.is.1.asc i j hi hj) g n (Nat.le_refl _)
  exact ⟨rfl, O', _, m, h', f0, f.done, (iv.less ok f).2⟩
set_option maxHeartbeats 8000000 in
set_option maxRecDepth 100000 in
theorem vintageKept_walk (a0 : Option Addr) (len0 cap0 : Nat) (w : World) (w0 : Acts13 w a0 len0) :
    Calls Try.prog 6 #[.slice a0 len0 cap0] w fun e w' => e = .returned (.bool true) ∧ Below w.heap.size w w' := by
  have CN := Lib.hid (pvnew w w (fun _ => 0) (Fin0.zero _ _) (Below.refl _ _) 1)
  have AC := Lib.hid w0
  clear w0
  go_enter Try.func6, Try.ntmps6
  go_wp2_with fail
  refine (CN.out).mono ?_
  rintro e w1 ⟨sb, O1, rfl, n1, _⟩
  have K0 := Lib.hid (pv_new n1)
  clear n1 CN
  go_wp2
  go_loopg [4, 5, 6] 24 (fun gh s4 s5 i wr => ∃ (k m : Nat) (O : Nat → Nat) (S : Int → Int → Int) (CA GO T : Int), k ≤ 24 ∧ k ≤ len0 ∧ gh = 24 - k ∧ i = .int .i64 k ∧ s4 = .int .i64 CA ∧ s5 = .int .i64 GO ∧ PV w wr O sb S m T ∧ CA = GO + T ∧ 0 ≤ GO ∧ CA ≤ 100000 * (k : Int))
  case atStart => exact ⟨0, 0, _, _, 0, 0, 0, by omega, by omega, rfl, rfl, rfl, rfl, K0.out, by omega, by omega, by omega⟩
  case round =>
    obtain ⟨k, m, O, S, CA, GO, T, hk, hk0, hgk, rfl, rfl, rfl, hp, hca, hgo, hcb⟩ := hrel
    have HGK := Lib.hid hgk
    have K1 := Lib.hid hp
    have TB := Lib.hid hp.nn
    have HCA := Lib.hid hca
    have HB := Lib.hid (And.intro hgo hcb)
    clear hgk hp hca hgo hcb K0
    by_cases hlt : k < len0 ∧ k < 24
    · obtain ⟨l0, l1⟩ := hlt
      obtain ⟨b, off, d, o, l, a, A1, n1, c1, z1, rfl, hb, ha⟩ := AC.out.some l0
      have HAct := Lib.hid (ha.below K1.out.low)
      obtain ⟨x0, x1, x2, x3, x4, _, _⟩ := HAct.out
      have e1 : ((k : Int) < (len0 : Int)) := by omega
      clear ha hk hk0
      go_wp2_with fail
      refine (within_some _ _ _ (by omega) (by omega)).mono ?_
      rintro e w' ⟨x, hx1, hx2, rfl, rfl⟩
      obtain ⟨W, hW⟩ : ∃ W, W = wr.alloc (.cells #[.int .i64 d, .int .i64 o, .int .i64 l, .int .i64 a, .slice A1 n1 c1] 40) := ⟨_, rfl⟩
      rw [← hW]
      have KW := Lib.hid (show PV w W O sb S m T by rw [hW]; exact K1.out.below ((Below.refl _ _).alloc (Nat.le_refl _) _))
      have CX : Hid (∀ j u, [Value.int .i64 d, .int .i64 o, .int .i64 l, .int .i64 a, .slice A1 n1 c1][j]? = some u → W.cell? ⟨wr.heap.size, j, none⟩ = some u) := Lib.hid (by rw [hW]; exact rec_lit wr _ 40 wr.heap.size rfl)
      have R1 := Lib.hid (show IsRow .i64 W A1 n1 c1 z1 by rw [hW]; exact isrow_below HAct.out.r1 ((Below.refl _ _).alloc (Nat.le_refl _) _))
      have HSZ : Hid (wr.heap.size < W.heap.size) := Lib.hid (by rw [hW]; simp)
      clear hW x0 x1 x2 x3 x4 e1 K1 HAct
      go_upto_block 2 with fail
      go_cut [4, 5] (fun s0 s1 wx => ∃ (m' : Nat) (O' : Nat → Nat) (S' : Int → Int → Int) (CA' GO' T' : Int), s0 = .int .i64 CA' ∧ s1 = .int .i64 GO' ∧ PV w wx O' sb S' m' T' ∧ CA' = GO' + T' ∧ 0 ≤ GO' ∧ CA' ≤ 100000 * (k : Int) + 100000)
      case first =>
        have y1 := CX.out 1 _ rfl
        have y2 := CX.out 2 _ rfl
        have y3 := CX.out 3 _ rfl
        have y4 := CX.out 4 _ rfl
        have hT := TB.out
        obtain ⟨hg, hcb⟩ := HB.out
        rcases (show x = 0 ∨ x = 1 ∨ x = 2 ∨ x = 3 by omega) with hx | hx | hx | hx
        case inl =>
          subst hx
          clear hx1 hx2
          go_wp2_with fail
          refine (within_some _ _ _ (by omega) (by omega)).mono ?_
          rintro e w' ⟨q, q1, q2, rfl, rfl⟩
          obtain ⟨N, hN⟩ : ∃ N, 1 + q = N := ⟨_, rfl⟩
          have ewN : IntKind.i64.wrap (1 + q) = N := by rw [← hN]; exact IntWalk.i64_in _ (by omega)
          go_wp2_with fail
          refine (within_some _ _ _ (by omega) (by omega)).mono ?_
          rintro e w' ⟨oo, oo1, oo2, rfl, rfl⟩
          go_wp2_with fail
          refine (within_some _ _ _ (by omega) (by omega)).mono ?_
          rintro e w' ⟨ll, ll1, ll2, rfl, rfl⟩
          go_wp2_with fail
          refine (pvadd_any KW.out (oo + ll) oo N (by unfold VOk; omega) (by have := HCA.out; omega)).mono ?_
          rintro e wa ⟨r, Oa, Sa, na, Ta, rfl, ka, hr⟩
          have KA := Lib.hid ka
          rcases hr with ⟨rfl, hta⟩ | ⟨rfl, hta⟩
          · have ew2 : IntKind.i64.wrap (CA + N) = CA + N := IntWalk.i64_in _ (by have := HCA.out; omega)
            have HF := Lib.hid (show CA + N = GO + Ta ∧ 0 ≤ GO ∧ CA + N ≤ 100000 * (k : Int) + 100000 by have := HCA.out; omega)
            clear ka hta hT hg hcb hN q1 q2
            go_wp2
            go_meet
            exact ⟨_, _, _, CA + N, GO, Ta, rfl, rfl, KA.out, HF.out.1, HF.out.2.1, HF.out.2.2⟩
          · have HF := Lib.hid (show CA = GO + Ta ∧ 0 ≤ GO ∧ CA ≤ 100000 * (k : Int) + 100000 by have := HCA.out; omega)
            clear ka hta hT hg hcb hN q1 q2
            go_wp2
            go_meet
            exact ⟨_, _, _, CA, GO, Ta, rfl, rfl, KA.out, HF.out.1, HF.out.2.1, HF.out.2.2⟩
        case inr.inl =>
          subst hx
          clear hx1 hx2
          go_wp2_with fail
          refine (within_some _ _ _ (by omega) (by omega)).mono ?_
          rintro e w' ⟨q, q1, q2, rfl, rfl⟩
          obtain ⟨N, hN⟩ : ∃ N, 1 + q = N := ⟨_, rfl⟩
          have ewN : IntKind.i64.wrap (1 + q) = N := by rw [← hN]; exact IntWalk.i64_in _ (by omega)
          go_wp2_with fail
          refine (within_some _ _ _ (by omega) (by omega)).mono ?_
          rintro e w' ⟨oo, oo1, oo2, rfl, rfl⟩
          go_wp2_with fail
          refine (within_some _ _ _ (by omega) (by omega)).mono ?_
          rintro e w' ⟨ll, ll1, ll2, rfl, rfl⟩
          go_wp2_with fail
          refine (pvadd_any KW.out (oo + ll) oo N (by unfold VOk; omega) (by have := HCA.out; omega)).mono ?_
          rintro e wa ⟨r, Oa, Sa, na, Ta, rfl, ka, hr⟩
          have KA := Lib.hid ka
          rcases hr with ⟨rfl, hta⟩ | ⟨rfl, hta⟩
          · have ew2 : IntKind.i64.wrap (CA + N) = CA + N := IntWalk.i64_in _ (by have := HCA.out; omega)
            have HF := Lib.hid (show CA + N = GO + Ta ∧ 0 ≤ GO ∧ CA + N ≤ 100000 * (k : Int) + 100000 by have := HCA.out; omega)
            clear ka hta hT hg hcb hN q1 q2
            go_wp2
            go_meet
            exact ⟨_, _, _, CA + N, GO, Ta, rfl, rfl, KA.out, HF.out.1, HF.out.2.1, HF.out.2.2⟩
          · have HF := Lib.hid (show CA = GO + Ta ∧ 0 ≤ GO ∧ CA ≤ 100000 * (k : Int) + 100000 by have := HCA.out; omega)
            clear ka hta hT hg hcb hN q1 q2
            go_wp2
            go_meet
            exact ⟨_, _, _, CA, GO, Ta, rfl, rfl, KA.out, HF.out.1, HF.out.2.1, HF.out.2.2⟩
        case inr.inr.inl =>
          subst hx
          clear hx1 hx2
          go_wp2_with fail
          refine (within_some _ _ _ (by omega) (by omega)).mono ?_
          rintro e w' ⟨yy, yy1, yy2, rfl, rfl⟩
          go_wp2_with fail
          refine (pvexp_any KW.out yy).mono ?_
          rintro e wa ⟨Oa, na, T', rfl, hle, ka⟩
          have KA := Lib.hid ka
          have ht' := ka.nn
          have ew : IntKind.i64.wrap (GO + (T - T')) = GO + (T - T') := IntWalk.i64_in _ (by have := HCA.out; omega)
          have HF := Lib.hid (show CA = GO + (T - T') + T' ∧ 0 ≤ GO + (T - T') ∧ CA ≤ 100000 * (k : Int) + 100000 by have := HCA.out; omega)
          clear ka ht' hT hg hcb yy1 yy2 hle
          go_wp2
          go_meet
          exact ⟨_, _, _, CA, _, T', rfl, rfl, KA.out, HF.out.1, HF.out.2.1, HF.out.2.2⟩
        case inr.inr.inr =>
          subst hx
          clear hx1 hx2 y1 y2 y3
          obtain ⟨g, iv, hTg⟩ := KW.out.inv
          have IV := Lib.hid iv
          have HTG := Lib.hid hTg
          have hm := iv.le
          have CR := Lib.hid (pvrows KW.out.now iv.is)
          have hmk := run_make_row' (P := Try.prog) 34 3 (.int .i64 0) 8 Try.underlying34 int_info rfl .i64 .i64 m (by omega) (by omega)
          clear iv hTg
          go_wp2_with fail
          refine (CR.out).mono ?_
          rintro e wa ⟨A, cr, rfl, hr1, hr2, ho, hbe⟩
          have KA := Lib.hid (KW.out.below hbe)
          have z4 := cell_keep y4 hbe
          have R2 := Lib.hid (isrow_below R1.out hbe)
          obtain ⟨_, _, e, _, _, _, hat⟩ := ho.at ve_len
          injection e with e1 _ e3
          subst e1 e3
          have HA := Lib.hid hat
          have HSZ2 := Lib.hid (Nat.lt_of_lt_of_le HSZ.out hbe.size)
          clear hr1 hr2 ho hbe hat CR y4
          go_wp2
          obtain ⟨wu, hwu⟩ : ∃ wu, wu = wa.alloc (.cells (madeCells #[.int .i64 0] m) 3) := ⟨_, rfl⟩
          have RU := Lib.hid (show Row wu wa.heap.size m (fun _ => 0) by rw [hwu]; exact made_row wa m 3)
          have BU : Hid (Below wa.heap.size wa wu) := Lib.hid (by rw [hwu]; exact (Below.refl _ _).alloc (Nat.le_refl _) _)
          rw [← hwu]
          clear hwu hmk
          go_loopg [12, 46] m (fun gh s12 i wx => ∃ (j : Nat) (u : Nat → Int), j ≤ m ∧ gh = m - j ∧ i = .int .i64 j ∧ s12 = .int .i64 (tot u j) ∧ (∀ i, i < j → 0 ≤ u i ∧ u i ≤ (g i).a) ∧ Row wx wa.heap.size m u ∧ Below wa.heap.size wa wx)
          case atStart => exact ⟨0, _, by omega, rfl, rfl, rfl, fun i hi => by omega, RU.out, BU.out⟩
          case round =>
            obtain ⟨j, u, hj, hgj, rfl, rfl, hok, hrow, hbx⟩ := hrel
            have HGJ := Lib.hid hgj
            have HOK := Lib.hid hok
            have HRW := Lib.hid hrow
            have HBX := Lib.hid hbx
            clear hgj hok hrow hbx
            by_cases hjm : j < m
            · have hab := IV.out.one hjm
              have hsum : 0 ≤ tot u j ∧ tot u j ≤ 100000000000 := by
                have h1 := tot_nonneg j fun i hi => (HOK.out i hi).1
                have h2 : tot u j ≤ btot g j := tot_le j fun i hi => (HOK.out i hi).2
                have h3 := (pre_tot (g := fun i => (g i).a) (fun i hi => IV.out.pos i hi) hj).2
                have h4 := IV.out.all
                have h5 : btot g j = tot (fun i => (g i).a) j := rfl
                have h6 : btot g m = tot (fun i => (g i).a) m := rfl
                omega
              have hall := IV.out.all
              obtain ⟨L, hL⟩ : ∃ L, (g j).a = L := ⟨_, rfl⟩
              rw [hL] at hab
              obtain ⟨TS, hTS⟩ : ∃ TS, tot u j = TS := ⟨_, rfl⟩
              rw [hTS] at hsum
              rw [hTS]
              have HL := Lib.hid hL
              have HTS := Lib.hid hTS
              obtain ⟨b2, off2, rfl, hb2, k0, k1, k2⟩ := (HA.out.below HBX.out).threeV hjm
              rw [hL] at k2
              obtain ⟨cu, fu⟩ := HRW.out.2 j hjm
              have z4x := cell_keep z4 HBX.out
              have j1 : (0 : Int) ≤ (j : Int) := by omega
              have j2 : (j : Int) < (m : Int) := by omega
              have hU := HRW.out.1
              have hLb : 1 ≤ L ∧ L ≤ 100000000000 := by omega
              obtain ⟨hLb1, hLb2⟩ := hLb
              obtain ⟨hs1, hs2⟩ := hsum
              clear hL hTS hab hall hT hg hcb
              by_cases hl : j < n1
              · obtain ⟨b3, off3, rfl, hb3, hc3⟩ := ((R2.out.at.1).below HBX.out).some (by omega)
                have cz := hc3 j hl
                have j3 : (j : Int) < (n1 : Int) := by omega
                clear hc3
                go_wp2_with fail
                refine (within_some _ _ _ (by omega) (by omega)).mono ?_
                rintro e w' ⟨v, v1, v2, rfl, rfl⟩
                have ewv : IntKind.i64.wrap (TS + v) = TS + v := IntWalk.i64_in _ (by omega)
                have HV : Hid (0 ≤ v ∧ v ≤ L) := Lib.hid (by omega)
                clear v1 v2 hs1 hs2 hLb1 hLb2
                go_wp2
                go_roundg (m - (j + 1))
                case measure => have := HGJ.out; omega
                case rel =>
                  refine ⟨j + 1, fun i => if i = j then v else u i, by omega, rfl, by go_num, ?_, fun i hi => ?_, HRW.out.set hjm v, HBX.out.setCell (Nat.le_refl _) _⟩
                  · rw [tot, if_pos rfl, ← HTS.out]
                    exact congrArg (fun x => Value.int .i64 (x + v)) (tot_ext j fun i hi => by rw [if_neg (by omega)])
                  · show 0 ≤ (if i = j then v else u i) ∧ (if i = j then v else u i) ≤ (g i).a
                    by_cases e : i = j
                    · rw [if_pos e, e, HL.out]; exact HV.out
                    · rw [if_neg e]; exact HOK.out i (by omega)
              · have j3 : decide (j < n1) = false := by simpa using hl
                clear hl
                go_wp2_with fail
                refine (within_some _ _ _ (by omega) (by omega)).mono ?_
                rintro e w' ⟨v, v1, v2, rfl, rfl⟩
                have ewv : IntKind.i64.wrap (TS + v) = TS + v := IntWalk.i64_in _ (by omega)
                have HV : Hid (0 ≤ v ∧ v ≤ L) := Lib.hid (by omega)
                clear v1 v2 hs1 hs2 hLb1 hLb2
                go_wp2
                go_roundg (m - (j + 1))
                case measure => have := HGJ.out; omega
                case rel =>
                  refine ⟨j + 1, fun i => if i = j then v else u i, by omega, rfl, by go_num, ?_, fun i hi => ?_, HRW.out.set hjm v, HBX.out.setCell (Nat.le_refl _) _⟩
                  · rw [tot, if_pos rfl, ← HTS.out]
                    exact congrArg (fun x => Value.int .i64 (x + v)) (tot_ext j fun i hi => by rw [if_neg (by omega)])
                  · show 0 ≤ (if i = j then v else u i) ∧ (if i = j then v else u i) ≤ (g i).a
                    by_cases e : i = j
                    · rw [if_pos e, e, HL.out]; exact HV.out
                    · rw [if_neg e]; exact HOK.out i (by omega)
            · obtain rfl : j = m := by omega
              have hsum : 0 ≤ tot u j ∧ tot u j ≤ T := by
                have h1 := tot_nonneg j fun i hi => (HOK.out i hi).1
                have h2 : tot u j ≤ btot g j := tot_le j fun i hi => (HOK.out i hi).2
                have h3 := HTG.out
                omega
              have CT := Lib.hid (pvtake_any (KA.out.below HBX.out) IV.out HTG.out (U := some ⟨wa.heap.size, 0, none⟩) (c := j) (u := u) (.inr ⟨wa.heap.size, 0, rfl, HRW.out.1, fun i hi => by rw [Nat.zero_add]; exact (HRW.out.2 i hi).1⟩) (fun b off e => by injection e with e; injection e with e1 _; rw [← e1, KA.out.now.fin.2 _ (Nat.le_refl _)]; decide) HOK.out)
              obtain ⟨TS, hTS⟩ : ∃ TS, tot u j = TS := ⟨_, rfl⟩
              rw [hTS] at hsum CT
              rw [hTS]
              have ew : IntKind.i64.wrap (GO + TS) = GO + TS := IntWalk.i64_in _ (by have := HCA.out; omega)
              have HF := Lib.hid (show CA = GO + TS + (T - TS) ∧ 0 ≤ GO + TS ∧ CA ≤ 100000 * (k : Int) + 100000 by have := HCA.out; omega)
              clear hjm hj hTS hsum hT hg hcb z4 hm
              go_wp2_with fail
              refine (CT.out).mono ?_
              rintro e wb ⟨rfl, Ob, Sb, nb, kb⟩
              have KB := Lib.hid kb
              clear kb CT
              go_wp2
              go_meet
              exact ⟨nb, Ob, Sb, CA, _, T - TS, rfl, rfl, KB.out, HF.out.1, HF.out.2.1, HF.out.2.2⟩
      case rest =>
        obtain ⟨m', O', S', CA', GO', T', rfl, rfl, kp, hca, hgo, hcb⟩ := hcut
        obtain ⟨g, iv, hTg⟩ := kp.inv
        have KP := Lib.hid kp
        have TP := Lib.hid kp.nn
        have CR := Lib.hid (pvrows kp.now iv.is)
        have IV := Lib.hid iv
        have HTG := Lib.hid hTg
        have HF := Lib.hid (And.intro hca (And.intro hgo hcb))
        have hm := iv.le
        clear kp iv hTg hca hgo hcb KW CX R1 HSZ TB HCA HB hx1 hx2
        go_wp2_with fail
        refine (CR.out).mono ?_
        rintro e wa ⟨A, cr, rfl, hr1, hr2, ho, hbe⟩
        have KA := Lib.hid (KP.out.below hbe)
        obtain ⟨_, _, e, _, _, _, hat⟩ := ho.at ve_len
        injection e with e1 _ e3
        subst e1 e3
        have HA := Lib.hid hat
        clear hr1 hr2 ho hbe hat CR
        go_wp2
        go_loopg [15, 120] m' (fun gh s15 i wx => ∃ j : Nat, j ≤ m' ∧ gh = m' - j ∧ i = .int .i64 j ∧ s15 = .int .i64 (btot g j) ∧ Below wa.heap.size wa wx)
        case atStart => exact ⟨0, by omega, rfl, rfl, rfl, Below.refl _ _⟩
        case round =>
          obtain ⟨j, hj, hgj, rfl, rfl, hbx⟩ := hrel
          have HGJ := Lib.hid hgj
          have HBX := Lib.hid hbx
          clear hgj hbx
          by_cases hjm : j < m'
          · have hab := IV.out.one hjm
            have hsum := pre_tot (g := fun i => (g i).a) (n := m') (fun i hi => IV.out.pos i hi) (k := j + 1) (by omega)
            have hall := IV.out.all
            obtain ⟨TS, hTS⟩ : ∃ TS, btot g j = TS := ⟨_, rfl⟩
            have e2 : btot g (j + 1) = TS + (g j).a := by rw [← hTS]; rfl
            have e3 : tot (fun i => (g i).a) (j + 1) = TS + (g j).a := e2
            have e4 : tot (fun i => (g i).a) m' = btot g m' := rfl
            rw [e3, e4] at hsum
            obtain ⟨xc, xy, L, hx⟩ : ∃ xc xy L, g j = ⟨xc, xy, L⟩ := ⟨_, _, _, rfl⟩
            rw [hx] at hab hsum e2
            dsimp only at hab hsum e2
            have ew : IntKind.i64.wrap (TS + L) = TS + L := IntWalk.i64_in _ (by omega)
            have hL : decide (L < 1) = false := by simp; omega
            have E2 := Lib.hid e2
            rw [hTS]
            by_cases h0 : j = 0
            · subst h0
              obtain ⟨b2, off2, rfl, hb2, k0, k1, k2⟩ := (HA.out.below HBX.out).threeV hjm
              rw [hx] at k0 k1 k2
              simp only [Nat.zero_mul, Nat.add_zero] at k0 k1 k2
              clear hab hsum hall hTS e2 e3 e4 hx
              go_wp2
              go_big_quiet (fail)
              go_wp2
              go_roundg (m' - (0 + 1))
              case measure => have := HGJ.out; omega
              case rel => exact ⟨0 + 1, by omega, rfl, by go_num, by rw [E2.out], below_drewN (HBX.out.alloc HBX.out.size _) _⟩
            · obtain ⟨j', rfl⟩ : ∃ j', j = j' + 1 := ⟨j - 1, by omega⟩
              have hb := IV.out.is.1.asc j' (j' + 1) (by omega) hjm
              obtain ⟨pc, py, PL, hx'⟩ : ∃ pc py PL, g j' = ⟨pc, py, PL⟩ := ⟨_, _, _, rfl⟩
              rw [hx, hx'] at hb
              dsimp only at hb
              obtain ⟨b2, off2, rfl, hb2, k0, k1, k2⟩ := (HA.out.below HBX.out).threeV hjm
              obtain ⟨b3, off3, ee, _, p0, p1, p2⟩ := (HA.out.below HBX.out).threeV (show j' < m' by omega)
              injection ee with ee
              injection ee with ee1 ee2
              subst ee1 ee2
              rw [hx] at k0 k1 k2
              rw [hx'] at p0 p1 p2
              dsimp only at k0 k1 k2 p0 p1 p2
              have j1 : (0 : Int) ≤ (j' : Int) := by omega
              have j2 : (j' : Int) < (m' : Int) := by omega
              have j3 : j' < m' := by omega
              have j4 : j' ≤ 12 := by omega
              have ways : decide (xc < pc) = false ∧ ((xc == pc) = false ∨ ((xc == pc) = true ∧ decide (xy ≤ py) = false)) := by
                unfold Bl at hb
                refine ⟨by simp; omega, ?_⟩
                by_cases q : xc = pc
                · exact .inr ⟨by simpa using q, by simp; omega⟩
                · exact .inl (by simpa using q)
              obtain ⟨w1', w2'⟩ := ways
              clear hab hsum hall hTS e2 e3 e4 hx hx' hb h0
              rcases w2' with w2' | ⟨w2', w3'⟩
              all_goals
                go_wp2
                go_big_quiet (fail)
                go_wp2
                go_roundg (m' - (j' + 1 + 1))
                case measure => have := HGJ.out; omega
                case rel => exact ⟨j' + 1 + 1, by omega, rfl, by go_num, by rw [E2.out], below_drewN (HBX.out.alloc HBX.out.size _) _⟩
          · obtain rfl : j = m' := by omega
            rw [HTG.out]
            have CL := Lib.hid (pvleft_k (KA.out.below HBX.out))
            have tp := TP.out
            obtain ⟨f1, f2, f3⟩ := HF.out
            have ew : IntKind.i64.wrap (GO' + T') = GO' + T' := IntWalk.i64_in _ (by omega)
            have pe : (CA' != GO' + T') = false := by simp; omega
            have pt : (T' != T') = false := by simp
            have HF2 := Lib.hid (show CA' = GO' + T' ∧ 0 ≤ GO' ∧ CA' ≤ 100000 * ((k + 1 : Nat) : Int) by omega)
            clear hjm hj f1 f2 f3 tp
            go_wp2_with fail
            refine (CL.out).mono ?_
            rintro e wb ⟨rfl, kb⟩
            have KB := Lib.hid kb
            clear kb CL
            go_wp2
            go_roundg (24 - (k + 1))
            case measure => have := HGK.out; omega
            case rel => exact ⟨k + 1, j, O', S', CA', GO', T', by omega, by omega, rfl, by go_num, rfl, rfl, KB.out, HF2.out.1, HF2.out.2.1, HF2.out.2.2⟩
    · rcases (show ¬ k < len0 ∨ (k < len0 ∧ k = 24) by omega) with h | ⟨h, rfl⟩
      all_goals
        clear AC hk hlt
        go_wp2_with fail
        refine (wakes13_any _).mono ?_
        rintro e wz ⟨rfl, hbz⟩
        have KZ := Lib.hid (K1.out.below hbz).low
        clear hbz K1
        go_wp2
        go_ret
        exact ⟨rfl, KZ.out⟩
end Go.Proofs.Ytdjepibgpgeifaa
