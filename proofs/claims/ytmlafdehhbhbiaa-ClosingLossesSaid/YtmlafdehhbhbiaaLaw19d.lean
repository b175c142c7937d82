/- ClosingLosses: its walk. -/
import Derived.Test.YtmlafdehhbhbiaaLaw19a
namespace Go.Proofs.Ytmlafdehhbhbiaa
open Go.RowKit
set_option maxHeartbeats 32000000 in
set_option maxRecDepth 100000 in
theorem closingLosses_walk (a0 a1 a2 : Int) (w : World) :
    Calls Try.prog 4 #[.int .i64 a0, .int .i64 a1, .int .i64 a2] w fun e w' => e = .returned (.bool true) ∧ Below w.heap.size w w' := by
  have W := Lib.hid fun w => wakes19_any w
  obtain ⟨l0, hl0⟩ : ∃ l0, a0 % 100000 = l0 := ⟨_, rfl⟩
  obtain ⟨J, hJ⟩ : ∃ J, a1 % 101 = J := ⟨_, rfl⟩
  obtain ⟨t0, ht0⟩ : ∃ t0, a2 % 20 = t0 := ⟨_, rfl⟩
  have E0 := Lib.hid hl0
  have E1 := Lib.hid hJ
  have E2 := Lib.hid ht0
  have bb : 0 ≤ l0 ∧ l0 ≤ 99999 := by omega
  have bk : 0 ≤ J ∧ J ≤ 100 := by omega
  have bt : 0 ≤ t0 ∧ t0 ≤ 19 := by omega
  have CF := Lib.hid (lfresh w 200000 (by decide))
  clear hl0 hJ ht0
  go_enter Try.func4, Try.ntmps4
  go_wp2_with fail
  refine (CF.out).mono ?_
  rintro e w1 ⟨tb, rb, lb, O, rfl, nt, np, nv⟩
  have N1 := Lib.hid nt
  have P1 := Lib.hid np
  have V1 := Lib.hid nv
  clear nt np nv CF
  go_upto_region 5 with (first | (go_at_call 7; (with_reducible refine (within_at _ _ _ _ (by omega) (by omega) E0).mono ?_); rintro e w' ⟨rfl, rfl⟩) | (go_at_call 7; (with_reducible refine (within_at _ _ _ _ (by omega) (by omega) E1).mono ?_); rintro e w' ⟨rfl, rfl⟩))
  obtain ⟨LS, hLS⟩ : ∃ LS, 500 * (1 + l0) = LS := ⟨_, rfl⟩
  obtain ⟨JD, hJD⟩ : ∃ JD, 10000 * J = JD := ⟨_, rfl⟩
  obtain ⟨AS, hAS⟩ : ∃ AS, 100 * (1 + l0) = AS := ⟨_, rfl⟩
  obtain ⟨D, hD⟩ : ∃ D, (1 + l0) * J = D := ⟨_, rfl⟩
  have tD : 0 ≤ D ∧ D ≤ 100000 * 100 := by rw [← hD]; exact ⟨Int.mul_nonneg (by omega) bk.1, Int.mul_le_mul (by omega) bk.2 bk.1 (by omega)⟩
  have tL : 500 ≤ LS ∧ LS ≤ 50000000 := by omega
  have tA : 100 ≤ AS ∧ AS ≤ 10000000 := by omega
  have tJ : 0 ≤ JD ∧ JD ≤ 1000000 := by omega
  have g1 : LS / 5 = AS := by omega
  have d1 : AS / 100 = 1 + l0 := by omega
  have d2 : JD / 10000 = J := by omega
  have g2 : AS / 100 * (JD / 10000) = D := by rw [d1, d2, hD]
  have HI := N1.out.inv
  have F := flat1 200000
  obtain ⟨v, hv, ft, x1, x2, x3, x4, x5, x6, x7, x8, x9, x10, x11, x12⟩ := losses_one (L := 1 + l0) (J := J) HI F (by omega) bk (fun _ => ⟨0, 0, 0⟩) (fun _ => ⟨0, 0, 0⟩)
  have ok1 := hv.ok ft HI (BInv.zero _) (VInv.zero _)
  obtain ⟨v2, S', hv2, ft2, y1, y2, y3, y4, y5, y6, y7, y8, n', g', iv', hl'⟩ := losses_two (per := 1 + t0) (L := 1 + l0) (J := J) HI F (by omega) bk (by omega) ok1 x9 x2 x3 x4 x10 (fun _ => ⟨0, 0, 0⟩)
  rw [hAS] at x3 x6 y1 y4
  rw [hD] at x4 x7
  rw [hAS, hD] at x5 y5
  rw [hD] at y4
  rw [hLS, hJD] at hv hv2 ft ft2
  rw [hLS] at y1
  have IL := Lib.hid (isLoss (L := LS) (by omega))
  rw [hLS, hJD]
  have HV := Lib.hid hv
  have HV2 := Lib.hid hv2
  have FT := Lib.hid ft
  have FT2 := Lib.hid ft2
  have OK1 := Lib.hid ok1
  have Y1 := Lib.hid y1
  have IV := Lib.hid iv'
  clear hv hv2 ft ft2 ok1 HI F d1 d2 hD hAS hLS hJD y1 iv' x2 x8 x9 x10 x11 x12 y6 y7 y8 bb bk E0 E1
  go_wp2_with fail
  refine (pnone_x _).mono ?_
  rintro e w1 ⟨rfl, hb2⟩
  (replace N1 := Lib.hid (N1.out.below hb2); replace V1 := Lib.hid (V1.out.below hb2); replace P1 := Lib.hid (P1.out.below hb2))
  have CM := Lib.hid (pmk_ok N1.out V1.out P1.out (BInv.zero _) (VInv.zero _) MBal.none_ok (BalAt.nil w1 rfl) HV.out FT.out)
  unfold inL balL MBal.none Sl.v Sl.nil at CM
  dsimp only at CM
  clear hb2
  go_wp2_with fail
  refine (CM.out).mono ?_
  rintro e w3 ⟨lb3, O3, ss, rfl, nv3, pa3, hb3⟩
  have N3 := Lib.hid (N1.out.below hb3)
  have P3 := Lib.hid (P1.out.below hb3)
  have V3 := Lib.hid nv3
  have B3 := Lib.hid pa3.cl.at'
  have pc := pvc_of ⟨ukt19, 0, -LS, 0, JD, 1000000, 2, 0⟩ MBal.none v ss
  have q17 := pc.at' 17 _ rfl
  have q18 := pc.at' 18 _ rfl
  have q19 := pc.at' 19 _ rfl
  have q20 := pc.at' 20 _ rfl
  have q21 := pc.at' 21 _ rfl
  have q22 := pc.at' 22 _ rfl
  have q23 := pc.at' 23 _ rfl
  have q24 := pc.at' 24 _ rfl
  have q30 := pc.at' 30 _ rfl
  have q36 := pc.at' 36 _ rfl
  have q38 := pc.at' 38 _ rfl
  have q39 := pc.at' 39 _ rfl
  rw [x3] at q23
  rw [x4] at q24
  rw [x1] at q30
  rw [x6] at q36
  rw [x7] at q38
  rw [x5] at q39
  unfold MBal.none at pc q17 q18 q19 q20 q21 q22 q23 q24 q30 q36 q38 q39
  unfold Sl.v at q18 q19
  obtain ⟨P, hP⟩ : ∃ P, (pvL ⟨ukt19, 0, -LS, 0, JD, 1000000, 2, 0⟩ ⟨-1, 0, fun _ => ⟨0, 0, 0⟩, fun _ => 0, 0, 0, 0, 0, 0⟩ v ss).toArray = P := ⟨_, rfl⟩
  rw [hP] at pc q17 q18 q19 q20 q21 q22 q23 q24 q30 q36 q38 q39
  rw [hP]
  have PC := Lib.hid pc
  have X3 := Lib.hid x3
  have X4 := Lib.hid x4
  clear nv3 pa3 hb3 CM N1 P1 V1 pc hP HV FT x1 x3 x4 x5 x6 x7
  go_upto_region 6 with ((with_reducible show wpList _ _ _ _ _ _); (refine wpList_store_row rfl 44 (.tmp 11) (.tmp 46) rfl w3.heap.size P rfl rfl _ _ (heap_alloc_last _ _) (by rw [PC.out.size]; kernel_rfl) (by rw [PC.out.size]; rfl) PC.out.one ?_; rw [World.setRow_alloc_new]))
  have ba := (Below.refl w3.heap.size w3).alloc (Nat.le_refl _) (.cells P 44)
  have cl : ∀ (j : Nat) (u : Value), P[j]? = some u → (w3.alloc (.cells P 44)).cell? ⟨w3.heap.size, j, none⟩ = some u := fun j u h => (World.cell?_alloc_new w3 P _ j).trans h
  obtain ⟨w4, hw4⟩ : ∃ w4, w3.alloc (.cells P 44) = w4 := ⟨_, rfl⟩
  rw [hw4] at ba cl
  rw [hw4]
  have N4 := Lib.hid (N3.out.below ba)
  have P4 := Lib.hid (P3.out.below ba)
  have V4 := Lib.hid (V3.out.below ba)
  have B4 := Lib.hid (B3.out.below ba)
  have c17 := cl _ _ q17
  have c18 := cl _ _ q18
  have c19 := cl _ _ q19
  have c20 := cl _ _ q20
  have c21 := cl _ _ q21
  have c22 := cl _ _ q22
  have c23 := cl _ _ q23
  have c24 := cl _ _ q24
  have c30 := cl _ _ q30
  have c36 := cl _ _ q36
  have c38 := cl _ _ q38
  have c39 := cl _ _ q39
  have CM := Lib.hid (pmk_ok N4.out V4.out P4.out (BInv.zero _) IL.out OK1.out B4.out HV2.out FT2.out)
  unfold inL balL Sl.v at CM
  dsimp only at CM
  rw [X3.out, X4.out] at CM
  clear q17 q18 q19 q20 q21 q22 q23 q24 q30 q36 q38 q39 cl ba hw4 N3 P3 V3 B3 PC
  go_wp2_with (first | (go_at_call 7; (with_reducible refine (within_at _ _ _ _ (by omega) (by omega) E2).mono ?_); rintro e w' ⟨rfl, rfl⟩))
  refine (CM.out).mono ?_
  rintro e w6 ⟨lb6, O6, s2, rfl, nv6, pa6, hb6⟩
  have L6 := Lib.hid (N4.out.low.trans (hb6.mono N4.out.low.size))
  have V6 := Lib.hid nv6
  have U6 := Lib.hid (V4.out.below hb6)
  have pc := pvc_of ⟨ukt19, 1 + t0, LS, 0, JD, 1000000, 2, 0⟩ v.cl v2 s2
  have q23 := pc.at' 23 _ rfl
  have q24 := pc.at' 24 _ rfl
  have q26 := pc.at' 26 _ rfl
  have q27 := pc.at' 27 _ rfl
  have q30 := pc.at' 30 _ rfl
  have q39 := pc.at' 39 _ rfl
  have q40 := pc.at' 40 _ rfl
  rw [y2] at q23
  rw [y3] at q24
  rw [y4] at q39
  rw [y5] at q40
  obtain ⟨P7, hP⟩ : ∃ P7, (pvL ⟨ukt19, 1 + t0, LS, 0, JD, 1000000, 2, 0⟩ v.cl v2 s2).toArray = P7 := ⟨_, rfl⟩
  rw [hP] at pc q23 q24 q26 q27 q30 q39 q40
  rw [hP]
  have PC := Lib.hid pc
  clear nv6 pa6 hb6 CM N4 P4 V4 B4 pc hP HV2 FT2 OK1 y2 y3 y4 y5 c17 c18 c19 c20 c21 c22 c23 c24 c30 c36 c38 c39
  go_upto_region 12 with ((with_reducible show wpList _ _ _ _ _ _); (refine wpList_store_row rfl 44 (.tmp 16) (.tmp 118) rfl w6.heap.size P7 rfl rfl _ _ (heap_alloc_last _ _) (by rw [PC.out.size]; kernel_rfl) (by rw [PC.out.size]; rfl) PC.out.one ?_; rw [World.setRow_alloc_new]))
  have cl : ∀ (j : Nat) (u : Value), P7[j]? = some u → (w6.alloc (.cells P7 44)).cell? ⟨w6.heap.size, j, none⟩ = some u := fun j u h => (World.cell?_alloc_new w6 P7 _ j).trans h
  have ba := (Below.refl w6.heap.size w6).alloc (Nat.le_refl _) (.cells P7 44)
  have L7 := Lib.hid (L6.out.alloc L6.out.size (.cells P7 44))
  obtain ⟨w7, hw7⟩ : ∃ w7, w6.alloc (.cells P7 44) = w7 := ⟨_, rfl⟩
  rw [hw7] at cl ba L7
  rw [hw7]
  have CV := Lib.hid (pvleft (V6.out.below ba) IV.out.is)
  have U7 := Lib.hid (U6.out.below ba)
  rw [hl'] at CV
  have c23 := cl _ _ q23
  have c24 := cl _ _ q24
  have c26 := cl _ _ q26
  have c27 := cl _ _ q27
  have c30 := cl _ _ q30
  have c39 := cl _ _ q39
  have c40 := cl _ _ q40
  have IE := Lib.hid (btotLoss LS)
  clear q23 q24 q26 q27 q30 q39 q40 cl hw7 PC L6 ba hl' V6 U6
  rcases Y1.out with ⟨z1, z2, z3, z4⟩ | ⟨z1, z2, z3, z4⟩
  · rw [z4] at c26
    rw [z3] at c27
    rw [z2] at c30 c40
    rw [show AS + (AS - D) = AS + AS - D by omega] at c40
    clear z2 z3 z4 Y1
    go_wp2_with fail
    refine (CV.out).mono ?_
    rintro e w8 ⟨rfl, hb8⟩
    have L8 := Lib.hid (L7.out.trans (hb8.mono L7.out.size))
    have CU := Lib.hid (pvleft (U7.out.below hb8) IL.out.is)
    rw [IE.out] at CU
    clear hb8 CV c23 c24 c26 c27 c30 c39 c40
    go_wp2_with fail
    refine (CU.out).mono ?_
    rintro e w9 ⟨rfl, hb9⟩
    have L9 := Lib.hid (L8.out.trans (hb9.mono L8.out.size))
    clear hb9 CU
    go_wp2_with (go_at_call 12; (with_reducible refine (W.out _).mono ?_); rintro e w10 ⟨rfl, hb10⟩; have K10 := Lib.hid (L9.out.trans (hb10.mono L9.out.size)); clear hb10)
    go_ret
    exact ⟨rfl, K10.out⟩
  · rw [z4] at c26
    rw [z3] at c27
    rw [z2] at c30 c40
    rw [show 0 + (AS - D) = 0 + AS - D by omega] at c40
    clear z2 z3 z4 Y1
    go_wp2_with fail
    refine (CV.out).mono ?_
    rintro e w8 ⟨rfl, hb8⟩
    have L8 := Lib.hid (L7.out.trans (hb8.mono L7.out.size))
    have CU := Lib.hid (pvleft (U7.out.below hb8) IL.out.is)
    rw [IE.out] at CU
    clear hb8 CV c23 c24 c26 c27 c30 c39 c40
    go_wp2_with fail
    refine (CU.out).mono ?_
    rintro e w9 ⟨rfl, hb9⟩
    have L9 := Lib.hid (L8.out.trans (hb9.mono L8.out.size))
    clear hb9 CU
    go_wp2_with (go_at_call 12; (with_reducible refine (W.out _).mono ?_); rintro e w10 ⟨rfl, hb10⟩; have K10 := Lib.hid (L9.out.trans (hb10.mono L9.out.size)); clear hb10)
    go_ret
    exact ⟨rfl, K10.out⟩
end Go.Proofs.Ytmlafdehhbhbiaa
