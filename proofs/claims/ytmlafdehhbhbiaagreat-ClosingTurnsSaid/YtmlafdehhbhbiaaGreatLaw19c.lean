/- ClosingTurns: its walk. -/
import Derived.Test.YtmlafdehhbhbiaaGreatLaw19a
namespace Go.Proofs.YtmlafdehhbhbiaaGreat
open Go.RowKit
theorem move_in {a : Int} (h : 1 ≤ a ∧ a ≤ 100000000000) : MErr (fun _ _ => 0) 0 (btot (fun _ => ⟨0, 0, 0⟩) 0) 2 7 a 0 :=
 .ok ⟨by unfold BOk; omega, by unfold Mon; omega⟩ ⟨by show Mon (0 + a); unfold Mon; omega, by show Mon (0 + a); unfold Mon; omega⟩ (by show cntB 0 0 (0 + a) ≤ 12; unfold cntB; rw [if_pos rfl, if_neg (by omega)]; decide)
theorem mvS_in (a : Int) : mvS 0 (fun _ _ => 0) 2 7 a = upS (fun _ _ => 0) 2 7 a := by unfold mvS; rw [if_pos rfl, Int.zero_add]
theorem move_out {a : Int} (h : 1 ≤ a ∧ a ≤ 100000000000) : MErr (upS (fun _ _ => 0) 2 7 a) 1 (btot (gOne 2 7 a) 1) 2 7 (-a) 0 :=
 .ok ⟨by unfold BOk; omega, by unfold Mon; omega⟩ ⟨by rw [upS_at]; unfold Mon; omega, by show Mon (0 + a + -a); unfold Mon; omega⟩ (by unfold cntB; rw [upS_at, if_neg (by omega), if_pos (by omega)]; decide)
theorem mvS_out (a : Int) : mvS 0 (upS (fun _ _ => 0) 2 7 a) 2 7 (-a) = fun _ _ => 0 := by
 unfold mvS
 rw [if_pos rfl, upS_at]
 funext c y
 unfold upS
 split
 · omega
 · rfl
set_option maxHeartbeats 32000000 in
set_option maxRecDepth 100000 in
theorem closingTurns_walk (a0 a1 a2 : Int) (w : World) :
   Calls Tryz.prog 3 #[.int .i64 a0, .int .i64 a1, .int .i64 a2] w fun e w' => e = .returned (.bool true) ∧ Below w.heap.size w w' := by
 have W := Lib.hid fun w => wakes19_any w
 obtain ⟨b0, hb0⟩ : ∃ b0, a0 % 100000 = b0 := ⟨_, rfl⟩
 obtain ⟨m0, hm0⟩ : ∃ m0, a1 % 100000 = m0 := ⟨_, rfl⟩
 obtain ⟨K, hK⟩ : ∃ K, a2 % 101 = K := ⟨_, rfl⟩
 have E0 := Lib.hid hb0
 have E1 := Lib.hid hm0
 have E2 := Lib.hid hK
 have bb : 0 ≤ b0 ∧ b0 ≤ 99999 := by omega
 have bm : 0 ≤ m0 ∧ m0 ≤ 99999 := by omega
 have bk : 0 ≤ K ∧ K ≤ 100 := by omega
 have CF := Lib.hid (lfresh w (10000 * K) (by omega))
 clear hb0 hm0 hK
 go_enter Tryz.func3, Tryz.ntmps3
 go_wp2_with (go_at_call 7; (with_reducible refine (within_at _ _ _ _ (by omega) (by omega) E2).mono ?_); rintro e w' ⟨rfl, rfl⟩)
 refine (CF.out).mono ?_
 rintro e w1 ⟨tb, rb, lb, O, rfl, nt, np, nv⟩
 have N1 := Lib.hid nt
 have P1 := Lib.hid np
 have V1 := Lib.hid nv
 clear nt np nv CF
 go_upto_region 6 with (first | (go_at_call 7; (with_reducible refine (within_at _ _ _ _ (by omega) (by omega) E0).mono ?_); rintro e w' ⟨rfl, rfl⟩) | (go_at_call 7; (with_reducible refine (within_at _ _ _ _ (by omega) (by omega) E1).mono ?_); rintro e w' ⟨rfl, rfl⟩))
 obtain ⟨BK, hBK⟩ : ∃ BK, 100 * b0 + 10000000 = BK := ⟨_, rfl⟩
 obtain ⟨MV, hMV⟩ : ∃ MV, 100 * (m0 + 1) = MV := ⟨_, rfl⟩
 obtain ⟨RR, hRR⟩ : ∃ RR, 10000 * K = RR := ⟨_, rfl⟩
 obtain ⟨T, hT⟩ : ∃ T, (b0 + 100000) * K = T := ⟨_, rfl⟩
 obtain ⟨D, hD⟩ : ∃ D, (m0 + 1) * K = D := ⟨_, rfl⟩
 have tT : 0 ≤ T ∧ T ≤ 200000 * 100 := by rw [← hT]; exact ⟨Int.mul_nonneg (by omega) bk.1, Int.mul_le_mul (by omega) bk.2 bk.1 (by omega)⟩
 have tD : 0 ≤ D ∧ D ≤ 100000 * 100 := by rw [← hD]; exact ⟨Int.mul_nonneg (by omega) bk.1, Int.mul_le_mul (by omega) bk.2 bk.1 (by omega)⟩
 have tM : 1 ≤ MV ∧ MV ≤ 10000000 := by omega
 have tB : 10000000 ≤ BK ∧ BK ≤ 20000000 := by omega
 have tR : 0 ≤ RR ∧ RR ≤ 1000000 := by omega
 have d1 : (BK - MV) / 100 = b0 + 100000 - (m0 + 1) := by omega
 have d2 : (BK + MV) / 100 = b0 + 100000 + (m0 + 1) := by omega
 have d3 : MV / 100 = m0 + 1 := by omega
 have d4 : BK / 100 = b0 + 100000 := by omega
 have d5 : RR / 10000 = K := by omega
 have D1 : Hid ((BK - MV) / 100 * (RR / 10000) = T - D) := Lib.hid (by rw [d1, d5, Int.sub_mul, hT, hD])
 have D2 : Hid ((BK + MV) / 100 * (RR / 10000) = T + D) := Lib.hid (by rw [d2, d5, Int.add_mul, hT, hD])
 have D3 : Hid (MV / 100 * (RR / 10000) = D) := Lib.hid (by rw [d3, d5, hD])
 have D4 : Hid (BK / 100 * (RR / 10000) = T) := Lib.hid (by rw [d4, d5, hT])
 have HI := N1.out.inv
 have F := flat1 (10000 * K)
 obtain ⟨v, hv, ft, x1, x2, x3, x4, x5, x6, x7, x8, x9, x10, x11, x12⟩ := turns_one (B := b0 + 100000) (M := m0 + 1) (K := K) HI F (by omega) (by omega) bk (fun _ => ⟨0, 0, 0⟩)
 have ok1 := hv.ok ft HI (bOne (c := 2) (y := 7) (a := 100 * (m0 + 1)) (by unfold BOk; omega) (by unfold Mon; omega) (by omega)) (VInv.zero _)
 obtain ⟨v2, hv2, ft2, y1, y2, y3, y4, y5, y6, y7, y8⟩ := turns_two (B := b0 + 100000) (M := m0 + 1) (K := K) HI F (by omega) (by omega) bk (fun _ => ⟨0, 0, 0⟩) ok1 x8 x4 x5 x6 x9 x10 (fun _ => ⟨0, 0, 0⟩)
 rw [hT, hD] at x1 y1
 rw [hD] at x2 x4 y2
 rw [hT] at x3 y3
 have eB : 100 * (b0 + 100000) = BK := by omega
 rw [eB, hMV] at hv hv2
 rw [eB] at ft ft2
 rw [hMV] at ok1 y8
 rw [hRR] at N1
 rw [hRR] at hv hv2
 rw [hBK, hMV, hRR]
 have HV := Lib.hid hv
 have HV2 := Lib.hid hv2
 have FT := Lib.hid ft
 have FT2 := Lib.hid ft2
 have OK1 := Lib.hid ok1
 have CA := Lib.hid (pbmove P1.out (by decide) (bis_zero (fun _ => ⟨0, 0, 0⟩)) 2 7 MV 0 (move_in (by omega)))
 rw [mvS_in] at CA
 clear hv hv2 ft ft2 ok1 HI F d1 d2 d3 d4 d5 hT hD hBK hMV hRR x5 x6 x7 x8 x9 x10 eB bb bm bk E0 E1 E2
 go_wp2_with fail
 refine (CA.out).mono ?_
 rintro e w2 ⟨rfl, O2, n2, st⟩
 have N2 := Lib.hid (N1.out.step st (by decide) (by decide))
 have V2 := Lib.hid (V1.out.step st (by decide) (by decide))
 have P2 := Lib.hid n2
 clear n2 st CA N1 P1 V1
 go_wp2_with fail
 refine (pnone_x _).mono ?_
 rintro e w2 ⟨rfl, hb2⟩
 (replace N2 := Lib.hid (N2.out.below hb2); replace V2 := Lib.hid (V2.out.below hb2); replace P2 := Lib.hid (P2.out.below hb2))
 have CM := Lib.hid (pmk_ok N2.out V2.out P2.out (bOne (c := 2) (y := 7) (a := MV) (by unfold BOk; omega) (by unfold Mon; omega) (by omega)) (VInv.zero _) MBal.none_ok (BalAt.nil w2 rfl) HV.out FT.out)
 unfold inL balL MBal.none Sl.v Sl.nil at CM
 dsimp only at CM
 clear hb2
 go_wp2_with fail
 refine (CM.out).mono ?_
 rintro e w3 ⟨lb3, O3, ss, rfl, nv3, pa3, hb3⟩
 obtain ⟨O4, n4, p4, v4, jb⟩ := join_all (t4 := 4) N2.out P2.out hb3 nv3 (by decide) (by decide)
 have N3 := Lib.hid n4
 have P3 := Lib.hid p4
 have V3 := Lib.hid v4
 have B3 := Lib.hid (jb _ _ _ pa3.cl)
 have BA3 := Lib.hid (jb _ _ _ pa3.cl).at'
 have L3 := Lib.hid n4.low
 have pc := pvc_of ⟨ukt19, 0, BK, 0, 0, 0, 3, 0⟩ MBal.none v ss
 have q17 := pc.at' 17 _ rfl
 have q18 := pc.at' 18 _ rfl
 have q19 := pc.at' 19 _ rfl
 have q20 := pc.at' 20 _ rfl
 have q21 := pc.at' 21 _ rfl
 have q22 := pc.at' 22 _ rfl
 have q23 := pc.at' 23 _ rfl
 have q24 := pc.at' 24 _ rfl
 have q30 := pc.at' 30 _ rfl
 have q39 := pc.at' 39 _ rfl
 have q40 := pc.at' 40 _ rfl
 rw [x4] at q22
 rw [x1] at q30
 rw [x2] at q39
 rw [x3] at q40
 unfold MBal.none at pc q17 q18 q19 q20 q21 q22 q23 q24 q30 q39 q40
 unfold Sl.v at q18 q19
 obtain ⟨P, hP⟩ : ∃ P, (pvL ⟨ukt19, 0, BK, 0, 0, 0, 3, 0⟩ ⟨-1, 0, fun _ => ⟨0, 0, 0⟩, fun _ => 0, 0, 0, 0, 0, 0⟩ v ss).toArray = P := ⟨_, rfl⟩
 rw [hP] at pc q17 q18 q19 q20 q21 q22 q23 q24 q30 q39 q40
 rw [hP]
 have PC := Lib.hid pc
 clear nv3 pa3 n4 p4 v4 jb hb3 CM N2 P2 V2 pc hP HV FT x1 x2 x3
 go_upto_region 9 with ((with_reducible show wpList _ _ _ _ _ _); (refine wpList_store_row rfl 42 (.tmp 11) (.tmp 46) rfl w3.heap.size P rfl rfl _ _ (heap_alloc_last _ _) (by rw [PC.out.size]; kernel_rfl) (by rw [PC.out.size]; rfl) PC.out.one ?_; rw [World.setRow_alloc_new]))
 have ba := (Below.refl w3.heap.size w3).alloc (Nat.le_refl _) (.cells P 42)
 have cl : ∀ (j : Nat) (u : Value), P[j]? = some u → (w3.alloc (.cells P 42)).cell? ⟨w3.heap.size, j, none⟩ = some u := fun j u h => (World.cell?_alloc_new w3 P _ j).trans h
 obtain ⟨w4, hw4⟩ : ∃ w4, w3.alloc (.cells P 42) = w4 := ⟨_, rfl⟩
 rw [hw4] at ba cl
 rw [hw4]
 have OF := Lib.hid (N3.out.fin.2 w3.heap.size (Nat.le_refl _))
 have N4 := Lib.hid (N3.out.below ba)
 have P4 := Lib.hid (P3.out.below ba)
 have V4 := Lib.hid (V3.out.below ba)
 have B4 := Lib.hid (B3.out.below ba)
 have c22 := cl _ _ q22
 have c30 := cl _ _ q30
 have c39 := cl _ _ q39
 have c40 := cl _ _ q40
 have CL := Lib.hid (And.intro (cl _ _ q17) (And.intro (cl _ _ q18) (And.intro (cl _ _ q19) (And.intro (cl _ _ q20) (And.intro (cl _ _ q21) (And.intro c22 (And.intro (cl _ _ q23) (And.intro (cl _ _ q24) (And.intro c40 c39)))))))))
 have CA := Lib.hid (pbmove P4.out (by decide) (bOne (c := 2) (y := 7) (a := MV) (by unfold BOk; omega) (by unfold Mon; omega) (by omega)).is 2 7 (-MV) 0 (move_out (by omega)))
 rw [mvS_out] at CA
 have g1 := D1.out
 have g3 := D3.out
 have g4 := D4.out
 clear q17 q18 q19 q20 q21 q22 q23 q24 q30 q39 q40 cl ba hw4 N3 P3 V3 B3 PC L3
 go_wp2_with fail
 refine (CA.out).mono ?_
 rintro e w5 ⟨rfl, O5, n5, st⟩
 have N5 := Lib.hid (N4.out.step st (by decide) (by decide))
 have V5 := Lib.hid (V4.out.step st (by decide) (by decide))
 have P5 := Lib.hid n5
 have B5 := Lib.hid (B4.out.step st (by decide))
 have k17 := free_cell st OF.out (by decide) CL.out.1
 have k18 := free_cell st OF.out (by decide) CL.out.2.1
 have k19 := free_cell st OF.out (by decide) CL.out.2.2.1
 have k20 := free_cell st OF.out (by decide) CL.out.2.2.2.1
 have k21 := free_cell st OF.out (by decide) CL.out.2.2.2.2.1
 have k22 := free_cell st OF.out (by decide) CL.out.2.2.2.2.2.1
 have k23 := free_cell st OF.out (by decide) CL.out.2.2.2.2.2.2.1
 have k24 := free_cell st OF.out (by decide) CL.out.2.2.2.2.2.2.2.1
 have k40 := free_cell st OF.out (by decide) CL.out.2.2.2.2.2.2.2.2.1
 have k39 := free_cell st OF.out (by decide) CL.out.2.2.2.2.2.2.2.2.2
 have CM := Lib.hid (pmk_ok N5.out V5.out P5.out (BInv.zero _) (VInv.zero _) OK1.out B5.out.at' HV2.out FT2.out)
 unfold inL balL Sl.v at CM
 dsimp only at CM
 rw [x4] at CM
 clear n5 st CA N4 P4 V4 B4 CL OF c22 c30 c39 c40 g1 g3 g4 P5
 go_wp2_with fail
 refine (CM.out).mono ?_
 rintro e w6 ⟨lb6, O6, s2, rfl, _, pa6, hb6⟩
 have L6 := Lib.hid (N5.out.low.trans (hb6.mono N5.out.low.size))
 have pc := pvc_of ⟨ukt19, 1, BK, 0, 0, 0, 3, 0⟩ v.cl v2 s2
 have q18 := pc.at' 18 _ rfl
 have q22 := pc.at' 22 _ rfl
 have q30 := pc.at' 30 _ rfl
 have q32 := pc.at' 32 _ rfl
 have q39 := pc.at' 39 _ rfl
 have q40 := pc.at' 40 _ rfl
 rw [y4] at q22
 rw [y1] at q30
 rw [y2] at q39
 rw [y3] at q40
 unfold Sl.v at q18 q32
 rw [y5] at q18
 rw [y7] at q32
 obtain ⟨ba, off, ea, hba, r0, r1, r2, r3, r4⟩ := pa6.ws.five (k := 0) (by omega)
 rw [y8] at r3
 rw [ea] at q32
 rw [Nat.zero_mul, Nat.add_zero] at r3
 have r3' := cell_keep (cell_keep k40 hb6) ((Below.refl w6.heap.size w6).alloc (Nat.le_refl _) (.cells (pvL ⟨ukt19, 1, BK, 0, 0, 0, 3, 0⟩ v.cl v2 s2).toArray 42))
 have r6' := cell_keep (cell_keep k39 hb6) ((Below.refl w6.heap.size w6).alloc (Nat.le_refl _) (.cells (pvL ⟨ukt19, 1, BK, 0, 0, 0, 3, 0⟩ v.cl v2 s2).toArray 42))
 have r5 := cell_keep r3 ((Below.refl w6.heap.size w6).alloc (Nat.le_refl _) (.cells (pvL ⟨ukt19, 1, BK, 0, 0, 0, 3, 0⟩ v.cl v2 s2).toArray 42))
 obtain ⟨P7, hP⟩ : ∃ P7, (pvL ⟨ukt19, 1, BK, 0, 0, 0, 3, 0⟩ v.cl v2 s2).toArray = P7 := ⟨_, rfl⟩
 rw [hP] at pc q18 q22 q30 q32 q39 q40 r3' r6' r5
 rw [hP]
 have PC := Lib.hid pc
 clear pa6 hb6 CM N5 V5 B5 pc hP HV2 FT2 OK1 y1 y2 y3 y4 y5 y6 y7 y8 k17 k18 k19 k20 k21 k22 k23 k24 k40 k39 ea hba r0 r1 r2 r3 r4
 go_upto_region 14 with ((with_reducible show wpList _ _ _ _ _ _); (refine wpList_store_row rfl 42 (.tmp 13) (.tmp 111) rfl w6.heap.size P7 rfl rfl _ _ (heap_alloc_last _ _) (by rw [PC.out.size]; kernel_rfl) (by rw [PC.out.size]; rfl) PC.out.one ?_; rw [World.setRow_alloc_new]))
 have cl : ∀ (j : Nat) (u : Value), P7[j]? = some u → (w6.alloc (.cells P7 42)).cell? ⟨w6.heap.size, j, none⟩ = some u := fun j u h => (World.cell?_alloc_new w6 P7 _ j).trans h
 have L7 := Lib.hid (L6.out.alloc L6.out.size (.cells P7 42))
 obtain ⟨w7, hw7⟩ : ∃ w7, w6.alloc (.cells P7 42) = w7 := ⟨_, rfl⟩
 rw [hw7] at cl r3' r6' r5 L7
 rw [hw7]
 have c18 := cl _ _ q18
 have c22 := cl _ _ q22
 have c30 := cl _ _ q30
 have c32 := cl _ _ q32
 have c39 := cl _ _ q39
 have c40 := cl _ _ q40
 have g2 := D2.out
 have g3 := D3.out
 have z0 : (0 : Int) < 1 := by decide
 have z1 : 0 < 1 := by decide
 clear q18 q22 q30 q32 q39 q40 cl hw7 PC L6
 go_wp2_with (go_at_call 12; (with_reducible refine (W.out _).mono ?_); rintro e w10 ⟨rfl, hb10⟩; have K10 := Lib.hid (L7.out.trans (hb10.mono L7.out.size)); clear hb10)
 go_ret
 exact ⟨rfl, K10.out⟩
end Go.Proofs.YtmlafdehhbhbiaaGreat
