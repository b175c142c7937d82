/- ClosingMakes: its walk. -/
import Derived.Test.YtmlafdehhbhbiaaGreatTk
import Derived.Test.YtmlafdehhbhbiaaGreatLSM
namespace Go.Proofs.YtmlafdehhbhbiaaGreat
open Go.RowKit
set_option maxHeartbeats 64000000 in
set_option maxRecDepth 100000 in
theorem closingMakes_walk (a0 : Option Addr) (n0 c0 : Nat) (z0 : List Int) (a1 : Option Addr) (n1 c1 : Nat) (a2 : Option Addr) (n2 c2 : Nat) (odd : Int) (w : World) (h0 : IsRow .i64 w a0 n0 c0 z0) (h1 : Rows2 w a1 n1) (h2 : Rows2 w a2 n2) :
   Calls Tryz.prog 4 #[.agg #[.slice a0 n0 c0, .slice a1 n1 c1, .slice a2 n2 c2], .int .i64 odd] w fun e w' => e = .returned (.bool true) ∧ Below w.heap.size w w' := by
 have W := Lib.hid fun w => wakes19_any w
 obtain ⟨cs, hcs⟩ : ∃ cs, cs19 a0 n0 c0 a1 n1 c1 a2 n2 c2 = cs := ⟨_, rfl⟩
 have s0 : cs[0]? = some (.slice a0 n0 c0) := by rw [← hcs]; rfl
 have s1 : cs[1]? = some (.slice a1 n1 c1) := by rw [← hcs]; rfl
 have s2 : cs[2]? = some (.slice a2 n2 c2) := by rw [← hcs]; rfl
 have S0 := Lib.hid s0
 have S1 := Lib.hid s1
 have S2 := Lib.hid s2
 have R1 := Lib.hid h1
 have R2 := Lib.hid h2
 have ba := (Below.refl w.heap.size w).alloc (Nat.le_refl _) (.cells cs.toArray 52)
 have BX := Lib.hid (⟨heap_alloc_last w _, rfl⟩ : Box (w.alloc (.cells cs.toArray 52)) (fun _ => 0) 0 w.heap.size 52 cs)
 have lt1 : w.heap.size < (w.alloc (.cells cs.toArray 52)).heap.size := by simp
 have HW1 := Lib.hid (show w.alloc (.cells #[.slice a0 n0 c0, .slice a1 n1 c1, .slice a2 n2 c2] 52) = w.alloc (.cells cs.toArray 52) by rw [← hcs])
 obtain ⟨w1, hw1⟩ : ∃ w1, w.alloc (.cells cs.toArray 52) = w1 := ⟨_, rfl⟩
 rw [hw1] at ba BX lt1 HW1
 have B1 := Lib.hid ba
 have L1 := Lib.hid lt1
 have CT := Lib.hid (ptab_some a0 n0 c0 z0 w1 (h0.below ba))
 clear s0 s1 s2 h0 h1 h2 ba lt1 hw1 hcs
 go_enter Tryz.func4, Tryz.ntmps4
 go_wp2_with fail
 rw [HW1.out]
 refine (CT.out).mono ?_
 rintro e w2 ⟨tr, nr, R, O2, rfl, nt⟩
 have k2 := B1.out.trans (nt.low.mono B1.out.size)
 have K2 := Lib.hid k2
 have f2 := nt.fin.wide (base2 := w.heap.size) (Nat.le_of_lt L1.out)
 have BX2 := Lib.hid ((BX.out.below nt.low).marks (O2 := O2) (t2 := 0) (nt.fin.1 _ L1.out))
 have CO := Lib.hid (tof nt)
 have N2 := Lib.hid (NowT.marks (w0 := w) (O2 := O2) (t2 := 2) nt (fun _ h => h) f2 k2 (Nat.le_of_lt L1.out))
 have F2 := Lib.hid f2
 clear nt CT HW1 BX B1 k2 f2
 go_wp2_with fail
 refine (CO.out).mono ?_
 rintro e w3 ⟨tb, O3, rfl, nt, hb3⟩
 have e3 := Lib.hid (two_tabs N2.out BX2.out nt hb3)
 clear nt hb3 CO K2 BX2 N2 F2 L1
 obtain ⟨O3, n3, m3, x3⟩ := e3.out
 have NB := Lib.hid (nowb_new w w3 O3 n3.fin n3.low 58 2)
 have N3 := Lib.hid n3
 have M3 := Lib.hid m3
 have X3 := Lib.hid x3
 clear e3 n3 m3 x3
 go_wp2_with fail
 obtain ⟨nb, st⟩ := NB.out
 have lt3 := (st 2).kept.size
 obtain ⟨nl, st'⟩ := nowl_new w _ _ nb.fin nb.low 62 3
 have X5 := Lib.hid ((X3.out.step (st 2) (by decide)).step (st' 3) (by decide))
 have N5 := Lib.hid ((N3.out.step (st 2) (by decide) (by decide)).step (st' 3) (by decide) (by decide))
 have M5 := Lib.hid ((M3.out.step (st 2) (by decide) (by decide)).step (st' 3) (by decide) (by decide))
 have RB5 := Lib.hid (nb.step (st' 3) (by decide) (by decide))
 have NL5 := Lib.hid nl
 clear nb nl st st' NB lt3 X3 N3 M3
 have z5 : (w3.alloc (.cells #[.slice none 0 0] 58)).heap.size = w3.heap.size + 1 := by simp
 rw [z5] at X5 N5 M5 RB5 NL5
 obtain ⟨O5, hO5⟩ : ∃ O5, mark (mark O3 2 w3.heap.size) 3 (w3.heap.size + 1) = O5 := ⟨_, rfl⟩
 rw [hO5] at X5 N5 M5 RB5 NL5
 obtain ⟨w5, hw5⟩ : ∃ w5, (w3.alloc (.cells #[.slice none 0 0] 58)).alloc (.cells #[.slice none 0 0] 62) = w5 := ⟨_, rfl⟩
 rw [hw5] at X5 N5 M5 RB5 NL5
 rw [hw5]
 obtain ⟨rg, hrg⟩ : ∃ rg, w3.heap.size = rg := ⟨_, rfl⟩
 rw [hrg] at RB5 NL5
 rw [hrg]
 obtain ⟨lb, hlb⟩ : ∃ lb, rg + 1 = lb := ⟨_, rfl⟩
 rw [hlb] at NL5
 rw [hlb]
 clear hO5 hw5 hrg hlb z5
 refine (pnone_any _).mono ?_
 rintro e w5 ⟨rfl, hb5⟩
 (replace X5 := Lib.hid (X5.out.below hb5); replace N5 := Lib.hid (N5.out.below hb5); replace M5 := Lib.hid (M5.out.below hb5); replace RB5 := Lib.hid (RB5.out.below hb5); replace NL5 := Lib.hid (NL5.out.below hb5))
 clear hb5
 go_wp2_with fail
 refine (r19none _).mono ?_
 rintro e w6 ⟨rfl, hb6⟩
 have X6 := X5.out.below hb6
 have N6 := N5.out.below hb6
 have M6 := M5.out.below hb6
 have RB6 := RB5.out.below hb6
 have NL6 := NL5.out.below hb6
 have st := Step.made (t := 5) NL6.fin NL6.low.size (.cells (balL MBal.none .nil .nil).toArray 35)
 have fin7 := (NL6.step (st 5) (by decide) (by decide)).fin
 have low7 := (NL6.step (st 5) (by decide) (by decide)).low
 have st' := Step.made (t := 7) fin7 low7.size (.cells (balL MBal.none .nil .nil).toArray 63)
 have z7 : (w6.alloc (.cells (balL MBal.none .nil .nil).toArray 35)).heap.size = w6.heap.size + 1 := by simp
 have B5 := Box.new w6 O5 5 35 (balL MBal.none .nil .nil)
 have B7 := Box.new (w6.alloc (.cells (balL MBal.none .nil .nil).toArray 35)) (mark O5 5 w6.heap.size) 7 63 (balL MBal.none .nil .nil)
 have LS7 := Lib.hid (⟨(N6.step (st 5) (by decide) (by decide)).step (st' 7) (by decide) (by decide), (M6.step (st 5) (by decide) (by decide)).step (st' 7) (by decide) (by decide), (RB6.step (st 5) (by decide) (by decide)).step (st' 7) (by decide) (by decide), (NL6.step (st 5) (by decide) (by decide)).step (st' 7) (by decide) (by decide), B5.step (st' 7) (by decide), B7, BalO.nil _ _ _ rfl, BalO.nil _ _ _ rfl, (X6.step (st 5) (by decide)).step (st' 7) (by decide)⟩ :
   LSM w ((w6.alloc (.cells (balL MBal.none .nil .nil).toArray 35)).alloc (.cells (balL MBal.none .nil .nil).toArray 63)) _ tr tb nr R rg (fun _ _ => 0) lb (fun _ _ => 0) w6.heap.size _ MBal.none .nil .nil .nil .nil w.heap.size cs)
 rw [z7] at LS7
 have g1 : ((w6.alloc (.cells #[.int .i64 0, .slice none 0 0, .slice none 0 0, .int .i64 0, .int .i64 0, .int .i64 0, .int .i64 0, .int .i64 0] 35)).alloc (.cells #[.int .i64 0, .slice none 0 0, .slice none 0 0, .int .i64 0, .int .i64 0, .int .i64 0, .int .i64 0, .int .i64 0] 63)).heap[w6.heap.size]? = some (.cells #[.int .i64 0, .slice none 0 0, .slice none 0 0, .int .i64 0, .int .i64 0, .int .i64 0, .int .i64 0, .int .i64 0] 35 (0, 0)) := by
   rw [heap_alloc_old _ _ (by simp)]; exact heap_alloc_last _ _
 have g2 : (((w6.alloc (.cells #[.int .i64 0, .slice none 0 0, .slice none 0 0, .int .i64 0, .int .i64 0, .int .i64 0, .int .i64 0, .int .i64 0] 35)).alloc (.cells #[.int .i64 0, .slice none 0 0, .slice none 0 0, .int .i64 0, .int .i64 0, .int .i64 0, .int .i64 0, .int .i64 0] 63)).setRow w6.heap.size (balL MBal.none .nil .nil).toArray).heap[w6.heap.size + 1]? = some (.cells #[.int .i64 0, .slice none 0 0, .slice none 0 0, .int .i64 0, .int .i64 0, .int .i64 0, .int .i64 0, .int .i64 0] 63 (0, 0)) := by
   rw [setRow_other _ _ _ _ (by omega)]
   have e := heap_alloc_last (w6.alloc (.cells #[.int .i64 0, .slice none 0 0, .slice none 0 0, .int .i64 0, .int .i64 0, .int .i64 0, .int .i64 0, .int .i64 0] 35)) (.cells #[.int .i64 0, .slice none 0 0, .slice none 0 0, .int .i64 0, .int .i64 0, .int .i64 0, .int .i64 0, .int .i64 0] 63)
   rwa [show (w6.alloc (.cells #[.int .i64 0, .slice none 0 0, .slice none 0 0, .int .i64 0, .int .i64 0, .int .i64 0, .int .i64 0, .int .i64 0] 35)).heap.size = w6.heap.size + 1 by simp] at e
 have G1 := Lib.hid g1
 have G2 := Lib.hid g2
 have ew : (((w6.alloc (.cells #[.int .i64 0, .slice none 0 0, .slice none 0 0, .int .i64 0, .int .i64 0, .int .i64 0, .int .i64 0, .int .i64 0] 35)).alloc (.cells #[.int .i64 0, .slice none 0 0, .slice none 0 0, .int .i64 0, .int .i64 0, .int .i64 0, .int .i64 0, .int .i64 0] 63)).setRow w6.heap.size (balL MBal.none .nil .nil).toArray).setRow (w6.heap.size + 1) (balL MBal.none .nil .nil).toArray = (w6.alloc (.cells (balL MBal.none .nil .nil).toArray 35)).alloc (.cells (balL MBal.none .nil .nil).toArray 63) := by
   rw [two_rows]
 have EW := Lib.hid ew
 clear X5 N5 M5 RB5 NL5 X6 N6 M6 RB6 NL6 st st' fin7 low7 z7 B5 B7 g1 g2 ew hb6
 go_upto_region 7 with (first | ((with_reducible show wpList _ _ _ _ _ _); (refine wpList_store_row rfl 35 (.tmp 9) (.tmp 35) rfl w6.heap.size (balL MBal.none .nil .nil).toArray rfl rfl _ _ G1.out (bal_size _ _ _) rfl (bal_one _ _ _) ?_)) | ((with_reducible show wpList _ _ _ _ _ _); (refine wpList_store_row rfl 63 (.tmp 10) (.tmp 36) rfl (w6.heap.size + 1) (balL MBal.none .nil .nil).toArray rfl rfl _ _ G2.out (rbal_sz _ _ _) rfl (bal_one _ _ _) ?_)))
 rw [EW.out]
 (try simp only [Act.put])
 obtain ⟨O6, hO6⟩ : ∃ O6, mark (mark O5 5 w6.heap.size) 7 (w6.heap.size + 1) = O6 := ⟨_, rfl⟩
 rw [hO6] at LS7
 obtain ⟨w7, hw7⟩ : ∃ w7, (w6.alloc (.cells (balL MBal.none .nil .nil).toArray 35)).alloc (.cells (balL MBal.none .nil .nil).toArray 63) = w7 := ⟨_, rfl⟩
 rw [hw7] at LS7
 rw [hw7]
 obtain ⟨bo, hbo⟩ : ∃ bo, w6.heap.size = bo := ⟨_, rfl⟩
 rw [hbo] at LS7
 rw [hbo]
 obtain ⟨bw, hbw⟩ : ∃ bw, bo + 1 = bw := ⟨_, rfl⟩
 rw [hbw] at LS7
 rw [hbw]
 obtain ⟨ws, hws⟩ : ∃ ws, w.heap.size = ws := ⟨_, rfl⟩
 have LS7 := Lib.hid (show LSM w w7 O6 tr tb nr R rg (fun _ _ => 0) lb (fun _ _ => 0) bo bw MBal.none .nil .nil .nil .nil ws cs by rw [← hws]; exact LS7.out)
 have HWS := Lib.hid hws
 clear hO6 hw7 hbo hbw EW G1 G2
 rw [HWS.out]
 clear hws
 go_wp2
 go_loopg [8, 11] 6 (fun gh s8 s11 wr => ∃ (k : Nat) (O : Nat → Nat) (S S0 SL : Int → Int → Int) (lb : Nat) (op : MBal) (sb sr ub ur : Sl), k ≤ 6 ∧ gh = 6 - k ∧ s8 = ptr lb ∧ s11 = .int .i64 k ∧ LSM w wr O tr tb nr R rg S lb SL bo bw op sb sr ub ur ws cs ∧ op.Ok S0)
 case atStart => exact ⟨0, _, _, _, _, lb, _, _, _, _, _, Nat.zero_le _, rfl, rfl, rfl, LS7.out, MBal.none_ok⟩
 case round =>
   obtain ⟨k, O, S, S0', SL, lb, op, sb, sr, ub, ur, hk, hgk, rfl, rfl, hls, hok⟩ := hrel
   have HGK := Lib.hid hgk
   have HLS := Lib.hid hls
   have OK := Lib.hid hok
   have st1 := hls.st.cell S1.out
   have st2 := hls.st.cell S2.out
   clear hgk hls hok LS7
   obtain ⟨wo, rfl⟩ : ∃ wo, wo = wr := ⟨_, rfl⟩
   by_cases hlt : k < n1 ∧ k < 6
   · obtain ⟨l1, l6⟩ := hlt
     have l1' : (k : Int) < (n1 : Int) := by omega
     have l6' : (k : Int) < 6 := by omega
     have l0' : (0 : Int) ≤ (k : Int) := by omega
     obtain ⟨bb, hbb⟩ : ∃ bb : Bool, decide (k < n2) = bb := ⟨_, rfl⟩
     go_upto_if 52 with fail
     go_cut [12] (fun _ wx => ∃ (O' : Nat → Nat) (S' : Int → Int → Int), LSM w wx O' tr tb nr R rg S' lb SL bo bw op sb sr ub ur ws cs)
     case first => as_aux_lemma =>
       --BEGIN
       by_cases hk2 : k < n2
       · obtain ⟨b, off, A', m, c, zs, rfl, hb, hc, hrow⟩ := R2.out.some hk2
         have hk2' : (k : Int) < (n2 : Int) := by omega
         obtain rfl : bb = true := by rw [← hbb]; exact decide_eq_true hk2
         have HR := Lib.hid hrow
         have HC := Lib.hid hc
         clear hrow hc
         go_wp2
         go_loopg [12] 5 (fun gh s12 wx => ∃ (q : Nat) (O' : Nat → Nat) (S' : Int → Int → Int), q ≤ 5 ∧ gh = 5 - q ∧ s12 = .int .i64 q ∧ LSM w wx O' tr tb nr R rg S' lb SL bo bw op sb sr ub ur ws cs)
         case atStart => exact ⟨0, O, S, Nat.zero_le _, rfl, rfl, HLS.out⟩
         case round =>
           obtain ⟨q, O', S', hq, hgq, rfl, hl2⟩ := hrel
           have HGQ := Lib.hid hgq
           have HL2 := Lib.hid hl2
           have HR2 := Lib.hid (HR.out.below hl2.low)
           have c2 := cell_keep HC.out hl2.low
           have st2 := hl2.st.cell S2.out
           have hb2 : b < wr.heap.size := Nat.lt_of_lt_of_le hb hl2.low.size
           clear hgq hl2
           by_cases hqm : q < m
           · have hqm' : (q : Int) < (m : Int) := by omega
             by_cases hq4 : q < 5
             · have hq4' : (q : Int) < 5 := by omega
               have hq0' : (0 : Int) ≤ (q : Int) := by omega
               obtain ⟨b1, ob, rfl, hb1, hcc⟩ := HR2.out.at.1.some (by omega)
               have cz := hcc q hqm
               obtain ⟨z, hz⟩ : ∃ z, zs.getD q 0 = z := ⟨_, rfl⟩
               rw [hz] at cz
               have CM := Lib.hid fun (cc yy aa : Int) => nbmove_some HL2.out.r (by decide) cc yy aa
               clear hcc hz
               go_wp2_with (first | (go_at_call 7; (with_reducible refine (within_some _ _ _ (by omega) (by omega)).mono ?_); rintro e w' ⟨x, hx1, hx2, rfl, rfl⟩) | (go_at_call 17; (with_reducible refine (amount_some _ _).mono ?_); rintro e w' ⟨y, rfl, rfl⟩))
               refine (CM.out _ _ _).mono ?_
               rintro e w8 ⟨er, S8, O8, rfl, nb8, s8⟩
               have L8 := Lib.hid (HL2.out.reg s8 nb8)
               clear nb8 s8 CM
               go_wp2
               go_roundg (5 - (q + 1))
               case measure => have := HGQ.out; omega
               case rel => exact ⟨q + 1, O8, S8, by omega, rfl, by go_num, L8.out⟩
             · have hq4' : ¬ (q : Int) < 5 := by omega
               clear hq4
               go_wp2
               go_meet
               exact ⟨O', S', HL2.out⟩
           · have hqm' : ¬ (q : Int) < (m : Int) := by omega
             clear hqm
             go_wp2
             go_meet
             exact ⟨O', S', HL2.out⟩
       · have hk2' : ¬ (k : Int) < (n2 : Int) := by omega
         obtain rfl : bb = false := by rw [← hbb]; exact decide_eq_false hk2
         clear hk2
         go_wp2
         go_meet
         exact ⟨O, S, HLS.out⟩
       --END
     case rest => as_aux_lemma =>
       obtain ⟨O', S', hl3⟩ := hcut
       clear HLS hbb
       have HLS := Lib.hid hl3
       have st1 := hl3.st.cell S1.out
       clear hl3 st2
       obtain ⟨b9, hb9⟩ : ∃ b9 : Bool, (odd.tmod 17 == 16) = b9 := ⟨_, rfl⟩
       go_upto_if 92 with (first | (go_at_call 7; (with_reducible refine (within_some _ _ _ (by omega) (by omega)).mono ?_); rintro e w' ⟨x, hx1, hx2, rfl, rfl⟩))
       go_cut [14] (fun s14 wx => ∃ p : Int, s14 = .int .i64 p ∧ LSM w wx O' tr tb nr R rg S' lb SL bo bw op sb sr ub ur ws cs)
       case first => as_aux_lemma =>
         --BEGIN
         cases b9
         all_goals
           go_wp2
           go_meet
           exact ⟨_, rfl, HLS.out⟩
         --END
       case rest => as_aux_lemma =>
         obtain ⟨p, rfl, hl3⟩ := hcut
         clear HLS hb9
         have HLS := Lib.hid hl3
         have st1 := hl3.st.cell S1.out
         clear hl3
         obtain ⟨b, off, A', m, c, zs, rfl, hb, hc, hrow⟩ := (R1.out.below HLS.out.low).some l1
         have CI := Lib.hid (pin_some p A' m c zs wc hrow)
         clear hrow
         go_wp2_with fail
         refine (CI.out).mono ?_
         rintro e w8 ⟨i, rfl, hb8⟩
         have L8 := Lib.hid (HLS.out.below hb8)
         clear hb8 CI HLS
         go_upto_region 20 with ((with_reducible show wpList _ _ _ _ _ _); (refine wpList_store_row rfl 66 (.tmp 15) (.tmp 100) rfl w8.heap.size (inL i).toArray rfl rfl _ _ (heap_alloc_last _ _) (in_size _) rfl (in_one _) ?_; rw [World.setRow_alloc_new]))
         have b8 := (Below.refl w8.heap.size w8).alloc (Nat.le_refl _) (.cells (inL i).toArray 66)
         have I9 := Lib.hid (⟨heap_alloc_last w8 _, L8.out.fin.2 _ (Nat.le_refl _)⟩ : Box (w8.alloc (.cells (inL i).toArray 66)) O' 0 w8.heap.size 66 (inL i))
         have L9 := Lib.hid (L8.out.below b8)
         obtain ⟨wj, hwj⟩ : ∃ wj, w8.alloc (.cells (inL i).toArray 66) = wj := ⟨_, rfl⟩
         rw [hwj] at I9 L9
         rw [hwj]
         obtain ⟨bi, hbi⟩ : ∃ bi, w8.heap.size = bi := ⟨_, rfl⟩
         rw [hbi] at I9
         rw [hbi]
         have CB := Lib.hid (bof2 L9.out.r)
         clear b8 hwj hbi L8
         go_wp2_with fail
         refine (CB.out).mono ?_
         rintro e wa ⟨rb, OP, rfl, np, hb1⟩
         have LA := Lib.hid (L9.out.below hb1)
         have PA := Lib.hid np
         have IA := Lib.hid (I9.out.below hb1)
         clear np hb1 CB L9 I9
         have CV := Lib.hid (pof LA.out.l)
         go_wp2_with fail
         refine (CV.out).mono ?_
         rintro e wb ⟨vb, OV, rfl, nv, hb2⟩
         have HL := Lib.hid (LA.out.below hb2)
         have HP := Lib.hid (PA.out.below hb2)
         have BI := Lib.hid (IA.out.below hb2)
         have HV := Lib.hid nv
         clear nv hb2 CV LA PA IA
         obtain ⟨m', g, iv⟩ := HL.out.r.told
         obtain ⟨nl, gl, vl⟩ := HL.out.l.told
         obtain ⟨qq, ff, hfw⟩ := fiw_any OK.out.iv.is iv.is
         have hff := hfw.fis OK.out.iv.mon iv.mon
         have IV := Lib.hid iv
         have VL := Lib.hid vl
         have HC := Lib.hid (mk_any (n0 := op.n) HL.out.t.inv i op OK.out IV.out VL.out hff rfl)
         clear iv vl hff hfw
         go_upto_region 23 with fail
         rcases HC.out with ⟨e, he0, hno⟩ | ⟨v, SL', hv, ft⟩
         · have HNO := Lib.hid hno
           have e0 : ¬ e = 0 := he0
           clear hno HC he0
           as_aux_lemma =>
             go_cut [18, 19, 20] (fun sp sl se wx => ∃ bp O4, sp = ptr bp ∧ sl = .pointer none ∧ se = .int .i64 e ∧ LSM w wx O4 tr tb nr R rg S' lb SL bo bw op sb sr ub ur ws cs ∧ Box wx O4 6 bp 42 pv0L ∧ Below wb.heap.size wb wx)
             case first => as_aux_lemma =>
               refine wp_region_noPanic ?_
               refine AnyTill.begin (C := fun w' => w'.rangeAt bi 0 (inL i) ∧ w'.rangeAt bo 0 (balL op sb sr)) (q := 99) (by kernel_rfl) ?_
               obtain ⟨wd, hwd⟩ : ∃ wd, wb.drew = wd := ⟨_, rfl⟩
               have kd : Below wb.heap.size wb wd := by rw [← hwd]; exact below_drew wb
               rw [hwd]
               have hl0 := HL.out.below kd
               have scd : wd.rangeAt bi 0 (inL i) ∧ wd.rangeAt bo 0 (balL op sb sr) := ⟨(BI.out.below kd).range, hl0.bx.range⟩
               refine AnyTill.tk 0 scd ?_
               refine AnyTill.tv (i := 1) (v := .agg (inL i).toArray) (hy := (yieldsIf_load_mid (by rfl) 66 (.tmp 15) rfl bi 0 rfl (inL i) _ (fun _ h => h.1) Tryz.underlying66 rfl (in_size _))) (hC := scd) (h := ?_)
               refine AnyTill.tv (i := 3) (v := .agg (balL op sb sr).toArray) (hy := (yieldsIf_load_mid (by rfl) 35 (.tmp 9) rfl bo 0 rfl (balL op sb sr) _ (fun _ h => h.2) Tryz.underlying35 rfl (bal_size _ _ _))) (hC := scd) (h := ?_)
               refine AnyTill.tk 4 scd ?_
               refine AnyTill.tk 5 scd ?_
               refine' AnyTill.two (i := 2) (k := 11) (o := _) (o' := _) (by kernel_rfl) ?m0a ?m0b (fun K' hK => ?m0x) (fun K' hK => ?m0y)
               case m0a => (simp only [List.getElem?_toArray, List.getElem?_cons_succ, List.getElem?_cons_zero]; rfl)
               case m0b => (simp only [List.getElem?_toArray, List.getElem?_cons_succ, List.getElem?_cons_zero]; rfl)
               case m0x =>
                 go_simp
                 (go_at_call 21; (refine (linp _ _).mono ?_); rintro e wm0x ⟨rfl, bm0x⟩)
                 have lm0x := hl0.below bm0x
                 have km0x := kd.trans (bm0x.mono kd.size)
                 have cm0x : wm0x.rangeAt bi 0 (inL i) ∧ wm0x.rangeAt bo 0 (balL op sb sr) := ⟨(BI.out.below km0x).range, lm0x.bx.range⟩
                 refine hK.out _ _ (.inr cm0x) ?_
                 clear hK K'
                 try simp only [pt]
                 refine' AnyTill.two (i := 6) (k := 11) (o := _) (o' := _) (by kernel_rfl) ?m1a ?m1b (fun K' hK => ?m1x) (fun K' hK => ?m1y)
                 case m1a => (simp only [List.getElem?_toArray, List.getElem?_cons_succ, List.getElem?_cons_zero]; rfl)
                 case m1b => (simp only [List.getElem?_toArray, List.getElem?_cons_succ, List.getElem?_cons_zero]; rfl)
                 case m1x =>
                   go_simp
                   have cm := pmk_no lm0x.t (HV.out.below km0x) (HP.out.below km0x) IV.out VL.out OK.out lm0x.ba.at' HNO.out
                   (go_at_call 10; (refine (cm).mono ?_); rintro e wm1x ⟨rfl, bm1x⟩)
                   have lm1x := lm0x.below bm1x
                   have km1x := km0x.trans (bm1x.mono km0x.size)
                   have cm1x : wm1x.rangeAt bi 0 (inL i) ∧ wm1x.rangeAt bo 0 (balL op sb sr) := ⟨(BI.out.below km1x).range, lm1x.bx.range⟩
                   refine hK.out _ _ (.inr cm1x) ?_
                   clear hK K'
                   try simp only [pt]
                   refine AnyTill.tk 7 cm1x ?_
                   refine AnyTill.tk 8 cm1x ?_
                   refine AnyTill.tk 9 cm1x ?_
                   refine AnyTill.tk 10 cm1x ?_
                   refine AnyTill.on 11 fun K' hK => ?_
                   go_simp
                   have bm2 := (Below.refl wm1x.heap.size wm1x).alloc (Nat.le_refl _) (.cells zl41.toArray 42)
                   have sm2 := Step.made (t := 6) lm1x.fin lm1x.low.size (.cells zl41.toArray 42)
                   have lm2 := lm1x.other (sm2 6) (.inl rfl)
                   have xm2 : Box (wm1x.alloc (.cells zl41.toArray 42)) (mark O' 6 wm1x.heap.size) 6 wm1x.heap.size 42 zl41 := ⟨heap_alloc_last wm1x _, mark_at _ _ _⟩
                   obtain ⟨wm2, hwm2⟩ : ∃ v, wm1x.alloc (.cells zl41.toArray 42) = v := ⟨_, rfl⟩
                   rw [hwm2] at bm2 lm2 xm2
                   rw [hwm2]
                   clear sm2 hwm2
                   have bl : wb.heap.size ≤ wm1x.heap.size := km1x.size
                   have km2 := km1x.trans (bm2.mono km1x.size)
                   have cm2 : wm2.rangeAt bi 0 (inL i) ∧ wm2.rangeAt bo 0 (balL op sb sr) := ⟨(BI.out.below km2).range, lm2.bx.range⟩
                   refine hK.out _ _ (.inr cm2) ?_
                   clear hK K'
                   try simp only [pt]
                   refine AnyTill.on 12 fun K' hK => ?_
                   rw [if_pos (by rfl)]
                   refine wp_store_row 42 (.tmp 18) (.tmp 119) rfl wm1x.heap.size pv0L.toArray rfl rfl _ _ xm2.at' pv0_size rfl (one_all pv0L_one) ?_
                   obtain ⟨bx, sx⟩ := xm2.set lm2.fin pv0L
                   have lx := lm2.other sx (.inl rfl)
                   have kx := below_setRow km2 (g := wm1x.heap.size) bl pv0L.toArray
                   have cx : (wm2.setRow wm1x.heap.size pv0L.toArray).rangeAt bi 0 (inL i) ∧ (wm2.setRow wm1x.heap.size pv0L.toArray).rangeAt bo 0 (balL op sb sr) := ⟨(BI.out.below kx).range, lx.bx.range⟩
                   refine hK.out _ _ (.inr cx) ?_
                   clear hK K'
                   try simp only [pt]
                   refine AnyTill.tk 13 cx ?_
                   refine AnyTill.tk 14 cx ?_
                   refine AnyTill.done (by kernel_rfl) ?_ _
                   refine NoPanic.normal ?_
                   go_wp2
                   go_meet
                   exact ⟨_, _, rfl, rfl, rfl, lx, bx, kx⟩
                 case m1y =>
                   go_simp
                   have bm1y := (Below.refl wm0x.heap.size wm0x).alloc (Nat.le_refl _) (.cells zl41.toArray 42)
                   have sm1y := Step.made (t := 6) lm0x.fin lm0x.low.size (.cells zl41.toArray 42)
                   have lm1y := lm0x.other (sm1y 6) (.inl rfl)
                   have xm1y : Box (wm0x.alloc (.cells zl41.toArray 42)) (mark O' 6 wm0x.heap.size) 6 wm0x.heap.size 42 zl41 := ⟨heap_alloc_last wm0x _, mark_at _ _ _⟩
                   obtain ⟨wm1y, hwm1y⟩ : ∃ v, wm0x.alloc (.cells zl41.toArray 42) = v := ⟨_, rfl⟩
                   rw [hwm1y] at bm1y lm1y xm1y
                   rw [hwm1y]
                   clear sm1y hwm1y
                   have bl : wb.heap.size ≤ wm0x.heap.size := km0x.size
                   have km1y := km0x.trans (bm1y.mono km0x.size)
                   have cm1y : wm1y.rangeAt bi 0 (inL i) ∧ wm1y.rangeAt bo 0 (balL op sb sr) := ⟨(BI.out.below km1y).range, lm1y.bx.range⟩
                   refine hK.out _ _ (.inr cm1y) ?_
                   clear hK K'
                   try simp only [pt]
                   refine AnyTill.on 6 fun K' hK => ?_
                   go_simp
                   have cm := pmk_no lm1y.t (HV.out.below km1y) (HP.out.below km1y) IV.out VL.out OK.out lm1y.ba.at' HNO.out
                   (go_at_call 10; (refine (cm).mono ?_); rintro e wm5 ⟨rfl, bm5⟩)
                   have lm5 := lm1y.below bm5
                   have xm5 := xm1y.below bm5
                   have km5 := km1y.trans (bm5.mono km1y.size)
                   have cm5 : wm5.rangeAt bi 0 (inL i) ∧ wm5.rangeAt bo 0 (balL op sb sr) := ⟨(BI.out.below km5).range, lm5.bx.range⟩
                   refine hK.out _ _ (.inr cm5) ?_
                   clear hK K'
                   try simp only [pt]
                   refine AnyTill.tk 7 cm5 ?_
                   refine AnyTill.tk 8 cm5 ?_
                   refine AnyTill.tk 9 cm5 ?_
                   refine AnyTill.tk 10 cm5 ?_
                   refine AnyTill.on 12 fun K' hK => ?_
                   rw [if_pos (by rfl)]
                   refine wp_store_row 42 (.tmp 18) (.tmp 119) rfl wm0x.heap.size pv0L.toArray rfl rfl _ _ xm5.at' pv0_size rfl (one_all pv0L_one) ?_
                   obtain ⟨bx, sx⟩ := xm5.set lm5.fin pv0L
                   have lx := lm5.other sx (.inl rfl)
                   have kx := below_setRow km5 (g := wm0x.heap.size) bl pv0L.toArray
                   have cx : (wm5.setRow wm0x.heap.size pv0L.toArray).rangeAt bi 0 (inL i) ∧ (wm5.setRow wm0x.heap.size pv0L.toArray).rangeAt bo 0 (balL op sb sr) := ⟨(BI.out.below kx).range, lx.bx.range⟩
                   refine hK.out _ _ (.inr cx) ?_
                   clear hK K'
                   try simp only [pt]
                   refine AnyTill.tk 13 cx ?_
                   refine AnyTill.tk 14 cx ?_
                   refine AnyTill.done (by kernel_rfl) ?_ _
                   refine NoPanic.normal ?_
                   go_wp2
                   go_meet
                   exact ⟨_, _, rfl, rfl, rfl, lx, bx, kx⟩
               case m0y =>
                 go_simp
                 have bm0y := (Below.refl wd.heap.size wd).alloc (Nat.le_refl _) (.cells zl41.toArray 42)
                 have sm0y := Step.made (t := 6) hl0.fin hl0.low.size (.cells zl41.toArray 42)
                 have lm0y := hl0.other (sm0y 6) (.inl rfl)
                 have xm0y : Box (wd.alloc (.cells zl41.toArray 42)) (mark O' 6 wd.heap.size) 6 wd.heap.size 42 zl41 := ⟨heap_alloc_last wd _, mark_at _ _ _⟩
                 obtain ⟨wm0y, hwm0y⟩ : ∃ v, wd.alloc (.cells zl41.toArray 42) = v := ⟨_, rfl⟩
                 rw [hwm0y] at bm0y lm0y xm0y
                 rw [hwm0y]
                 clear sm0y hwm0y
                 have bl : wb.heap.size ≤ wd.heap.size := kd.size
                 have km0y := kd.trans (bm0y.mono kd.size)
                 have cm0y : wm0y.rangeAt bi 0 (inL i) ∧ wm0y.rangeAt bo 0 (balL op sb sr) := ⟨(BI.out.below km0y).range, lm0y.bx.range⟩
                 refine hK.out _ _ (.inr cm0y) ?_
                 clear hK K'
                 try simp only [pt]
                 refine AnyTill.on 2 fun K' hK => ?_
                 go_simp
                 (go_at_call 21; (refine (linp _ _).mono ?_); rintro e wm8 ⟨rfl, bm8⟩)
                 have lm8 := lm0y.below bm8
                 have xm8 := xm0y.below bm8
                 have km8 := km0y.trans (bm8.mono km0y.size)
                 have cm8 : wm8.rangeAt bi 0 (inL i) ∧ wm8.rangeAt bo 0 (balL op sb sr) := ⟨(BI.out.below km8).range, lm8.bx.range⟩
                 refine hK.out _ _ (.inr cm8) ?_
                 clear hK K'
                 try simp only [pt]
                 refine AnyTill.on 6 fun K' hK => ?_
                 go_simp
                 have cm := pmk_no lm8.t (HV.out.below km8) (HP.out.below km8) IV.out VL.out OK.out lm8.ba.at' HNO.out
                 (go_at_call 10; (refine (cm).mono ?_); rintro e wm9 ⟨rfl, bm9⟩)
                 have lm9 := lm8.below bm9
                 have xm9 := xm8.below bm9
                 have km9 := km8.trans (bm9.mono km8.size)
                 have cm9 : wm9.rangeAt bi 0 (inL i) ∧ wm9.rangeAt bo 0 (balL op sb sr) := ⟨(BI.out.below km9).range, lm9.bx.range⟩
                 refine hK.out _ _ (.inr cm9) ?_
                 clear hK K'
                 try simp only [pt]
                 refine AnyTill.tk 7 cm9 ?_
                 refine AnyTill.tk 8 cm9 ?_
                 refine AnyTill.tk 9 cm9 ?_
                 refine AnyTill.tk 10 cm9 ?_
                 refine AnyTill.on 12 fun K' hK => ?_
                 rw [if_pos (by rfl)]
                 refine wp_store_row 42 (.tmp 18) (.tmp 119) rfl wd.heap.size pv0L.toArray rfl rfl _ _ xm9.at' pv0_size rfl (one_all pv0L_one) ?_
                 obtain ⟨bx, sx⟩ := xm9.set lm9.fin pv0L
                 have lx := lm9.other sx (.inl rfl)
                 have kx := below_setRow km9 (g := wd.heap.size) bl pv0L.toArray
                 have cx : (wm9.setRow wd.heap.size pv0L.toArray).rangeAt bi 0 (inL i) ∧ (wm9.setRow wd.heap.size pv0L.toArray).rangeAt bo 0 (balL op sb sr) := ⟨(BI.out.below kx).range, lx.bx.range⟩
                 refine hK.out _ _ (.inr cx) ?_
                 clear hK K'
                 try simp only [pt]
                 refine AnyTill.tk 13 cx ?_
                 refine AnyTill.tk 14 cx ?_
                 refine AnyTill.done (by kernel_rfl) ?_ _
                 refine NoPanic.normal ?_
                 go_wp2
                 go_meet
                 exact ⟨_, _, rfl, rfl, rfl, lx, bx, kx⟩
             case rest => as_aux_lemma =>
               obtain ⟨bp, O4, rfl, rfl, rfl, hl, bx, kx⟩ := hcut
               have HL3 := Lib.hid hl
               have XP3 := Lib.hid bx
               have HP3 := Lib.hid (HP.out.below kx)
               have HV3 := Lib.hid (HV.out.below kx)
               have RI := Lib.hid (BI.out.below kx).range
               have RW := Lib.hid hl.bw.range
               have CR := Lib.hid (rmk_no hl.tr hl.r hl.l IV.out VL.out OK.out hl.bb.at' HNO.out)
               clear hl bx kx HL HP HV BI HNO
               go_wp2_with (first | ((with_reducible show wpList _ _ _ _ _ _); (refine wpList_load_mid rfl 66 (.tmp 15) rfl bi 0 rfl (inL i) _ RI.out Tryz.underlying66 rfl (in_size _) ?_)) | ((with_reducible show wpList _ _ _ _ _ _); (refine wpList_load_mid rfl 63 (.tmp 10) rfl bw 0 rfl (balL op ub ur) _ RW.out Tryz.underlying63 rfl (rbal_sz _ _ _) ?_)))
               refine (CR.out).mono ?_
               rintro e1 wf ⟨rfl, hf⟩
               have HL4 := Lib.hid (HL3.out.below hf)
               have XP4 := Lib.hid (XP3.out.below hf)
               have HP4 := Lib.hid (HP3.out.below hf)
               have HV4 := Lib.hid (HV3.out.below hf)
               clear hf CR RI RW HL3 XP3 HP3 HV3
               go_upto_region 25 with ((with_reducible show wpList _ _ _ _ _ _); (refine wpList_store_row rfl 75 (.tmp 21) (.tmp 129) rfl wf.heap.size pv0L.toArray rfl rfl _ _ (heap_alloc_last _ _) rpv0_size rfl (one_all pv0L_one) ?_; rw [World.setRow_alloc_new]))
               have kg := (Below.refl wf.heap.size wf).alloc (Nat.le_refl _) (.cells pv0L.toArray 75)
               have XQ := Lib.hid (⟨heap_alloc_last wf _, rfl⟩ : Box (wf.alloc (.cells pv0L.toArray 75)) (fun _ => 0) 0 wf.heap.size 75 pv0L)
               obtain ⟨wg, hwg⟩ : ∃ wg, wf.alloc (.cells pv0L.toArray 75) = wg := ⟨_, rfl⟩
               rw [hwg] at kg XQ
               rw [hwg]
               obtain ⟨bq, hbq⟩ : ∃ bq, wf.heap.size = bq := ⟨_, rfl⟩
               have HL5 := Lib.hid (HL4.out.below kg)
               have XP := Lib.hid (XP4.out.below kg)
               have HP5 := Lib.hid (HP4.out.below kg)
               have HV5 := Lib.hid (HV4.out.below kg)
               rw [hbq] at XQ
               rw [hbq]
               clear kg hwg hbq HL4 XP4 HP4 HV4
               have HP4 := HP5
               have HV4 := HV5
               clear HP5 HV5
               obtain ⟨AR, cr, cr1, hcr1, hcr2, gr⟩ := nowb_seen HL5.out.r IV.out
               obtain ⟨AL, cl, cl1, hcl1, hcl2, gv⟩ := nowl_seen HL5.out.l VL.out
               have CR1 := Lib.hid cr1
               have CL1 := Lib.hid cl1
               have GR := Lib.hid gr
               have GL := Lib.hid gv
               clear cr1 cl1 gr gv
               have ee : (e != e) = false := by simp
               have ez : (e == 0) = false := by simpa using e0
               go_cut [167] (fun s wx => s = .bool false ∧ Below wg.heap.size wg wx)
               case first => as_aux_lemma =>
                 refine wp_region_noPanic ?_
                 refine AnyTill.begin (C := fun w' => w'.rangeAt bp 0 pv0L ∧ w'.rangeAt bq 0 pv0L ∧ w'.cell? ⟨rg, 0, none⟩ = some (.slice AR m' cr) ∧ w'.cell? ⟨lb, 0, none⟩ = some (.slice AL nl cl)) (q := 99) (by kernel_rfl) ?_
                 obtain ⟨wd, hwd⟩ : ∃ wd, wg.drew = wd := ⟨_, rfl⟩
                 have kd : Below wg.heap.size wg wd := by rw [← hwd]; exact below_drew wg
                 rw [hwd]
                 have scd : wd.rangeAt bp 0 pv0L ∧ wd.rangeAt bq 0 pv0L ∧ wd.cell? ⟨rg, 0, none⟩ = some (.slice AR m' cr) ∧ wd.cell? ⟨lb, 0, none⟩ = some (.slice AL nl cl) := ⟨(XP.out.below kd).range, (XQ.out.below kd).range, cell_keep CR1.out kd, cell_keep CL1.out kd⟩
                 clear hwd
                 refine AnyTill.tk 0 scd ?_
                 refine AnyTill.tk 1 scd ?_
                 refine AnyTill.tk 2 scd ?_
                 refine AnyTill.tk 3 scd ?_
                 refine AnyTill.tv (i := 4) (v := .agg pv0L.toArray) (hy := (yieldsIf_load_mid (by rfl) 42 (.tmp 18) rfl bp 0 rfl pv0L _ (fun _ h => h.1) Tryz.underlying42 rfl pv0_size)) (hC := scd) (h := ?_)
                 refine AnyTill.tv (i := 5) (v := .agg pv0L.toArray) (hy := (yieldsIf_load_mid (by rfl) 75 (.tmp 21) rfl bq 0 rfl pv0L _ (fun _ h => h.2.1) Tryz.underlying75 rfl rpv0_size)) (hC := scd) (h := ?_)
                 refine AnyTill.on 6 fun K' hK => ?_
                 go_simp
                 (go_at_call 23; (refine (psame0 _).mono ?_); rintro e1 wh ⟨rfl, bh⟩)
                 have kh := kd.trans (bh.mono kd.size)
                 have sch : wh.rangeAt bp 0 pv0L ∧ wh.rangeAt bq 0 pv0L ∧ wh.cell? ⟨rg, 0, none⟩ = some (.slice AR m' cr) ∧ wh.cell? ⟨lb, 0, none⟩ = some (.slice AL nl cl) := ⟨(XP.out.below kh).range, (XQ.out.below kh).range, cell_keep CR1.out kh, cell_keep CL1.out kh⟩
                 refine hK.out _ _ (.inr sch) ?_
                 clear hK K' scd
                 try simp only [pt]
                 refine AnyTill.tk 7 sch ?_
                 refine AnyTill.tk 8 sch ?_
                 refine AnyTill.tk 9 sch ?_
                 refine AnyTill.tk 10 sch ?_
                 refine AnyTill.tk 11 sch ?_
                 refine AnyTill.tk 12 sch ?_
                 refine AnyTill.tk 13 sch ?_
                 refine AnyTill.tk 14 sch ?_
                 refine AnyTill.tk 15 sch ?_
                 refine AnyTill.tk 16 sch ?_
                 refine AnyTill.tk 17 sch ?_
                 refine AnyTill.tk 19 sch ?_
                 refine AnyTill.tk 20 sch ?_
                 refine AnyTill.tk 21 sch ?_
                 refine AnyTill.tk 22 sch ?_
                 refine AnyTill.on 18 fun K' hK => ?_
                 go_simp
                 (go_at_call 25; (refine (pbrows (HP4.out.below kh) IV.out.is).mono ?_); rintro e1 wi ⟨A5, c5, rfl, hc5, hm5, ho5, bi5⟩)
                 have ki := kh.trans (bi5.mono kh.size)
                 have sci : wi.rangeAt bp 0 pv0L ∧ wi.rangeAt bq 0 pv0L ∧ wi.cell? ⟨rg, 0, none⟩ = some (.slice AR m' cr) ∧ wi.cell? ⟨lb, 0, none⟩ = some (.slice AL nl cl) := ⟨(XP.out.below ki).range, (XQ.out.below ki).range, cell_keep CR1.out ki, cell_keep CL1.out ki⟩
                 refine hK.out _ _ (.inr sci) ?_
                 clear hK K' sch
                 try simp only [pt]
                 have at5 := ownr_at ho5
                 refine AnyTill.on 23 fun K' hK => ?_
                 go_simp
                 (go_at_call 24; (refine (bsame_true A5 AR m' c5 cr g g wi at5 (GR.out.below ki) (by have := IV.out.le; omega) fun _ _ => rfl).mono ?_); rintro e1 wj ⟨rfl, bj⟩)
                 have kj := ki.trans (bj.mono ki.size)
                 have scj : wj.rangeAt bp 0 pv0L ∧ wj.rangeAt bq 0 pv0L ∧ wj.cell? ⟨rg, 0, none⟩ = some (.slice AR m' cr) ∧ wj.cell? ⟨lb, 0, none⟩ = some (.slice AL nl cl) := ⟨(XP.out.below kj).range, (XQ.out.below kj).range, cell_keep CR1.out kj, cell_keep CL1.out kj⟩
                 refine hK.out _ _ (.inr scj) ?_
                 clear hK K' sci
                 try simp only [pt]
                 clear at5 ho5
                 refine AnyTill.tk 24 scj ?_
                 refine AnyTill.tk 25 scj ?_
                 refine AnyTill.tk 26 scj ?_
                 refine AnyTill.tk 27 scj ?_
                 refine AnyTill.tk 29 scj ?_
                 refine AnyTill.tk 30 scj ?_
                 refine AnyTill.tk 31 scj ?_
                 refine AnyTill.tk 32 scj ?_
                 refine AnyTill.on 28 fun K' hK => ?_
                 go_simp
                 (go_at_call 27; (refine (pvrows (HV4.out.below kj) VL.out.is).mono ?_); rintro e1 wk ⟨A6, c6, rfl, hc6, hm6, ho6, bk6⟩)
                 have kk := kj.trans (bk6.mono kj.size)
                 have sck : wk.rangeAt bp 0 pv0L ∧ wk.rangeAt bq 0 pv0L ∧ wk.cell? ⟨rg, 0, none⟩ = some (.slice AR m' cr) ∧ wk.cell? ⟨lb, 0, none⟩ = some (.slice AL nl cl) := ⟨(XP.out.below kk).range, (XQ.out.below kk).range, cell_keep CR1.out kk, cell_keep CL1.out kk⟩
                 refine hK.out _ _ (.inr sck) ?_
                 clear hK K' scj
                 try simp only [pt]
                 have at6 := ownv_at ho6
                 refine AnyTill.on 33 fun K' hK => ?_
                 go_simp
                 (go_at_call 26; (refine (vsame_true A6 AL nl c6 cl gl gl wk at6 (GL.out.below kk) (by have := VL.out.le; omega) fun _ _ => rfl).mono ?_); rintro e1 wm ⟨rfl, bm⟩)
                 have km := kk.trans (bm.mono kk.size)
                 have scm : wm.rangeAt bp 0 pv0L ∧ wm.rangeAt bq 0 pv0L ∧ wm.cell? ⟨rg, 0, none⟩ = some (.slice AR m' cr) ∧ wm.cell? ⟨lb, 0, none⟩ = some (.slice AL nl cl) := ⟨(XP.out.below km).range, (XQ.out.below km).range, cell_keep CR1.out km, cell_keep CL1.out km⟩
                 refine hK.out _ _ (.inr scm) ?_
                 clear hK K' sck
                 try simp only [pt]
                 clear at6 ho6
                 refine AnyTill.tk 34 scm ?_
                 refine AnyTill.tk 35 scm ?_
                 refine AnyTill.done (by kernel_rfl) ?_ _
                 refine NoPanic.normal ?_
                 go_wp2
                 go_meet
                 exact ⟨rfl, km⟩
               case rest => as_aux_lemma =>
                 obtain ⟨rfl, kz⟩ := hcut
                 have LN := Lib.hid (HL5.out.below kz)
                 clear kz HL5 XP XQ HP4 HV4 CR1 CL1 GR GL
                 go_wp2
                 go_roundg (6 - (k + 1))
                 case measure => have := HGK.out; omega
                 case rel => exact ⟨k + 1, O4, S', S0', SL, lb, op, sb, sr, ub, ur, by omega, rfl, rfl, by go_num, LN.out, OK.out⟩
         · have HMV := Lib.hid hv
           have FT := Lib.hid ft
           clear hv ft HC
           as_aux_lemma =>
             go_cut [18, 19, 20] (fun sp sl se wx => ∃ bp lb' ss O4, sp = ptr bp ∧ sl = ptr lb' ∧ se = .int .i64 0 ∧ LSM w wx O4 tr tb nr R rg S' lb SL bo bw op sb sr ub ur ws cs ∧ NowL w wx O4 8 lb' SL' ∧ PvF O4 w.heap.size wx op v ss ∧ Box wx O4 6 bp 42 (pvL i op v ss) ∧ Below wb.heap.size wb wx)
             case first => as_aux_lemma =>
               refine wp_region_noPanic ?_
               refine AnyTill.begin (C := fun w' => w'.rangeAt bi 0 (inL i) ∧ w'.rangeAt bo 0 (balL op sb sr)) (q := 99) (by kernel_rfl) ?_
               obtain ⟨wd, hwd⟩ : ∃ wd, wb.drew = wd := ⟨_, rfl⟩
               have kd : Below wb.heap.size wb wd := by rw [← hwd]; exact below_drew wb
               rw [hwd]
               have hl0 := HL.out.below kd
               have scd : wd.rangeAt bi 0 (inL i) ∧ wd.rangeAt bo 0 (balL op sb sr) := ⟨(BI.out.below kd).range, hl0.bx.range⟩
               refine AnyTill.tk 0 scd ?_
               refine AnyTill.tv (i := 1) (v := .agg (inL i).toArray) (hy := (yieldsIf_load_mid (by rfl) 66 (.tmp 15) rfl bi 0 rfl (inL i) _ (fun _ h => h.1) Tryz.underlying66 rfl (in_size _))) (hC := scd) (h := ?_)
               refine AnyTill.tv (i := 3) (v := .agg (balL op sb sr).toArray) (hy := (yieldsIf_load_mid (by rfl) 35 (.tmp 9) rfl bo 0 rfl (balL op sb sr) _ (fun _ h => h.2) Tryz.underlying35 rfl (bal_size _ _ _))) (hC := scd) (h := ?_)
               refine AnyTill.tk 4 scd ?_
               refine AnyTill.tk 5 scd ?_
               refine' AnyTill.two (i := 2) (k := 11) (o := _) (o' := _) (by kernel_rfl) ?m12a ?m12b (fun K' hK => ?m12x) (fun K' hK => ?m12y)
               case m12a => (simp only [List.getElem?_toArray, List.getElem?_cons_succ, List.getElem?_cons_zero]; rfl)
               case m12b => (simp only [List.getElem?_toArray, List.getElem?_cons_succ, List.getElem?_cons_zero]; rfl)
               case m12x =>
                 go_simp
                 (go_at_call 21; (refine (linp _ _).mono ?_); rintro e wm12x ⟨rfl, bm12x⟩)
                 have lm12x := hl0.below bm12x
                 have km12x := kd.trans (bm12x.mono kd.size)
                 have cm12x : wm12x.rangeAt bi 0 (inL i) ∧ wm12x.rangeAt bo 0 (balL op sb sr) := ⟨(BI.out.below km12x).range, lm12x.bx.range⟩
                 refine hK.out _ _ (.inr cm12x) ?_
                 clear hK K'
                 try simp only [pt]
                 refine' AnyTill.two (i := 6) (k := 11) (o := _) (o' := _) (by kernel_rfl) ?m13a ?m13b (fun K' hK => ?m13x) (fun K' hK => ?m13y)
                 case m13a => (simp only [List.getElem?_toArray, List.getElem?_cons_succ, List.getElem?_cons_zero]; rfl)
                 case m13b => (simp only [List.getElem?_toArray, List.getElem?_cons_succ, List.getElem?_cons_zero]; rfl)
                 case m13x =>
                   go_simp
                   have cm := pmk_ok2 lm12x.t (HV.out.below km12x) (HP.out.below km12x) IV.out VL.out OK.out lm12x.ba.at' HMV.out FT.out
                   (go_at_call 10; (refine (cm).mono ?_); rintro e wm13x ⟨lb', O2, ss, rfl, nv, pa, po, bm13x⟩)
                   obtain ⟨O4, lm13x, nn, jb, jo, jd, jf⟩ := lm12x.join (t4 := 8) bm13x nv
                   have po' : BalO O4 w.heap.size wm13x op ss.ob ss.or := by
                     rcases po with ⟨h1, h2⟩ | h
                     · rw [h1, h2]; exact lm13x.ba
                     · exact jb _ _ _ h
                   have pf := pvf_of pa po' jb jf
                   clear po po' pa nv jb jf jd
                   have km13x := km12x.trans (bm13x.mono km12x.size)
                   have cm13x : wm13x.rangeAt bi 0 (inL i) ∧ wm13x.rangeAt bo 0 (balL op sb sr) := ⟨(BI.out.below km13x).range, lm13x.bx.range⟩
                   refine hK.out _ _ (.inr cm13x) ?_
                   clear hK K'
                   try simp only [pt]
                   refine AnyTill.tk 7 cm13x ?_
                   refine AnyTill.tk 8 cm13x ?_
                   refine AnyTill.tk 9 cm13x ?_
                   refine AnyTill.tk 10 cm13x ?_
                   refine AnyTill.on 11 fun K' hK => ?_
                   go_simp
                   have bm14 := (Below.refl wm13x.heap.size wm13x).alloc (Nat.le_refl _) (.cells zl41.toArray 42)
                   have sm14 := Step.made (t := 6) lm13x.fin lm13x.low.size (.cells zl41.toArray 42)
                   have lm14 := lm13x.other (sm14 6) (.inl rfl)
                   have xm14 : Box (wm13x.alloc (.cells zl41.toArray 42)) (mark O4 6 wm13x.heap.size) 6 wm13x.heap.size 42 zl41 := ⟨heap_alloc_last wm13x _, mark_at _ _ _⟩
                   have pfm14 := pf.step (sm14 6) (by decide)
                   have nnm14 := NowL.step nn (sm14 6) (by decide) (by decide)
                   obtain ⟨wm14, hwm14⟩ : ∃ v, wm13x.alloc (.cells zl41.toArray 42) = v := ⟨_, rfl⟩
                   rw [hwm14] at bm14 lm14 xm14 pfm14 nnm14
                   rw [hwm14]
                   clear sm14 hwm14
                   have bl : wb.heap.size ≤ wm13x.heap.size := km13x.size
                   have km14 := km13x.trans (bm14.mono km13x.size)
                   have cm14 : wm14.rangeAt bi 0 (inL i) ∧ wm14.rangeAt bo 0 (balL op sb sr) := ⟨(BI.out.below km14).range, lm14.bx.range⟩
                   refine hK.out _ _ (.inr cm14) ?_
                   clear hK K'
                   try simp only [pt]
                   refine AnyTill.on 12 fun K' hK => ?_
                   rw [if_pos (by rfl)]
                   refine wp_store_row 42 (.tmp 18) (.tmp 119) rfl wm13x.heap.size (pvL i op v ss).toArray rfl rfl _ _ xm14.at' (pv_size _ _ _ _) rfl (one_all (pvL_one _ _ _ _)) ?_
                   obtain ⟨bx, sx⟩ := xm14.set lm14.fin (pvL i op v ss)
                   have lx := lm14.other sx (.inl rfl)
                   have kx := below_setRow km14 (g := wm13x.heap.size) bl (pvL i op v ss).toArray
                   have cx : (wm14.setRow wm13x.heap.size (pvL i op v ss).toArray).rangeAt bi 0 (inL i) ∧ (wm14.setRow wm13x.heap.size (pvL i op v ss).toArray).rangeAt bo 0 (balL op sb sr) := ⟨(BI.out.below kx).range, lx.bx.range⟩
                   refine hK.out _ _ (.inr cx) ?_
                   clear hK K'
                   try simp only [pt]
                   refine AnyTill.tk 13 cx ?_
                   refine AnyTill.tk 14 cx ?_
                   refine AnyTill.done (by kernel_rfl) ?_ _
                   refine NoPanic.normal ?_
                   go_wp2
                   go_meet
                   exact ⟨_, lb', ss, _, rfl, rfl, rfl, lx, NowL.step nnm14 sx (by decide) (by decide), pfm14.step sx (by decide), bx, kx⟩
                 case m13y =>
                   go_simp
                   have bm13y := (Below.refl wm12x.heap.size wm12x).alloc (Nat.le_refl _) (.cells zl41.toArray 42)
                   have sm13y := Step.made (t := 6) lm12x.fin lm12x.low.size (.cells zl41.toArray 42)
                   have lm13y := lm12x.other (sm13y 6) (.inl rfl)
                   have xm13y : Box (wm12x.alloc (.cells zl41.toArray 42)) (mark O' 6 wm12x.heap.size) 6 wm12x.heap.size 42 zl41 := ⟨heap_alloc_last wm12x _, mark_at _ _ _⟩
                   obtain ⟨wm13y, hwm13y⟩ : ∃ v, wm12x.alloc (.cells zl41.toArray 42) = v := ⟨_, rfl⟩
                   rw [hwm13y] at bm13y lm13y xm13y
                   rw [hwm13y]
                   clear sm13y hwm13y
                   have bl : wb.heap.size ≤ wm12x.heap.size := km12x.size
                   have km13y := km12x.trans (bm13y.mono km12x.size)
                   have cm13y : wm13y.rangeAt bi 0 (inL i) ∧ wm13y.rangeAt bo 0 (balL op sb sr) := ⟨(BI.out.below km13y).range, lm13y.bx.range⟩
                   refine hK.out _ _ (.inr cm13y) ?_
                   clear hK K'
                   try simp only [pt]
                   refine AnyTill.on 6 fun K' hK => ?_
                   go_simp
                   have cm := pmk_ok2 lm13y.t (HV.out.below km13y) (HP.out.below km13y) IV.out VL.out OK.out lm13y.ba.at' HMV.out FT.out
                   (go_at_call 10; (refine (cm).mono ?_); rintro e wm17 ⟨lb', O2, ss, rfl, nv, pa, po, bm17⟩)
                   obtain ⟨O4, lm17, nn, jb, jo, jd, jf⟩ := lm13y.join (t4 := 8) bm17 nv
                   have po' : BalO O4 w.heap.size wm17 op ss.ob ss.or := by
                     rcases po with ⟨h1, h2⟩ | h
                     · rw [h1, h2]; exact lm17.ba
                     · exact jb _ _ _ h
                   have pf := pvf_of pa po' jb jf
                   clear po po' pa nv jb jf jd
                   have xm17 := (xm13y.below bm17).marks (O2 := O4) (t2 := 6) (by rw [jo _ xm13y.lt]; exact xm13y.tag)
                   have km17 := km13y.trans (bm17.mono km13y.size)
                   have cm17 : wm17.rangeAt bi 0 (inL i) ∧ wm17.rangeAt bo 0 (balL op sb sr) := ⟨(BI.out.below km17).range, lm17.bx.range⟩
                   refine hK.out _ _ (.inr cm17) ?_
                   clear hK K'
                   try simp only [pt]
                   refine AnyTill.tk 7 cm17 ?_
                   refine AnyTill.tk 8 cm17 ?_
                   refine AnyTill.tk 9 cm17 ?_
                   refine AnyTill.tk 10 cm17 ?_
                   refine AnyTill.on 12 fun K' hK => ?_
                   rw [if_pos (by rfl)]
                   refine wp_store_row 42 (.tmp 18) (.tmp 119) rfl wm12x.heap.size (pvL i op v ss).toArray rfl rfl _ _ xm17.at' (pv_size _ _ _ _) rfl (one_all (pvL_one _ _ _ _)) ?_
                   obtain ⟨bx, sx⟩ := xm17.set lm17.fin (pvL i op v ss)
                   have lx := lm17.other sx (.inl rfl)
                   have kx := below_setRow km17 (g := wm12x.heap.size) bl (pvL i op v ss).toArray
                   have cx : (wm17.setRow wm12x.heap.size (pvL i op v ss).toArray).rangeAt bi 0 (inL i) ∧ (wm17.setRow wm12x.heap.size (pvL i op v ss).toArray).rangeAt bo 0 (balL op sb sr) := ⟨(BI.out.below kx).range, lx.bx.range⟩
                   refine hK.out _ _ (.inr cx) ?_
                   clear hK K'
                   try simp only [pt]
                   refine AnyTill.tk 13 cx ?_
                   refine AnyTill.tk 14 cx ?_
                   refine AnyTill.done (by kernel_rfl) ?_ _
                   refine NoPanic.normal ?_
                   go_wp2
                   go_meet
                   exact ⟨_, lb', ss, _, rfl, rfl, rfl, lx, NowL.step nn sx (by decide) (by decide), pf.step sx (by decide), bx, kx⟩
               case m12y =>
                 go_simp
                 have bm12y := (Below.refl wd.heap.size wd).alloc (Nat.le_refl _) (.cells zl41.toArray 42)
                 have sm12y := Step.made (t := 6) hl0.fin hl0.low.size (.cells zl41.toArray 42)
                 have lm12y := hl0.other (sm12y 6) (.inl rfl)
                 have xm12y : Box (wd.alloc (.cells zl41.toArray 42)) (mark O' 6 wd.heap.size) 6 wd.heap.size 42 zl41 := ⟨heap_alloc_last wd _, mark_at _ _ _⟩
                 obtain ⟨wm12y, hwm12y⟩ : ∃ v, wd.alloc (.cells zl41.toArray 42) = v := ⟨_, rfl⟩
                 rw [hwm12y] at bm12y lm12y xm12y
                 rw [hwm12y]
                 clear sm12y hwm12y
                 have bl : wb.heap.size ≤ wd.heap.size := kd.size
                 have km12y := kd.trans (bm12y.mono kd.size)
                 have cm12y : wm12y.rangeAt bi 0 (inL i) ∧ wm12y.rangeAt bo 0 (balL op sb sr) := ⟨(BI.out.below km12y).range, lm12y.bx.range⟩
                 refine hK.out _ _ (.inr cm12y) ?_
                 clear hK K'
                 try simp only [pt]
                 refine AnyTill.on 2 fun K' hK => ?_
                 go_simp
                 (go_at_call 21; (refine (linp _ _).mono ?_); rintro e wm20 ⟨rfl, bm20⟩)
                 have lm20 := lm12y.below bm20
                 have xm20 := xm12y.below bm20
                 have km20 := km12y.trans (bm20.mono km12y.size)
                 have cm20 : wm20.rangeAt bi 0 (inL i) ∧ wm20.rangeAt bo 0 (balL op sb sr) := ⟨(BI.out.below km20).range, lm20.bx.range⟩
                 refine hK.out _ _ (.inr cm20) ?_
                 clear hK K'
                 try simp only [pt]
                 refine AnyTill.on 6 fun K' hK => ?_
                 go_simp
                 have cm := pmk_ok2 lm20.t (HV.out.below km20) (HP.out.below km20) IV.out VL.out OK.out lm20.ba.at' HMV.out FT.out
                 (go_at_call 10; (refine (cm).mono ?_); rintro e wm21 ⟨lb', O2, ss, rfl, nv, pa, po, bm21⟩)
                 obtain ⟨O4, lm21, nn, jb, jo, jd, jf⟩ := lm20.join (t4 := 8) bm21 nv
                 have po' : BalO O4 w.heap.size wm21 op ss.ob ss.or := by
                   rcases po with ⟨h1, h2⟩ | h
                   · rw [h1, h2]; exact lm21.ba
                   · exact jb _ _ _ h
                 have pf := pvf_of pa po' jb jf
                 clear po po' pa nv jb jf jd
                 have xm21 := (xm20.below bm21).marks (O2 := O4) (t2 := 6) (by rw [jo _ xm20.lt]; exact xm20.tag)
                 have km21 := km20.trans (bm21.mono km20.size)
                 have cm21 : wm21.rangeAt bi 0 (inL i) ∧ wm21.rangeAt bo 0 (balL op sb sr) := ⟨(BI.out.below km21).range, lm21.bx.range⟩
                 refine hK.out _ _ (.inr cm21) ?_
                 clear hK K'
                 try simp only [pt]
                 refine AnyTill.tk 7 cm21 ?_
                 refine AnyTill.tk 8 cm21 ?_
                 refine AnyTill.tk 9 cm21 ?_
                 refine AnyTill.tk 10 cm21 ?_
                 refine AnyTill.on 12 fun K' hK => ?_
                 rw [if_pos (by rfl)]
                 refine wp_store_row 42 (.tmp 18) (.tmp 119) rfl wd.heap.size (pvL i op v ss).toArray rfl rfl _ _ xm21.at' (pv_size _ _ _ _) rfl (one_all (pvL_one _ _ _ _)) ?_
                 obtain ⟨bx, sx⟩ := xm21.set lm21.fin (pvL i op v ss)
                 have lx := lm21.other sx (.inl rfl)
                 have kx := below_setRow km21 (g := wd.heap.size) bl (pvL i op v ss).toArray
                 have cx : (wm21.setRow wd.heap.size (pvL i op v ss).toArray).rangeAt bi 0 (inL i) ∧ (wm21.setRow wd.heap.size (pvL i op v ss).toArray).rangeAt bo 0 (balL op sb sr) := ⟨(BI.out.below kx).range, lx.bx.range⟩
                 refine hK.out _ _ (.inr cx) ?_
                 clear hK K'
                 try simp only [pt]
                 refine AnyTill.tk 13 cx ?_
                 refine AnyTill.tk 14 cx ?_
                 refine AnyTill.done (by kernel_rfl) ?_ _
                 refine NoPanic.normal ?_
                 go_wp2
                 go_meet
                 exact ⟨_, lb', ss, _, rfl, rfl, rfl, lx, NowL.step nn sx (by decide) (by decide), pf.step sx (by decide), bx, kx⟩
             case rest => as_aux_lemma =>
               obtain ⟨bp, lb', ss, O4, rfl, rfl, rfl, hl, nn, pf, bx, kx⟩ := hcut
               have HL3 := Lib.hid hl
               have XP3 := Lib.hid bx
               have NN3 := Lib.hid nn
               have PF3 := Lib.hid pf
               have HP3 := Lib.hid (HP.out.below kx)
               have HV3 := Lib.hid (HV.out.below kx)
               have RI := Lib.hid (BI.out.below kx).range
               have RW := Lib.hid hl.bw.range
               have CR := Lib.hid (rmk_ok hl.tr hl.r hl.l IV.out VL.out OK.out hl.bb.at' HMV.out FT.out)
               clear hl bx kx nn pf HL HP HV BI
               go_wp2_with (first | ((with_reducible show wpList _ _ _ _ _ _); (refine wpList_load_mid rfl 66 (.tmp 15) rfl bi 0 rfl (inL i) _ RI.out Tryz.underlying66 rfl (in_size _) ?_)) | ((with_reducible show wpList _ _ _ _ _ _); (refine wpList_load_mid rfl 63 (.tmp 10) rfl bw 0 rfl (balL op ub ur) _ RW.out Tryz.underlying63 rfl (rbal_sz _ _ _) ?_)))
               refine (CR.out).mono ?_
               rintro e1 wf ⟨lb2, O2, s2, rfl, nr2, rp, hf⟩
               obtain ⟨O5, hl5, n8, jb, jo, jd, jf⟩ := HL3.out.join (t4 := 8) hf nr2
               have xp5 := (XP3.out.below hf).marks (O2 := O5) (t2 := 6) (by rw [jo _ XP3.out.lt]; exact XP3.out.tag)
               have bcp := jd _ _ _ PF3.out.cl
               have bcr := jb _ _ _ rp.cl
               have HL4 := Lib.hid hl5
               have N84 := Lib.hid n8
               have XP4 := Lib.hid xp5
               have BP4 := Lib.hid bcp
               have BR4 := Lib.hid bcr
               have PV4 := Lib.hid (PF3.out.r.below hf)
               have PR4 := Lib.hid rp.r
               have NP4 := Lib.hid (NowL.below NN3.out hf)
               have HP4 := Lib.hid (HP3.out.below hf)
               have HV4 := Lib.hid (HV3.out.below hf)
               clear hf CR RI RW HL3 XP3 HP3 HV3 NN3 PF3 nr2 rp hl5 n8 jb jo jd jf xp5 bcp bcr
               go_upto_region 25 with ((with_reducible show wpList _ _ _ _ _ _); (refine wpList_store_row rfl 75 (.tmp 21) (.tmp 129) rfl wf.heap.size (pvL i op v s2).toArray rfl rfl _ _ (heap_alloc_last _ _) (rpv_size _ _ _ _) rfl (one_all (pvL_one _ _ _ _)) ?_; rw [World.setRow_alloc_new]))
               have kg := (Below.refl wf.heap.size wf).alloc (Nat.le_refl _) (.cells (pvL i op v s2).toArray 75)
               have sg := Step.made (t := 9) HL4.out.fin HL4.out.low.size (.cells (pvL i op v s2).toArray 75) 9
               have xq := Box.new wf O5 9 75 (pvL i op v s2)
               have hl5 := HL4.out.other sg (.inr rfl)
               have n85 := NowL.step N84.out sg (by decide) (by decide)
               have xp5 := XP4.out.step sg (by decide)
               have bp5 := BP4.out.step sg (by decide)
               have br5 := BR4.out.step sg (by decide)
               have pv5 := PV4.out.below kg
               have pr5 := PR4.out.below kg
               have np5 := NowL.below NP4.out kg
               have hp5 := HP4.out.below kg
               have hv5 := HV4.out.below kg
               obtain ⟨wg, hwg⟩ : ∃ wg, wf.alloc (.cells (pvL i op v s2).toArray 75) = wg := ⟨_, rfl⟩
               rw [hwg] at xq hl5 n85 xp5 bp5 br5 pv5 pr5 np5 hp5 hv5
               rw [hwg]
               obtain ⟨bq, hbq⟩ : ∃ bq, wf.heap.size = bq := ⟨_, rfl⟩
               rw [hbq] at xq hl5 n85 xp5 bp5 br5
               rw [hbq]
               obtain ⟨O6, hO6⟩ : ∃ O6, mark O5 9 bq = O6 := ⟨_, rfl⟩
               rw [hO6] at xq hl5 n85 xp5 bp5 br5
               clear hO6 hbq hwg kg sg HL4 N84 XP4 BP4 BR4 PV4 PR4 NP4 HP4 HV4
               have HL5 := Lib.hid hl5
               have N85 := Lib.hid n85
               have XP := Lib.hid xp5
               have XQ := Lib.hid xq
               have BP5 := Lib.hid bp5
               have BR5 := Lib.hid br5
               have PF4 := Lib.hid pv5
               have PR4 := Lib.hid pr5
               have NP5 := Lib.hid np5
               have HP4 := Lib.hid hp5
               have HV4 := Lib.hid hv5
               clear xq hl5 n85 xp5 bp5 br5 pv5 pr5 np5 hp5 hv5
               obtain ⟨AR, cr, cr1, hcr1, hcr2, gr⟩ := nowb_seen HL5.out.r IV.out
               obtain ⟨AL, cl, cl1, hcl1, hcl2, gv⟩ := nowl_seen HL5.out.l VL.out
               have CR1 := Lib.hid cr1
               have CL1 := Lib.hid cl1
               have GR := Lib.hid gr
               have GL := Lib.hid gv
               have hz1 : op.n ≤ 1000000 := by have := OK.out.iv.le; omega
               have hz2 : v.cl.n ≤ 1000000 := by rw [HMV.out.cn]; have := IV.out.le; omega
               have hz3 : v.x.q ≤ 1000000 := HMV.out.tax.qle
               have hz4 : v.q ≤ 1000000 := by have := HMV.out.way.le; omega
               clear cr1 cl1 gr gv
               go_cut [167] (fun s wx => s = .bool false ∧ Below wg.heap.size wg wx)
               case first => as_aux_lemma =>
                 refine wp_region_noPanic ?_
                 refine AnyTill.begin (C := fun w' => w'.rangeAt bp 0 (pvL i op v ss) ∧ w'.rangeAt bq 0 (pvL i op v s2) ∧ w'.cell? ⟨rg, 0, none⟩ = some (.slice AR m' cr) ∧ w'.cell? ⟨lb, 0, none⟩ = some (.slice AL nl cl)) (q := 99) (by kernel_rfl) ?_
                 obtain ⟨wd, hwd⟩ : ∃ wd, wg.drew = wd := ⟨_, rfl⟩
                 have kd : Below wg.heap.size wg wd := by rw [← hwd]; exact below_drew wg
                 rw [hwd]
                 have scd : wd.rangeAt bp 0 (pvL i op v ss) ∧ wd.rangeAt bq 0 (pvL i op v s2) ∧ wd.cell? ⟨rg, 0, none⟩ = some (.slice AR m' cr) ∧ wd.cell? ⟨lb, 0, none⟩ = some (.slice AL nl cl) := ⟨(XP.out.below kd).range, (XQ.out.below kd).range, cell_keep CR1.out kd, cell_keep CL1.out kd⟩
                 clear hwd
                 refine AnyTill.tk 0 scd ?_
                 refine AnyTill.tk 1 scd ?_
                 refine AnyTill.tk 2 scd ?_
                 refine AnyTill.tk 3 scd ?_
                 refine AnyTill.tv (i := 4) (v := .agg (pvL i op v ss).toArray) (hy := (yieldsIf_load_mid (by rfl) 42 (.tmp 18) rfl bp 0 rfl (pvL i op v ss) _ (fun _ h => h.1) Tryz.underlying42 rfl (pv_size _ _ _ _))) (hC := scd) (h := ?_)
                 refine AnyTill.tv (i := 5) (v := .agg (pvL i op v s2).toArray) (hy := (yieldsIf_load_mid (by rfl) 75 (.tmp 21) rfl bq 0 rfl (pvL i op v s2) _ (fun _ h => h.2.1) Tryz.underlying75 rfl (rpv_size _ _ _ _))) (hC := scd) (h := ?_)
                 refine AnyTill.on 6 fun K' hK => ?_
                 go_simp
                 (go_at_call 23; (refine (psame (PF4.out.below kd) (PR4.out.below kd) hz1 hz2 hz3 hz4).mono ?_); rintro e1 wh ⟨rfl, bh⟩)
                 have kh := kd.trans (bh.mono kd.size)
                 have sch : wh.rangeAt bp 0 (pvL i op v ss) ∧ wh.rangeAt bq 0 (pvL i op v s2) ∧ wh.cell? ⟨rg, 0, none⟩ = some (.slice AR m' cr) ∧ wh.cell? ⟨lb, 0, none⟩ = some (.slice AL nl cl) := ⟨(XP.out.below kh).range, (XQ.out.below kh).range, cell_keep CR1.out kh, cell_keep CL1.out kh⟩
                 refine hK.out _ _ (.inr sch) ?_
                 clear hK K' scd
                 try simp only [pt]
                 refine AnyTill.tk 7 sch ?_
                 refine AnyTill.tk 8 sch ?_
                 refine AnyTill.tk 9 sch ?_
                 refine AnyTill.tk 10 sch ?_
                 refine AnyTill.tk 11 sch ?_
                 refine AnyTill.tk 12 sch ?_
                 refine AnyTill.tk 13 sch ?_
                 refine AnyTill.tk 14 sch ?_
                 refine AnyTill.tk 15 sch ?_
                 refine AnyTill.tk 16 sch ?_
                 refine AnyTill.tk 17 sch ?_
                 refine AnyTill.tk 19 sch ?_
                 refine AnyTill.tk 20 sch ?_
                 refine AnyTill.tk 21 sch ?_
                 refine AnyTill.tk 22 sch ?_
                 refine AnyTill.on 18 fun K' hK => ?_
                 go_simp
                 (go_at_call 25; (refine (pbrows (HP4.out.below kh) IV.out.is).mono ?_); rintro e1 wi ⟨A5, c5, rfl, hc5, hm5, ho5, bi5⟩)
                 have ki := kh.trans (bi5.mono kh.size)
                 have sci : wi.rangeAt bp 0 (pvL i op v ss) ∧ wi.rangeAt bq 0 (pvL i op v s2) ∧ wi.cell? ⟨rg, 0, none⟩ = some (.slice AR m' cr) ∧ wi.cell? ⟨lb, 0, none⟩ = some (.slice AL nl cl) := ⟨(XP.out.below ki).range, (XQ.out.below ki).range, cell_keep CR1.out ki, cell_keep CL1.out ki⟩
                 refine hK.out _ _ (.inr sci) ?_
                 clear hK K' sch
                 try simp only [pt]
                 have at5 := ownr_at ho5
                 refine AnyTill.on 23 fun K' hK => ?_
                 go_simp
                 (go_at_call 24; (refine (bsame_true A5 AR m' c5 cr g g wi at5 (GR.out.below ki) (by have := IV.out.le; omega) fun _ _ => rfl).mono ?_); rintro e1 wj ⟨rfl, bj⟩)
                 have kj := ki.trans (bj.mono ki.size)
                 have scj : wj.rangeAt bp 0 (pvL i op v ss) ∧ wj.rangeAt bq 0 (pvL i op v s2) ∧ wj.cell? ⟨rg, 0, none⟩ = some (.slice AR m' cr) ∧ wj.cell? ⟨lb, 0, none⟩ = some (.slice AL nl cl) := ⟨(XP.out.below kj).range, (XQ.out.below kj).range, cell_keep CR1.out kj, cell_keep CL1.out kj⟩
                 refine hK.out _ _ (.inr scj) ?_
                 clear hK K' sci
                 try simp only [pt]
                 clear at5 ho5
                 refine AnyTill.tk 24 scj ?_
                 refine AnyTill.tk 25 scj ?_
                 refine AnyTill.tk 26 scj ?_
                 refine AnyTill.tk 27 scj ?_
                 refine AnyTill.tk 29 scj ?_
                 refine AnyTill.tk 30 scj ?_
                 refine AnyTill.tk 31 scj ?_
                 refine AnyTill.tk 32 scj ?_
                 refine AnyTill.on 28 fun K' hK => ?_
                 go_simp
                 (go_at_call 27; (refine (pvrows (HV4.out.below kj) VL.out.is).mono ?_); rintro e1 wk ⟨A6, c6, rfl, hc6, hm6, ho6, bk6⟩)
                 have kk := kj.trans (bk6.mono kj.size)
                 have sck : wk.rangeAt bp 0 (pvL i op v ss) ∧ wk.rangeAt bq 0 (pvL i op v s2) ∧ wk.cell? ⟨rg, 0, none⟩ = some (.slice AR m' cr) ∧ wk.cell? ⟨lb, 0, none⟩ = some (.slice AL nl cl) := ⟨(XP.out.below kk).range, (XQ.out.below kk).range, cell_keep CR1.out kk, cell_keep CL1.out kk⟩
                 refine hK.out _ _ (.inr sck) ?_
                 clear hK K' scj
                 try simp only [pt]
                 have at6 := ownv_at ho6
                 refine AnyTill.on 33 fun K' hK => ?_
                 go_simp
                 (go_at_call 26; (refine (vsame_true A6 AL nl c6 cl gl gl wk at6 (GL.out.below kk) (by have := VL.out.le; omega) fun _ _ => rfl).mono ?_); rintro e1 wm ⟨rfl, bm⟩)
                 have km := kk.trans (bm.mono kk.size)
                 have scm : wm.rangeAt bp 0 (pvL i op v ss) ∧ wm.rangeAt bq 0 (pvL i op v s2) ∧ wm.cell? ⟨rg, 0, none⟩ = some (.slice AR m' cr) ∧ wm.cell? ⟨lb, 0, none⟩ = some (.slice AL nl cl) := ⟨(XP.out.below km).range, (XQ.out.below km).range, cell_keep CR1.out km, cell_keep CL1.out km⟩
                 refine hK.out _ _ (.inr scm) ?_
                 clear hK K' sck
                 try simp only [pt]
                 clear at6 ho6
                 refine AnyTill.tk 34 scm ?_
                 refine AnyTill.tk 35 scm ?_
                 refine AnyTill.done (by kernel_rfl) ?_ _
                 refine NoPanic.normal ?_
                 go_wp2
                 go_meet
                 exact ⟨rfl, km⟩
               case rest => as_aux_lemma =>
                 obtain ⟨rfl, kz⟩ := hcut
                 have HL6 := Lib.hid (HL5.out.below kz)
                 have N86 := Lib.hid (NowL.below N85.out kz)
                 have XP6 := Lib.hid (XP.out.below kz)
                 have XQ6 := Lib.hid (XQ.out.below kz)
                 have BP6 := Lib.hid (BP5.out.below kz)
                 have BR6 := Lib.hid (BR5.out.below kz)
                 have NP := Lib.hid (NowL.below NP5.out kz)
                 obtain ⟨nl2, gl2, vl2⟩ := NowL.told N86.out
                 obtain ⟨AM, cm, cm1, hcm1, hcm2, gm⟩ := nowl_seen N86.out vl2
                 have VL2 := Lib.hid vl2
                 have CL2 := Lib.hid cm1
                 have GL2 := Lib.hid gm
                 have OK2 := Lib.hid (HMV.out.ok FT.out HL6.out.t.inv IV.out VL.out)
                 clear kz HL5 N85 XP XQ BP5 BR5 PF4 PR4 NP5 HP4 HV4 CR1 CL1 GR GL hz1 hz2 hz3 hz4 vl2 cm1 gm
                 go_upto_region 28 with fail
                 obtain ⟨wz, rfl⟩ : ∃ wz, wz = wc := ⟨_, rfl⟩
                 go_cut [177] (fun s wx => s = .bool false ∧ Below wz.heap.size wz wx)
                 case first => as_aux_lemma =>
                   refine wp_region_noPanic ?_
                   refine AnyTill.begin (C := fun w' => w'.cell? ⟨lb2, 0, none⟩ = some (.slice AM nl2 cm)) (q := 99) (by kernel_rfl) ?_
                   obtain ⟨wd, hwd⟩ : ∃ wd, wz.drew = wd := ⟨_, rfl⟩
                   have kd : Below wz.heap.size wz wd := by rw [← hwd]; exact below_drew wz
                   rw [hwd]
                   have scd : wd.cell? ⟨lb2, 0, none⟩ = some (.slice AM nl2 cm) := cell_keep CL2.out kd
                   clear hwd
                   refine AnyTill.tk 0 scd ?_
                   refine AnyTill.tk 2 scd ?_
                   refine AnyTill.tk 3 scd ?_
                   refine AnyTill.tk 4 scd ?_
                   refine AnyTill.tk 5 scd ?_
                   refine AnyTill.on 1 fun K' hK => ?_
                   go_simp
                   (go_at_call 27; (refine (pvrows (NowV.below NP.out kd) VL2.out.is).mono ?_); rintro e1 wk ⟨A6, c6, rfl, hc6, hm6, ho6, bk6⟩)
                   have kk := kd.trans (bk6.mono kd.size)
                   have at6 := ownv_at ho6
                   have sck : wk.cell? ⟨lb2, 0, none⟩ = some (.slice AM nl2 cm) := cell_keep CL2.out kk
                   refine hK.out _ _ (.inr sck) ?_
                   clear hK K' scd
                   try simp only [pt]
                   refine AnyTill.on 6 fun K' hK => ?_
                   go_simp
                   (go_at_call 26; (refine (vsame_true A6 AM nl2 c6 cm gl2 gl2 wk at6 (GL2.out.below kk) (by have := VL2.out.le; omega) fun _ _ => rfl).mono ?_); rintro e1 wm ⟨rfl, bm⟩)
                   have km := kk.trans (bm.mono kk.size)
                   have scm : wm.cell? ⟨lb2, 0, none⟩ = some (.slice AM nl2 cm) := cell_keep CL2.out km
                   refine hK.out _ _ (.inr scm) ?_
                   clear hK K' sck
                   try simp only [pt]
                   refine AnyTill.tk 7 scm ?_
                   refine AnyTill.done (by kernel_rfl) ?_ _
                   refine NoPanic.normal ?_
                   go_wp2
                   go_meet
                   exact ⟨rfl, km⟩
                 case rest => as_aux_lemma =>
                   obtain ⟨rfl, kz⟩ := hcut
                   have hl7 := HL6.out.below kz
                   have HS := Lib.hid (hl7.swap (NowL.below N86.out kz))
                   have XPS := Lib.hid ((XP6.out.below kz).marks (O2 := swapO O6) (t2 := 6) (swap_ne XP6.out.tag (by decide) (by decide)))
                   have XQS := Lib.hid ((XQ6.out.below kz).marks (O2 := swapO O6) (t2 := 9) (swap_ne XQ6.out.tag (by decide) (by decide)))
                   have BP := Lib.hid (BP6.out.below kz).swap
                   have BR := Lib.hid (BR6.out.below kz).swap
                   clear hl7 kz HL6 N86 XP6 XQ6 BP6 BR6 NP VL2 CL2 GL2
                   go_upto_region 30 with fail
                   obtain ⟨wy, rfl⟩ : ∃ wy, wy = wc := ⟨_, rfl⟩
                   refine wp_region_noPanic ?_
                   refine AnyTill.begin (C := fun w' => w'.rangeAt bp 17 (balL v.cl ss.cb ss.cr) ∧ w'.rangeAt bq 17 (balL v.cl s2.cb s2.cr)) (q := 99) (by kernel_rfl) ?_
                   obtain ⟨wd, hwd⟩ : ∃ wd, wy.drew = wd := ⟨_, rfl⟩
                   have kd : Below wy.heap.size wy wd := by rw [← hwd]; exact below_drew wy
                   rw [hwd]
                   clear hwd
                   have hs := HS.out.below kd
                   have xp := XPS.out.below kd
                   have xq := XQS.out.below kd
                   have b1 := BP.out.below kd
                   have b2 := BR.out.below kd
                   have scd : wd.rangeAt bp 17 (balL v.cl ss.cb ss.cr) ∧ wd.rangeAt bq 17 (balL v.cl s2.cb s2.cr) := ⟨xp.sub (pv_cls _ _ _ _), xq.sub (pv_cls _ _ _ _)⟩
                   refine AnyTill.tk 0 scd ?_
                   refine AnyTill.tv (i := 1) (v := .agg (balL v.cl ss.cb ss.cr).toArray) (hy := (yieldsIf_load_mid (by rfl) 35 (.tmp 178) rfl bp 17 rfl (balL v.cl ss.cb ss.cr) _ (fun _ h => h.1) Tryz.underlying35 rfl (bal_size _ _ _))) (hC := scd) (h := ?_)
                   refine AnyTill.tk 2 scd ?_
                   refine AnyTill.tv (i := 3) (v := .agg (balL v.cl s2.cb s2.cr).toArray) (hy := (yieldsIf_load_mid (by rfl) 63 (.tmp 180) rfl bq 17 rfl (balL v.cl s2.cb s2.cr) _ (fun _ h => h.2) Tryz.underlying63 rfl (rbal_sz _ _ _))) (hC := scd) (h := ?_)
                   refine AnyTill.tk 4 scd ?_
                   refine AnyTill.on 5 fun K' hK => ?_
                   rw [if_pos (by rfl)]
                   refine wp_store_row 35 (.tmp 9) (.tmp 179) rfl bo (balL v.cl ss.cb ss.cr).toArray rfl rfl _ _ hs.bx.at' (bal_size _ _ _) rfl (bal_one _ _ _) ?_
                   have st5 := (hs.bx.set hs.fin (balL v.cl ss.cb ss.cr)).2
                   have xp5 := xp.step st5 (by decide)
                   have xq5 := xq.step st5 (by decide)
                   have hw5 := hs.bw.step st5 (by decide)
                   have sc5 : (wd.setRow bo (balL v.cl ss.cb ss.cr).toArray).rangeAt bp 17 (balL v.cl ss.cb ss.cr) ∧ (wd.setRow bo (balL v.cl ss.cb ss.cr).toArray).rangeAt bq 17 (balL v.cl s2.cb s2.cr) := ⟨xp5.sub (pv_cls _ _ _ _), xq5.sub (pv_cls _ _ _ _)⟩
                   refine hK.out _ _ (.inr sc5) ?_
                   clear hK K'
                   try simp only [pt]
                   refine AnyTill.on 6 fun K' hK => ?_
                   rw [if_pos (by rfl)]
                   refine wp_store_row 63 (.tmp 10) (.tmp 181) rfl bw (balL v.cl s2.cb s2.cr).toArray rfl rfl _ _ hw5.at' (rbal_sz _ _ _) rfl (bal_one _ _ _) ?_
                   have st6 := (hw5.set (hs.t.step st5 (by decide) (by decide)).fin (balL v.cl s2.cb s2.cr)).2
                   have sc6 : ((wd.setRow bo (balL v.cl ss.cb ss.cr).toArray).setRow bw (balL v.cl s2.cb s2.cr).toArray).rangeAt bp 17 (balL v.cl ss.cb ss.cr) ∧ ((wd.setRow bo (balL v.cl ss.cb ss.cr).toArray).setRow bw (balL v.cl s2.cb s2.cr).toArray).rangeAt bq 17 (balL v.cl s2.cb s2.cr) := ⟨(xp5.step st6 (by decide)).sub (pv_cls _ _ _ _), (xq5.step st6 (by decide)).sub (pv_cls _ _ _ _)⟩
                   refine hK.out _ _ (.inr sc6) ?_
                   clear hK K'
                   try simp only [pt]
                   refine AnyTill.tk 7 sc6 ?_
                   refine AnyTill.done (by kernel_rfl) ?_ _
                   refine NoPanic.normal ?_
                   have LN := Lib.hid (hs.opened b1 b2)
                   clear hs xp xq b1 b2 scd st5 xp5 xq5 hw5 sc5 st6 sc6 kd
                   go_wp2
                   go_roundg (6 - (k + 1))
                   case measure => have := HGK.out; omega
                   case rel => exact ⟨k + 1, _, S', S', SL', lb2, v.cl, ss.cb, ss.cr, s2.cb, s2.cr, by omega, rfl, rfl, by go_num, LN.out, OK2.out⟩
   · have LO := Lib.hid HLS.out.low
     by_cases l1 : k < n1
     · have l1' : (k : Int) < (n1 : Int) := by omega
       have l6' : ¬ (k : Int) < 6 := by omega
       clear hlt
       go_wp2_with (go_at_call 12; (with_reducible refine (W.out _).mono ?_); rintro e w10 ⟨rfl, hb10⟩; have K10 := Lib.hid (LO.out.trans (hb10.mono LO.out.size)); clear hb10)
       go_ret
       exact ⟨rfl, by first | exact K10.out | (rw [← HWS.out]; exact K10.out)⟩
     · have l1' : ¬ (k : Int) < (n1 : Int) := by omega
       clear hlt l1
       go_wp2_with (go_at_call 12; (with_reducible refine (W.out _).mono ?_); rintro e w10 ⟨rfl, hb10⟩; have K10 := Lib.hid (LO.out.trans (hb10.mono LO.out.size)); clear hb10)
       go_ret
       exact ⟨rfl, by first | exact K10.out | (rw [← HWS.out]; exact K10.out)⟩
end Go.Proofs.YtmlafdehhbhbiaaGreat
