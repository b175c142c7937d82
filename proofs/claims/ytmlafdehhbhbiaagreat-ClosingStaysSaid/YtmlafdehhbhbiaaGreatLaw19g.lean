/- ClosingStays: its walk. -/
import Derived.Test.YtmlafdehhbhbiaaGreatTk
import Derived.Test.YtmlafdehhbhbiaaGreatLaw19e
import Derived.Test.YtmlafdehhbhbiaaGreatMkStay
namespace Go.Proofs.YtmlafdehhbhbiaaGreat
open Go.RowKit
set_option maxHeartbeats 64000000 in
set_option maxRecDepth 100000 in
theorem closingStays_walk (a0 : Option Addr) (n0 c0 : Nat) (a1 : Option Addr) (n1 c1 : Nat) (a2 : Option Addr) (n2 c2 : Nat) (r0 : Int) (w : World) (h1 : Rows2 w a1 n1) (h2 : Rows2 w a2 n2) :
   Calls Tryz.prog 6 #[.agg #[.slice a0 n0 c0, .slice a1 n1 c1, .slice a2 n2 c2], .int .i64 r0] w fun e w' => e = .returned (.bool true) ∧ Below w.heap.size w w' := by
 have W := Lib.hid fun w => wakes19_any w
 obtain ⟨r, hr⟩ : ∃ r, r0 % 1000001 = r := ⟨_, rfl⟩
 have ER := Lib.hid hr
 have br : 0 ≤ r ∧ r ≤ 1000000 := by omega
 have BR := Lib.hid br
 obtain ⟨cs, hcs⟩ : ∃ cs, cs19 a0 n0 c0 a1 n1 c1 a2 n2 c2 = cs := ⟨_, rfl⟩
 have s1 : cs[1]? = some (.slice a1 n1 c1) := by rw [← hcs]; rfl
 have s2 : cs[2]? = some (.slice a2 n2 c2) := by rw [← hcs]; rfl
 have S1 := Lib.hid s1
 have S2 := Lib.hid s2
 have R1 := Lib.hid h1
 have R2 := Lib.hid h2
 have ba := (Below.refl w.heap.size w).alloc (Nat.le_refl _) (.cells cs.toArray 52)
 have BX := Lib.hid (⟨heap_alloc_last w _, rfl⟩ : Box (w.alloc (.cells cs.toArray 52)) (fun _ => 0) 0 w.heap.size 52 cs)
 have HW1 := Lib.hid (show w.alloc (.cells #[.slice a0 n0 c0, .slice a1 n1 c1, .slice a2 n2 c2] 52) = w.alloc (.cells cs.toArray 52) by rw [← hcs])
 obtain ⟨w1, hw1⟩ : ∃ w1, w.alloc (.cells cs.toArray 52) = w1 := ⟨_, rfl⟩
 rw [hw1] at ba BX HW1
 have TE := Lib.hid (terr_first rno (j := ukt19) (y := 0) (r := r) (p := 0) (by unfold ROk; exact ⟨by decide, by decide, by decide, br.1, br.2, by decide, by decide⟩))
 have NW := Lib.hid (nowt_new w w1 (fun _ => 0) (Fin0.zero w.heap.size w1) ba 144 143 1 rno)
 clear s1 s2 h1 h2 ba hw1 hcs hr
 go_enter Tryz.func6, Tryz.ntmps6
 go_wp2_with (go_at_call 7; (with_reducible refine (within_at _ _ _ _ (by omega) (by omega) ER).mono ?_); rintro e w' ⟨rfl, rfl⟩)
 rw [HW1.out]
 refine (enew_any _).mono ?_
 rintro e w2 ⟨rfl, rfl⟩
 obtain ⟨nw, st⟩ := NW.out
 have N2 := Lib.hid nw
 have X2 := Lib.hid (BX.out.step (st 1) (by decide))
 have CA := Lib.hid (nadd_ok nw (by decide) ⟨ukt19, 0, r, 0⟩ TE.out)
 clear nw st NW BX TE HW1
 go_wp2_with fail
 refine (CA.out).mono ?_
 rintro e w3 ⟨rfl, O3, n3, st⟩
 have X3 := Lib.hid (X2.out.step st (by decide))
 have N3 := Lib.hid n3
 have NB := Lib.hid (nowb_new w w3 O3 n3.fin n3.low 58 2)
 clear n3 st CA N2 X2
 go_upto_region 6 with fail
 obtain ⟨nb, st⟩ := NB.out
 have N4 := Lib.hid (N3.out.step (st 2) (by decide) (by decide))
 have X4 := Lib.hid (X3.out.step (st 2) (by decide))
 have RB4 := Lib.hid nb
 obtain ⟨w4, hw4⟩ : ∃ w4, w3.alloc (.cells #[.slice none 0 0] 58) = w4 := ⟨_, rfl⟩
 obtain ⟨rg, hrg⟩ : ∃ rg, w3.heap.size = rg := ⟨_, rfl⟩
 obtain ⟨O4, hO4⟩ : ∃ O4, mark O3 2 rg = O4 := ⟨_, rfl⟩
 rw [hw4, hrg, hO4] at N4 X4 RB4
 rw [hw4, hrg]
 clear nb st NB N3 X3 hw4 hrg hO4
 have NL := Lib.hid (nowl_new w4 w4 (fun _ => 0) (Fin0.zero _ _) (Below.refl _ _) 62 2)
 go_wp2_with fail
 obtain ⟨nl0, st0⟩ := NL.out
 have k4 := (Below.refl w4.heap.size w4).alloc (Nat.le_refl _) (.cells #[.slice none 0 0] 62)
 have N4b := Lib.hid (N4.out.below k4)
 have X4b := Lib.hid (X4.out.below k4)
 have RB4b := Lib.hid (RB4.out.below k4)
 have CV := Lib.hid (pof nl0)
 clear nl0 st0 NL k4 N4 X4 RB4
 refine (CV.out).mono ?_
 rintro e w5 ⟨lb, O5, rfl, nv, hb5⟩
 obtain ⟨O6, n6, p6, v6, jo⟩ := join_more (t4 := 3) N4b.out RB4b.out hb5 nv (by decide) (by decide)
 have X6 := Lib.hid ((X4b.out.below hb5).marks (O2 := O6) (t2 := 0) (by rw [jo _ X4b.out.lt]; exact X4b.out.tag))
 have N6 := Lib.hid n6
 have P6 := Lib.hid p6
 have V6 := Lib.hid v6
 clear n6 p6 v6 jo nv hb5 N4b RB4b X4b CV
 go_wp2_with fail
 refine (pnone_x _).mono ?_
 rintro e w5 ⟨rfl, hb5⟩
 (replace N6 := Lib.hid (N6.out.below hb5); replace P6 := Lib.hid (P6.out.below hb5); replace V6 := Lib.hid (V6.out.below hb5); replace X6 := Lib.hid (X6.out.below hb5))
 clear hb5
 go_upto_region 11 with fail
 have st := Step.made (t := 5) V6.out.fin V6.out.low.size (.cells (balL MBal.none .nil .nil).toArray 35)
 have LS6 := Lib.hid (⟨N6.out.step (st 5) (by decide) (by decide), P6.out.step (st 5) (by decide) (by decide), V6.out.step (st 5) (by decide) (by decide), Box.new w5 O6 5 _ _, BalO.nil _ _ _ rfl, X6.out.step (st 5) (by decide)⟩ :
   LS w (w5.alloc (.cells (balL MBal.none .nil .nil).toArray 35)) (mark O6 5 w5.heap.size) _ 1 (R1of r) rg (fun _ _ => 0) lb (fun _ _ => 0) w5.heap.size MBal.none .nil .nil w.heap.size cs)
 have HW6 := Lib.hid (show w5.alloc (.cells #[.int .i64 (-1), .slice none 0 0, .slice none 0 0, .int .i64 0, .int .i64 0, .int .i64 0, .int .i64 0, .int .i64 0] 35) = w5.alloc (.cells (balL MBal.none .nil .nil).toArray 35) from rfl)
 rw [HW6.out]
 obtain ⟨w6, hw6⟩ : ∃ w6, w5.alloc (.cells (balL MBal.none .nil .nil).toArray 35) = w6 := ⟨_, rfl⟩
 rw [hw6] at LS6
 rw [hw6]
 obtain ⟨bo, hbo⟩ : ∃ bo, w5.heap.size = bo := ⟨_, rfl⟩
 rw [hbo] at LS6
 rw [hbo]
 obtain ⟨O7, hO7⟩ : ∃ O7, mark O6 5 bo = O7 := ⟨_, rfl⟩
 rw [hO7] at LS6
 obtain ⟨tb, htb⟩ : ∃ tb, w1.heap.size = tb := ⟨_, rfl⟩
 rw [htb] at LS6
 rw [htb]
 obtain ⟨ws, hws⟩ : ∃ ws, w.heap.size = ws := ⟨_, rfl⟩
 have LS7 := Lib.hid (show LS w w6 O7 tb 1 (R1of r) rg (fun _ _ => 0) lb (fun _ _ => 0) bo MBal.none .nil .nil ws cs by rw [← hws]; exact LS6.out)
 have HWS := Lib.hid hws
 clear st LS6 HW6 hw6 hbo hO7 htb N6 P6 V6 X6
 rw [HWS.out]
 clear hws
 go_upto_block 0 with fail
 go_cut [7, 8, 10] (fun s7 s8 _ wx => ∃ (O : Nat → Nat) (S SL : Int → Int → Int) (lb : Nat) (op : MBal) (sb sr : Sl) (nl : Nat) (gl : Nat → Bk) (V judge : Int) (k : Nat), s7 = ptr lb ∧ s8 = .int .i64 judge ∧ LS w wx O tb 1 (R1of r) rg S lb SL bo op sb sr ws cs ∧ Stay r judge op S SL nl gl V k ∧ k ≤ 3)
 case first => as_aux_lemma =>
   go_wp2
   go_loopg [7, 8, 10] 3 (fun gh s7 s8 s10 wr => ∃ (k : Nat) (O : Nat → Nat) (S SL : Int → Int → Int) (lb : Nat) (op : MBal) (sb sr : Sl) (nl : Nat) (gl : Nat → Bk) (V judge : Int), k ≤ 3 ∧ gh = 3 - k ∧ s7 = ptr lb ∧ s8 = .int .i64 judge ∧ s10 = .int .i64 k ∧ LS w wr O tb 1 (R1of r) rg S lb SL bo op sb sr ws cs ∧ Stay r judge op S SL nl gl V k)
   case atStart => exact ⟨0, _, _, _, lb, _, _, _, 0, fun _ => ⟨0, 0, 0⟩, 0, 0, Nat.zero_le _, rfl, rfl, rfl, rfl, LS7.out, Stay.start r _⟩
   case round =>
     obtain ⟨k, O, S, SL, lb, op, sb, sr, nl, gl, V, judge, hk, hgk, rfl, rfl, rfl, hls, hst⟩ := hrel
     have HGK := Lib.hid hgk
     have HLS := Lib.hid hls
     have HST := Lib.hid hst
     have st1 := hls.st.cell S1.out
     clear hgk hls hst LS7
     obtain ⟨wo, rfl⟩ : ∃ wo, wo = wr := ⟨_, rfl⟩
     by_cases l1 : k < n1
     · have l1' : (k : Int) < (n1 : Int) := by omega
       by_cases l3 : k < 3
       · have l3' : (k : Int) < 3 := by omega
         have l0' : (0 : Int) ≤ (k : Int) := by omega
         obtain ⟨b, off, A', m, c, zs, rfl, hb, hc, hrow⟩ := (R1.out.below HLS.out.low).some l1
         have CI := Lib.hid (pin_some k A' m c zs wo hrow)
         clear hrow
         go_wp2_with fail
         refine (CI.out).mono ?_
         rintro e w8 ⟨i, rfl, hb8⟩
         have L8 := Lib.hid (HLS.out.below hb8)
         clear hb8 CI HLS
         go_upto_region 15 with ((with_reducible show wpList _ _ _ _ _ _); (refine wpList_store_row rfl 66 (.tmp 11) (.tmp 58) rfl w8.heap.size (inL i).toArray rfl rfl _ _ (heap_alloc_last _ _) (in_size _) rfl (in_one _) ?_; rw [World.setRow_alloc_new]))
         obtain ⟨wi, hwi⟩ : ∃ wi, w8.alloc (.cells (inL i).toArray 66) = wi := ⟨_, rfl⟩
         have h8 := heap_alloc_last w8 (.cells (inL i).toArray 66)
         have b8 := (Below.refl w8.heap.size w8).alloc (Nat.le_refl _) (.cells (inL i).toArray 66)
         rw [hwi] at h8 b8
         rw [hwi]
         clear hwi
         have k0 : wi.cell? ⟨w8.heap.size, 0, none⟩ = some (.string i.j) := cell_of_row _ _ 0 _ _ _ h8
         have f0 : wi.frozen? ⟨w8.heap.size, 0, none⟩ = false := frozen_of_row _ _ 0 _ _ h8
         have k1 : wi.cell? ⟨w8.heap.size, 1, none⟩ = some (.int .i64 i.p) := cell_of_row _ _ 1 _ _ _ h8
         have f1 : wi.frozen? ⟨w8.heap.size, 1, none⟩ = false := frozen_of_row _ _ 1 _ _ h8
         have k6 : wi.cell? ⟨w8.heap.size, 6, none⟩ = some (.int .i64 i.lf) := cell_of_row _ _ 6 _ _ _ h8
         have f6 : wi.frozen? ⟨w8.heap.size, 6, none⟩ = false := frozen_of_row _ _ 6 _ _ h8
         have SE := Lib.hid (three_set h8 ukt19 k 50)
         have k9 := below_setRow b8 (Nat.le_refl _) (inL ⟨ukt19, k, i.bk, i.pm, i.jd, i.cp, 50, i.tu⟩).toArray
         have h9 := setRow_heap wi w8.heap.size _ (inL ⟨ukt19, k, i.bk, i.pm, i.jd, i.cp, 50, i.tu⟩).toArray _ _ h8
         have K9 := Lib.hid k9
         have H9 := Lib.hid h9
         clear h8 b8 k9 h9
         go_upto_region 17 with fail
         have e1 : ((wi.setCell ⟨w8.heap.size, 0, none⟩ (.string ⟨#[117, 107]⟩)).setCell ⟨w8.heap.size, 1, none⟩ (.int .i64 k)).setCell ⟨w8.heap.size, 6, none⟩ (.int .i64 50) = wi.setRow w8.heap.size (inL ⟨ukt19, k, i.bk, i.pm, i.jd, i.cp, 50, i.tu⟩).toArray := SE.out
         rw [e1]
         obtain ⟨wj, hwj⟩ : ∃ wj, wi.setRow w8.heap.size (inL ⟨ukt19, k, i.bk, i.pm, i.jd, i.cp, 50, i.tu⟩).toArray = wj := ⟨_, rfl⟩
         have K9' := K9.out
         have H9' := H9.out
         rw [hwj] at K9' H9'
         rw [hwj]
         have l9 := L8.out.below K9'
         have st2 := l9.st.cell S2.out
         have L9 := Lib.hid l9
         have I9 := Lib.hid (⟨H9', L8.out.fin.2 _ (Nat.le_refl _)⟩ : Box wj O 0 w8.heap.size 66 (inL ⟨ukt19, k, i.bk, i.pm, i.jd, i.cp, 50, i.tu⟩))
         obtain ⟨bi, hbi⟩ : ∃ bi, w8.heap.size = bi := ⟨_, rfl⟩
         obtain ⟨i', hi'⟩ : ∃ i' : MIn, (⟨ukt19, k, i.bk, i.pm, i.jd, i.cp, 50, i.tu⟩ : MIn) = i' := ⟨_, rfl⟩
         have IP := Lib.hid (show i'.j = ukt19 ∧ i'.p = k ∧ i'.lf = 50 by rw [← hi']; exact ⟨rfl, rfl, rfl⟩)
         rw [hbi, hi'] at I9
         rw [hbi]
         clear e1 hwj K9' H9' hbi hi' L8 K9 H9 SE k0 f0 k1 f1 k6 f6 l9
         obtain ⟨i, hii⟩ : ∃ i, i = i' := ⟨_, rfl⟩
         subst hii
         go_cut [76] (fun s76 wx => ∃ q : Bool, s76 = .bool q ∧ (q = true → k < n2 ∧ ∃ A3 m3 c3 zs3 b3 o3, a2 = some ⟨b3, o3, none⟩ ∧ wj.cell? ⟨b3, o3 + k, none⟩ = some (.slice A3 m3 c3) ∧ 0 < m3 ∧ IsRow .i64 wj A3 m3 c3 zs3) ∧ wj = wx)
         case first => as_aux_lemma =>
           by_cases hk2 : k < n2
           · obtain ⟨b3, o3, A3, m3, c3, zs3, ea, hb3, hc3, hrow3⟩ := (R2.out.below L9.out.low).some hk2
             subst ea
             have hk2' : (k : Int) < (n2 : Int) := by omega
             by_cases hm3 : 0 < m3
             · have hm3' : (0 : Int) < (m3 : Int) := by omega
               go_wp2
               go_meet
               exact ⟨true, rfl, fun _ => ⟨hk2, A3, m3, c3, zs3, b3, o3, rfl, hc3, hm3, hrow3⟩, rfl⟩
             · have hm3' : ¬ (0 : Int) < (m3 : Int) := by omega
               have hm4 : decide (0 < m3) = false := decide_eq_false hm3
               clear hm3
               go_wp2
               go_meet
               exact ⟨false, rfl, (fun h => by cases h), rfl⟩
           · have hk2' : ¬ (k : Int) < (n2 : Int) := by omega
             go_wp2
             go_meet
             exact ⟨false, rfl, (fun h => by cases h), rfl⟩
         case rest => as_aux_lemma =>
           obtain ⟨q, rfl, hq, rfl⟩ := hcut
           have HQ := Lib.hid hq
           clear hq
           go_upto_if 76 with fail
           go_cut [12] (fun s12 wx => (∃ z, s12 = .int .i64 z) ∧ wj = wx)
           case first => as_aux_lemma =>
             cases q with
             | false =>
               go_wp2
               go_meet
               exact ⟨⟨_, rfl⟩, rfl⟩
             | true =>
               obtain ⟨hk2, A3, m3, c3, zs3, b3, o3, rfl, hc3, hm3, hrow3⟩ := HQ.out rfl
               have hk2' : (k : Int) < (n2 : Int) := by omega
               have hm3' : (0 : Int) < (m3 : Int) := by omega
               obtain ⟨b4, o4, rfl, hb4, hcc⟩ := hrow3.at.1.some hm3
               have cz := hcc 0 hm3
               rw [Nat.add_zero] at cz
               clear hcc hrow3
               go_wp2
               go_meet
               exact ⟨⟨_, rfl⟩, rfl⟩
           case rest => as_aux_lemma =>
             obtain ⟨⟨z, rfl⟩, rfl⟩ := hcut
             obtain ⟨x, hx⟩ : ∃ x, z % 2001 = x := ⟨_, rfl⟩
             have EX := Lib.hid hx
             have bx : 0 ≤ x ∧ x ≤ 2000 := by omega
             obtain ⟨nn, gg, bb, _, _⟩ := one_is V
             have hv := HST.out.v
             have vb := HST.out.vb
             have nr := L9.out.r
             rw [hv] at nr
             have CM := Lib.hid (nbmove nr (by decide) bb 1 3 (x - 1000) 0 (one_move bb (by omega) (by omega)))
             rw [mv_one] at CM
             clear hx bb nr
             go_wp2_with (go_at_call 7; (with_reducible refine (within_at _ _ _ _ (by omega) (by omega) EX).mono ?_); rintro e w' ⟨rfl, rfl⟩)
             refine (CM.out).mono ?_
             rintro e w10 ⟨rfl, O', n10, s10⟩
             obtain ⟨S', hS'⟩ : ∃ S', upS (fun _ _ => 0) 1 3 (V + (x - 1000)) = S' := ⟨_, rfl⟩
             rw [hS'] at n10
             have HS' := Lib.hid hS'
             have L10 := Lib.hid (L9.out.reg s10 n10)
             have I10 := Lib.hid (I9.out.step s10 (by decide))
             have CB := Lib.hid (bof2 L10.out.r)
             clear n10 s10 CM L9 I9 hS'
             go_wp2_with fail
             refine (CB.out).mono ?_
             rintro e wb ⟨rb, OP, rfl, np, hb⟩
             have HL := Lib.hid (L10.out.below hb)
             have HP := Lib.hid np
             have BI := Lib.hid (I10.out.below hb)
             clear np hb CB L10 I10
             obtain ⟨m', g, iv⟩ := HL.out.r.told
             have OK := Lib.hid HST.out.ok
             have VL := Lib.hid HST.out.vl
             obtain ⟨qq, ff, hfw⟩ := fiw_any OK.out.iv.is iv.is
             have hff := hfw.fis OK.out.iv.mon iv.mon
             have IV := Lib.hid iv
             have HC := Lib.hid (mk_any (n0 := op.n) HL.out.t.inv i op OK.out IV.out VL.out hff rfl)
             clear iv hff hfw hv
             go_upto_region 23 with fail
             go_cut [14, 15, 16] (fun sp sl se wx => Closed w wb tb 1 (R1of r) rg i op S S' m' g SL nl gl bo sb sr ws cs sp sl se wx)
             case first => as_aux_lemma =>
               rcases HC.out with ⟨e, he0, hno⟩ | ⟨v, SL', hv, ft⟩
               · have HNO := Lib.hid hno
                 clear hno HC
                 as_aux_lemma =>
                   refine wp_region_noPanic ?_
                   refine AnyTill.begin (C := fun w' => w'.rangeAt bi 0 (inL i) ∧ w'.rangeAt bo 0 (balL op sb sr)) (q := 99) (by kernel_rfl) ?_
                   obtain ⟨wd, hwd⟩ : ∃ wd, wb.drew = wd := ⟨_, rfl⟩
                   have kd : Below wb.heap.size wb wd := by rw [← hwd]; exact below_drew wb
                   rw [hwd]
                   have hl0 := HL.out.below kd
                   have scd : wd.rangeAt bi 0 (inL i) ∧ wd.rangeAt bo 0 (balL op sb sr) := ⟨(BI.out.below kd).range, hl0.bx.range⟩
                   refine AnyTill.tk 0 scd ?_
                   refine AnyTill.tv (i := 1) (v := .agg (inL i).toArray) (hy := (yieldsIf_load_mid (by rfl) 66 (.tmp 11) rfl bi 0 rfl (inL i) _ (fun _ h => h.1) Tryz.underlying66 rfl (in_size _))) (hC := scd) (h := ?_)
                   refine AnyTill.tv (i := 3) (v := .agg (balL op sb sr).toArray) (hy := (yieldsIf_load_mid (by rfl) 35 (.tmp 9) rfl bo 0 rfl (balL op sb sr) _ (fun _ h => h.2) Tryz.underlying35 rfl (bal_size _ _ _))) (hC := scd) (h := ?_)
                   refine AnyTill.tk 4 scd ?_
                   refine AnyTill.tk 5 scd ?_
                   refine' AnyTill.two (i := 2) (k := 11) (o := _) (o' := _) (by kernel_rfl) ?m0a ?m0b (fun K' hK => ?m0x) (fun K' hK => ?m0y)
                   case m0a => (simp only [List.getElem?_toArray, List.getElem?_cons_succ, List.getElem?_cons_zero]; rfl)
                   case m0b => (simp only [List.getElem?_toArray, List.getElem?_cons_succ, List.getElem?_cons_zero]; rfl)
                   case m0x =>
                     go_simp
                     (go_at_call 21; (refine (linp _ _).mono ?_); rintro e wm0x ⟨rfl, bm0x⟩)
                     have lm0x := hl0.below bm0x
                     have km0x := kd.trans (bm0x.mono kd.size)
                     have cm0x : wm0x.rangeAt bi 0 (inL i) ∧ wm0x.rangeAt bo 0 (balL op sb sr) := ⟨(BI.out.below km0x).range, lm0x.bx.range⟩
                     refine hK.out _ _ (.inr cm0x) ?_
                     clear hK K'
                     try simp only [pt]
                     refine' AnyTill.two (i := 6) (k := 11) (o := _) (o' := _) (by kernel_rfl) ?m1a ?m1b (fun K' hK => ?m1x) (fun K' hK => ?m1y)
                     case m1a => (simp only [List.getElem?_toArray, List.getElem?_cons_succ, List.getElem?_cons_zero]; rfl)
                     case m1b => (simp only [List.getElem?_toArray, List.getElem?_cons_succ, List.getElem?_cons_zero]; rfl)
                     case m1x =>
                       go_simp
                       have cm := pmk_no lm0x.t lm0x.l (HP.out.below km0x) IV.out VL.out OK.out lm0x.ba.at' HNO.out
                       (go_at_call 10; (refine (cm).mono ?_); rintro e wm1x ⟨rfl, bm1x⟩)
                       have lm1x := lm0x.below bm1x
                       have km1x := km0x.trans (bm1x.mono km0x.size)
                       have cm1x : wm1x.rangeAt bi 0 (inL i) ∧ wm1x.rangeAt bo 0 (balL op sb sr) := ⟨(BI.out.below km1x).range, lm1x.bx.range⟩
                       refine hK.out _ _ (.inr cm1x) ?_
                       clear hK K'
                       try simp only [pt]
                       refine AnyTill.tk 7 cm1x ?_
                       refine AnyTill.tk 8 cm1x ?_
                       refine AnyTill.tk 9 cm1x ?_
                       refine AnyTill.tk 10 cm1x ?_
                       refine AnyTill.on 11 fun K' hK => ?_
                       go_simp
                       have bm2 := (Below.refl wm1x.heap.size wm1x).alloc (Nat.le_refl _) (.cells zl41.toArray 42)
                       have sm2 := Step.made (t := 6) lm1x.fin lm1x.low.size (.cells zl41.toArray 42)
                       have lm2 := lm1x.other (sm2 6)
                       have xm2 : Box (wm1x.alloc (.cells zl41.toArray 42)) (mark O' 6 wm1x.heap.size) 6 wm1x.heap.size 42 zl41 := ⟨heap_alloc_last wm1x _, mark_at _ _ _⟩
                       obtain ⟨wm2, hwm2⟩ : ∃ v, wm1x.alloc (.cells zl41.toArray 42) = v := ⟨_, rfl⟩
                       rw [hwm2] at bm2 lm2 xm2
                       rw [hwm2]
                       clear sm2 hwm2
                       have bl : wb.heap.size ≤ wm1x.heap.size := km1x.size
                       have km2 := km1x.trans (bm2.mono km1x.size)
                       have cm2 : wm2.rangeAt bi 0 (inL i) ∧ wm2.rangeAt bo 0 (balL op sb sr) := ⟨(BI.out.below km2).range, lm2.bx.range⟩
                       refine hK.out _ _ (.inr cm2) ?_
                       clear hK K'
                       try simp only [pt]
                       refine AnyTill.on 12 fun K' hK => ?_
                       rw [if_pos (by rfl)]
                       refine wp_store_row 42 (.tmp 14) (.tmp 101) rfl wm1x.heap.size pv0L.toArray rfl rfl _ _ xm2.at' pv0_size rfl (one_all pv0L_one) ?_
                       obtain ⟨bx, sx⟩ := xm2.set lm2.fin pv0L
                       have lx := lm2.other sx
                       have kx := below_setRow km2 (g := wm1x.heap.size) bl pv0L.toArray
                       have cx : (wm2.setRow wm1x.heap.size pv0L.toArray).rangeAt bi 0 (inL i) ∧ (wm2.setRow wm1x.heap.size pv0L.toArray).rangeAt bo 0 (balL op sb sr) := ⟨(BI.out.below kx).range, lx.bx.range⟩
                       refine hK.out _ _ (.inr cx) ?_
                       clear hK K'
                       try simp only [pt]
                       refine AnyTill.tk 13 cx ?_
                       refine AnyTill.tk 14 cx ?_
                       refine AnyTill.done (by kernel_rfl) ?_ _
                       refine NoPanic.normal ?_
                       go_wp2
                       go_meet
                       exact ⟨_, rfl, kx, .inl ⟨_, he0, rfl, rfl⟩⟩
                     case m1y =>
                       go_simp
                       have bm1y := (Below.refl wm0x.heap.size wm0x).alloc (Nat.le_refl _) (.cells zl41.toArray 42)
                       have sm1y := Step.made (t := 6) lm0x.fin lm0x.low.size (.cells zl41.toArray 42)
                       have lm1y := lm0x.other (sm1y 6)
                       have xm1y : Box (wm0x.alloc (.cells zl41.toArray 42)) (mark O' 6 wm0x.heap.size) 6 wm0x.heap.size 42 zl41 := ⟨heap_alloc_last wm0x _, mark_at _ _ _⟩
                       obtain ⟨wm1y, hwm1y⟩ : ∃ v, wm0x.alloc (.cells zl41.toArray 42) = v := ⟨_, rfl⟩
                       rw [hwm1y] at bm1y lm1y xm1y
                       rw [hwm1y]
                       clear sm1y hwm1y
                       have bl : wb.heap.size ≤ wm0x.heap.size := km0x.size
                       have km1y := km0x.trans (bm1y.mono km0x.size)
                       have cm1y : wm1y.rangeAt bi 0 (inL i) ∧ wm1y.rangeAt bo 0 (balL op sb sr) := ⟨(BI.out.below km1y).range, lm1y.bx.range⟩
                       refine hK.out _ _ (.inr cm1y) ?_
                       clear hK K'
                       try simp only [pt]
                       refine AnyTill.on 6 fun K' hK => ?_
                       go_simp
                       have cm := pmk_no lm1y.t lm1y.l (HP.out.below km1y) IV.out VL.out OK.out lm1y.ba.at' HNO.out
                       (go_at_call 10; (refine (cm).mono ?_); rintro e wm5 ⟨rfl, bm5⟩)
                       have lm5 := lm1y.below bm5
                       have xm5 := xm1y.below bm5
                       have km5 := km1y.trans (bm5.mono km1y.size)
                       have cm5 : wm5.rangeAt bi 0 (inL i) ∧ wm5.rangeAt bo 0 (balL op sb sr) := ⟨(BI.out.below km5).range, lm5.bx.range⟩
                       refine hK.out _ _ (.inr cm5) ?_
                       clear hK K'
                       try simp only [pt]
                       refine AnyTill.tk 7 cm5 ?_
                       refine AnyTill.tk 8 cm5 ?_
                       refine AnyTill.tk 9 cm5 ?_
                       refine AnyTill.tk 10 cm5 ?_
                       refine AnyTill.on 12 fun K' hK => ?_
                       rw [if_pos (by rfl)]
                       refine wp_store_row 42 (.tmp 14) (.tmp 101) rfl wm0x.heap.size pv0L.toArray rfl rfl _ _ xm5.at' pv0_size rfl (one_all pv0L_one) ?_
                       obtain ⟨bx, sx⟩ := xm5.set lm5.fin pv0L
                       have lx := lm5.other sx
                       have kx := below_setRow km5 (g := wm0x.heap.size) bl pv0L.toArray
                       have cx : (wm5.setRow wm0x.heap.size pv0L.toArray).rangeAt bi 0 (inL i) ∧ (wm5.setRow wm0x.heap.size pv0L.toArray).rangeAt bo 0 (balL op sb sr) := ⟨(BI.out.below kx).range, lx.bx.range⟩
                       refine hK.out _ _ (.inr cx) ?_
                       clear hK K'
                       try simp only [pt]
                       refine AnyTill.tk 13 cx ?_
                       refine AnyTill.tk 14 cx ?_
                       refine AnyTill.done (by kernel_rfl) ?_ _
                       refine NoPanic.normal ?_
                       go_wp2
                       go_meet
                       exact ⟨_, rfl, kx, .inl ⟨_, he0, rfl, rfl⟩⟩
                   case m0y =>
                     go_simp
                     have bm0y := (Below.refl wd.heap.size wd).alloc (Nat.le_refl _) (.cells zl41.toArray 42)
                     have sm0y := Step.made (t := 6) hl0.fin hl0.low.size (.cells zl41.toArray 42)
                     have lm0y := hl0.other (sm0y 6)
                     have xm0y : Box (wd.alloc (.cells zl41.toArray 42)) (mark O' 6 wd.heap.size) 6 wd.heap.size 42 zl41 := ⟨heap_alloc_last wd _, mark_at _ _ _⟩
                     obtain ⟨wm0y, hwm0y⟩ : ∃ v, wd.alloc (.cells zl41.toArray 42) = v := ⟨_, rfl⟩
                     rw [hwm0y] at bm0y lm0y xm0y
                     rw [hwm0y]
                     clear sm0y hwm0y
                     have bl : wb.heap.size ≤ wd.heap.size := kd.size
                     have km0y := kd.trans (bm0y.mono kd.size)
                     have cm0y : wm0y.rangeAt bi 0 (inL i) ∧ wm0y.rangeAt bo 0 (balL op sb sr) := ⟨(BI.out.below km0y).range, lm0y.bx.range⟩
                     refine hK.out _ _ (.inr cm0y) ?_
                     clear hK K'
                     try simp only [pt]
                     refine AnyTill.on 2 fun K' hK => ?_
                     go_simp
                     (go_at_call 21; (refine (linp _ _).mono ?_); rintro e wm8 ⟨rfl, bm8⟩)
                     have lm8 := lm0y.below bm8
                     have xm8 := xm0y.below bm8
                     have km8 := km0y.trans (bm8.mono km0y.size)
                     have cm8 : wm8.rangeAt bi 0 (inL i) ∧ wm8.rangeAt bo 0 (balL op sb sr) := ⟨(BI.out.below km8).range, lm8.bx.range⟩
                     refine hK.out _ _ (.inr cm8) ?_
                     clear hK K'
                     try simp only [pt]
                     refine AnyTill.on 6 fun K' hK => ?_
                     go_simp
                     have cm := pmk_no lm8.t lm8.l (HP.out.below km8) IV.out VL.out OK.out lm8.ba.at' HNO.out
                     (go_at_call 10; (refine (cm).mono ?_); rintro e wm9 ⟨rfl, bm9⟩)
                     have lm9 := lm8.below bm9
                     have xm9 := xm8.below bm9
                     have km9 := km8.trans (bm9.mono km8.size)
                     have cm9 : wm9.rangeAt bi 0 (inL i) ∧ wm9.rangeAt bo 0 (balL op sb sr) := ⟨(BI.out.below km9).range, lm9.bx.range⟩
                     refine hK.out _ _ (.inr cm9) ?_
                     clear hK K'
                     try simp only [pt]
                     refine AnyTill.tk 7 cm9 ?_
                     refine AnyTill.tk 8 cm9 ?_
                     refine AnyTill.tk 9 cm9 ?_
                     refine AnyTill.tk 10 cm9 ?_
                     refine AnyTill.on 12 fun K' hK => ?_
                     rw [if_pos (by rfl)]
                     refine wp_store_row 42 (.tmp 14) (.tmp 101) rfl wd.heap.size pv0L.toArray rfl rfl _ _ xm9.at' pv0_size rfl (one_all pv0L_one) ?_
                     obtain ⟨bx, sx⟩ := xm9.set lm9.fin pv0L
                     have lx := lm9.other sx
                     have kx := below_setRow km9 (g := wd.heap.size) bl pv0L.toArray
                     have cx : (wm9.setRow wd.heap.size pv0L.toArray).rangeAt bi 0 (inL i) ∧ (wm9.setRow wd.heap.size pv0L.toArray).rangeAt bo 0 (balL op sb sr) := ⟨(BI.out.below kx).range, lx.bx.range⟩
                     refine hK.out _ _ (.inr cx) ?_
                     clear hK K'
                     try simp only [pt]
                     refine AnyTill.tk 13 cx ?_
                     refine AnyTill.tk 14 cx ?_
                     refine AnyTill.done (by kernel_rfl) ?_ _
                     refine NoPanic.normal ?_
                     go_wp2
                     go_meet
                     exact ⟨_, rfl, kx, .inl ⟨_, he0, rfl, rfl⟩⟩
               · have HV := Lib.hid hv
                 have FT := Lib.hid ft
                 clear hv ft HC
                 as_aux_lemma =>
                   refine wp_region_noPanic ?_
                   refine AnyTill.begin (C := fun w' => w'.rangeAt bi 0 (inL i) ∧ w'.rangeAt bo 0 (balL op sb sr)) (q := 99) (by kernel_rfl) ?_
                   obtain ⟨wd, hwd⟩ : ∃ wd, wb.drew = wd := ⟨_, rfl⟩
                   have kd : Below wb.heap.size wb wd := by rw [← hwd]; exact below_drew wb
                   rw [hwd]
                   have hl0 := HL.out.below kd
                   have scd : wd.rangeAt bi 0 (inL i) ∧ wd.rangeAt bo 0 (balL op sb sr) := ⟨(BI.out.below kd).range, hl0.bx.range⟩
                   refine AnyTill.tk 0 scd ?_
                   refine AnyTill.tv (i := 1) (v := .agg (inL i).toArray) (hy := (yieldsIf_load_mid (by rfl) 66 (.tmp 11) rfl bi 0 rfl (inL i) _ (fun _ h => h.1) Tryz.underlying66 rfl (in_size _))) (hC := scd) (h := ?_)
                   refine AnyTill.tv (i := 3) (v := .agg (balL op sb sr).toArray) (hy := (yieldsIf_load_mid (by rfl) 35 (.tmp 9) rfl bo 0 rfl (balL op sb sr) _ (fun _ h => h.2) Tryz.underlying35 rfl (bal_size _ _ _))) (hC := scd) (h := ?_)
                   refine AnyTill.tk 4 scd ?_
                   refine AnyTill.tk 5 scd ?_
                   refine' AnyTill.two (i := 2) (k := 11) (o := _) (o' := _) (by kernel_rfl) ?m12a ?m12b (fun K' hK => ?m12x) (fun K' hK => ?m12y)
                   case m12a => (simp only [List.getElem?_toArray, List.getElem?_cons_succ, List.getElem?_cons_zero]; rfl)
                   case m12b => (simp only [List.getElem?_toArray, List.getElem?_cons_succ, List.getElem?_cons_zero]; rfl)
                   case m12x =>
                     go_simp
                     (go_at_call 21; (refine (linp _ _).mono ?_); rintro e wm12x ⟨rfl, bm12x⟩)
                     have lm12x := hl0.below bm12x
                     have km12x := kd.trans (bm12x.mono kd.size)
                     have cm12x : wm12x.rangeAt bi 0 (inL i) ∧ wm12x.rangeAt bo 0 (balL op sb sr) := ⟨(BI.out.below km12x).range, lm12x.bx.range⟩
                     refine hK.out _ _ (.inr cm12x) ?_
                     clear hK K'
                     try simp only [pt]
                     refine' AnyTill.two (i := 6) (k := 11) (o := _) (o' := _) (by kernel_rfl) ?m13a ?m13b (fun K' hK => ?m13x) (fun K' hK => ?m13y)
                     case m13a => (simp only [List.getElem?_toArray, List.getElem?_cons_succ, List.getElem?_cons_zero]; rfl)
                     case m13b => (simp only [List.getElem?_toArray, List.getElem?_cons_succ, List.getElem?_cons_zero]; rfl)
                     case m13x =>
                       go_simp
                       have cm := pmk_ok lm12x.t lm12x.l (HP.out.below km12x) IV.out VL.out OK.out lm12x.ba.at' HV.out FT.out
                       (go_at_call 10; (refine (cm).mono ?_); rintro e wm13x ⟨lb', O2, ss, rfl, nv, pa, bm13x⟩)
                       obtain ⟨O4, lm13x, jb, jo, jf⟩ := lm12x.join bm13x nv
                       have bc := jb _ _ _ pa.cl
                       have aw := pa.ws
                       have fw := jf _ pa.ws2
                       have km13x := km12x.trans (bm13x.mono km12x.size)
                       have cm13x : wm13x.rangeAt bi 0 (inL i) ∧ wm13x.rangeAt bo 0 (balL op sb sr) := ⟨(BI.out.below km13x).range, lm13x.bx.range⟩
                       refine hK.out _ _ (.inr cm13x) ?_
                       clear hK K'
                       try simp only [pt]
                       refine AnyTill.tk 7 cm13x ?_
                       refine AnyTill.tk 8 cm13x ?_
                       refine AnyTill.tk 9 cm13x ?_
                       refine AnyTill.tk 10 cm13x ?_
                       refine AnyTill.on 11 fun K' hK => ?_
                       go_simp
                       have bm14 := (Below.refl wm13x.heap.size wm13x).alloc (Nat.le_refl _) (.cells zl41.toArray 42)
                       have sm14 := Step.made (t := 6) lm13x.fin lm13x.low.size (.cells zl41.toArray 42)
                       have lm14 := lm13x.other (sm14 6)
                       have xm14 : Box (wm13x.alloc (.cells zl41.toArray 42)) (mark O4 6 wm13x.heap.size) 6 wm13x.heap.size 42 zl41 := ⟨heap_alloc_last wm13x _, mark_at _ _ _⟩
                       have bcm14 := bc.step (sm14 6) (by decide)
                       have awm14 := aw.below bm14
                       have fwm14 := fw.step (sm14 6)
                       obtain ⟨wm14, hwm14⟩ : ∃ v, wm13x.alloc (.cells zl41.toArray 42) = v := ⟨_, rfl⟩
                       rw [hwm14] at bm14 lm14 xm14 bcm14 awm14 fwm14
                       rw [hwm14]
                       clear sm14 hwm14
                       have bl : wb.heap.size ≤ wm13x.heap.size := km13x.size
                       have km14 := km13x.trans (bm14.mono km13x.size)
                       have cm14 : wm14.rangeAt bi 0 (inL i) ∧ wm14.rangeAt bo 0 (balL op sb sr) := ⟨(BI.out.below km14).range, lm14.bx.range⟩
                       refine hK.out _ _ (.inr cm14) ?_
                       clear hK K'
                       try simp only [pt]
                       refine AnyTill.on 12 fun K' hK => ?_
                       rw [if_pos (by rfl)]
                       refine wp_store_row 42 (.tmp 14) (.tmp 101) rfl wm13x.heap.size (pvL i op v ss).toArray rfl rfl _ _ xm14.at' (pv_size _ _ _ _) rfl (one_all (pvL_one _ _ _ _)) ?_
                       obtain ⟨bx, sx⟩ := xm14.set lm14.fin (pvL i op v ss)
                       have lx := lm14.other sx
                       have kx := below_setRow km14 (g := wm13x.heap.size) bl (pvL i op v ss).toArray
                       have cx : (wm14.setRow wm13x.heap.size (pvL i op v ss).toArray).rangeAt bi 0 (inL i) ∧ (wm14.setRow wm13x.heap.size (pvL i op v ss).toArray).rangeAt bo 0 (balL op sb sr) := ⟨(BI.out.below kx).range, lx.bx.range⟩
                       have bcx := bcm14.step sx (by decide)
                       refine hK.out _ _ (.inr cx) ?_
                       clear hK K'
                       try simp only [pt]
                       refine AnyTill.tk 13 cx ?_
                       refine AnyTill.tk 14 cx ?_
                       refine AnyTill.done (by kernel_rfl) ?_ _
                       refine NoPanic.normal ?_
                       go_wp2
                       go_meet
                       exact ⟨_, rfl, kx, .inr ⟨v, SL', lb', _, ss, rfl, rfl, HV.out, FT.out, lx, bcx, ⟨awm14.free fwm14 sx (by decide), pa.ws1, fwm14.step sx⟩, pa.nw1, pa.vc1, bx⟩⟩
                     case m13y =>
                       go_simp
                       have bm13y := (Below.refl wm12x.heap.size wm12x).alloc (Nat.le_refl _) (.cells zl41.toArray 42)
                       have sm13y := Step.made (t := 6) lm12x.fin lm12x.low.size (.cells zl41.toArray 42)
                       have lm13y := lm12x.other (sm13y 6)
                       have xm13y : Box (wm12x.alloc (.cells zl41.toArray 42)) (mark O' 6 wm12x.heap.size) 6 wm12x.heap.size 42 zl41 := ⟨heap_alloc_last wm12x _, mark_at _ _ _⟩
                       obtain ⟨wm13y, hwm13y⟩ : ∃ v, wm12x.alloc (.cells zl41.toArray 42) = v := ⟨_, rfl⟩
                       rw [hwm13y] at bm13y lm13y xm13y
                       rw [hwm13y]
                       clear sm13y hwm13y
                       have bl : wb.heap.size ≤ wm12x.heap.size := km12x.size
                       have km13y := km12x.trans (bm13y.mono km12x.size)
                       have cm13y : wm13y.rangeAt bi 0 (inL i) ∧ wm13y.rangeAt bo 0 (balL op sb sr) := ⟨(BI.out.below km13y).range, lm13y.bx.range⟩
                       refine hK.out _ _ (.inr cm13y) ?_
                       clear hK K'
                       try simp only [pt]
                       refine AnyTill.on 6 fun K' hK => ?_
                       go_simp
                       have cm := pmk_ok lm13y.t lm13y.l (HP.out.below km13y) IV.out VL.out OK.out lm13y.ba.at' HV.out FT.out
                       (go_at_call 10; (refine (cm).mono ?_); rintro e wm17 ⟨lb', O2, ss, rfl, nv, pa, bm17⟩)
                       obtain ⟨O4, lm17, jb, jo, jf⟩ := lm13y.join bm17 nv
                       have bc := jb _ _ _ pa.cl
                       have aw := pa.ws
                       have fw := jf _ pa.ws2
                       have xm17 := (xm13y.below bm17).marks (O2 := O4) (t2 := 6) (by rw [jo _ xm13y.lt]; exact xm13y.tag)
                       have km17 := km13y.trans (bm17.mono km13y.size)
                       have cm17 : wm17.rangeAt bi 0 (inL i) ∧ wm17.rangeAt bo 0 (balL op sb sr) := ⟨(BI.out.below km17).range, lm17.bx.range⟩
                       refine hK.out _ _ (.inr cm17) ?_
                       clear hK K'
                       try simp only [pt]
                       refine AnyTill.tk 7 cm17 ?_
                       refine AnyTill.tk 8 cm17 ?_
                       refine AnyTill.tk 9 cm17 ?_
                       refine AnyTill.tk 10 cm17 ?_
                       refine AnyTill.on 12 fun K' hK => ?_
                       rw [if_pos (by rfl)]
                       refine wp_store_row 42 (.tmp 14) (.tmp 101) rfl wm12x.heap.size (pvL i op v ss).toArray rfl rfl _ _ xm17.at' (pv_size _ _ _ _) rfl (one_all (pvL_one _ _ _ _)) ?_
                       obtain ⟨bx, sx⟩ := xm17.set lm17.fin (pvL i op v ss)
                       have lx := lm17.other sx
                       have kx := below_setRow km17 (g := wm12x.heap.size) bl (pvL i op v ss).toArray
                       have cx : (wm17.setRow wm12x.heap.size (pvL i op v ss).toArray).rangeAt bi 0 (inL i) ∧ (wm17.setRow wm12x.heap.size (pvL i op v ss).toArray).rangeAt bo 0 (balL op sb sr) := ⟨(BI.out.below kx).range, lx.bx.range⟩
                       have bcx := bc.step sx (by decide)
                       refine hK.out _ _ (.inr cx) ?_
                       clear hK K'
                       try simp only [pt]
                       refine AnyTill.tk 13 cx ?_
                       refine AnyTill.tk 14 cx ?_
                       refine AnyTill.done (by kernel_rfl) ?_ _
                       refine NoPanic.normal ?_
                       go_wp2
                       go_meet
                       exact ⟨_, rfl, kx, .inr ⟨v, SL', lb', _, ss, rfl, rfl, HV.out, FT.out, lx, bcx, ⟨aw.free fw sx (by decide), pa.ws1, fw.step sx⟩, pa.nw1, pa.vc1, bx⟩⟩
                   case m12y =>
                     go_simp
                     have bm12y := (Below.refl wd.heap.size wd).alloc (Nat.le_refl _) (.cells zl41.toArray 42)
                     have sm12y := Step.made (t := 6) hl0.fin hl0.low.size (.cells zl41.toArray 42)
                     have lm12y := hl0.other (sm12y 6)
                     have xm12y : Box (wd.alloc (.cells zl41.toArray 42)) (mark O' 6 wd.heap.size) 6 wd.heap.size 42 zl41 := ⟨heap_alloc_last wd _, mark_at _ _ _⟩
                     obtain ⟨wm12y, hwm12y⟩ : ∃ v, wd.alloc (.cells zl41.toArray 42) = v := ⟨_, rfl⟩
                     rw [hwm12y] at bm12y lm12y xm12y
                     rw [hwm12y]
                     clear sm12y hwm12y
                     have bl : wb.heap.size ≤ wd.heap.size := kd.size
                     have km12y := kd.trans (bm12y.mono kd.size)
                     have cm12y : wm12y.rangeAt bi 0 (inL i) ∧ wm12y.rangeAt bo 0 (balL op sb sr) := ⟨(BI.out.below km12y).range, lm12y.bx.range⟩
                     refine hK.out _ _ (.inr cm12y) ?_
                     clear hK K'
                     try simp only [pt]
                     refine AnyTill.on 2 fun K' hK => ?_
                     go_simp
                     (go_at_call 21; (refine (linp _ _).mono ?_); rintro e wm20 ⟨rfl, bm20⟩)
                     have lm20 := lm12y.below bm20
                     have xm20 := xm12y.below bm20
                     have km20 := km12y.trans (bm20.mono km12y.size)
                     have cm20 : wm20.rangeAt bi 0 (inL i) ∧ wm20.rangeAt bo 0 (balL op sb sr) := ⟨(BI.out.below km20).range, lm20.bx.range⟩
                     refine hK.out _ _ (.inr cm20) ?_
                     clear hK K'
                     try simp only [pt]
                     refine AnyTill.on 6 fun K' hK => ?_
                     go_simp
                     have cm := pmk_ok lm20.t lm20.l (HP.out.below km20) IV.out VL.out OK.out lm20.ba.at' HV.out FT.out
                     (go_at_call 10; (refine (cm).mono ?_); rintro e wm21 ⟨lb', O2, ss, rfl, nv, pa, bm21⟩)
                     obtain ⟨O4, lm21, jb, jo, jf⟩ := lm20.join bm21 nv
                     have bc := jb _ _ _ pa.cl
                     have aw := pa.ws
                     have fw := jf _ pa.ws2
                     have xm21 := (xm20.below bm21).marks (O2 := O4) (t2 := 6) (by rw [jo _ xm20.lt]; exact xm20.tag)
                     have km21 := km20.trans (bm21.mono km20.size)
                     have cm21 : wm21.rangeAt bi 0 (inL i) ∧ wm21.rangeAt bo 0 (balL op sb sr) := ⟨(BI.out.below km21).range, lm21.bx.range⟩
                     refine hK.out _ _ (.inr cm21) ?_
                     clear hK K'
                     try simp only [pt]
                     refine AnyTill.tk 7 cm21 ?_
                     refine AnyTill.tk 8 cm21 ?_
                     refine AnyTill.tk 9 cm21 ?_
                     refine AnyTill.tk 10 cm21 ?_
                     refine AnyTill.on 12 fun K' hK => ?_
                     rw [if_pos (by rfl)]
                     refine wp_store_row 42 (.tmp 14) (.tmp 101) rfl wd.heap.size (pvL i op v ss).toArray rfl rfl _ _ xm21.at' (pv_size _ _ _ _) rfl (one_all (pvL_one _ _ _ _)) ?_
                     obtain ⟨bx, sx⟩ := xm21.set lm21.fin (pvL i op v ss)
                     have lx := lm21.other sx
                     have kx := below_setRow km21 (g := wd.heap.size) bl (pvL i op v ss).toArray
                     have cx : (wm21.setRow wd.heap.size (pvL i op v ss).toArray).rangeAt bi 0 (inL i) ∧ (wm21.setRow wd.heap.size (pvL i op v ss).toArray).rangeAt bo 0 (balL op sb sr) := ⟨(BI.out.below kx).range, lx.bx.range⟩
                     have bcx := bc.step sx (by decide)
                     refine hK.out _ _ (.inr cx) ?_
                     clear hK K'
                     try simp only [pt]
                     refine AnyTill.tk 13 cx ?_
                     refine AnyTill.tk 14 cx ?_
                     refine AnyTill.done (by kernel_rfl) ?_ _
                     refine NoPanic.normal ?_
                     go_wp2
                     go_meet
                     exact ⟨_, rfl, kx, .inr ⟨v, SL', lb', _, ss, rfl, rfl, HV.out, FT.out, lx, bcx, ⟨aw.free fw sx (by decide), pa.ws1, fw.step sx⟩, pa.nw1, pa.vc1, bx⟩⟩
             case rest => as_aux_lemma =>
               obtain ⟨bp, rfl, kx, hout⟩ := hcut
               rcases hout with ⟨e, he0, rfl, rfl⟩ | ⟨v, SL', lb2, O4, ss, rfl, rfl, hv, ft, hl4, bc, ⟨aw, fw1, fw⟩, nw1, vc1, bx4⟩
               · have LN := Lib.hid (HL.out.below kx)
                 have e0 : (e == 0) = false := by simpa using he0
                 have nr := LN.out.r
                 rw [← HS'.out] at nr
                 obtain ⟨nn, gg, bb, _, _⟩ := one_is (V + (x - 1000))
                 have CU := Lib.hid (nbmove nr (by decide) bb 1 3 (1000 - x) 0 (one_move bb (by omega) (by omega)))
                 rw [mv_one, show V + (x - 1000) + (1000 - x) = V by omega, ← HST.out.v] at CU
                 clear kx he0 HC nr bb
                 go_wp2_with (go_at_call 7; (with_reducible refine (within_at _ _ _ _ (by omega) (by omega) EX).mono ?_); rintro e w' ⟨rfl, rfl⟩)
                 refine (CU.out).mono ?_
                 rintro e2 w11 ⟨rfl, O11, n11, s11⟩
                 have L11 := Lib.hid (LN.out.reg s11 n11)
                 clear n11 s11 CU
                 go_wp2
                 go_roundg (3 - (k + 1))
                 case measure => have := HGK.out; omega
                 case rel => exact ⟨k + 1, O11, S, SL, lb, op, sb, sr, nl, gl, V, judge, by omega, rfl, rfl, rfl, by go_num, L11.out, HST.out.later⟩
               · have HV := Lib.hid hv
                 have FT := Lib.hid ft
                 have L4 := Lib.hid hl4
                 have BC := Lib.hid bc
                 have X4 := Lib.hid bx4
                 have I4 := Lib.hid ((BI.out.below kx).cell (j := 4) (u := .int .i64 i.jd) rfl)
                 have NE := Lib.hid (show bi ≠ bo from fun e => by have h1 := BI.out.tag; have h2 := HL.out.bx.tag; rw [e] at h1; omega)
                 have NP := Lib.hid (show bp ≠ bo from fun e => by have h1 := bx4.tag; have h2 := hl4.bx.tag; rw [e] at h1; omega)
                 obtain ⟨nl', gl', hst'⟩ := HST.out.made hl4.t.inv (by rw [IP.out.1]; exact flat1 r) IV.out HS'.out.symm (by omega) IP.out.2.2 (by rw [IP.out.2.1]; omega) hv ft
                 have ST' := Lib.hid hst'
                 clear hv ft hl4 bc aw fw kx bx4 HC hst'
                 go_upto_region 25 with fail
                 refine wp_region_noPanic ?_
                 refine AnyTill.begin (C := fun w' => w'.rangeAt bp 17 (balL v.cl ss.cb ss.cr) ∧ w'.cell? ⟨bi, 4, none⟩ = some (.int .i64 i.jd)) (q := 99) (by kernel_rfl) ?_
                 obtain ⟨wd, hwd⟩ : ∃ wd, wc.drew = wd := ⟨_, rfl⟩
                 have kd : Below wc.heap.size wc wd := by rw [← hwd]; exact below_drew wc
                 rw [hwd]
                 have ld := L4.out.below kd
                 have xd := X4.out.below kd
                 have bd := BC.out.below kd
                 have scd : wd.rangeAt bp 17 (balL v.cl ss.cb ss.cr) ∧ wd.cell? ⟨bi, 4, none⟩ = some (.int .i64 i.jd) := ⟨xd.sub (pv_close _ _ _ _), cell_keep I4.out kd⟩
                 refine AnyTill.tk 0 scd ?_
                 refine AnyTill.tv (i := 1) (v := .agg (balL v.cl ss.cb ss.cr).toArray) (hy := (yieldsIf_load_mid (by rfl) 35 (.tmp 110) rfl bp 17 rfl (balL v.cl ss.cb ss.cr) _ (fun _ h => h.1) Tryz.underlying35 rfl (bal_size _ _ _))) (hC := scd) (h := ?_)
                 refine AnyTill.tk 2 scd ?_
                 refine AnyTill.tk 3 scd ?_
                 refine AnyTill.tk 4 scd ?_
                 refine AnyTill.on 5 fun K' hK => ?_
                 rw [if_pos (by rfl)]
                 refine wp_store_row 35 (.tmp 9) (.tmp 111) rfl bo (balL v.cl ss.cb ss.cr).toArray rfl rfl _ _ ld.bx.at' (bal_size _ _ _) rfl (bal_one _ _ _) ?_
                 have lf := Lib.hid (ld.opened bd)
                 have sce : (wd.setRow bo (balL v.cl ss.cb ss.cr).toArray).rangeAt bp 17 (balL v.cl ss.cb ss.cr) ∧ (wd.setRow bo (balL v.cl ss.cb ss.cr).toArray).cell? ⟨bi, 4, none⟩ = some (.int .i64 i.jd) := ⟨fun j u hu => by rw [cell_setRow_other _ _ _ _ NP.out]; exact scd.1 j u hu, by rw [cell_setRow_other _ _ _ _ NE.out]; exact scd.2⟩
                 refine hK.out _ _ (.inr sce) ?_
                 clear hK K'
                 try simp only [pt]
                 refine AnyTill.tk 6 sce ?_
                 refine AnyTill.tk 7 sce ?_
                 refine AnyTill.done (by kernel_rfl) ?_ _
                 refine NoPanic.normal ?_
                 obtain ⟨wz, hwz⟩ : ∃ wz, wd.setRow bo (balL v.cl ss.cb ss.cr).toArray = wz := ⟨_, rfl⟩
                 rw [hwz] at lf
                 rw [hwz]
                 clear scd sce ld xd bd kd hwd hwz
                 go_wp2
                 go_roundg (3 - (k + 1))
                 case measure => have := HGK.out; omega
                 case rel => exact ⟨k + 1, O4, S', SL', lb2, v.cl, ss.cb, ss.cr, nl', gl', _, i.jd, by omega, rfl, rfl, rfl, by go_num, lf.out, ST'.out⟩
       · have l3' : ¬ (k : Int) < 3 := by omega
         clear l3
         go_wp2
         go_meet
         exact ⟨O, S, SL, lb, op, sb, sr, nl, gl, V, judge, k, rfl, rfl, HLS.out, HST.out, hk⟩
     · have l1' : ¬ (k : Int) < (n1 : Int) := by omega
       clear l1
       go_wp2
       go_meet
       exact ⟨O, S, SL, lb, op, sb, sr, nl, gl, V, judge, k, rfl, rfl, HLS.out, HST.out, hk⟩
 case rest => as_aux_lemma =>
   obtain ⟨O, S, SL, lb, op, sb, sr, nl, gl, V, judge, k, rfl, rfl, hls, hst, hk⟩ := hcut
   have HLS := Lib.hid hls
   have HST := Lib.hid hst
   have CB := Lib.hid (bof2 hls.r)
   clear hls hst hk LS7
   go_wp2_with fail
   refine (CB.out).mono ?_
   rintro e wb ⟨rb, OP, rfl, np, hb⟩
   have HL := Lib.hid (HLS.out.below hb)
   have HP := Lib.hid np
   have c0 : wb.cell? ⟨bo, 0, none⟩ = some (.int .i64 op.per) := (HLS.out.bx.below hb).cell (j := 0) rfl
   have LO := Lib.hid HL.out.low
   clear np hb CB HLS
   by_cases hper : op.per < 0
   · go_wp2_with (go_at_call 12; (with_reducible refine (W.out _).mono ?_); rintro e w10 ⟨rfl, hb10⟩; have K10 := Lib.hid (LO.out.trans (hb10.mono LO.out.size)); clear hb10)
     go_ret
     exact ⟨rfl, by first | exact K10.out | (rw [← HWS.out]; exact K10.out)⟩
   · have hp0 : 0 ≤ op.per := by omega
     obtain ⟨m, g, iv⟩ := HL.out.r.told
     obtain ⟨v, SL', hv, ft, x1, x2, x3, x4, x5, x6, x7, x8, x9⟩ := HST.out.ends HL.out.t.inv (flat1 r) iv hp0 BR.out
     have CM := Lib.hid (pmk_ok HL.out.t HL.out.l HP.out iv HST.out.vl HST.out.ok HL.out.ba.at' hv ft)
     unfold inL at CM
     dsimp only at CM
     have RB := Lib.hid HL.out.bx.range
     have X9 := Lib.hid x9
     clear hv ft iv
     go_wp2_with ((with_reducible show wpList _ _ _ _ _ _); (refine wpList_load_mid rfl 35 (.tmp 9) rfl bo 0 rfl (balL op sb sr) _ RB.out Tryz.underlying35 rfl (bal_size _ _ _) ?_))
     refine (CM.out).mono ?_
     rintro e w8 ⟨lb8, O8, ss, rfl, _, pa, hb8⟩
     have L8 := Lib.hid (HL.out.below hb8)
     have CLR := Lib.hid pa.cl.at'.rows
     clear hb8 CM HL HP c0 pa
     go_upto_region 31 with ((with_reducible show wpList _ _ _ _ _ _); (refine wpList_store_row rfl 42 (.tmp 18) (.tmp 138) rfl w8.heap.size (pvL ⟨ukt19, 9, 0, 0, judge, 500000, 1, 0⟩ op v ss).toArray rfl rfl _ _ (heap_alloc_last _ _) (pv_size _ _ _ _) rfl (one_all (pvL_one _ _ _ _)) ?_; rw [World.setRow_alloc_new]))
     have h8 := heap_alloc_last w8 (.cells (pvL ⟨ukt19, 9, 0, 0, judge, 500000, 1, 0⟩ op v ss).toArray 42)
     have b8 := (Below.refl w8.heap.size w8).alloc (Nat.le_refl _) (.cells (pvL ⟨ukt19, 9, 0, 0, judge, 500000, 1, 0⟩ op v ss).toArray 42)
     obtain ⟨w9, hw9⟩ : ∃ w9, w8.alloc (.cells (pvL ⟨ukt19, 9, 0, 0, judge, 500000, 1, 0⟩ op v ss).toArray 42) = w9 := ⟨_, rfl⟩
     rw [hw9] at h8 b8
     rw [hw9]
     have l9 := L8.out.below b8
     have L9 := Lib.hid l9
     have R9 := Lib.hid (CLR.out.below b8)
     have BX9 := Lib.hid (⟨h8, rfl⟩ : Box w9 (fun _ => 0) 0 w8.heap.size 42 (pvL ⟨ukt19, 9, 0, 0, judge, 500000, 1, 0⟩ op v ss))
     have PC9 := Lib.hid (BX9.out.sub (pv_close ⟨ukt19, 9, 0, 0, judge, 500000, 1, 0⟩ op v ss))
     clear h8 b8 hw9 l9 L8 CLR
     go_upto_region 34 with (first | ((with_reducible show wpList _ _ _ _ _ _); (refine wpList_load_mid rfl 35 (.tmp 147) rfl w8.heap.size 17 rfl (balL v.cl ss.cb ss.cr) _ PC9.out Tryz.underlying35 rfl (bal_size _ _ _) ?_)) | ((with_reducible show wpList _ _ _ _ _ _); (refine wpList_store_row rfl 35 (.tmp 21) (.tmp 148) rfl w9.heap.size (balL v.cl ss.cb ss.cr).toArray rfl rfl _ _ (heap_alloc_last _ _) (bal_size _ _ _) rfl (bal_one _ _ _) ?_; rw [World.setRow_alloc_new])))
     have ha := heap_alloc_last w9 (.cells (balL v.cl ss.cb ss.cr).toArray 35)
     have b9 := (Below.refl w9.heap.size w9).alloc (Nat.le_refl _) (.cells (balL v.cl ss.cb ss.cr).toArray 35)
     obtain ⟨wx, hwx⟩ : ∃ wx, w9.alloc (.cells (balL v.cl ss.cb ss.cr).toArray 35) = wx := ⟨_, rfl⟩
     rw [hwx] at ha b9
     rw [hwx]
     obtain ⟨Y, hY⟩ : ∃ Y, w9.heap.size = Y := ⟨_, rfl⟩
     obtain ⟨bp, hbp⟩ : ∃ bp, w8.heap.size = bp := ⟨_, rfl⟩
     have lx := L9.out.below b9
     have px := BX9.out.below b9
     have rx := R9.out.below b9
     rw [hY] at ha
     rw [hbp] at px
     rw [hY, hbp]
     have p40 := px.cell (j := 40) rfl
     have p39 := px.cell (j := 39) rfl
     have p30 := px.cell (j := 30) rfl
     rw [x1] at p40
     rw [x2] at p39
     rw [x3] at p30
     have y1 : wx.cell? ⟨Y, 1, none⟩ = some (.slice ss.cb.a v.cl.n ss.cb.c) := cell_of_row _ _ 1 _ _ _ ha
     have y4 : wx.cell? ⟨Y, 4, none⟩ = some (.int .i64 v.cl.left) := cell_of_row _ _ 4 _ _ _ ha
     have y5 : wx.cell? ⟨Y, 5, none⟩ = some (.int .i64 v.cl.tmp) := cell_of_row _ _ 5 _ _ _ ha
     have y6 : wx.cell? ⟨Y, 6, none⟩ = some (.int .i64 v.cl.ls) := cell_of_row _ _ 6 _ _ _ ha
     have y7 : wx.cell? ⟨Y, 7, none⟩ = some (.int .i64 v.cl.al) := cell_of_row _ _ 7 _ _ _ ha
     have o1 : wx.cell? ⟨bo, 1, none⟩ = some (.slice sb.a op.n sb.c) := lx.bx.cell (j := 1) rfl
     have o4 : wx.cell? ⟨bo, 4, none⟩ = some (.int .i64 op.left) := lx.bx.cell (j := 4) rfl
     have o5 : wx.cell? ⟨bo, 5, none⟩ = some (.int .i64 op.tmp) := lx.bx.cell (j := 5) rfl
     have o6 : wx.cell? ⟨bo, 6, none⟩ = some (.int .i64 op.ls) := lx.bx.cell (j := 6) rfl
     have o7 : wx.cell? ⟨bo, 7, none⟩ = some (.int .i64 op.al) := lx.bx.cell (j := 7) rfl
     rw [x4] at y5
     rw [x5] at y6
     rw [x6] at y7
     rw [x7] at y4
     rw [x8] at y1 rx
     have CS := Lib.hid (bsame_true ss.cb.a sb.a op.n ss.cb.c sb.c v.cl.g op.g wx rx lx.ba.at'.rows (by have := HST.out.ok.iv.le; omega) X9.out)
     have LX := Lib.hid lx.low
     clear ha b9 hwx hY hbp lx px rx x1 x2 x3 x4 x5 x6 x7 x8 x9 L9 BX9 R9 PC9
     go_wp2_with fail
     refine (CS.out).mono ?_
     rintro e wm ⟨rfl, hbm⟩
     have LM := Lib.hid (LX.out.trans (hbm.mono LX.out.size))
     clear hbm CS p40 p39 p30 y1 y4 y5 y6 y7 o1 o4 o5 o6 o7
     go_wp2_with (go_at_call 12; (with_reducible refine (W.out _).mono ?_); rintro e w10 ⟨rfl, hb10⟩; have K10 := Lib.hid (LM.out.trans (hb10.mono LM.out.size)); clear hb10)
     go_ret
     exact ⟨rfl, by first | exact K10.out | (rw [← HWS.out]; exact K10.out)⟩
end Go.Proofs.YtmlafdehhbhbiaaGreat
