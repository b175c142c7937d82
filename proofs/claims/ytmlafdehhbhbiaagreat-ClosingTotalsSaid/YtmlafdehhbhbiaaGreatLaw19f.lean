/- ClosingTotals: its walk. -/
import Derived.Test.YtmlafdehhbhbiaaGreatTk
import Derived.Test.YtmlafdehhbhbiaaGreatLaw19e
namespace Go.Proofs.YtmlafdehhbhbiaaGreat
open Go.RowKit
set_option maxHeartbeats 64000000 in
set_option maxRecDepth 100000 in
theorem closingTotals_walk (a0 : Option Addr) (n0 c0 : Nat) (z0 : List Int) (a1 : Option Addr) (n1 c1 : Nat) (a2 : Option Addr) (n2 c2 : Nat) (w : World) (h0 : IsRow .i64 w a0 n0 c0 z0) (h1 : Rows2 w a1 n1) (h2 : Rows2 w a2 n2) :
   Calls Tryz.prog 5 #[.agg #[.slice a0 n0 c0, .slice a1 n1 c1, .slice a2 n2 c2]] w fun e w' => e = .returned (.bool true) ∧ Below w.heap.size w w' := by
 have W := Lib.hid fun w => wakes19_any w
 obtain ⟨cs, hcs⟩ : ∃ cs, cs19 a0 n0 c0 a1 n1 c1 a2 n2 c2 = cs := ⟨_, rfl⟩
 have s0 : cs[0]? = some (.slice a0 n0 c0) := by rw [← hcs]; rfl
 have s1 : cs[1]? = some (.slice a1 n1 c1) := by rw [← hcs]; rfl
 have s2 : cs[2]? = some (.slice a2 n2 c2) := by rw [← hcs]; rfl
 have S0 := Lib.hid s0
 have S1 := Lib.hid s1
 have S2 := Lib.hid s2
 have R1 := Lib.hid h1
 have R2 := Lib.hid h2
 have ba := (Below.refl w.heap.size w).alloc (Nat.le_refl _) (.cells cs.toArray 52)
 have BX := Lib.hid (⟨heap_alloc_last w _, rfl⟩ : Box (w.alloc (.cells cs.toArray 52)) (fun _ => 0) 0 w.heap.size 52 cs)
 have lt1 : w.heap.size < (w.alloc (.cells cs.toArray 52)).heap.size := by simp
 have HW1 := Lib.hid (show w.alloc (.cells #[.slice a0 n0 c0, .slice a1 n1 c1, .slice a2 n2 c2] 52) = w.alloc (.cells cs.toArray 52) by rw [← hcs])
 obtain ⟨w1, hw1⟩ : ∃ w1, w.alloc (.cells cs.toArray 52) = w1 := ⟨_, rfl⟩
 rw [hw1] at ba BX lt1 HW1
 have B1 := Lib.hid ba
 have L1 := Lib.hid lt1
 have CT := Lib.hid (ptab_some a0 n0 c0 z0 w1 (h0.below ba))
 clear s0 s1 s2 h0 h1 h2 ba lt1 hw1 hcs
 go_enter Tryz.func5, Tryz.ntmps5
 go_wp2_with fail
 rw [HW1.out]
 refine (CT.out).mono ?_
 rintro e w2 ⟨tr, nr, R, O2, rfl, nt⟩
 have K2 := Lib.hid (B1.out.trans (nt.low.mono B1.out.size))
 have BX2 := Lib.hid (BX.out.below nt.low)
 have L2 := Lib.hid (Nat.lt_of_lt_of_le L1.out nt.low.size)
 have CO := Lib.hid (tof nt)
 clear nt CT HW1 BX B1 L1
 go_wp2_with fail
 refine (CO.out).mono ?_
 rintro e w3 ⟨tb, O3, rfl, nt, hb3⟩
 have K3 := K2.out.trans (hb3.mono K2.out.size)
 have f3 := nt.fin.wide (base2 := w.heap.size) (Nat.le_of_lt L2.out)
 have N3 := Lib.hid (NowT.marks (w0 := w) (O2 := O3) (t2 := 1) nt (fun _ h => h) f3 K3 (Nat.le_of_lt L2.out))
 have X3 := Lib.hid ((BX2.out.below hb3).marks (O2 := O3) (t2 := 0) (nt.fin.1 _ L2.out))
 have NB := Lib.hid (nowb_new w w3 O3 f3 K3 58 2)
 clear nt hb3 K3 f3 CO K2 BX2 L2
 go_wp2_with fail
 obtain ⟨nb, st⟩ := NB.out
 have N4 := Lib.hid (N3.out.step (st 2) (by decide) (by decide))
 have X4 := Lib.hid (X3.out.step (st 2) (by decide))
 have RB4 := Lib.hid nb
 have CV := Lib.hid (pvnew w _ _ nb.fin nb.low 3)
 clear nb st NB
 refine (CV.out).mono ?_
 rintro e w5 ⟨lb, O5, rfl, nv, st⟩
 have N5 := Lib.hid (N4.out.step (st 3) (by decide) (by decide))
 have X5 := Lib.hid (X4.out.step (st 3) (by decide))
 have RB5 := Lib.hid (RB4.out.step (st 3) (by decide) (by decide))
 have V5 := Lib.hid nv
 clear nv st CV N4 X4 RB4 N3 X3
 go_wp2_with fail
 refine (pnone_x _).mono ?_
 rintro e w5 ⟨rfl, hb5⟩
 (replace N5 := Lib.hid (N5.out.below hb5); replace RB5 := Lib.hid (RB5.out.below hb5); replace V5 := Lib.hid (V5.out.below hb5); replace X5 := Lib.hid (X5.out.below hb5))
 clear hb5
 go_upto_region 4 with fail
 have st := Step.made (t := 5) V5.out.fin V5.out.low.size (.cells (balL MBal.none .nil .nil).toArray 35)
 have LS6 := Lib.hid (⟨N5.out.step (st 5) (by decide) (by decide), RB5.out.step (st 5) (by decide) (by decide), V5.out.step (st 5) (by decide) (by decide), Box.new w5 O5 5 _ _, BalO.nil _ _ _ rfl, X5.out.step (st 5) (by decide)⟩ :
   LS w (w5.alloc (.cells (balL MBal.none .nil .nil).toArray 35)) (mark O5 5 w5.heap.size) tb nr R w3.heap.size (fun _ _ => 0) lb (fun _ _ => 0) w5.heap.size MBal.none .nil .nil w.heap.size cs)
 have HW6 := Lib.hid (show w5.alloc (.cells #[.int .i64 (-1), .slice none 0 0, .slice none 0 0, .int .i64 0, .int .i64 0, .int .i64 0, .int .i64 0, .int .i64 0] 35) = w5.alloc (.cells (balL MBal.none .nil .nil).toArray 35) from rfl)
 rw [HW6.out]
 obtain ⟨w6, hw6⟩ : ∃ w6, w5.alloc (.cells (balL MBal.none .nil .nil).toArray 35) = w6 := ⟨_, rfl⟩
 rw [hw6] at LS6
 rw [hw6]
 obtain ⟨rg, hrg⟩ : ∃ rg, w3.heap.size = rg := ⟨_, rfl⟩
 obtain ⟨bo, hbo⟩ : ∃ bo, w5.heap.size = bo := ⟨_, rfl⟩
 obtain ⟨ws, hws⟩ : ∃ ws, w.heap.size = ws := ⟨_, rfl⟩
 rw [hrg, hbo] at LS6
 rw [hrg, hbo]
 obtain ⟨O6, hO6⟩ : ∃ O6, mark O5 5 bo = O6 := ⟨_, rfl⟩
 rw [hO6] at LS6
 have LS7 := Lib.hid (show LS w w6 O6 tb nr R rg (fun _ _ => 0) lb (fun _ _ => 0) bo MBal.none .nil .nil ws cs by rw [← hws]; exact LS6.out)
 have HWS := Lib.hid hws
 clear st LS6 HW6 hw6 hrg hbo hO6 N5 X5 RB5 V5
 rw [HWS.out]
 clear hws
 go_wp2
 go_loopg [5, 7] 6 (fun gh s5 s7 wr => ∃ (k : Nat) (O : Nat → Nat) (S S0 SL : Int → Int → Int) (lb : Nat) (op : MBal) (sb sr : Sl) (nl : Nat) (gl : Nat → Bk), k ≤ 6 ∧ gh = 6 - k ∧ s5 = ptr lb ∧ s7 = .int .i64 k ∧ LS w wr O tb nr R rg S lb SL bo op sb sr ws cs ∧ op.Ok S0 ∧ VInv SL nl gl ∧ op.left = btot gl nl)
 case atStart => exact ⟨0, _, _, _, _, lb, _, _, _, 0, fun _ => ⟨0, 0, 0⟩, Nat.zero_le _, rfl, rfl, rfl, LS7.out, MBal.none_ok, VInv.zero _, rfl⟩
 case round =>
   obtain ⟨k, O, S, S0', SL, lb, op, sb, sr, nl, gl, hk, hgk, rfl, rfl, hls, hok, hvl, hleft⟩ := hrel
   have HGK := Lib.hid hgk
   have HLS := Lib.hid hls
   have OK := Lib.hid hok
   have VL := Lib.hid hvl
   have LF := Lib.hid hleft
   have st1 := hls.st.cell S1.out
   clear hgk hls hok hvl hleft LS7
   obtain ⟨wo, rfl⟩ : ∃ wo, wo = wr := ⟨_, rfl⟩
   by_cases hlt : k < n1 ∧ k < 6
   · obtain ⟨l1, l6⟩ := hlt
     have l1' : (k : Int) < (n1 : Int) := by omega
     have l6' : (k : Int) < 6 := by omega
     have l0' : (0 : Int) ≤ (k : Int) := by omega
     go_upto_block 2 with fail
     go_cut [8] (fun _ wx => ∃ (O' : Nat → Nat) (S' : Int → Int → Int), LS w wx O' tb nr R rg S' lb SL bo op sb sr ws cs)
     case first => as_aux_lemma =>
       go_wp2
       go_loopg [8] 4 (fun gh s8 wx => ∃ (q : Nat) (O' : Nat → Nat) (S' : Int → Int → Int), q ≤ 4 ∧ gh = 4 - q ∧ s8 = .int .i64 q ∧ LS w wx O' tb nr R rg S' lb SL bo op sb sr ws cs)
       case atStart => exact ⟨0, O, S, Nat.zero_le _, rfl, rfl, HLS.out⟩
       case round =>
         obtain ⟨q, O', S', hq, hgq, rfl, hl2⟩ := hrel
         have HGQ := Lib.hid hgq
         have HL2 := Lib.hid hl2
         have st2 := hl2.st.cell S2.out
         clear hgq hl2
         by_cases hk2 : k < n2
         · obtain ⟨b, off, A', m, c, zs, rfl, hb, hc, hrow⟩ := (R2.out.below HL2.out.low).some hk2
           have hk2' : (k : Int) < (n2 : Int) := by omega
           by_cases hqm : q < m
           · have hqm' : (q : Int) < (m : Int) := by omega
             by_cases hq4 : q < 4
             · have hq4' : (q : Int) < 4 := by omega
               have hq0' : (0 : Int) ≤ (q : Int) := by omega
               obtain ⟨bb, ob, rfl, hbb, hcc⟩ := hrow.at.1.some (by omega)
               have cz := hcc q hqm
               obtain ⟨z, hz⟩ : ∃ z, zs.getD q 0 = z := ⟨_, rfl⟩
               rw [hz] at cz
               have CM := Lib.hid fun (cc yy aa : Int) => nbmove_some HL2.out.r (by decide) cc yy aa
               clear hcc hrow hz
               go_wp2_with (first | (go_at_call 7; (with_reducible refine (within_some _ _ _ (by omega) (by omega)).mono ?_); rintro e w' ⟨x, hx1, hx2, rfl, rfl⟩))
               refine (CM.out _ _ _).mono ?_
               rintro e w8 ⟨er, S8, O8, rfl, nb8, s8⟩
               have L8 := Lib.hid (HL2.out.reg s8 nb8)
               clear nb8 s8 CM
               go_wp2
               go_roundg (4 - (q + 1))
               case measure => have := HGQ.out; omega
               case rel => exact ⟨q + 1, O8, S8, by omega, rfl, by go_num, L8.out⟩
             · have hq4' : ¬ (q : Int) < 4 := by omega
               clear hq4
               go_wp2
               go_meet
               exact ⟨O', S', HL2.out⟩
           · have hqm' : ¬ (q : Int) < (m : Int) := by omega
             clear hqm
             go_wp2
             go_meet
             exact ⟨O', S', HL2.out⟩
         · have hk2' : ¬ (k : Int) < (n2 : Int) := by omega
           clear hk2
           go_wp2
           go_meet
           exact ⟨O', S', HL2.out⟩
     case rest => as_aux_lemma =>
       obtain ⟨O', S', hl3⟩ := hcut
       clear HLS
       have HLS := Lib.hid hl3
       have st1 := hl3.st.cell S1.out
       clear hl3
       obtain ⟨b, off, A', m, c, zs, rfl, hb, hc, hrow⟩ := (R1.out.below HLS.out.low).some l1
       have CI := Lib.hid (pin_some k A' m c zs wc hrow)
       clear hrow
       go_wp2_with fail
       refine (CI.out).mono ?_
       rintro e w8 ⟨i, rfl, hb8⟩
       have L8 := Lib.hid (HLS.out.below hb8)
       clear hb8 CI HLS
       go_upto_region 15 with ((with_reducible show wpList _ _ _ _ _ _); (refine wpList_store_row rfl 66 (.tmp 10) (.tmp 91) rfl w8.heap.size (inL i).toArray rfl rfl _ _ (heap_alloc_last _ _) (in_size _) rfl (in_one _) ?_; rw [World.setRow_alloc_new]))
       obtain ⟨wi, hwi⟩ : ∃ wi, w8.alloc (.cells (inL i).toArray 66) = wi := ⟨_, rfl⟩
       have h8 := heap_alloc_last w8 (.cells (inL i).toArray 66)
       have b8 := (Below.refl w8.heap.size w8).alloc (Nat.le_refl _) (.cells (inL i).toArray 66)
       rw [hwi] at h8 b8
       rw [hwi]
       clear hwi
       have c1 : wi.cell? ⟨w8.heap.size, 1, none⟩ = some (.int .i64 i.p) := cell_of_row _ _ 1 _ _ _ h8
       have f1 : wi.frozen? ⟨w8.heap.size, 1, none⟩ = false := frozen_of_row _ _ 1 _ _ h8
       have SE := Lib.hid (setCell_eq_setRow wi w8.heap.size 1 _ _ _ (.int .i64 k) h8)
       have k9 := below_setRow b8 (Nat.le_refl _) (inL ⟨i.j, k, i.bk, i.pm, i.jd, i.cp, i.lf, i.tu⟩).toArray
       have h9 := setRow_heap wi w8.heap.size _ (inL ⟨i.j, k, i.bk, i.pm, i.jd, i.cp, i.lf, i.tu⟩).toArray _ _ h8
       have K9 := Lib.hid k9
       have H9 := Lib.hid h9
       clear h8 b8 k9 h9
       go_upto_region 16 with fail
       have e1 : wi.setCell ⟨w8.heap.size, 1, none⟩ (.int .i64 k) = wi.setRow w8.heap.size (inL ⟨i.j, k, i.bk, i.pm, i.jd, i.cp, i.lf, i.tu⟩).toArray := SE.out
       rw [e1]
       obtain ⟨wj, hwj⟩ : ∃ wj, wi.setRow w8.heap.size (inL ⟨i.j, k, i.bk, i.pm, i.jd, i.cp, i.lf, i.tu⟩).toArray = wj := ⟨_, rfl⟩
       have K9' := K9.out
       have H9' := H9.out
       rw [hwj] at K9' H9'
       rw [hwj]
       have L9 := Lib.hid (L8.out.below K9')
       have I9 := Lib.hid (⟨H9', L8.out.fin.2 _ (Nat.le_refl _)⟩ : Box wj O' 0 w8.heap.size 66 (inL ⟨i.j, k, i.bk, i.pm, i.jd, i.cp, i.lf, i.tu⟩))
       obtain ⟨bi, hbi⟩ : ∃ bi, w8.heap.size = bi := ⟨_, rfl⟩
       obtain ⟨i', hi'⟩ : ∃ i' : MIn, (⟨i.j, k, i.bk, i.pm, i.jd, i.cp, i.lf, i.tu⟩ : MIn) = i' := ⟨_, rfl⟩
       have IP := Lib.hid (show i'.p = k by rw [← hi'])
       rw [hbi, hi'] at I9
       rw [hbi]
       have CB := Lib.hid (bof2 L9.out.r)
       clear e1 hwj K9' H9' hbi hi' L8 K9 H9 SE c1 f1
       go_wp2_with fail
       refine (CB.out).mono ?_
       rintro e wb ⟨rb, OP, rfl, np, hb⟩
       have HL := Lib.hid (L9.out.below hb)
       have HP := Lib.hid np
       have BI := Lib.hid (I9.out.below hb)
       clear np hb CB L9 I9
       obtain ⟨m', g, iv⟩ := HL.out.r.told
       obtain ⟨qq, ff, hfw⟩ := fiw_any OK.out.iv.is iv.is
       have hff := hfw.fis OK.out.iv.mon iv.mon
       have IV := Lib.hid iv
       obtain ⟨i, hii⟩ : ∃ i, i = i' := ⟨_, rfl⟩
       subst hii
       have HC := Lib.hid (mk_any (n0 := op.n) HL.out.t.inv i op OK.out IV.out VL.out hff rfl)
       clear iv hff hfw
       go_upto_region 19 with fail
       go_cut [12, 13, 14] (fun sp sl se wx => Closed w wb tb nr R rg i op S0' S' m' g SL nl gl bo sb sr ws cs sp sl se wx)
       case first => as_aux_lemma =>
         rcases HC.out with ⟨e, he0, hno⟩ | ⟨v, SL', hv, ft⟩
         · have HNO := Lib.hid hno
           clear hno HC
           as_aux_lemma =>
             refine wp_region_noPanic ?_
             refine AnyTill.begin (C := fun w' => w'.rangeAt bi 0 (inL i) ∧ w'.rangeAt bo 0 (balL op sb sr)) (q := 99) (by kernel_rfl) ?_
             obtain ⟨wd, hwd⟩ : ∃ wd, wb.drew = wd := ⟨_, rfl⟩
             have kd : Below wb.heap.size wb wd := by rw [← hwd]; exact below_drew wb
             rw [hwd]
             have hl0 := HL.out.below kd
             have scd : wd.rangeAt bi 0 (inL i) ∧ wd.rangeAt bo 0 (balL op sb sr) := ⟨(BI.out.below kd).range, hl0.bx.range⟩
             refine AnyTill.tk 0 scd ?_
             refine AnyTill.tv (i := 1) (v := .agg (inL i).toArray) (hy := (yieldsIf_load_mid (by rfl) 66 (.tmp 10) rfl bi 0 rfl (inL i) _ (fun _ h => h.1) Tryz.underlying66 rfl (in_size _))) (hC := scd) (h := ?_)
             refine AnyTill.tv (i := 3) (v := .agg (balL op sb sr).toArray) (hy := (yieldsIf_load_mid (by rfl) 35 (.tmp 6) rfl bo 0 rfl (balL op sb sr) _ (fun _ h => h.2) Tryz.underlying35 rfl (bal_size _ _ _))) (hC := scd) (h := ?_)
             refine AnyTill.tk 4 scd ?_
             refine AnyTill.tk 5 scd ?_
             refine' AnyTill.two (i := 2) (k := 11) (o := _) (o' := _) (by kernel_rfl) ?m0a ?m0b (fun K' hK => ?m0x) (fun K' hK => ?m0y)
             case m0a => (simp only [List.getElem?_toArray, List.getElem?_cons_succ, List.getElem?_cons_zero]; rfl)
             case m0b => (simp only [List.getElem?_toArray, List.getElem?_cons_succ, List.getElem?_cons_zero]; rfl)
             case m0x =>
               go_simp
               (go_at_call 21; (refine (linp _ _).mono ?_); rintro e wm0x ⟨rfl, bm0x⟩)
               have lm0x := hl0.below bm0x
               have km0x := kd.trans (bm0x.mono kd.size)
               have cm0x : wm0x.rangeAt bi 0 (inL i) ∧ wm0x.rangeAt bo 0 (balL op sb sr) := ⟨(BI.out.below km0x).range, lm0x.bx.range⟩
               refine hK.out _ _ (.inr cm0x) ?_
               clear hK K'
               try simp only [pt]
               refine' AnyTill.two (i := 6) (k := 11) (o := _) (o' := _) (by kernel_rfl) ?m1a ?m1b (fun K' hK => ?m1x) (fun K' hK => ?m1y)
               case m1a => (simp only [List.getElem?_toArray, List.getElem?_cons_succ, List.getElem?_cons_zero]; rfl)
               case m1b => (simp only [List.getElem?_toArray, List.getElem?_cons_succ, List.getElem?_cons_zero]; rfl)
               case m1x =>
                 go_simp
                 have cm := pmk_no lm0x.t lm0x.l (HP.out.below km0x) IV.out VL.out OK.out lm0x.ba.at' HNO.out
                 (go_at_call 10; (refine (cm).mono ?_); rintro e wm1x ⟨rfl, bm1x⟩)
                 have lm1x := lm0x.below bm1x
                 have km1x := km0x.trans (bm1x.mono km0x.size)
                 have cm1x : wm1x.rangeAt bi 0 (inL i) ∧ wm1x.rangeAt bo 0 (balL op sb sr) := ⟨(BI.out.below km1x).range, lm1x.bx.range⟩
                 refine hK.out _ _ (.inr cm1x) ?_
                 clear hK K'
                 try simp only [pt]
                 refine AnyTill.tk 7 cm1x ?_
                 refine AnyTill.tk 8 cm1x ?_
                 refine AnyTill.tk 9 cm1x ?_
                 refine AnyTill.tk 10 cm1x ?_
                 refine AnyTill.on 11 fun K' hK => ?_
                 go_simp
                 have bm2 := (Below.refl wm1x.heap.size wm1x).alloc (Nat.le_refl _) (.cells zl41.toArray 42)
                 have sm2 := Step.made (t := 6) lm1x.fin lm1x.low.size (.cells zl41.toArray 42)
                 have lm2 := lm1x.other (sm2 6)
                 have xm2 : Box (wm1x.alloc (.cells zl41.toArray 42)) (mark O' 6 wm1x.heap.size) 6 wm1x.heap.size 42 zl41 := ⟨heap_alloc_last wm1x _, mark_at _ _ _⟩
                 obtain ⟨wm2, hwm2⟩ : ∃ v, wm1x.alloc (.cells zl41.toArray 42) = v := ⟨_, rfl⟩
                 rw [hwm2] at bm2 lm2 xm2
                 rw [hwm2]
                 clear sm2 hwm2
                 have bl : wb.heap.size ≤ wm1x.heap.size := km1x.size
                 have km2 := km1x.trans (bm2.mono km1x.size)
                 have cm2 : wm2.rangeAt bi 0 (inL i) ∧ wm2.rangeAt bo 0 (balL op sb sr) := ⟨(BI.out.below km2).range, lm2.bx.range⟩
                 refine hK.out _ _ (.inr cm2) ?_
                 clear hK K'
                 try simp only [pt]
                 refine AnyTill.on 12 fun K' hK => ?_
                 rw [if_pos (by rfl)]
                 refine wp_store_row 42 (.tmp 12) (.tmp 106) rfl wm1x.heap.size pv0L.toArray rfl rfl _ _ xm2.at' pv0_size rfl (one_all pv0L_one) ?_
                 obtain ⟨bx, sx⟩ := xm2.set lm2.fin pv0L
                 have lx := lm2.other sx
                 have kx := below_setRow km2 (g := wm1x.heap.size) bl pv0L.toArray
                 have cx : (wm2.setRow wm1x.heap.size pv0L.toArray).rangeAt bi 0 (inL i) ∧ (wm2.setRow wm1x.heap.size pv0L.toArray).rangeAt bo 0 (balL op sb sr) := ⟨(BI.out.below kx).range, lx.bx.range⟩
                 refine hK.out _ _ (.inr cx) ?_
                 clear hK K'
                 try simp only [pt]
                 refine AnyTill.tk 13 cx ?_
                 refine AnyTill.tk 14 cx ?_
                 refine AnyTill.done (by kernel_rfl) ?_ _
                 refine NoPanic.normal ?_
                 go_wp2
                 go_meet
                 exact ⟨_, rfl, kx, .inl ⟨_, he0, rfl, rfl⟩⟩
               case m1y =>
                 go_simp
                 have bm1y := (Below.refl wm0x.heap.size wm0x).alloc (Nat.le_refl _) (.cells zl41.toArray 42)
                 have sm1y := Step.made (t := 6) lm0x.fin lm0x.low.size (.cells zl41.toArray 42)
                 have lm1y := lm0x.other (sm1y 6)
                 have xm1y : Box (wm0x.alloc (.cells zl41.toArray 42)) (mark O' 6 wm0x.heap.size) 6 wm0x.heap.size 42 zl41 := ⟨heap_alloc_last wm0x _, mark_at _ _ _⟩
                 obtain ⟨wm1y, hwm1y⟩ : ∃ v, wm0x.alloc (.cells zl41.toArray 42) = v := ⟨_, rfl⟩
                 rw [hwm1y] at bm1y lm1y xm1y
                 rw [hwm1y]
                 clear sm1y hwm1y
                 have bl : wb.heap.size ≤ wm0x.heap.size := km0x.size
                 have km1y := km0x.trans (bm1y.mono km0x.size)
                 have cm1y : wm1y.rangeAt bi 0 (inL i) ∧ wm1y.rangeAt bo 0 (balL op sb sr) := ⟨(BI.out.below km1y).range, lm1y.bx.range⟩
                 refine hK.out _ _ (.inr cm1y) ?_
                 clear hK K'
                 try simp only [pt]
                 refine AnyTill.on 6 fun K' hK => ?_
                 go_simp
                 have cm := pmk_no lm1y.t lm1y.l (HP.out.below km1y) IV.out VL.out OK.out lm1y.ba.at' HNO.out
                 (go_at_call 10; (refine (cm).mono ?_); rintro e wm5 ⟨rfl, bm5⟩)
                 have lm5 := lm1y.below bm5
                 have xm5 := xm1y.below bm5
                 have km5 := km1y.trans (bm5.mono km1y.size)
                 have cm5 : wm5.rangeAt bi 0 (inL i) ∧ wm5.rangeAt bo 0 (balL op sb sr) := ⟨(BI.out.below km5).range, lm5.bx.range⟩
                 refine hK.out _ _ (.inr cm5) ?_
                 clear hK K'
                 try simp only [pt]
                 refine AnyTill.tk 7 cm5 ?_
                 refine AnyTill.tk 8 cm5 ?_
                 refine AnyTill.tk 9 cm5 ?_
                 refine AnyTill.tk 10 cm5 ?_
                 refine AnyTill.on 12 fun K' hK => ?_
                 rw [if_pos (by rfl)]
                 refine wp_store_row 42 (.tmp 12) (.tmp 106) rfl wm0x.heap.size pv0L.toArray rfl rfl _ _ xm5.at' pv0_size rfl (one_all pv0L_one) ?_
                 obtain ⟨bx, sx⟩ := xm5.set lm5.fin pv0L
                 have lx := lm5.other sx
                 have kx := below_setRow km5 (g := wm0x.heap.size) bl pv0L.toArray
                 have cx : (wm5.setRow wm0x.heap.size pv0L.toArray).rangeAt bi 0 (inL i) ∧ (wm5.setRow wm0x.heap.size pv0L.toArray).rangeAt bo 0 (balL op sb sr) := ⟨(BI.out.below kx).range, lx.bx.range⟩
                 refine hK.out _ _ (.inr cx) ?_
                 clear hK K'
                 try simp only [pt]
                 refine AnyTill.tk 13 cx ?_
                 refine AnyTill.tk 14 cx ?_
                 refine AnyTill.done (by kernel_rfl) ?_ _
                 refine NoPanic.normal ?_
                 go_wp2
                 go_meet
                 exact ⟨_, rfl, kx, .inl ⟨_, he0, rfl, rfl⟩⟩
             case m0y =>
               go_simp
               have bm0y := (Below.refl wd.heap.size wd).alloc (Nat.le_refl _) (.cells zl41.toArray 42)
               have sm0y := Step.made (t := 6) hl0.fin hl0.low.size (.cells zl41.toArray 42)
               have lm0y := hl0.other (sm0y 6)
               have xm0y : Box (wd.alloc (.cells zl41.toArray 42)) (mark O' 6 wd.heap.size) 6 wd.heap.size 42 zl41 := ⟨heap_alloc_last wd _, mark_at _ _ _⟩
               obtain ⟨wm0y, hwm0y⟩ : ∃ v, wd.alloc (.cells zl41.toArray 42) = v := ⟨_, rfl⟩
               rw [hwm0y] at bm0y lm0y xm0y
               rw [hwm0y]
               clear sm0y hwm0y
               have bl : wb.heap.size ≤ wd.heap.size := kd.size
               have km0y := kd.trans (bm0y.mono kd.size)
               have cm0y : wm0y.rangeAt bi 0 (inL i) ∧ wm0y.rangeAt bo 0 (balL op sb sr) := ⟨(BI.out.below km0y).range, lm0y.bx.range⟩
               refine hK.out _ _ (.inr cm0y) ?_
               clear hK K'
               try simp only [pt]
               refine AnyTill.on 2 fun K' hK => ?_
               go_simp
               (go_at_call 21; (refine (linp _ _).mono ?_); rintro e wm8 ⟨rfl, bm8⟩)
               have lm8 := lm0y.below bm8
               have xm8 := xm0y.below bm8
               have km8 := km0y.trans (bm8.mono km0y.size)
               have cm8 : wm8.rangeAt bi 0 (inL i) ∧ wm8.rangeAt bo 0 (balL op sb sr) := ⟨(BI.out.below km8).range, lm8.bx.range⟩
               refine hK.out _ _ (.inr cm8) ?_
               clear hK K'
               try simp only [pt]
               refine AnyTill.on 6 fun K' hK => ?_
               go_simp
               have cm := pmk_no lm8.t lm8.l (HP.out.below km8) IV.out VL.out OK.out lm8.ba.at' HNO.out
               (go_at_call 10; (refine (cm).mono ?_); rintro e wm9 ⟨rfl, bm9⟩)
               have lm9 := lm8.below bm9
               have xm9 := xm8.below bm9
               have km9 := km8.trans (bm9.mono km8.size)
               have cm9 : wm9.rangeAt bi 0 (inL i) ∧ wm9.rangeAt bo 0 (balL op sb sr) := ⟨(BI.out.below km9).range, lm9.bx.range⟩
               refine hK.out _ _ (.inr cm9) ?_
               clear hK K'
               try simp only [pt]
               refine AnyTill.tk 7 cm9 ?_
               refine AnyTill.tk 8 cm9 ?_
               refine AnyTill.tk 9 cm9 ?_
               refine AnyTill.tk 10 cm9 ?_
               refine AnyTill.on 12 fun K' hK => ?_
               rw [if_pos (by rfl)]
               refine wp_store_row 42 (.tmp 12) (.tmp 106) rfl wd.heap.size pv0L.toArray rfl rfl _ _ xm9.at' pv0_size rfl (one_all pv0L_one) ?_
               obtain ⟨bx, sx⟩ := xm9.set lm9.fin pv0L
               have lx := lm9.other sx
               have kx := below_setRow km9 (g := wd.heap.size) bl pv0L.toArray
               have cx : (wm9.setRow wd.heap.size pv0L.toArray).rangeAt bi 0 (inL i) ∧ (wm9.setRow wd.heap.size pv0L.toArray).rangeAt bo 0 (balL op sb sr) := ⟨(BI.out.below kx).range, lx.bx.range⟩
               refine hK.out _ _ (.inr cx) ?_
               clear hK K'
               try simp only [pt]
               refine AnyTill.tk 13 cx ?_
               refine AnyTill.tk 14 cx ?_
               refine AnyTill.done (by kernel_rfl) ?_ _
               refine NoPanic.normal ?_
               go_wp2
               go_meet
               exact ⟨_, rfl, kx, .inl ⟨_, he0, rfl, rfl⟩⟩
         · have HV := Lib.hid hv
           have FT := Lib.hid ft
           clear hv ft HC
           as_aux_lemma =>
             refine wp_region_noPanic ?_
             refine AnyTill.begin (C := fun w' => w'.rangeAt bi 0 (inL i) ∧ w'.rangeAt bo 0 (balL op sb sr)) (q := 99) (by kernel_rfl) ?_
             obtain ⟨wd, hwd⟩ : ∃ wd, wb.drew = wd := ⟨_, rfl⟩
             have kd : Below wb.heap.size wb wd := by rw [← hwd]; exact below_drew wb
             rw [hwd]
             have hl0 := HL.out.below kd
             have scd : wd.rangeAt bi 0 (inL i) ∧ wd.rangeAt bo 0 (balL op sb sr) := ⟨(BI.out.below kd).range, hl0.bx.range⟩
             refine AnyTill.tk 0 scd ?_
             refine AnyTill.tv (i := 1) (v := .agg (inL i).toArray) (hy := (yieldsIf_load_mid (by rfl) 66 (.tmp 10) rfl bi 0 rfl (inL i) _ (fun _ h => h.1) Tryz.underlying66 rfl (in_size _))) (hC := scd) (h := ?_)
             refine AnyTill.tv (i := 3) (v := .agg (balL op sb sr).toArray) (hy := (yieldsIf_load_mid (by rfl) 35 (.tmp 6) rfl bo 0 rfl (balL op sb sr) _ (fun _ h => h.2) Tryz.underlying35 rfl (bal_size _ _ _))) (hC := scd) (h := ?_)
             refine AnyTill.tk 4 scd ?_
             refine AnyTill.tk 5 scd ?_
             refine' AnyTill.two (i := 2) (k := 11) (o := _) (o' := _) (by kernel_rfl) ?m12a ?m12b (fun K' hK => ?m12x) (fun K' hK => ?m12y)
             case m12a => (simp only [List.getElem?_toArray, List.getElem?_cons_succ, List.getElem?_cons_zero]; rfl)
             case m12b => (simp only [List.getElem?_toArray, List.getElem?_cons_succ, List.getElem?_cons_zero]; rfl)
             case m12x =>
               go_simp
               (go_at_call 21; (refine (linp _ _).mono ?_); rintro e wm12x ⟨rfl, bm12x⟩)
               have lm12x := hl0.below bm12x
               have km12x := kd.trans (bm12x.mono kd.size)
               have cm12x : wm12x.rangeAt bi 0 (inL i) ∧ wm12x.rangeAt bo 0 (balL op sb sr) := ⟨(BI.out.below km12x).range, lm12x.bx.range⟩
               refine hK.out _ _ (.inr cm12x) ?_
               clear hK K'
               try simp only [pt]
               refine' AnyTill.two (i := 6) (k := 11) (o := _) (o' := _) (by kernel_rfl) ?m13a ?m13b (fun K' hK => ?m13x) (fun K' hK => ?m13y)
               case m13a => (simp only [List.getElem?_toArray, List.getElem?_cons_succ, List.getElem?_cons_zero]; rfl)
               case m13b => (simp only [List.getElem?_toArray, List.getElem?_cons_succ, List.getElem?_cons_zero]; rfl)
               case m13x =>
                 go_simp
                 have cm := pmk_ok lm12x.t lm12x.l (HP.out.below km12x) IV.out VL.out OK.out lm12x.ba.at' HV.out FT.out
                 (go_at_call 10; (refine (cm).mono ?_); rintro e wm13x ⟨lb', O2, ss, rfl, nv, pa, bm13x⟩)
                 obtain ⟨O4, lm13x, jb, jo, jf⟩ := lm12x.join bm13x nv
                 have bc := jb _ _ _ pa.cl
                 have aw := pa.ws
                 have fw := jf _ pa.ws2
                 have km13x := km12x.trans (bm13x.mono km12x.size)
                 have cm13x : wm13x.rangeAt bi 0 (inL i) ∧ wm13x.rangeAt bo 0 (balL op sb sr) := ⟨(BI.out.below km13x).range, lm13x.bx.range⟩
                 refine hK.out _ _ (.inr cm13x) ?_
                 clear hK K'
                 try simp only [pt]
                 refine AnyTill.tk 7 cm13x ?_
                 refine AnyTill.tk 8 cm13x ?_
                 refine AnyTill.tk 9 cm13x ?_
                 refine AnyTill.tk 10 cm13x ?_
                 refine AnyTill.on 11 fun K' hK => ?_
                 go_simp
                 have bm14 := (Below.refl wm13x.heap.size wm13x).alloc (Nat.le_refl _) (.cells zl41.toArray 42)
                 have sm14 := Step.made (t := 6) lm13x.fin lm13x.low.size (.cells zl41.toArray 42)
                 have lm14 := lm13x.other (sm14 6)
                 have xm14 : Box (wm13x.alloc (.cells zl41.toArray 42)) (mark O4 6 wm13x.heap.size) 6 wm13x.heap.size 42 zl41 := ⟨heap_alloc_last wm13x _, mark_at _ _ _⟩
                 have bcm14 := bc.step (sm14 6) (by decide)
                 have awm14 := aw.below bm14
                 have fwm14 := fw.step (sm14 6)
                 obtain ⟨wm14, hwm14⟩ : ∃ v, wm13x.alloc (.cells zl41.toArray 42) = v := ⟨_, rfl⟩
                 rw [hwm14] at bm14 lm14 xm14 bcm14 awm14 fwm14
                 rw [hwm14]
                 clear sm14 hwm14
                 have bl : wb.heap.size ≤ wm13x.heap.size := km13x.size
                 have km14 := km13x.trans (bm14.mono km13x.size)
                 have cm14 : wm14.rangeAt bi 0 (inL i) ∧ wm14.rangeAt bo 0 (balL op sb sr) := ⟨(BI.out.below km14).range, lm14.bx.range⟩
                 refine hK.out _ _ (.inr cm14) ?_
                 clear hK K'
                 try simp only [pt]
                 refine AnyTill.on 12 fun K' hK => ?_
                 rw [if_pos (by rfl)]
                 refine wp_store_row 42 (.tmp 12) (.tmp 106) rfl wm13x.heap.size (pvL i op v ss).toArray rfl rfl _ _ xm14.at' (pv_size _ _ _ _) rfl (one_all (pvL_one _ _ _ _)) ?_
                 obtain ⟨bx, sx⟩ := xm14.set lm14.fin (pvL i op v ss)
                 have lx := lm14.other sx
                 have kx := below_setRow km14 (g := wm13x.heap.size) bl (pvL i op v ss).toArray
                 have cx : (wm14.setRow wm13x.heap.size (pvL i op v ss).toArray).rangeAt bi 0 (inL i) ∧ (wm14.setRow wm13x.heap.size (pvL i op v ss).toArray).rangeAt bo 0 (balL op sb sr) := ⟨(BI.out.below kx).range, lx.bx.range⟩
                 have bcx := bcm14.step sx (by decide)
                 refine hK.out _ _ (.inr cx) ?_
                 clear hK K'
                 try simp only [pt]
                 refine AnyTill.tk 13 cx ?_
                 refine AnyTill.tk 14 cx ?_
                 refine AnyTill.done (by kernel_rfl) ?_ _
                 refine NoPanic.normal ?_
                 go_wp2
                 go_meet
                 exact ⟨_, rfl, kx, .inr ⟨v, SL', lb', _, ss, rfl, rfl, HV.out, FT.out, lx, bcx, ⟨awm14.free fwm14 sx (by decide), pa.ws1, fwm14.step sx⟩, pa.nw1, pa.vc1, bx⟩⟩
               case m13y =>
                 go_simp
                 have bm13y := (Below.refl wm12x.heap.size wm12x).alloc (Nat.le_refl _) (.cells zl41.toArray 42)
                 have sm13y := Step.made (t := 6) lm12x.fin lm12x.low.size (.cells zl41.toArray 42)
                 have lm13y := lm12x.other (sm13y 6)
                 have xm13y : Box (wm12x.alloc (.cells zl41.toArray 42)) (mark O' 6 wm12x.heap.size) 6 wm12x.heap.size 42 zl41 := ⟨heap_alloc_last wm12x _, mark_at _ _ _⟩
                 obtain ⟨wm13y, hwm13y⟩ : ∃ v, wm12x.alloc (.cells zl41.toArray 42) = v := ⟨_, rfl⟩
                 rw [hwm13y] at bm13y lm13y xm13y
                 rw [hwm13y]
                 clear sm13y hwm13y
                 have bl : wb.heap.size ≤ wm12x.heap.size := km12x.size
                 have km13y := km12x.trans (bm13y.mono km12x.size)
                 have cm13y : wm13y.rangeAt bi 0 (inL i) ∧ wm13y.rangeAt bo 0 (balL op sb sr) := ⟨(BI.out.below km13y).range, lm13y.bx.range⟩
                 refine hK.out _ _ (.inr cm13y) ?_
                 clear hK K'
                 try simp only [pt]
                 refine AnyTill.on 6 fun K' hK => ?_
                 go_simp
                 have cm := pmk_ok lm13y.t lm13y.l (HP.out.below km13y) IV.out VL.out OK.out lm13y.ba.at' HV.out FT.out
                 (go_at_call 10; (refine (cm).mono ?_); rintro e wm17 ⟨lb', O2, ss, rfl, nv, pa, bm17⟩)
                 obtain ⟨O4, lm17, jb, jo, jf⟩ := lm13y.join bm17 nv
                 have bc := jb _ _ _ pa.cl
                 have aw := pa.ws
                 have fw := jf _ pa.ws2
                 have xm17 := (xm13y.below bm17).marks (O2 := O4) (t2 := 6) (by rw [jo _ xm13y.lt]; exact xm13y.tag)
                 have km17 := km13y.trans (bm17.mono km13y.size)
                 have cm17 : wm17.rangeAt bi 0 (inL i) ∧ wm17.rangeAt bo 0 (balL op sb sr) := ⟨(BI.out.below km17).range, lm17.bx.range⟩
                 refine hK.out _ _ (.inr cm17) ?_
                 clear hK K'
                 try simp only [pt]
                 refine AnyTill.tk 7 cm17 ?_
                 refine AnyTill.tk 8 cm17 ?_
                 refine AnyTill.tk 9 cm17 ?_
                 refine AnyTill.tk 10 cm17 ?_
                 refine AnyTill.on 12 fun K' hK => ?_
                 rw [if_pos (by rfl)]
                 refine wp_store_row 42 (.tmp 12) (.tmp 106) rfl wm12x.heap.size (pvL i op v ss).toArray rfl rfl _ _ xm17.at' (pv_size _ _ _ _) rfl (one_all (pvL_one _ _ _ _)) ?_
                 obtain ⟨bx, sx⟩ := xm17.set lm17.fin (pvL i op v ss)
                 have lx := lm17.other sx
                 have kx := below_setRow km17 (g := wm12x.heap.size) bl (pvL i op v ss).toArray
                 have cx : (wm17.setRow wm12x.heap.size (pvL i op v ss).toArray).rangeAt bi 0 (inL i) ∧ (wm17.setRow wm12x.heap.size (pvL i op v ss).toArray).rangeAt bo 0 (balL op sb sr) := ⟨(BI.out.below kx).range, lx.bx.range⟩
                 have bcx := bc.step sx (by decide)
                 refine hK.out _ _ (.inr cx) ?_
                 clear hK K'
                 try simp only [pt]
                 refine AnyTill.tk 13 cx ?_
                 refine AnyTill.tk 14 cx ?_
                 refine AnyTill.done (by kernel_rfl) ?_ _
                 refine NoPanic.normal ?_
                 go_wp2
                 go_meet
                 exact ⟨_, rfl, kx, .inr ⟨v, SL', lb', _, ss, rfl, rfl, HV.out, FT.out, lx, bcx, ⟨aw.free fw sx (by decide), pa.ws1, fw.step sx⟩, pa.nw1, pa.vc1, bx⟩⟩
             case m12y =>
               go_simp
               have bm12y := (Below.refl wd.heap.size wd).alloc (Nat.le_refl _) (.cells zl41.toArray 42)
               have sm12y := Step.made (t := 6) hl0.fin hl0.low.size (.cells zl41.toArray 42)
               have lm12y := hl0.other (sm12y 6)
               have xm12y : Box (wd.alloc (.cells zl41.toArray 42)) (mark O' 6 wd.heap.size) 6 wd.heap.size 42 zl41 := ⟨heap_alloc_last wd _, mark_at _ _ _⟩
               obtain ⟨wm12y, hwm12y⟩ : ∃ v, wd.alloc (.cells zl41.toArray 42) = v := ⟨_, rfl⟩
               rw [hwm12y] at bm12y lm12y xm12y
               rw [hwm12y]
               clear sm12y hwm12y
               have bl : wb.heap.size ≤ wd.heap.size := kd.size
               have km12y := kd.trans (bm12y.mono kd.size)
               have cm12y : wm12y.rangeAt bi 0 (inL i) ∧ wm12y.rangeAt bo 0 (balL op sb sr) := ⟨(BI.out.below km12y).range, lm12y.bx.range⟩
               refine hK.out _ _ (.inr cm12y) ?_
               clear hK K'
               try simp only [pt]
               refine AnyTill.on 2 fun K' hK => ?_
               go_simp
               (go_at_call 21; (refine (linp _ _).mono ?_); rintro e wm20 ⟨rfl, bm20⟩)
               have lm20 := lm12y.below bm20
               have xm20 := xm12y.below bm20
               have km20 := km12y.trans (bm20.mono km12y.size)
               have cm20 : wm20.rangeAt bi 0 (inL i) ∧ wm20.rangeAt bo 0 (balL op sb sr) := ⟨(BI.out.below km20).range, lm20.bx.range⟩
               refine hK.out _ _ (.inr cm20) ?_
               clear hK K'
               try simp only [pt]
               refine AnyTill.on 6 fun K' hK => ?_
               go_simp
               have cm := pmk_ok lm20.t lm20.l (HP.out.below km20) IV.out VL.out OK.out lm20.ba.at' HV.out FT.out
               (go_at_call 10; (refine (cm).mono ?_); rintro e wm21 ⟨lb', O2, ss, rfl, nv, pa, bm21⟩)
               obtain ⟨O4, lm21, jb, jo, jf⟩ := lm20.join bm21 nv
               have bc := jb _ _ _ pa.cl
               have aw := pa.ws
               have fw := jf _ pa.ws2
               have xm21 := (xm20.below bm21).marks (O2 := O4) (t2 := 6) (by rw [jo _ xm20.lt]; exact xm20.tag)
               have km21 := km20.trans (bm21.mono km20.size)
               have cm21 : wm21.rangeAt bi 0 (inL i) ∧ wm21.rangeAt bo 0 (balL op sb sr) := ⟨(BI.out.below km21).range, lm21.bx.range⟩
               refine hK.out _ _ (.inr cm21) ?_
               clear hK K'
               try simp only [pt]
               refine AnyTill.tk 7 cm21 ?_
               refine AnyTill.tk 8 cm21 ?_
               refine AnyTill.tk 9 cm21 ?_
               refine AnyTill.tk 10 cm21 ?_
               refine AnyTill.on 12 fun K' hK => ?_
               rw [if_pos (by rfl)]
               refine wp_store_row 42 (.tmp 12) (.tmp 106) rfl wd.heap.size (pvL i op v ss).toArray rfl rfl _ _ xm21.at' (pv_size _ _ _ _) rfl (one_all (pvL_one _ _ _ _)) ?_
               obtain ⟨bx, sx⟩ := xm21.set lm21.fin (pvL i op v ss)
               have lx := lm21.other sx
               have kx := below_setRow km21 (g := wd.heap.size) bl (pvL i op v ss).toArray
               have cx : (wm21.setRow wd.heap.size (pvL i op v ss).toArray).rangeAt bi 0 (inL i) ∧ (wm21.setRow wd.heap.size (pvL i op v ss).toArray).rangeAt bo 0 (balL op sb sr) := ⟨(BI.out.below kx).range, lx.bx.range⟩
               have bcx := bc.step sx (by decide)
               refine hK.out _ _ (.inr cx) ?_
               clear hK K'
               try simp only [pt]
               refine AnyTill.tk 13 cx ?_
               refine AnyTill.tk 14 cx ?_
               refine AnyTill.done (by kernel_rfl) ?_ _
               refine NoPanic.normal ?_
               go_wp2
               go_meet
               exact ⟨_, rfl, kx, .inr ⟨v, SL', lb', _, ss, rfl, rfl, HV.out, FT.out, lx, bcx, ⟨aw.free fw sx (by decide), pa.ws1, fw.step sx⟩, pa.nw1, pa.vc1, bx⟩⟩
       case rest => as_aux_lemma =>
         obtain ⟨bp, rfl, kx, hout⟩ := hcut
         rcases hout with ⟨e, he0, rfl, rfl⟩ | ⟨v, SL', lb2, O4, ss, rfl, rfl, hv, ft, hl4, bc, ⟨aw, fw1, fw⟩, nw1, vc1, bx⟩
         · have LN := Lib.hid (HL.out.below kx)
           have e0 : ¬ e = 0 := he0
           clear kx he0 HC
           go_wp2
           go_roundg (6 - (k + 1))
           case measure => have := HGK.out; omega
           case rel => exact ⟨k + 1, O', S', S0', SL, lb, op, sb, sr, nl, gl, by omega, rfl, rfl, by go_num, LN.out, OK.out, VL.out, LF.out⟩
         have HV := Lib.hid hv
         have FT := Lib.hid ft
         have L4 := Lib.hid hl4
         have BC := Lib.hid bc
         have AW := Lib.hid aw
         have X4 := Lib.hid bx
         have KX := Lib.hid kx
         clear hv ft hl4 bc aw fw kx bx HC
         go_upto_region 21 with fail
         go_cut [15, 16] (fun s15 s16 wx => ∃ X Y, s15 = ptr X ∧ s16 = ptr Y ∧ wx.heap[X]? = some (.cells (balL op ss.ob ss.or).toArray 35 (0, 0)) ∧ wx.heap[Y]? = some (.cells (balL v.cl ss.cb ss.cr).toArray 35 (0, 0)) ∧ Below wc.heap.size wc wx)
         case first => as_aux_lemma =>
           have bx4 := X4.out
           refine wp_region_noPanic ?_
           refine AnyTill.begin (C := fun w' => w'.rangeAt bp 9 (balL op ss.ob ss.or) ∧ w'.rangeAt bp 17 (balL v.cl ss.cb ss.cr)) (q := 99) (by kernel_rfl) ?_
           obtain ⟨wd, hwd⟩ : ∃ wd, wc.drew = wd := ⟨_, rfl⟩
           have kd : Below wc.heap.size wc wd := by rw [← hwd]; exact below_drew wc
           rw [hwd]
           have scd : wd.rangeAt bp 9 (balL op ss.ob ss.or) ∧ wd.rangeAt bp 17 (balL v.cl ss.cb ss.cr) := ⟨(bx4.below kd).sub (pv_open _ _ _ _), (bx4.below kd).sub (pv_close _ _ _ _)⟩
           refine AnyTill.tk 0 scd ?_
           refine AnyTill.tv (i := 1) (v := .agg (balL op ss.ob ss.or).toArray) (hy := (yieldsIf_load_mid (by rfl) 35 (.tmp 111) rfl bp 9 rfl (balL op ss.ob ss.or) _ (fun _ h => h.1) Tryz.underlying35 rfl (bal_size _ _ _))) (hC := scd) (h := ?_)
           refine AnyTill.tk 2 scd ?_
           refine AnyTill.tv (i := 3) (v := .agg (balL v.cl ss.cb ss.cr).toArray) (hy := (yieldsIf_load_mid (by rfl) 35 (.tmp 113) rfl bp 17 rfl (balL v.cl ss.cb ss.cr) _ (fun _ h => h.2) Tryz.underlying35 rfl (bal_size _ _ _))) (hC := scd) (h := ?_)
           refine' AnyTill.two (i := 4) (k := 5) (o := _) (o' := _) (by kernel_rfl) ?yya ?yyb (fun K' hK => ?yyx) (fun K' hK => ?yyy)
           case yya => (simp only [List.getElem?_toArray, List.getElem?_cons_succ, List.getElem?_cons_zero]; rfl)
           case yyb => (simp only [List.getElem?_toArray, List.getElem?_cons_succ, List.getElem?_cons_zero]; rfl)
           case yyx =>
             go_simp
             have b1p := (Below.refl wd.heap.size wd).alloc (Nat.le_refl _) (.cells #[.int .i64 0, .slice none 0 0, .slice none 0 0, .int .i64 0, .int .i64 0, .int .i64 0, .int .i64 0, .int .i64 0] 35)
             have g1p := heap_alloc_last wd (.cells #[.int .i64 0, .slice none 0 0, .slice none 0 0, .int .i64 0, .int .i64 0, .int .i64 0, .int .i64 0, .int .i64 0] 35)
             have z1p : wd.heap.size < (wd.alloc (.cells #[.int .i64 0, .slice none 0 0, .slice none 0 0, .int .i64 0, .int .i64 0, .int .i64 0, .int .i64 0, .int .i64 0] 35)).heap.size := by simp
             obtain ⟨wap, hap⟩ : ∃ v, wd.alloc (.cells #[.int .i64 0, .slice none 0 0, .slice none 0 0, .int .i64 0, .int .i64 0, .int .i64 0, .int .i64 0, .int .i64 0] 35) = v := ⟨_, rfl⟩
             rw [hap] at b1p g1p z1p
             rw [hap]
             have k1p := kd.trans (b1p.mono kd.size)
             refine hK.out _ _ (.inr ⟨(bx4.below k1p).sub (pv_open _ _ _ _), (bx4.below k1p).sub (pv_close _ _ _ _)⟩) ?_
             clear hK K'
             try simp only [pt]
             refine AnyTill.on 5 fun K' hK => ?_
             go_simp
             have b2p := (Below.refl wap.heap.size wap).alloc (Nat.le_refl _) (.cells #[.int .i64 0, .slice none 0 0, .slice none 0 0, .int .i64 0, .int .i64 0, .int .i64 0, .int .i64 0, .int .i64 0] 35)
             have g2p := heap_alloc_last wap (.cells #[.int .i64 0, .slice none 0 0, .slice none 0 0, .int .i64 0, .int .i64 0, .int .i64 0, .int .i64 0, .int .i64 0] 35)
             have g1'p := (b2p.block _ z1p).trans g1p
             obtain ⟨wbp, hbp⟩ : ∃ v, wap.alloc (.cells #[.int .i64 0, .slice none 0 0, .slice none 0 0, .int .i64 0, .int .i64 0, .int .i64 0, .int .i64 0, .int .i64 0] 35) = v := ⟨_, rfl⟩
             rw [hbp] at b2p g2p g1'p
             rw [hbp]
             have k2p := k1p.trans (b2p.mono k1p.size)
             obtain ⟨X, hXp⟩ : ∃ q, wd.heap.size = q := ⟨_, rfl⟩
             obtain ⟨Y, hYp⟩ : ∃ q, wap.heap.size = q := ⟨_, rfl⟩
             have lx : wc.heap.size ≤ X := by have := kd.size; have := k1p.size; omega
             have ly : wc.heap.size ≤ Y := by have := kd.size; have := k1p.size; omega
             have nxy : X ≠ Y := by omega
             rw [hXp] at g1'p
             rw [hYp] at g2p
             rw [hXp, hYp]
             refine hK.out _ _ (.inr ⟨(bx4.below k2p).sub (pv_open _ _ _ _), (bx4.below k2p).sub (pv_close _ _ _ _)⟩) ?_
             clear hK K'
             try simp only [pt]
             refine AnyTill.on 6 fun K' hK => ?_
             rw [if_pos (by rfl)]
             refine wp_store_row 35 (.tmp 15) (.tmp 112) rfl X (balL op ss.ob ss.or).toArray rfl rfl _ _ g1'p (bal_size _ _ _) rfl (bal_one _ _ _) ?_
             have k3p := below_setRow k2p lx (balL op ss.ob ss.or).toArray
             have gxp := setRow_heap _ X _ (balL op ss.ob ss.or).toArray _ _ g1'p
             have gyp := (setRow_other wbp X Y (balL op ss.ob ss.or).toArray (fun e => nxy e.symm)).trans g2p
             refine hK.out _ _ (.inr ⟨(bx4.below k3p).sub (pv_open _ _ _ _), (bx4.below k3p).sub (pv_close _ _ _ _)⟩) ?_
             clear hK K'
             try simp only [pt]
             refine AnyTill.on 7 fun K' hK => ?_
             rw [if_pos (by rfl)]
             refine wp_store_row 35 (.tmp 16) (.tmp 114) rfl Y (balL v.cl ss.cb ss.cr).toArray rfl rfl _ _ gyp (bal_size _ _ _) rfl (bal_one _ _ _) ?_
             have k4p := below_setRow k3p ly (balL v.cl ss.cb ss.cr).toArray
             have hxp := (setRow_other _ Y X (balL v.cl ss.cb ss.cr).toArray nxy).trans gxp
             have hyp := setRow_heap _ Y _ (balL v.cl ss.cb ss.cr).toArray _ _ gyp
             refine hK.out _ _ (.inr ⟨(bx4.below k4p).sub (pv_open _ _ _ _), (bx4.below k4p).sub (pv_close _ _ _ _)⟩) ?_
             clear hK K'
             try simp only [pt]
             refine AnyTill.done (by kernel_rfl) ?_ _
             refine NoPanic.normal ?_
             go_wp2
             go_meet
             exact ⟨X, Y, rfl, rfl, hxp, hyp, k4p⟩
           case yyy =>
             go_simp
             have b1r := (Below.refl wd.heap.size wd).alloc (Nat.le_refl _) (.cells #[.int .i64 0, .slice none 0 0, .slice none 0 0, .int .i64 0, .int .i64 0, .int .i64 0, .int .i64 0, .int .i64 0] 35)
             have g1r := heap_alloc_last wd (.cells #[.int .i64 0, .slice none 0 0, .slice none 0 0, .int .i64 0, .int .i64 0, .int .i64 0, .int .i64 0, .int .i64 0] 35)
             have z1r : wd.heap.size < (wd.alloc (.cells #[.int .i64 0, .slice none 0 0, .slice none 0 0, .int .i64 0, .int .i64 0, .int .i64 0, .int .i64 0, .int .i64 0] 35)).heap.size := by simp
             obtain ⟨war, har⟩ : ∃ v, wd.alloc (.cells #[.int .i64 0, .slice none 0 0, .slice none 0 0, .int .i64 0, .int .i64 0, .int .i64 0, .int .i64 0, .int .i64 0] 35) = v := ⟨_, rfl⟩
             rw [har] at b1r g1r z1r
             rw [har]
             have k1r := kd.trans (b1r.mono kd.size)
             refine hK.out _ _ (.inr ⟨(bx4.below k1r).sub (pv_open _ _ _ _), (bx4.below k1r).sub (pv_close _ _ _ _)⟩) ?_
             clear hK K'
             try simp only [pt]
             refine AnyTill.on 4 fun K' hK => ?_
             go_simp
             have b2r := (Below.refl war.heap.size war).alloc (Nat.le_refl _) (.cells #[.int .i64 0, .slice none 0 0, .slice none 0 0, .int .i64 0, .int .i64 0, .int .i64 0, .int .i64 0, .int .i64 0] 35)
             have g2r := heap_alloc_last war (.cells #[.int .i64 0, .slice none 0 0, .slice none 0 0, .int .i64 0, .int .i64 0, .int .i64 0, .int .i64 0, .int .i64 0] 35)
             have g1'r := (b2r.block _ z1r).trans g1r
             obtain ⟨wbr, hbr⟩ : ∃ v, war.alloc (.cells #[.int .i64 0, .slice none 0 0, .slice none 0 0, .int .i64 0, .int .i64 0, .int .i64 0, .int .i64 0, .int .i64 0] 35) = v := ⟨_, rfl⟩
             rw [hbr] at b2r g2r g1'r
             rw [hbr]
             have k2r := k1r.trans (b2r.mono k1r.size)
             obtain ⟨Y, hYr⟩ : ∃ q, wd.heap.size = q := ⟨_, rfl⟩
             obtain ⟨X, hXr⟩ : ∃ q, war.heap.size = q := ⟨_, rfl⟩
             have lx : wc.heap.size ≤ X := by have := kd.size; have := k1r.size; omega
             have ly : wc.heap.size ≤ Y := by have := kd.size; have := k1r.size; omega
             have nxy : X ≠ Y := by omega
             rw [hYr] at g1'r
             rw [hXr] at g2r
             rw [hYr, hXr]
             refine hK.out _ _ (.inr ⟨(bx4.below k2r).sub (pv_open _ _ _ _), (bx4.below k2r).sub (pv_close _ _ _ _)⟩) ?_
             clear hK K'
             try simp only [pt]
             refine AnyTill.on 6 fun K' hK => ?_
             rw [if_pos (by rfl)]
             refine wp_store_row 35 (.tmp 15) (.tmp 112) rfl X (balL op ss.ob ss.or).toArray rfl rfl _ _ g2r (bal_size _ _ _) rfl (bal_one _ _ _) ?_
             have k3r := below_setRow k2r lx (balL op ss.ob ss.or).toArray
             have gxr := setRow_heap _ X _ (balL op ss.ob ss.or).toArray _ _ g2r
             have gyr := (setRow_other wbr X Y (balL op ss.ob ss.or).toArray (fun e => nxy e.symm)).trans g1'r
             refine hK.out _ _ (.inr ⟨(bx4.below k3r).sub (pv_open _ _ _ _), (bx4.below k3r).sub (pv_close _ _ _ _)⟩) ?_
             clear hK K'
             try simp only [pt]
             refine AnyTill.on 7 fun K' hK => ?_
             rw [if_pos (by rfl)]
             refine wp_store_row 35 (.tmp 16) (.tmp 114) rfl Y (balL v.cl ss.cb ss.cr).toArray rfl rfl _ _ gyr (bal_size _ _ _) rfl (bal_one _ _ _) ?_
             have k4r := below_setRow k3r ly (balL v.cl ss.cb ss.cr).toArray
             have hxr := (setRow_other _ Y X (balL v.cl ss.cb ss.cr).toArray nxy).trans gxr
             have hyr := setRow_heap _ Y _ (balL v.cl ss.cb ss.cr).toArray _ _ gyr
             refine hK.out _ _ (.inr ⟨(bx4.below k4r).sub (pv_open _ _ _ _), (bx4.below k4r).sub (pv_close _ _ _ _)⟩) ?_
             clear hK K'
             try simp only [pt]
             refine AnyTill.done (by kernel_rfl) ?_ _
             refine NoPanic.normal ?_
             go_wp2
             go_meet
             exact ⟨X, Y, rfl, rfl, hxr, hyr, k4r⟩
         case rest => as_aux_lemma =>
           obtain ⟨X, Y, rfl, rfl, hx, hy, kc⟩ := hcut
           have L5 := Lib.hid (L4.out.below kc)
           have X5 := X4.out.below kc
           have J5 := (BI.out.below KX.out).below kc
           have R5 := BC.out.at'.rows.below kc
           have A5 := Lib.hid (AW.out.below kc)
           have BC5 := Lib.hid (BC.out.below kc)
           have D1 := HV.out.deferred L5.out.t.inv OK.out IV.out
           have ok2 := HV.out.ok FT.out L5.out.t.inv IV.out VL.out
           have o1 := OK.out.bds
           have o2 := ok2.bds
           have OK2 := Lib.hid ok2
           obtain ⟨n2', g2', vl2, hlf⟩ := HV.out.tax.left VL.out
           have hlf' := hlf.trans HV.out.left.symm
           have VL2 := Lib.hid vl2
           have LF2 := Lib.hid hlf'
           obtain ⟨Ar, cr, g0, hcr, hcr2, gr⟩ := nowb_seen L5.out.r IV.out
           have p39 := X5.cell (j := 39) rfl
           have p40 := X5.cell (j := 40) rfl
           have p30 := X5.cell (j := 30) rfl
           have p32 : wc.cell? ⟨bp, 32, none⟩ = some (.slice ss.ws.a v.q ss.ws.c) := X5.cell (j := 32) rfl
           have PX := Lib.hid X5
           have I5 := Lib.hid J5
           have q5 : wc.cell? ⟨X, 5, none⟩ = some (.int .i64 op.tmp) := cell_of_row _ _ 5 _ _ _ hx
           have q6 : wc.cell? ⟨X, 6, none⟩ = some (.int .i64 op.ls) := cell_of_row _ _ 6 _ _ _ hx
           have q7 : wc.cell? ⟨X, 7, none⟩ = some (.int .i64 op.al) := cell_of_row _ _ 7 _ _ _ hx
           have r0 : wc.cell? ⟨Y, 0, none⟩ = some (.int .i64 v.cl.per) := cell_of_row _ _ 0 _ _ _ hy
           have r1 : wc.cell? ⟨Y, 1, none⟩ = some (.slice ss.cb.a v.cl.n ss.cb.c) := cell_of_row _ _ 1 _ _ _ hy
           have r4 : wc.cell? ⟨Y, 4, none⟩ = some (.int .i64 v.cl.left) := cell_of_row _ _ 4 _ _ _ hy
           have r5 : wc.cell? ⟨Y, 5, none⟩ = some (.int .i64 v.cl.tmp) := cell_of_row _ _ 5 _ _ _ hy
           have r6 : wc.cell? ⟨Y, 6, none⟩ = some (.int .i64 v.cl.ls) := cell_of_row _ _ 6 _ _ _ hy
           have r7 : wc.cell? ⟨Y, 7, none⟩ = some (.int .i64 v.cl.al) := cell_of_row _ _ 7 _ _ _ hy
           have j7 := J5.cell (j := 7) rfl
           have tu := HV.out.arg.2.2
           have ft8 := FT.out.2.2 8 (by omega)
           have etx : finU i op v 8 = v.x.tax + v.df + i.tu := HV.out.tt
           rw [etx] at ft8
           have ft7 : Mon v.df := FT.out.2.2 7 (by omega)
           have ft3 : Mon (v.x.tax + i.tu) := FT.out.2.2 3 (by omega)
           rw [D1] at ft8 ft7
           rw [HV.out.tt, D1] at p40
           rw [D1] at p39
           rw [HV.out.per, IP.out] at r0
           rw [HV.out.cn] at r1 R5
           rw [HV.out.cg] at R5
           have CS := Lib.hid fun v5 (z : Below wc.heap.size wc v5) => bsame_true ss.cb.a Ar m' ss.cb.c cr g g v5 (R5.below z) (gr.below z) (by have := IV.out.le; omega) (fun _ _ => rfl)
           have CL := Lib.hid fun v5 (z : Below wc.heap.size wc v5) => pvleft (L5.out.l.below z) vl2.is
           rw [hlf'] at CL
           unfold Mon at ft8 ft7 ft3 tu
           have w1 : IntKind.i64.wrap (op.tmp + op.ls) = op.tmp + op.ls := IntWalk.i64_in _ (by omega)
           have w2 : IntKind.i64.wrap (op.tmp + op.ls + op.al) = op.tmp + op.ls + op.al := IntWalk.i64_in _ (by omega)
           have w3 : IntKind.i64.wrap (op.tmp + op.ls + op.al - v.cl.tmp) = op.tmp + op.ls + op.al - v.cl.tmp := IntWalk.i64_in _ (by omega)
           have w4 : IntKind.i64.wrap (op.tmp + op.ls + op.al - v.cl.tmp - v.cl.ls) = op.tmp + op.ls + op.al - v.cl.tmp - v.cl.ls := IntWalk.i64_in _ (by omega)
           have w5 : IntKind.i64.wrap (op.tmp + op.ls + op.al - v.cl.tmp - v.cl.ls - v.cl.al) = op.tmp + op.ls + op.al - v.cl.tmp - v.cl.ls - v.cl.al := IntWalk.i64_in _ (by omega)
           have w6 : IntKind.i64.wrap (v.x.tax + (op.tmp + op.ls + op.al - v.cl.tmp - v.cl.ls - v.cl.al)) = v.x.tax + (op.tmp + op.ls + op.al - v.cl.tmp - v.cl.ls - v.cl.al) := IntWalk.i64_in _ (by omega)
           have w7 : IntKind.i64.wrap (v.x.tax + (op.tmp + op.ls + op.al - v.cl.tmp - v.cl.ls - v.cl.al) + i.tu) = v.x.tax + (op.tmp + op.ls + op.al - v.cl.tmp - v.cl.ls - v.cl.al) + i.tu := IntWalk.i64_in _ (by omega)
           have w8 : IntKind.i64.wrap (-v.cl.ls) = -v.cl.ls := IntWalk.i64_in _ (by omega)
           have d1 : decide (0 < v.cl.al) = false := decide_eq_false (by omega)
           have d2 : decide (v.cl.ls < 0) = false := decide_eq_false (by omega)
           have d3 : decide (v.cl.al < -v.cl.ls) = false := decide_eq_false (by omega)
           have K5 := Lib.hid kc
           have HX5 := Lib.hid hx
           have HY5 := Lib.hid hy
           have P32 := Lib.hid p32
           clear X5 J5 R5 D1 ok2 o1 o2 vl2 hlf hlf' hcr hcr2 gr tu ft8 etx ft7 ft3 kc hx hy p32 L4 X4 BI KX AW BC
           go_upto_region 22 with fail
           go_cut [194] (fun s194 wx => s194 = .bool false ∧ Below wc.heap.size wc wx)
           case first => as_aux_lemma =>
             refine wp_region_noPanic ?_
             refine AnyTill.begin (C := fun w' => w'.cell? ⟨bp, 39, none⟩ = some (.int .i64 (op.tmp + op.ls + op.al - v.cl.tmp - v.cl.ls - v.cl.al)) ∧ w'.cell? ⟨bp, 40, none⟩ = some (.int .i64 (v.x.tax + (op.tmp + op.ls + op.al - v.cl.tmp - v.cl.ls - v.cl.al) + i.tu)) ∧ w'.cell? ⟨bp, 30, none⟩ = some (.int .i64 v.x.tax) ∧ w'.cell? ⟨X, 5, none⟩ = some (.int .i64 op.tmp) ∧ w'.cell? ⟨X, 6, none⟩ = some (.int .i64 op.ls) ∧ w'.cell? ⟨X, 7, none⟩ = some (.int .i64 op.al) ∧ w'.cell? ⟨Y, 0, none⟩ = some (.int .i64 k) ∧ w'.cell? ⟨Y, 1, none⟩ = some (.slice ss.cb.a m' ss.cb.c) ∧ w'.cell? ⟨Y, 4, none⟩ = some (.int .i64 v.cl.left) ∧ w'.cell? ⟨Y, 5, none⟩ = some (.int .i64 v.cl.tmp) ∧ w'.cell? ⟨Y, 6, none⟩ = some (.int .i64 v.cl.ls) ∧ w'.cell? ⟨Y, 7, none⟩ = some (.int .i64 v.cl.al) ∧ w'.cell? ⟨bi, 7, none⟩ = some (.int .i64 i.tu) ∧ w'.cell? ⟨rg, 0, none⟩ = some (.slice Ar m' cr)) (q := 99) (by kernel_rfl) ?_
             obtain ⟨wd, hwd⟩ : ∃ wd, wc.drew = wd := ⟨_, rfl⟩
             have kd : Below wc.heap.size wc wd := by rw [← hwd]; exact below_drew wc
             rw [hwd]
             have scd : wd.cell? ⟨bp, 39, none⟩ = some (.int .i64 (op.tmp + op.ls + op.al - v.cl.tmp - v.cl.ls - v.cl.al)) ∧ wd.cell? ⟨bp, 40, none⟩ = some (.int .i64 (v.x.tax + (op.tmp + op.ls + op.al - v.cl.tmp - v.cl.ls - v.cl.al) + i.tu)) ∧ wd.cell? ⟨bp, 30, none⟩ = some (.int .i64 v.x.tax) ∧ wd.cell? ⟨X, 5, none⟩ = some (.int .i64 op.tmp) ∧ wd.cell? ⟨X, 6, none⟩ = some (.int .i64 op.ls) ∧ wd.cell? ⟨X, 7, none⟩ = some (.int .i64 op.al) ∧ wd.cell? ⟨Y, 0, none⟩ = some (.int .i64 k) ∧ wd.cell? ⟨Y, 1, none⟩ = some (.slice ss.cb.a m' ss.cb.c) ∧ wd.cell? ⟨Y, 4, none⟩ = some (.int .i64 v.cl.left) ∧ wd.cell? ⟨Y, 5, none⟩ = some (.int .i64 v.cl.tmp) ∧ wd.cell? ⟨Y, 6, none⟩ = some (.int .i64 v.cl.ls) ∧ wd.cell? ⟨Y, 7, none⟩ = some (.int .i64 v.cl.al) ∧ wd.cell? ⟨bi, 7, none⟩ = some (.int .i64 i.tu) ∧ wd.cell? ⟨rg, 0, none⟩ = some (.slice Ar m' cr) := ⟨cell_keep p39 kd, cell_keep p40 kd, cell_keep p30 kd, cell_keep q5 kd, cell_keep q6 kd, cell_keep q7 kd, cell_keep r0 kd, cell_keep r1 kd, cell_keep r4 kd, cell_keep r5 kd, cell_keep r6 kd, cell_keep r7 kd, cell_keep j7 kd, cell_keep g0 kd⟩
             clear p39 p40 p30 q5 q6 q7 r0 r1 r4 r5 r6 r7 j7 g0
             refine AnyTill.tk 0 scd ?_
             refine AnyTill.tk 1 scd ?_
             refine AnyTill.tk 2 scd ?_
             refine AnyTill.tk 3 scd ?_
             refine AnyTill.tk 4 scd ?_
             refine AnyTill.tk 5 scd ?_
             refine AnyTill.tk 6 scd ?_
             refine AnyTill.tk 7 scd ?_
             refine AnyTill.tk 8 scd ?_
             refine AnyTill.tk 9 scd ?_
             refine AnyTill.tk 10 scd ?_
             refine AnyTill.tk 11 scd ?_
             refine AnyTill.tk 12 scd ?_
             refine AnyTill.tk 13 scd ?_
             refine AnyTill.tk 14 scd ?_
             refine AnyTill.tk 15 scd ?_
             refine AnyTill.tk 16 scd ?_
             refine AnyTill.tk 17 scd ?_
             refine AnyTill.tk 18 scd ?_
             refine AnyTill.tk 19 scd ?_
             refine AnyTill.tk 20 scd ?_
             refine AnyTill.tk 21 scd ?_
             refine AnyTill.tk 22 scd ?_
             refine AnyTill.tk 23 scd ?_
             refine AnyTill.tk 24 scd ?_
             refine AnyTill.tk 25 scd ?_
             refine AnyTill.tk 26 scd ?_
             refine AnyTill.tk 27 scd ?_
             refine AnyTill.tk 28 scd ?_
             refine AnyTill.tk 29 scd ?_
             refine AnyTill.tk 30 scd ?_
             refine AnyTill.tk 31 scd ?_
             refine AnyTill.tk 32 scd ?_
             refine AnyTill.tk 33 scd ?_
             refine AnyTill.tk 34 scd ?_
             refine AnyTill.tk 35 scd ?_
             refine AnyTill.tk 36 scd ?_
             refine AnyTill.tk 37 scd ?_
             refine AnyTill.tk 38 scd ?_
             refine AnyTill.tk 39 scd ?_
             refine AnyTill.tk 40 scd ?_
             refine AnyTill.tk 41 scd ?_
             refine AnyTill.tk 42 scd ?_
             refine AnyTill.on 43 fun K' hK => ?_
             go_simp
             (go_at_call 29; (refine (CL.out _ kd).mono ?_); rintro e wl ⟨rfl, hbl⟩)
             have scl : wl.cell? ⟨bp, 39, none⟩ = some (.int .i64 (op.tmp + op.ls + op.al - v.cl.tmp - v.cl.ls - v.cl.al)) ∧ wl.cell? ⟨bp, 40, none⟩ = some (.int .i64 (v.x.tax + (op.tmp + op.ls + op.al - v.cl.tmp - v.cl.ls - v.cl.al) + i.tu)) ∧ wl.cell? ⟨bp, 30, none⟩ = some (.int .i64 v.x.tax) ∧ wl.cell? ⟨X, 5, none⟩ = some (.int .i64 op.tmp) ∧ wl.cell? ⟨X, 6, none⟩ = some (.int .i64 op.ls) ∧ wl.cell? ⟨X, 7, none⟩ = some (.int .i64 op.al) ∧ wl.cell? ⟨Y, 0, none⟩ = some (.int .i64 k) ∧ wl.cell? ⟨Y, 1, none⟩ = some (.slice ss.cb.a m' ss.cb.c) ∧ wl.cell? ⟨Y, 4, none⟩ = some (.int .i64 v.cl.left) ∧ wl.cell? ⟨Y, 5, none⟩ = some (.int .i64 v.cl.tmp) ∧ wl.cell? ⟨Y, 6, none⟩ = some (.int .i64 v.cl.ls) ∧ wl.cell? ⟨Y, 7, none⟩ = some (.int .i64 v.cl.al) ∧ wl.cell? ⟨bi, 7, none⟩ = some (.int .i64 i.tu) ∧ wl.cell? ⟨rg, 0, none⟩ = some (.slice Ar m' cr) := ⟨cell_keep scd.1 hbl, cell_keep scd.2.1 hbl, cell_keep scd.2.2.1 hbl, cell_keep scd.2.2.2.1 hbl, cell_keep scd.2.2.2.2.1 hbl, cell_keep scd.2.2.2.2.2.1 hbl, cell_keep scd.2.2.2.2.2.2.1 hbl, cell_keep scd.2.2.2.2.2.2.2.1 hbl, cell_keep scd.2.2.2.2.2.2.2.2.1 hbl, cell_keep scd.2.2.2.2.2.2.2.2.2.1 hbl, cell_keep scd.2.2.2.2.2.2.2.2.2.2.1 hbl, cell_keep scd.2.2.2.2.2.2.2.2.2.2.2.1 hbl, cell_keep scd.2.2.2.2.2.2.2.2.2.2.2.2.1 hbl, cell_keep scd.2.2.2.2.2.2.2.2.2.2.2.2.2 hbl⟩
             have kl := kd.trans (hbl.mono kd.size)
             refine hK.out _ _ (.inr scl) ?_
             clear hK K' scd
             try simp only [pt]
             refine AnyTill.tk 44 scl ?_
             refine AnyTill.tk 45 scl ?_
             refine AnyTill.tk 46 scl ?_
             refine AnyTill.tk 47 scl ?_
             refine AnyTill.tk 48 scl ?_
             refine AnyTill.tk 49 scl ?_
             refine AnyTill.tk 50 scl ?_
             refine AnyTill.tk 51 scl ?_
             refine AnyTill.tk 52 scl ?_
             refine AnyTill.tk 53 scl ?_
             refine AnyTill.tk 54 scl ?_
             refine AnyTill.tk 55 scl ?_
             refine AnyTill.tk 56 scl ?_
             refine AnyTill.tk 57 scl ?_
             refine AnyTill.tk 58 scl ?_
             refine AnyTill.on 59 fun K' hK => ?_
             go_simp
             (go_at_call 24; (refine (CS.out _ kl).mono ?_); rintro e wm ⟨rfl, hbm⟩)
             have scm : wm.cell? ⟨bp, 39, none⟩ = some (.int .i64 (op.tmp + op.ls + op.al - v.cl.tmp - v.cl.ls - v.cl.al)) ∧ wm.cell? ⟨bp, 40, none⟩ = some (.int .i64 (v.x.tax + (op.tmp + op.ls + op.al - v.cl.tmp - v.cl.ls - v.cl.al) + i.tu)) ∧ wm.cell? ⟨bp, 30, none⟩ = some (.int .i64 v.x.tax) ∧ wm.cell? ⟨X, 5, none⟩ = some (.int .i64 op.tmp) ∧ wm.cell? ⟨X, 6, none⟩ = some (.int .i64 op.ls) ∧ wm.cell? ⟨X, 7, none⟩ = some (.int .i64 op.al) ∧ wm.cell? ⟨Y, 0, none⟩ = some (.int .i64 k) ∧ wm.cell? ⟨Y, 1, none⟩ = some (.slice ss.cb.a m' ss.cb.c) ∧ wm.cell? ⟨Y, 4, none⟩ = some (.int .i64 v.cl.left) ∧ wm.cell? ⟨Y, 5, none⟩ = some (.int .i64 v.cl.tmp) ∧ wm.cell? ⟨Y, 6, none⟩ = some (.int .i64 v.cl.ls) ∧ wm.cell? ⟨Y, 7, none⟩ = some (.int .i64 v.cl.al) ∧ wm.cell? ⟨bi, 7, none⟩ = some (.int .i64 i.tu) ∧ wm.cell? ⟨rg, 0, none⟩ = some (.slice Ar m' cr) := ⟨cell_keep scl.1 hbm, cell_keep scl.2.1 hbm, cell_keep scl.2.2.1 hbm, cell_keep scl.2.2.2.1 hbm, cell_keep scl.2.2.2.2.1 hbm, cell_keep scl.2.2.2.2.2.1 hbm, cell_keep scl.2.2.2.2.2.2.1 hbm, cell_keep scl.2.2.2.2.2.2.2.1 hbm, cell_keep scl.2.2.2.2.2.2.2.2.1 hbm, cell_keep scl.2.2.2.2.2.2.2.2.2.1 hbm, cell_keep scl.2.2.2.2.2.2.2.2.2.2.1 hbm, cell_keep scl.2.2.2.2.2.2.2.2.2.2.2.1 hbm, cell_keep scl.2.2.2.2.2.2.2.2.2.2.2.2.1 hbm, cell_keep scl.2.2.2.2.2.2.2.2.2.2.2.2.2 hbm⟩
             have km := kl.trans (hbm.mono kl.size)
             refine hK.out _ _ (.inr scm) ?_
             clear hK K' scl
             try simp only [pt]
             refine AnyTill.tk 60 scm ?_
             refine AnyTill.tk 61 scm ?_
             refine AnyTill.tk 62 scm ?_
             refine AnyTill.tk 63 scm ?_
             refine AnyTill.tk 64 scm ?_
             refine AnyTill.tk 65 scm ?_
             refine AnyTill.tk 66 scm ?_
             refine AnyTill.tk 67 scm ?_
             refine AnyTill.tk 68 scm ?_
             refine AnyTill.tk 69 scm ?_
             refine AnyTill.tk 70 scm ?_
             refine AnyTill.tk 71 scm ?_
             refine AnyTill.tk 72 scm ?_
             refine AnyTill.tk 73 scm ?_
             refine AnyTill.tk 74 scm ?_
             refine AnyTill.tk 75 scm ?_
             refine AnyTill.tk 76 scm ?_
             refine AnyTill.tk 77 scm ?_
             refine AnyTill.tk 78 scm ?_
             refine AnyTill.tk 79 scm ?_
             refine AnyTill.done (by kernel_rfl) ?_ _
             refine NoPanic.normal ?_
             go_wp2
             go_meet
             exact ⟨rfl, km⟩
           case rest => as_aux_lemma =>
             obtain ⟨rfl, kq⟩ := hcut
             have L6 := Lib.hid (L5.out.below kq)
             have p32 := cell_keep P32.out kq
             have a6 := A5.out.below kq
             obtain ⟨Aw, hAw⟩ : ∃ A, ss.ws.a = A := ⟨_, rfl⟩
             rw [hAw] at a6 p32
             have A6 := Lib.hid a6
             clear a6 hAw
             have KQ := Lib.hid kq
             have fq := HV.out.way.le
             have mvb := Lib.hid fun j (hj : j < v.q) => (show -200000000000 ≤ (v.f j).m ∧ (v.f j).m ≤ 200000000000 by
               rw [HV.out.way.mv_at hj]
               have h1 := IV.out.mon (v.f j).c (v.f j).y
               have h2 := OK.out.iv.mon (v.f j).c (v.f j).y
               unfold Mon at h1 h2
               omega)
             clear p39 p40 p30 q5 q6 q7 r0 r1 r4 r5 r6 r7 j7 g0 w1 w2 w3 w4 w5 w6 w7 w8 d1 d2 d3 kq CS CL
             go_upto_block 4 with fail
             go_cut [17] (fun s17 wx => s17 = .int .i64 (tot (fun j => (v.f j).m) v.q) ∧ Below wc.heap.size wc wx)
             case first => as_aux_lemma =>
               go_wp2
               go_loopg [17, 198] v.q (fun gh s17 s198 wx => ∃ j : Nat, j ≤ v.q ∧ gh = v.q - j ∧ s198 = .int .i64 j ∧ s17 = .int .i64 (tot (fun j => (v.f j).m) j) ∧ Below wc.heap.size wc wx)
               case atStart => exact ⟨0, Nat.zero_le _, rfl, rfl, rfl, Below.refl _ _⟩
               case round =>
                 obtain ⟨j, hj, hgj, rfl, rfl, hbx⟩ := hrel
                 have HGJ := Lib.hid hgj
                 have KB := Lib.hid hbx
                 have tb := tot_wide (fun j => (v.f j).m) 200000000000 j (fun i hi => mvb.out i (by omega))
                 have tb1 : -200000000000 * 900 ≤ tot (fun j => (v.f j).m) j ∧ tot (fun j => (v.f j).m) j ≤ 200000000000 * 900 := by omega
                 obtain ⟨T, hT⟩ : ∃ T, tot (fun j => (v.f j).m) j = T := ⟨_, rfl⟩
                 rw [hT] at tb1
                 have HT := Lib.hid hT
                 rw [hT]
                 clear hgj hbx tb hT
                 by_cases hlt : j < v.q
                 · obtain ⟨b5, o5, rfl, hb5, c0, c1, c2, c3, c4⟩ := (A6.out.below KB.out).five hlt
                   have mj := mvb.out j hlt
                   have et : tot (fun j => (v.f j).m) (j + 1) = tot (fun j => (v.f j).m) j + (v.f j).m := rfl
                   obtain ⟨x0, hx0⟩ : ∃ x, (v.f j).c = x := ⟨_, rfl⟩
                   obtain ⟨x1, hx1⟩ : ∃ x, (v.f j).y = x := ⟨_, rfl⟩
                   obtain ⟨x2, hx2⟩ : ∃ x, (v.f j).o = x := ⟨_, rfl⟩
                   obtain ⟨x3, hx3⟩ : ∃ x, (v.f j).m = x := ⟨_, rfl⟩
                   obtain ⟨x4, hx4⟩ : ∃ x, (v.f j).k = x := ⟨_, rfl⟩
                   rw [hx0] at c0
                   rw [hx1] at c1
                   rw [hx2] at c2
                   rw [hx3] at c3 mj et
                   rw [hx4] at c4
                   rw [HT.out] at et
                   have ET := Lib.hid et
                   have j0 : (0 : Int) ≤ (j : Int) := by omega
                   have j1 : (j : Int) < (v.q : Int) := by omega
                   clear et hx0 hx1 hx2 hx3 hx4
                   go_wp2
                   go_roundg (v.q - (j + 1))
                   case measure => have := HGJ.out; omega
                   case rel => exact ⟨j + 1, by omega, rfl, by go_num, by rw [ET.out], KB.out.alloc KB.out.size _⟩
                 · obtain rfl : j = v.q := by omega
                   clear hlt
                   go_wp2
                   go_meet
                   exact ⟨by rw [HT.out], KB.out⟩
             case rest => as_aux_lemma =>
               obtain ⟨rfl, kz⟩ := hcut
               have kk := KQ.out.trans (kz.mono KQ.out.size)
               have L7 := Lib.hid (L6.out.below kz)
               have X7 := PX.out.below kk
               have I7 := I5.out.below kk
               have B7 := Lib.hid (BC5.out.below kk)
               have ly := (Array.getElem?_eq_some_iff.1 HY5.out).1
               have y7 := (kk.block Y ly).trans HY5.out
               have Y7 := Lib.hid (row_range y7)
               have p25 := X7.cell (j := 25) rfl
               have p13 := X7.cell (j := 13) rfl
               have p26 := X7.cell (j := 26) rfl
               have p27 := X7.cell (j := 27) rfl
               have p28 := X7.cell (j := 28) rfl
               have p32 : wc.cell? ⟨bp, 32, none⟩ = some (.slice ss.ws.a v.q ss.ws.c) := X7.cell (j := 32) rfl
               have p33 : wc.cell? ⟨bp, 33, none⟩ = some (.slice ss.nw.a v.q ss.nw.c) := X7.cell (j := 33) rfl
               have j2 := I7.cell (j := 2) rfl
               have j3 := I7.cell (j := 3) rfl
               have s1' : wc.cell? ⟨Y, 1, none⟩ = some (.slice ss.cb.a v.cl.n ss.cb.c) := cell_of_row _ _ 1 _ _ _ y7
               have s2' : wc.cell? ⟨Y, 2, none⟩ = some (.slice ss.cr.a v.cl.n ss.cr.c) := cell_of_row _ _ 2 _ _ _ y7
               have s4' : wc.cell? ⟨Y, 4, none⟩ = some (.int .i64 v.cl.left) := cell_of_row _ _ 4 _ _ _ y7
               have bd := HV.out.tax.bd VL.out
               have im := inc_mon HV.out.tax.inc
               have ei : v.x.inc = i.bk + i.pm - tot (fun j => (v.f j).m) v.q := by
                 rw [im.2]
                 show i.bk + i.pm - (btot g m' - btot op.g op.n) = _
                 rw [HV.out.way.moved, IV.out.is.grid, OK.out.iv.is.grid]
               have mb := HV.out.tax.inc
               have mbk : Mon i.bk ∧ Mon i.pm := by
                 rcases mb with ⟨a, b, _⟩ | ⟨_, q, _⟩
                 · exact ⟨a, b⟩
                 · cases q
               have tb := tot_wide (fun j => (v.f j).m) 200000000000 v.q (fun i hi => mvb.out i hi)
               have el := HV.out.left
               have lf := LF.out
               have ol := OK.out.left
               have ol2 := OK2.out.left
               obtain ⟨T, hT⟩ : ∃ T, tot (fun j => (v.f j).m) v.q = T := ⟨_, rfl⟩
               rw [hT] at ei tb
               rw [ei] at p25
               unfold Mon at mbk
               have im1 := im.1
               unfold Mon at im1
               have t1 : -180000000000000 ≤ T ∧ T ≤ 180000000000000 := by have := fq; omega
               have h1 : (op.left + v.x.new != v.cl.left + v.x.used + v.x.exp) = false := by
                 rw [bne_eq_false_iff_eq]; omega
               have b1 : -100000000000 ≤ i.bk ∧ i.bk ≤ 100000000000 := mbk.1
               have b2 : -100000000000 ≤ i.pm ∧ i.pm ≤ 100000000000 := mbk.2
               have b3 : 0 ≤ op.left ∧ op.left ≤ 100000000000 := ol
               have b4 : 0 ≤ v.cl.left ∧ v.cl.left ≤ 100000000000 := ol2
               have b5 : 0 ≤ v.x.new ∧ v.x.new ≤ 100000000000 := ⟨bd.2.2.2.2.1, bd.2.2.2.2.2.1⟩
               have b6 : 0 ≤ v.x.used ∧ v.x.used ≤ 100000000000 := by have := bd.2.2.1; have := bd.2.2.2.1; omega
               have b7 : 0 ≤ v.x.exp ∧ v.x.exp ≤ 100000000000 := bd.2.1
               rw [hT]
               clear X7 I7 y7 bd im im1 ei mb mbk tb el lf ol ol2 hT ly kk kz fq
               go_upto_region 32 with fail
               have L8 := Lib.hid (L7.out.opened B7.out)
               have bx9 := Lib.hid L7.out.bx.at'
               clear p25 p13 p26 p27 p28 p32 p33 j2 j3 s1' s2' s4' h1 b1 b2 b3 b4 b5 b6 b7 t1
               go_wp2_with (first | ((with_reducible show wpList _ _ _ _ _ _); (refine wpList_load_mid rfl 35 (.tmp 16) rfl Y 0 rfl (balL v.cl ss.cb ss.cr) _ Y7.out Tryz.underlying35 rfl (bal_size _ _ _) ?_)) | ((with_reducible show wpList _ _ _ _ _ _); (refine wpList_store_row rfl 35 (.tmp 6) (.tmp 256) rfl bo (balL v.cl ss.cb ss.cr).toArray rfl rfl _ _ bx9.out (bal_size _ _ _) rfl (bal_one _ _ _) ?_)))
               go_roundg (6 - (k + 1))
               case measure => have := HGK.out; omega
               case rel => exact ⟨k + 1, O4, S', S', SL', lb2, v.cl, ss.cb, ss.cr, n2', g2', by omega, rfl, rfl, by go_num, L8.out, OK2.out, VL2.out, LF2.out.symm⟩
   · have LO := Lib.hid HLS.out.low
     by_cases l1 : k < n1
     · have l1' : (k : Int) < (n1 : Int) := by omega
       have l6' : ¬ (k : Int) < 6 := by omega
       clear hlt
       go_wp2_with (go_at_call 12; (with_reducible refine (W.out _).mono ?_); rintro e w10 ⟨rfl, hb10⟩; have K10 := Lib.hid (LO.out.trans (hb10.mono LO.out.size)); clear hb10)
       go_ret
       exact ⟨rfl, by first | exact K10.out | (rw [← HWS.out]; exact K10.out)⟩
     · have l1' : ¬ (k : Int) < (n1 : Int) := by omega
       clear hlt l1
       go_wp2_with (go_at_call 12; (with_reducible refine (W.out _).mono ?_); rintro e w10 ⟨rfl, hb10⟩; have K10 := Lib.hid (LO.out.trans (hb10.mono LO.out.size)); clear hb10)
       go_ret
       exact ⟨rfl, by first | exact K10.out | (rw [← HWS.out]; exact K10.out)⟩
end Go.Proofs.YtmlafdehhbhbiaaGreat
