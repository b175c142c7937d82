/- The document's own provision: the way of a close that comes about. -/
import Derived.Test.YtmlafdehhbhbiaaGreatRMkS
import Derived.Test.YtmlafdehhbhbiaaGreatM2
import Derived.Test.YtmlafdehhbhbiaaGreatTk
import Derived.Test.YtmlafdehhbhbiaaGreatMkQ
namespace Go.Proofs.YtmlafdehhbhbiaaGreat
open Go.RowKit
section
variable {w : World} {O : Nat → Nat} {base t tb nr lb rg : Nat} {vt : Value} {R : Nat → Rt} {i : MIn} {op : MBal} {sb sr : Sl}
theorem q_size (i : MIn) (r : Int) (op : MBal) (sb sr : Sl) (ws : Value) : (Tryz.prog.info? 75).map (·.size) = some (q0L i r op sb sr ws).toArray.size := by
 rw [show (q0L i r op sb sr ws).toArray.size = 41 from rfl]; kernel_rfl
theorem qL_size (i : MIn) (r : Int) (op : MBal) (sb sr : Sl) (cl : MBal) (sc sd : Value) (x : Tx) (vc ws nw : Value) (tm tr lm lr am df tt : Int) : (Tryz.prog.info? 75).map (·.size) = some (qL i r op sb sr cl sc sd x vc ws nw tm tr lm lr am df tt).toArray.size := by
 rw [show (qL i r op sb sr cl sc sd x vc ws nw tm tr lm lr am df tt).toArray.size = 41 from rfl]; kernel_rfl
theorem OwnR.row {w : World} {E : TypeId} {base n c b : Nat} {A : Option Addr} {g : Nat → Wy} (o : OwnR we 5 w E base (.slice A n c) n g) (hb : b < base) (P : Array Value) : AtR we 5 (w.setRow b P) A n g := by
 have o2 := o.blocks (w1 := w.setRow b P) (fun k hk => setRow_other _ _ _ _ (by have := (o.lt k hk).1; omega))
 obtain ⟨A', c', e, _, _, _, h⟩ := o2.at we_len
 injection e with e1
 subst e1
 exact h
theorem moved_bd {S0 S : Int → Int → Int} {q : Nat} {f : Nat → Wy} (h : FIs S0 S q f) (h0 : ∀ c y, Mon (S0 c y)) (h1 : ∀ c y, Mon (S c y)) : ∀ k : Nat, k ≤ q → -200000000000 * (k : Int) ≤ tot (fun j => (f j).m) k ∧ tot (fun j => (f j).m) k ≤ 200000000000 * (k : Int)
 | 0, _ => ⟨by show _ ≤ (0 : Int); omega, by show (0 : Int) ≤ _; omega⟩
 | k + 1, hk => by
   have ih := moved_bd h h0 h1 k (by omega)
   have e := h.mv_at (j := k) (by omega)
   have a := h0 (f k).c (f k).y
   have b := h1 (f k).c (f k).y
   unfold Mon at a b
   rw [tot]
   constructor <;> (push_cast; omega)
theorem bis_grid {S : Int → Int → Int} {n : Nat} {g : Nat → Bk} (b : BIs S n g) : btot g n = grid S := by
 rw [btot_grid n b.1.ok]
 congr 1
 funext c y
 exact b.2 c y
theorem tx_size (a b c d e f : Int) (v : Value) : (Tryz.prog.info? 71).map (·.size) = some (txl a b c d e f v).toArray.size := by
 rw [show (txl a b c d e f v).toArray.size = 7 from rfl]; kernel_rfl
theorem tx_one (a b c d e f : Int) (A : Option Addr) (n k : Nat) : (txl a b c d e f (.slice A n k)).toArray.all (·.oneCell') = true := one_all fun u hu => by
 unfold txl at hu
 simp only [List.mem_cons, List.not_mem_nil, or_false] at hu
 rcases hu with rfl | rfl | rfl | rfl | rfl | rfl | rfl <;> rfl
theorem put_tax (i : MIn) (r : Int) (op : MBal) (sb sr : Sl) (ws vc : Value) (x : Tx) : putL (q0L i r op sb sr ws).toArray 25 (txl x.inc x.exp x.used x.new x.txb x.tax vc) = (qL i r op sb sr bal0 vnil vnil x vc ws vnil 0 0 0 0 0 0 0).toArray := by kernel_rfl
theorem chg_size : (Tryz.prog.info? 73).map (·.size) = some 2 := by kernel_rfl
theorem build_q {o : Oper} {x0 x1 x2 x5 : Operand} (ho : o.op = .build 75 #[(0, x0), (1, x1), (2, x2), (5, x5)]) (ev : Operand → Value) {i : MIn} {r : Int} {op : MBal} {sb sr : Sl} {A : Option Addr} {n c : Nat} (h0 : ev x0 = .agg (inL i).toArray) (h1 : ev x1 = .int .i64 r) (h2 : ev x2 = .agg (balL op sb sr).toArray) (h5 : ev x5 = .slice A n c) (w : World) :
   (execOp ev o).run Tryz.prog w = .ok (.value (.agg (q0L i r op sb sr (.slice A n c)).toArray)) w := by
 unfold execOp
 simp only [ho]
 simp only [List.map_toArray, List.map_cons, List.map_nil, h0, h1, h2, h5]
 kernel_rfl
structure RPv (O : Nat → Nat) (z : Nat) (w : World) (op : MBal) (v : MPv) (s : Pss) : Prop where
 op : BalAt w op s.ob s.or
 cl : BalO O z w v.cl s.cb s.cr
 vc : At w s.vc.a v.x.q v.x.u
 vc1 : s.vc.Fits v.x.q
 ws : AtR we 5 w s.ws.a v.q v.f
 ws1 : s.ws.Fits v.q
 nw : At w s.nw.a v.q v.now
 nw1 : s.nw.Fits v.q
def RMkPost (bt : Bool) (w : World) (i : MIn) (op : MBal) (v : MPv) (SL' : Int → Int → Int) (E : Int) (e' : Ending) (w' : World) : Prop :=
 (bt = false ∧ e' = .returned (.tuple #[.agg pv0L.toArray, .pointer none, .int .i64 E]) ∧ Below w.heap.size w w') ∨
 (bt = true ∧ ¬ Fit i op v ∧ e' = .returned (.tuple #[.agg pv0L.toArray, .pointer none, .int .i64 6]) ∧ Below w.heap.size w w') ∨
 (bt = true ∧ Fit i op v ∧ ∃ lb' O' ss, e' = .returned (.tuple #[.agg (pvL i op v ss).toArray, ptr lb', .int .i64 0]) ∧ NowL w w' O' 1 lb' SL' ∧ RPv O' w.heap.size w' op v ss ∧ Below w.heap.size w w')
set_option maxHeartbeats 8000000 in
set_option maxRecDepth 100000 in
def mk7 (O : Nat → Nat) (z bp : Nat) : Nat → Nat := fun k => if k = bp then 2 else if z ≤ k ∧ k < z + 4 then 6 else O k
theorem mk7_bp (O : Nat → Nat) (z bp : Nat) : mk7 O z bp bp = 2 := if_pos rfl
theorem mk7_own {O : Nat → Nat} {z bp k : Nat} (h : z + 4 ≤ bp) (hk : k < 4) : mk7 O z bp (z + k) = 6 := by
 unfold mk7; rw [if_neg (by omega), if_pos (by omega)]
theorem mk7_ne {O : Nat → Nat} {z bp k : Nat} (h1 : k ≠ bp) (h2 : k < z ∨ z + 4 ≤ k) : mk7 O z bp k = O k := by
 unfold mk7; rw [if_neg h1, if_neg (by omega)]
set_option maxHeartbeats 64000000 in
set_option maxRecDepth 100000 in
theorem rmk_main {wl : World} {Ol : Nat → Nat} {tl m c nl : Nat} {A : Option Addr} {g gl : Nat → Bk} {S0 S SL SL' : Int → Int → Int} {v : MPv} {E r nx : Int} {rs : Nat → Int} {bt : Bool}
   (s : TabV 116 w O base t tb vt nr R) (hl : NowL wl w Ol tl lb SL) (hr : w.cell? ⟨rg, 0, none⟩ = some (.slice A m c)) (_hrl : rg < w.heap.size) (ha : AtR be 3 w A m g) (hc : m ≤ c ∧ c ≤ maxLen) (hnone : A = none → m = 0 ∧ c = 0)
   (b : BInv S m g) (vl : VInv SL nl gl) (ok : op.Ok S0) (ho : BalAt w op sb sr) (H : MArg i) (K : Known R nr i.j (i.p / 4) i.p r true) (KX : Known R nr i.j (min (i.p / 4 + 1) 99) i.p nx true)
   (KR : ∀ k, k < m → Known R nr i.j (max (g k).y (i.p / 4)) i.p (rs k) true) (T : (bt = false ∧ TNo SL nl gl (tqOf i op m g r) E ∧ E ≠ 0) ∨ (bt = true ∧ MkAt R nr i op S0 S m g SL nl gl v SL' ∧ v.r = r ∧ v.cl.nx = nx ∧ ∀ k, k < m → v.cl.r k = rs k)) :
   Calls Tryz.prog 22 #[ptr tb, .agg (inL i).toArray, .agg (balL op sb sr).toArray, ptr lb, ptr rg] w (RMkPost bt w i op v SL' E) := by
 have hm9 : m ≤ 1000 := by have := b.le; omega
 have CR := Lib.hid fun w5 (k : Below w.heap.size w w5) => rrate_any (s.below k) i.j (i.p / 4) i.p r true K
 have CX := Lib.hid fun w5 (k : Below w.heap.size w w5) => rnext_any (s.below k) i.j i.p nx 0 (.inr (.inr ⟨H.1, rfl, KX⟩))
 have CS := Lib.hid fun w5 (k : Below w.heap.size w w5) => rrates_any (s.below k) i.j A m c g (ha.below k) hm9 i.p 0 m rs (.inr (.inr ⟨H.1, rfl, rfl, KR⟩))
 have HS := Lib.hid s
 have HL := Lib.hid hl
 have HC := Lib.hid hr
 have HA := Lib.hid ha
 have HB := Lib.hid b
 have HV := Lib.hid vl
 have HOK := Lib.hid ok
 have HO := Lib.hid ho
 have HK := Lib.hid T
 have HN := Lib.hid hnone
 unfold MArg PerOk RtOk Mon at H
 obtain ⟨⟨q1, q2⟩, ⟨q3, q4⟩, q5, q6⟩ := H
 obtain ⟨hc1, hc2⟩ := hc
 clear s K KX KR hl hr ha b vl ok ho T hnone
 go_enter Tryz.func22, Tryz.ntmps22
 go_upto_region 1 with fail
 go_upto_region 2 with ((with_reducible show wpList _ _ _ _ _ _); (refine wpList_store_row rfl 75 (.tmp 13) (.tmp 34) rfl (w.heap.size + 3) pv0L.toArray rfl rfl _ _ (mkw_start w i op sb sr).b13 rpv0_size rfl (one_all pv0L_one) ?_))
 generalize hwb : World.setRow _ _ _ = wb; have HW : Hid (MkW w wb i op sb sr) := Lib.hid (by rw [← hwb]; exact (mkw_start w i op sb sr).row13); clear hwb
 obtain ⟨ab, cb⟩ := sb
 obtain ⟨ar, cr⟩ := sr
 obtain ⟨j0, j1, j2, j3, j4, j5, j6, j7⟩ := HW.out.ins
 go_wp2_with (first | (go_at_call 58; (with_reducible refine (rperiod_yes _ _ (by omega) (by omega)).mono ?_); rintro e w' ⟨rfl, rfl⟩) | (go_at_call 59; (with_reducible refine (rrt_yes _ _ (by omega) (by omega)).mono ?_); rintro e w' ⟨rfl, rfl⟩) | (go_at_call 50; (with_reducible refine (rmoney_yes _ _ (by unfold Mon; omega)).mono ?_); rintro e w' ⟨rfl, rfl⟩))
 refine (CR.out _ HW.out.lo).mono ?_
 rintro e w1 ⟨rfl, hb⟩
 have HW := Lib.hid (HW.out.below hb)
 clear hb CR j0 j1 j2 j3 j4 j5 j6 j7
 obtain ⟨j0, j1, j2, j3, j4, j5, j6, j7⟩ := HW.out.ins
 go_wp2_with fail
 refine (CX.out _ HW.out.lo).mono ?_
 rintro e w2 ⟨rfl, hb⟩
 have HW := Lib.hid (HW.out.below hb)
 clear hb CX j0 j1 j2 j3 j4 j5 j6 j7
 obtain ⟨j0, j1, j2, j3, j4, j5, j6, j7⟩ := HW.out.ins
 go_upto_region 11 with fail
 have hw2 := Lib.hid HW.out.lt
 have x0 : w2.cell? ⟨rg, 0, none⟩ = some (.slice A m c) := cell_keep HC.out HW.out.lo
 have CS2 := Lib.hid (CS.out w2.drew (HW.out.lo.trans ((below_drew w2).mono HW.out.lo.size)))
 have FZ := Lib.hid fun w8 (k : Below w2.drew.heap.size w2.drew w8) => And.intro (cell_keep (w := w2.drew) j0 k) (And.intro (cell_keep (w := w2.drew) j1 k) (cell_keep (w := w2.drew) x0 k))
 clear CS
 go_region_held3 (fun w' => w'.cell? ⟨w.heap.size, 0, none⟩ = some (.string i.j) ∧ w'.cell? ⟨w.heap.size, 1, none⟩ = some (.int .i64 i.p) ∧ w'.cell? ⟨rg, 0, none⟩ = some (.slice A m c)) (first | go_keep) (first | (go_at_call 62; (refine (CS2.out).mono ?_); rintro e w3 ⟨v3, rfl, ho3, hb3⟩; obtain ⟨A3, c3, rfl, hc3, hm3, _⟩ := ho3.at; obtain ⟨d0, d1, d2⟩ := FZ.out _ hb3; have HO3 := Lib.hid ho3; have HB3 := Lib.hid hb3; clear ho3 hb3))
 have HW := Lib.hid (HW.out.below ((below_drew w2).trans HB3.out))
 have h23 := Lib.hid HW.out.lt
 have HO3 := Lib.hid (show Own w3 3 w2.heap.size (.slice A3 m c3) m rs from HO3.out)
 have HRT := Lib.hid (own_at HO3.out)
 have HRF := Lib.hid (show ∀ b off, A3 = some ⟨b, off, none⟩ → w.heap.size + 4 ≤ b ∧ b < w3.heap.size from fun b off e => by
   have := World.ownsRow.lt HO3.out b (by rw [e]; rfl)
   have := hw2.out
   omega)
 clear HB3 FZ CS2 d0 d1 d2 x0 j0 j1 j2 j3 j4 j5 j6 j7
 obtain ⟨j0, j1, j2, j3, j4, j5, j6, j7⟩ := HW.out.ins
 have x0 : w3.cell? ⟨rg, 0, none⟩ = some (.slice A m c) := cell_keep HC.out HW.out.lo
 obtain ⟨o1, o3, o4, o5, o6, o7⟩ := HW.out.ops
 have CF := Lib.hid fun (w5 : World) (k : Below w3.heap.size w3 w5) => rfwd_w (c := cb) (c' := c) ((HO.out.below HW.out.lo).rows.below k) ((HA.out.below HW.out.lo).below k) HOK.out.iv.is HB.out.is (by have := HOK.out.iv.le; omega) hm9
 go_upto_region 14 with fail
 go_cut [20] (fun s20 wx => ∃ bp A4 q4 c4 f4, s20 = ptr bp ∧ w3.heap.size ≤ bp ∧ Below w3.heap.size w3 wx ∧ wx.heap[bp]? = some (.cells (q0L i r op ⟨ab, cb⟩ ⟨ar, cr⟩ (.slice A4 q4 c4)).toArray 75 (0, 0)) ∧ FIw S0 S q4 f4 ∧ AtR we 5 wx A4 q4 f4 ∧ (∀ b off, A4 = some ⟨b, off, none⟩ → w3.heap.size ≤ b ∧ b < wx.heap.size ∧ b ≠ bp) ∧ q4 ≤ c4 ∧ c4 ≤ maxLen)
 case first => as_aux_lemma =>
  refine wp_region_noPanic ?_
  refine AnyTill.begin (C := fun w' => w'.rangeAt w.heap.size 0 (inL i) ∧ w'.rangeAt (w.heap.size + 1) 0 (balL op ⟨ab, cb⟩ ⟨ar, cr⟩) ∧ w'.cell? ⟨w.heap.size + 1, 1, none⟩ = some (.slice ab op.n cb) ∧ w'.cell? ⟨rg, 0, none⟩ = some (.slice A m c)) (q := 99) (by kernel_rfl) ?_
  obtain ⟨wd, hwd⟩ : ∃ wd, w3.drew = wd := ⟨_, rfl⟩
  have kd : Below w3.heap.size w3 wd := by rw [← hwd]; exact below_drew w3
  rw [hwd]
  have HC2 := Lib.hid fun (w5 : World) (k : Below w3.heap.size w3 w5) => (show w5.rangeAt w.heap.size 0 (inL i) ∧ w5.rangeAt (w.heap.size + 1) 0 (balL op ⟨ab, cb⟩ ⟨ar, cr⟩) ∧ w5.cell? ⟨w.heap.size + 1, 1, none⟩ = some (.slice ab op.n cb) ∧ w5.cell? ⟨rg, 0, none⟩ = some (.slice A m c) from ⟨row_range (HW.out.below k).b6, row_range (HW.out.below k).b7, cell_keep o1 k, cell_keep x0 k⟩)
  have scd := HC2.out wd kd
  refine AnyTill.tv (i := 0) (v := .agg (inL i).toArray) (hy := (yieldsIf_load_mid (by rfl) 66 (.tmp 6) rfl w.heap.size 0 rfl (inL i) _ (fun _ h => h.1) Tryz.underlying66 rfl (in_size _))) (hC := scd) (h := ?_)
  refine AnyTill.tk 1 scd ?_
  refine AnyTill.tv (i := 2) (v := .agg (balL op ⟨ab, cb⟩ ⟨ar, cr⟩).toArray) (hy := (yieldsIf_load_mid (by rfl) 63 (.tmp 7) rfl (w.heap.size + 1) 0 rfl (balL op ⟨ab, cb⟩ ⟨ar, cr⟩) _ (fun _ h => h.2.1) Tryz.underlying63 rfl rbal_size)) (hC := scd) (h := ?_)
  refine AnyTill.tk 3 scd ?_
  refine AnyTill.tk 4 scd ?_
  refine AnyTill.tk 5 scd ?_
  refine AnyTill.tk 6 scd ?_
  refine AnyTill.tk 7 scd ?_
  refine AnyTill.tk 8 scd ?_
  refine' AnyTill.two (i := 9) (k := 11) (o := _) (o' := _) (by kernel_rfl) ?a9 ?a11 (fun K' hK => ?x9) (fun K' hK => ?x11)
  case a9 => (simp only [List.getElem?_toArray, List.getElem?_cons_succ, List.getElem?_cons_zero]; rfl)
  case a11 => (simp only [List.getElem?_toArray, List.getElem?_cons_succ, List.getElem?_cons_zero]; rfl)
  case x9 =>
    go_simp
    (go_at_call 63; (refine (CF.out _ kd).mono ?_); rintro e w4 ⟨v4, q4, f4, rfl, ho4, hf4, hb4⟩)
    obtain ⟨A4, c4, rfl, hc4, hm4, _, ha4⟩ := ho4.at we_len
    refine hK.out _ _ (.inr (HC2.out _ (kd.trans (hb4.mono kd.size)))) ?_
    clear hK K'
    try simp only [pt]
    have scd4 := HC2.out _ (kd.trans (hb4.mono kd.size))
    refine AnyTill.tv (i := 10) (v := .agg (q0L i r op ⟨ab, cb⟩ ⟨ar, cr⟩ (.slice A4 q4 c4)).toArray) (hy := (Or.inl ⟨by rfl, fun w5 _ => build_q rfl _ rfl rfl rfl rfl w5⟩)) (hC := scd4) (h := ?_)
    refine AnyTill.on 11 fun K' hK => ?_
    go_simp
    generalize hap : World.alloc w4 _ = wap
    have g1 : wap.heap[w4.heap.size]? = some (.cells pv0L.toArray 75 (0, 0)) := by rw [← hap]; exact heap_alloc_last _ _
    have b1 : Below w4.heap.size w4 wap := by rw [← hap]; exact (Below.refl _ _).alloc (Nat.le_refl _) _
    clear hap
    have k4 := kd.trans (hb4.mono kd.size)
    have k5 := k4.trans (b1.mono k4.size)
    refine hK.out _ _ (.inr (HC2.out _ k5)) ?_
    clear hK K'
    try simp only [pt]
    refine AnyTill.on 12 fun K' hK => ?_
    rw [if_pos (by rfl)]
    refine wp_store_row 75 (.tmp 20) (.tmp 108) rfl w4.heap.size (q0L i r op ⟨ab, cb⟩ ⟨ar, cr⟩ (.slice A4 q4 c4)).toArray rfl rfl _ _ g1 (q_size _ _ _ _ _ _) rfl (q_one _ _ _ _ _) ?_
    have k6 := below_setRow k5 (g := w4.heap.size) k4.size (q0L i r op ⟨ab, cb⟩ ⟨ar, cr⟩ (.slice A4 q4 c4)).toArray
    refine hK.out _ _ (.inr (HC2.out _ k6)) ?_
    clear hK K'
    try simp only [pt]
    refine AnyTill.done (by kernel_rfl) ?_ _
    refine NoPanic.normal ?_
    go_wp2
    go_meet
    exact ⟨w4.heap.size, A4, q4, c4, f4, rfl, k4.size, k6, setRow_heap _ _ _ _ _ _ g1, hf4, ha4.below (below_setRow b1 (Nat.le_refl _) _), fun b off e => by
      have h1 := World.ownsRow.lt ho4 b (by rw [e]; rfl)
      have h2 := kd.size
      have h3 := b1.size
      rw [setRow_size]
      omega, hc4, hm4⟩
  case x11 =>
    go_simp
    generalize hap : World.alloc wd _ = wap
    have g1 : wap.heap[wd.heap.size]? = some (.cells pv0L.toArray 75 (0, 0)) := by rw [← hap]; exact heap_alloc_last _ _
    have b1 : Below wd.heap.size wd wap := by rw [← hap]; exact (Below.refl _ _).alloc (Nat.le_refl _) _
    have hlt : wd.heap.size < wap.heap.size := by rw [← hap]; simp
    clear hap
    have k4 := kd.trans (b1.mono kd.size)
    refine hK.out _ _ (.inr (HC2.out _ k4)) ?_
    clear hK K'
    try simp only [pt]
    refine AnyTill.on 9 fun K' hK => ?_
    go_simp
    (go_at_call 63; (refine (CF.out _ k4).mono ?_); rintro e w4 ⟨v4, q4, f4, rfl, ho4, hf4, hb4⟩)
    obtain ⟨A4, c4, rfl, hc4, hm4, _, ha4⟩ := ho4.at we_len
    have k5 := k4.trans (hb4.mono k4.size)
    have scd4 := HC2.out _ k5
    have g2 := (hb4.block _ hlt).trans g1
    refine hK.out _ _ (.inr scd4) ?_
    clear hK K'
    try simp only [pt]
    refine AnyTill.tv (i := 10) (v := .agg (q0L i r op ⟨ab, cb⟩ ⟨ar, cr⟩ (.slice A4 q4 c4)).toArray) (hy := (Or.inl ⟨by rfl, fun w5 _ => build_q rfl _ rfl rfl rfl rfl w5⟩)) (hC := scd4) (h := ?_)
    refine AnyTill.on 12 fun K' hK => ?_
    rw [if_pos (by rfl)]
    refine wp_store_row 75 (.tmp 20) (.tmp 108) rfl wd.heap.size (q0L i r op ⟨ab, cb⟩ ⟨ar, cr⟩ (.slice A4 q4 c4)).toArray rfl rfl _ _ g2 (q_size _ _ _ _ _ _) rfl (q_one _ _ _ _ _) ?_
    have k6 := below_setRow k5 (g := wd.heap.size) kd.size (q0L i r op ⟨ab, cb⟩ ⟨ar, cr⟩ (.slice A4 q4 c4)).toArray
    refine hK.out _ _ (.inr (HC2.out _ k6)) ?_
    clear hK K'
    try simp only [pt]
    refine AnyTill.done (by kernel_rfl) ?_ _
    refine NoPanic.normal ?_
    go_wp2
    go_meet
    exact ⟨wd.heap.size, A4, q4, c4, f4, rfl, kd.size, k6, setRow_heap _ _ _ _ _ _ g2, hf4, ho4.row hlt _, fun b off e => by
      have h1 := World.ownsRow.lt ho4 b (by rw [e]; rfl)
      have h2 := kd.size
      rw [setRow_size]
      omega, hc4, hm4⟩
 case rest =>
   as_aux_lemma =>
   obtain ⟨bp, A4, q4, c4, f4, rfl, lbp, kb4, g4, hf4, ha4, fr4, hc4, hm4⟩ := hcut
   have p32 : _ = some (Value.slice A4 q4 c4) := cell_of_row _ _ 32 _ _ _ g4
   have HG4 := Lib.hid g4
   have HF4 := Lib.hid (hf4.fis HOK.out.iv.mon HB.out.mon)
   have HA4 := Lib.hid ha4
   have HRT := Lib.hid (HRT.out.below kb4)
   have HF4' := Lib.hid fr4
   have LBP := Lib.hid lbp
   have HB43 := Lib.hid kb4.size
   have HW := Lib.hid (HW.out.below kb4)
   clear g4 hf4 ha4 CF fr4 lbp
   go_wp2
   have HMV := Lib.hid (moved_bd HF4.out HOK.out.iv.mon HB.out.mon)
   have hq9 := HF4.out.le
   go_loopg [21, 112] q4 (fun gh s21 i wr => ∃ k : Nat, k ≤ q4 ∧ gh = q4 - k ∧ i = .int .i64 k ∧ s21 = .int .i64 (tot (fun j => (f4 j).m) k) ∧ Below wc.heap.size wc wr)
   case atStart => exact ⟨0, Nat.zero_le _, rfl, rfl, rfl, Below.refl _ _⟩
   case round =>
     obtain ⟨k, hk, hgk, rfl, rfl, hbw⟩ := hrel
     have HGK := Lib.hid hgk
     have HWR := Lib.hid hbw
     clear hgk hbw
     by_cases hlt : k < q4
     · obtain ⟨b5, off, rfl, hb5, e0, e1, e2, e3, e4⟩ := (HA4.out.below HWR.out).five hlt
       have m1 := HMV.out k hk
       have m2 := HMV.out (k + 1) hlt
       obtain ⟨M, hM⟩ : ∃ M, tot (fun j => (f4 j).m) k = M := ⟨_, rfl⟩
       have HM := Lib.hid (show tot (fun j => (f4 j).m) (k + 1) = M + (f4 k).m by rw [← hM]; rfl)
       rw [HM.out] at m2
       rw [hM] at m1 ⊢
       obtain ⟨x0', hx0⟩ : ∃ x, (f4 k).c = x := ⟨_, rfl⟩
       obtain ⟨x1, hx1⟩ : ∃ x, (f4 k).y = x := ⟨_, rfl⟩
       obtain ⟨x2, hx2⟩ : ∃ x, (f4 k).o = x := ⟨_, rfl⟩
       obtain ⟨x3, hx3⟩ : ∃ x, (f4 k).m = x := ⟨_, rfl⟩
       obtain ⟨x4, hx4⟩ : ∃ x, (f4 k).k = x := ⟨_, rfl⟩
       rw [hx0] at e0
       rw [hx1] at e1
       rw [hx2] at e2
       rw [hx3] at e3 m2 HM
       rw [hx4] at e4
       have i0 : (0 : Int) ≤ (k : Int) := by omega
       have i1 : (k : Int) < (q4 : Int) := by omega
       clear hM hx0 hx1 hx2 hx3 hx4
       go_wp2
       go_roundg (q4 - (k + 1))
       case measure => have := HGK.out; omega
       case rel => exact ⟨k + 1, by omega, rfl, by go_num, by rw [HM.out], HWR.out.alloc HWR.out.size _⟩
     · obtain rfl : k = q4 := by omega
       clear hlt
       have HMS := HF4.out.moved
       rw [← bis_grid HOK.out.iv.is, ← bis_grid HB.out.is] at HMS
       have HWR2 := Lib.hid (HWR.out)
       rw [HMS]
       have HW := Lib.hid (HW.out.below HWR.out)
       clear p32 o1 o3 o4 o5 o6 o7 x0 j0 j1 j2 j3 j4 j5 j6 j7 HMS HMV HGK
       obtain ⟨j0, j1, j2, j3, j4, j5, j6, j7⟩ := HW.out.ins
       go_upto_region 21 with fail
       rcases HK.out with ⟨rfl, hno, hE⟩ | ⟨rfl, hmk, rfl, rfl, hrs⟩
       · have CT := Lib.hid (rtax_no (HL.out.below HW.out.lo) HV.out _ hno)
         have E0 : (E == 0) = false := by simpa using hE
         have E1 : ¬ E = 0 := hE
         clear hno hE HK
         go_wp2_with fail
         refine (CT.out).mono ?_
         rintro e w5 ⟨rfl, hb⟩
         have HW := Lib.hid (HW.out.below hb)
         clear hb CT HWR HWR2 HC HS HA HB HL HV HOK HO HF4 HA4 HG4 HO3 j0 j1 j2 j3 j4 j5 j6 j7
         go_upto_region 22 with ((with_reducible show wpList _ _ _ _ _ _); (refine wpList_store_row rfl 71 _ _ rfl w5.heap.size (txl 0 0 0 0 0 0 (.slice none 0 0)).toArray rfl rfl _ _ (heap_alloc_last _ _) (tx_size _ _ _ _ _ _ _) rfl (tx_one _ _ _ _ _ _ _ _ _) ?_); rw [World.setRow_alloc_new])
         generalize hw6 : World.alloc w5 _ = w6
         have HW := Lib.hid (HW.out.below (w1 := w6) (by rw [← hw6]; exact (Below.refl _ _).alloc (Nat.le_refl _) _))
         clear hw6
         go_wp2_with (first | ((with_reducible show wpList _ _ _ _ _ _); (refine wpList_load_mid rfl 75 _ rfl (w.heap.size + 3) 0 rfl pv0L _ (row_range HW.out.b13) Tryz.underlying75 rfl rpv0_size ?_)) | ((with_reducible show wpList _ _ _ _ _ _); (refine wpList_store_row rfl 75 _ _ rfl (w.heap.size + 2) pv0L.toArray rfl rfl _ _ HW.out.b10 rpv0_size rfl (one_all pv0L_one) ?_)))
         exact bodyPost_ret (results_ctt rfl _ _ (w.heap.size + 2) _ rfl (run_loadVar_row _ _ _ _ _ (0, 0) _ (setRow_heap _ _ _ _ _ _ HW.out.b10) Tryz.underlying75 rfl rpv0_size)) rfl (.inl ⟨rfl, rfl, below_setRow HW.out.lo (Nat.le_add_right _ _) _⟩)
       · as_aux_lemma =>
         have CT := Lib.hid (rtax_oko (HL.out.below HW.out.lo) HV.out _ v.x hmk.tax)
         have HM := Lib.hid hmk
         have HRS := Lib.hid hrs
         have G5 := Lib.hid ((HWR2.out.block _ (Array.getElem?_eq_some_iff.1 HG4.out).1).trans HG4.out)
         have HA4 := Lib.hid (HA4.out.below HWR2.out)
         clear hmk hrs HK HG4
         go_wp2_with fail
         refine (CT.out).mono ?_
         rintro e w5 ⟨lb', O5, U, cu, rfl, hl5, hu5, hcu, hcm, hb⟩
         have LW := Lib.hid HW.out.lt
         have LP := Lib.hid (show bp < wr.heap.size from (Array.getElem?_eq_some_iff.1 G5.out).1)
         have HRT := Lib.hid ((HRT.out.below HWR2.out).below hb)
         have HRF2 := Lib.hid (show w3.heap.size ≤ wr.heap.size from Nat.le_trans HB43.out HWR2.out.size)
         have HF5 := Lib.hid (show wc.heap.size ≤ wr.heap.size from HWR2.out.size)
         have HW := Lib.hid (HW.out.below hb)
         have G5 := Lib.hid ((hb.block _ (Array.getElem?_eq_some_iff.1 G5.out).1).trans G5.out)
         have HA4 := Lib.hid (HA4.out.below hb)
         have HL5 := Lib.hid hl5
         have HU5 := Lib.hid hu5
         clear hb CT HL j0 j1 j2 j3 j4 j5 j6 j7 hl5 hu5
         go_upto_region 22 with ((with_reducible show wpList _ _ _ _ _ _); (refine wpList_store_row rfl 71 _ _ rfl w5.heap.size (txl v.x.inc v.x.exp v.x.used v.x.new v.x.txb v.x.tax (.slice U v.x.q cu)).toArray rfl rfl _ _ (heap_alloc_last _ _) (tx_size _ _ _ _ _ _ _) rfl (tx_one _ _ _ _ _ _ _ _ _) ?_); rw [World.setRow_alloc_new])
         generalize hw6 : World.alloc w5 _ = w6
         have g6 : w6.heap[w5.heap.size]? = some (.cells (txl v.x.inc v.x.exp v.x.used v.x.new v.x.txb v.x.tax (.slice U v.x.q cu)).toArray 71 (0, 0)) := by rw [← hw6]; exact heap_alloc_last _ _
         have hb : Below w5.heap.size w5 w6 := by rw [← hw6]; exact (Below.refl _ _).alloc (Nat.le_refl _) _
         clear hw6
         have HW := Lib.hid (HW.out.below hb)
         have lp := (Array.getElem?_eq_some_iff.1 G5.out).1
         have G6 := Lib.hid ((hb.block _ lp).trans G5.out)
         have HA4 := Lib.hid (HA4.out.below hb)
         have RT6 := Lib.hid (HRT.out.below hb)
         have lw5 := HL5.out.fin.2 w5.heap.size (Nat.le_refl _)
         have X6 := Lib.hid g6
         have lpb := LP.out
         have lw := LW.out
         have hl6 := HL5.out.below hb
         have hu6 := HU5.out.step (Step.of_below (t := 9) HL5.out.fin hb) (by decide)
         have z6 := hl6.low.size
         have z5 := hb.size
         have zb : w.heap.size + 4 ≤ bp := by have := LBP.out; have := h23.out; omega
         have f7 : Fin0 w.heap.size (mk7 O5 w.heap.size bp) w6 := ⟨fun k hk => by
             rw [mk7_ne (by omega) (by omega)]
             exact hl6.fin.1 k (by omega), fun k hk => by
             rw [mk7_ne (by omega) (by omega)]
             exact hl6.fin.2 k hk⟩
         have ms6 : MkS w w6 (mk7 O5 w.heap.size bp) i op ⟨ab, cb⟩ ⟨ar, cr⟩ lb' SL' w5.heap.size v.x U cu A4 k f4 A3 m rs :=
           ⟨HW.out, fun j hj => mk7_own zb hj,
             hl6.marks (fun j hj => by
               by_cases e : j = bp
               · rw [e, hl6.fin.1 bp lpb] at hj; cases hj
               · by_cases e2 : j < wr.heap.size
                 · rw [hl6.fin.1 j e2] at hj; cases hj
                 · rw [mk7_ne e (by omega)]; exact hj) f7 HW.out.lo (by omega),
             ⟨X6.out, by rw [mk7_ne (by omega) (by omega)]; exact lw5⟩,
             ⟨hu6.1, fun b off e => by
               obtain ⟨h1, h2, h3⟩ := hu6.2 b off e
               exact ⟨by omega, h2, by rw [mk7_ne (by omega) (by omega)]; exact h3⟩⟩,
             HA4.out, fun b off e => by
               obtain ⟨h1, h2, h3⟩ := HF4'.out b off e
               have := HF5.out
               have := h23.out
               exact ⟨by omega, by omega, by rw [mk7_ne h3 (by omega)]; exact hl6.fin.1 b (by omega)⟩,
             RT6.out, fun b off e => by
               obtain ⟨h1, h2⟩ := HRF.out b off e
               have := HRF2.out
               have := LBP.out
               exact ⟨by omega, by omega, by rw [mk7_ne (by omega) (by omega)]; exact hl6.fin.1 b (by omega)⟩⟩
         have p6 : Box w6 (mk7 O5 w.heap.size bp) 2 bp 75 (q0L i v.r op ⟨ab, cb⟩ ⟨ar, cr⟩ (.slice A4 k c4)) := ⟨G6.out, mk7_bp _ _ _⟩
         obtain ⟨p7, s7⟩ := p6.set f7 (qL i v.r op ⟨ab, cb⟩ ⟨ar, cr⟩ bal0 vnil vnil v.x (.slice U v.x.q cu) (.slice A4 k c4) vnil 0 0 0 0 0 0 0)
         have MS := Lib.hid (ms6.step s7 (by decide) (by decide))
         have P7 := Lib.hid p7
         have ST := Lib.hid ((setCells_row (txl v.x.inc v.x.exp v.x.used v.x.new v.x.txb v.x.tax (.slice U v.x.q cu)) 25 _ w6 G6.out).trans (congrArg (w6.setRow bp) (put_tax ..)))
         clear G5 hb g6 lw5 z5 z6 zb lpb lw hl6 hu6 f7 ms6 p6 p7 s7 HRF2 HF5 HRF HF4' LBP HRT RT6 HA4 HL5 HU5 HB43 LP LW
         go_upto_region 25 with (first | ((with_reducible show wpList _ _ _ _ _ _); (refine wpList_load_mid rfl 71 _ rfl w5.heap.size 0 rfl (txl v.x.inc v.x.exp v.x.used v.x.new v.x.txb v.x.tax (.slice U v.x.q cu)) _ (row_range X6.out) Tryz.underlying71 rfl (tx_size _ _ _ _ _ _ _) ?_)) | ((with_reducible show wpList _ _ _ _ _ _); (refine wpList_store_mid rfl 71 _ _ rfl bp 25 (txl v.x.inc v.x.exp v.x.used v.x.new v.x.txb v.x.tax (.slice U v.x.q cu)).toArray rfl rfl (there_row G6.out (show 25 + 7 ≤ 41 by decide)) (tx_size _ _ _ _ _ _ _) (tx_one _ _ _ _ _ _ _ _ _) ?_); rw [ST.out]))
         simp only [Act.put]
         generalize hw7 : World.setRow w6 bp _ = w7
         generalize hO7 : mk7 O5 w.heap.size bp = O7
         rw [hw7, hO7] at MS P7
         clear hw7 hO7 ST X6 G6 HW hw2 h23
         have HAR := Lib.hid HA.out
         have HC25 := Lib.hid fun (w5 : World) (k5 : Below w7.heap.size w7 w5) => (show w5.cell? ⟨w.heap.size, 1, none⟩ = some (.int .i64 i.p) ∧ w5.cell? ⟨rg, 0, none⟩ = some (.slice A m c) from ⟨(MS.out.own.below k5).ins.2.1, cell_keep HC.out (MS.out.own.below k5).lo⟩)
         obtain ⟨nl2, gl2, vl2, el2⟩ := HM.out.tax.left HV.out
         have VL2 := Lib.hid vl2
         have EL := Lib.hid (show btot gl2 nl2 = v.cl.left by rw [HM.out.left]; exact el2)
         obtain ⟨ib, hi, hz0, hz1, hz2⟩ := info_parts bk_info
         clear vl2 el2 HO3
         go_cut [26] (fun s26 wx => ∃ bc A8 c8, s26 = ptr bc ∧ w7.heap.size ≤ bc ∧ Below w7.heap.size w7 wx ∧ wx.heap[bc]? = some (.cells (balL ⟨i.p, m, g, rs, v.cl.nx, v.cl.left, 0, 0, 0⟩ ⟨A8, c8⟩ ⟨A3, c3⟩).toArray 63 (0, 0)) ∧ AtR be 3 wx A8 m g ∧ (∀ x off, A8 = some ⟨x, off, none⟩ → w7.heap.size ≤ x ∧ x < wx.heap.size ∧ x ≠ bc) ∧ m ≤ c8 ∧ c8 ≤ maxLen)
         case first => as_aux_lemma =>
          refine wp_region_noPanic ?_
          refine AnyTill.begin (C := fun w' => w'.cell? ⟨w.heap.size, 1, none⟩ = some (.int .i64 i.p) ∧ w'.cell? ⟨rg, 0, none⟩ = some (.slice A m c)) (q := 99) (by kernel_rfl) ?_
          obtain ⟨wd, hwd⟩ : ∃ wd, w7.drew = wd := ⟨_, rfl⟩
          have kd : Below w7.heap.size w7 wd := by rw [← hwd]; exact below_drew w7
          rw [hwd]
          clear hwd
          have scd := HC25.out wd kd
          refine AnyTill.tk 0 scd ?_
          refine AnyTill.tk 1 scd ?_
          refine AnyTill.tk 2 scd ?_
          refine AnyTill.tk 3 scd ?_
          refine AnyTill.tk 4 scd ?_
          refine AnyTill.tk 5 scd ?_
          refine AnyTill.tk 7 scd ?_
          refine AnyTill.tk 8 scd ?_
          refine AnyTill.tk 9 scd ?_
          refine' AnyTill.two (i := 6) (k := 12) (o := _) (o' := _) (by kernel_rfl) ?n1a ?n1b (fun K' hK => ?n1x) (fun K' hK => ?n1y)
          case n1a => (simp only [List.getElem?_toArray, List.getElem?_cons_succ, List.getElem?_cons_zero]; rfl)
          case n1b => (simp only [List.getElem?_toArray, List.getElem?_cons_succ, List.getElem?_cons_zero]; rfl)
          case n1x =>
            refine step_app_r rfl (.tmp 149) rfl bk_type hi hz0 hz1 hz2 m c A g rfl (HA.out.below (MS.out.own.lo.trans (kd.mono MS.out.own.lo.size))) HN.out (by omega) ?_
            intro A8 c8 wn1x ho8 bn1x hc8 hn8
            have atn1x := ownr_at ho8
            have frn1x : ∀ x off, A8 = some ⟨x, off, none⟩ → w7.heap.size ≤ x ∧ x < wn1x.heap.size := fun x off e => by have := World.ownsRow.lt ho8 x (by rw [e]; rfl); have := kd.size; omega
            have kn1x := kd.trans (bn1x.mono kd.size)
            have cn1x := HC25.out _ kn1x
            refine hK.out _ _ (.inr cn1x) ?_
            clear hK K'
            try simp only [pt]
            refine' AnyTill.two (i := 10) (k := 12) (o := _) (o' := _) (by kernel_rfl) ?n2a ?n2b (fun K' hK => ?n2x) (fun K' hK => ?n2y)
            case n2a => (simp only [List.getElem?_toArray, List.getElem?_cons_succ, List.getElem?_cons_zero]; rfl)
            case n2b => (simp only [List.getElem?_toArray, List.getElem?_cons_succ, List.getElem?_cons_zero]; rfl)
            case n2x =>
              go_simp
              (go_at_call 65; (refine (nlleft (MS.out.L.below kn1x) VL2.out.is).mono ?_); rintro e wn2x ⟨rfl, bn2x⟩)
              rw [EL.out]
              have atn2x := atn1x.below bn2x
              have frn2x : ∀ x off, A8 = some ⟨x, off, none⟩ → w7.heap.size ≤ x ∧ x < wn2x.heap.size := fun x off e => by have := frn1x x off e; have := bn2x.size; omega
              have kn2x := kn1x.trans (bn2x.mono kn1x.size)
              have cn2x := HC25.out _ kn2x
              refine hK.out _ _ (.inr cn2x) ?_
              clear hK K'
              try simp only [pt]
              refine AnyTill.tv (i := 11) (v := .agg (balL ⟨i.p, m, g, rs, v.cl.nx, v.cl.left, 0, 0, 0⟩ ⟨A8, c8⟩ ⟨A3, c3⟩).toArray) (hy := (Or.inl ⟨by rfl, fun w5 _ => build_b rfl _ rfl rfl rfl rfl rfl w5⟩)) (hC := cn2x) (h := ?_)
              refine AnyTill.on 12 fun K' hK => ?_
              go_simp
              generalize hn3 : World.alloc wn2x _ = wn3
              have gn3 : wn3.heap[wn2x.heap.size]? = some (.cells (balL bal0 .nil .nil).toArray 63 (0, 0)) := by rw [← hn3]; exact heap_alloc_last _ _
              have bn3 : Below wn2x.heap.size wn2x wn3 := by rw [← hn3]; exact (Below.refl _ _).alloc (Nat.le_refl _) _
              have ln3 : wn2x.heap.size < wn3.heap.size := by rw [← hn3]; simp
              clear hn3
              have bln3 : w7.heap.size ≤ wn2x.heap.size := kn2x.size
              have atn3 := atn2x.below bn3
              have frn3 : ∀ x off, A8 = some ⟨x, off, none⟩ → w7.heap.size ≤ x ∧ x < wn3.heap.size ∧ x ≠ wn2x.heap.size := fun x off e => by have := frn2x x off e; omega
              have kn3 := kn2x.trans (bn3.mono kn2x.size)
              have cn3 := HC25.out _ kn3
              refine hK.out _ _ (.inr cn3) ?_
              clear hK K'
              try simp only [pt]
              refine AnyTill.on 13 fun K' hK => ?_
              rw [if_pos (by rfl)]
              refine wp_store_row 63 (.tmp 26) (.tmp 155) rfl wn2x.heap.size (balL ⟨i.p, m, g, rs, v.cl.nx, v.cl.left, 0, 0, 0⟩ ⟨A8, c8⟩ ⟨A3, c3⟩).toArray rfl rfl _ _ gn3 (rbal_sz _ _ _) rfl (bal_one _ _ _) ?_
              have kx := below_setRow kn3 (g := wn2x.heap.size) bln3 (balL ⟨i.p, m, g, rs, v.cl.nx, v.cl.left, 0, 0, 0⟩ ⟨A8, c8⟩ ⟨A3, c3⟩).toArray
              refine hK.out _ _ (.inr (HC25.out _ kx)) ?_
              clear hK K'
              try simp only [pt]
              refine AnyTill.done (by kernel_rfl) ?_ _
              refine NoPanic.normal ?_
              go_wp2
              go_meet
              exact ⟨_, A8, c8, rfl, bln3, kx, setRow_heap _ _ _ _ _ _ gn3, atn3.off (fun x off e => (frn3 x off e).2.2) _, fun x off e => ⟨(frn3 x off e).1, by rw [setRow_size]; exact (frn3 x off e).2.1, (frn3 x off e).2.2⟩, hc8⟩
            case n2y =>
              go_simp
              generalize hn2y : World.alloc wn1x _ = wn2y
              have gn2y : wn2y.heap[wn1x.heap.size]? = some (.cells (balL bal0 .nil .nil).toArray 63 (0, 0)) := by rw [← hn2y]; exact heap_alloc_last _ _
              have bn2y : Below wn1x.heap.size wn1x wn2y := by rw [← hn2y]; exact (Below.refl _ _).alloc (Nat.le_refl _) _
              have ln2y : wn1x.heap.size < wn2y.heap.size := by rw [← hn2y]; simp
              clear hn2y
              have bln2y : w7.heap.size ≤ wn1x.heap.size := kn1x.size
              have atn2y := atn1x.below bn2y
              have frn2y : ∀ x off, A8 = some ⟨x, off, none⟩ → w7.heap.size ≤ x ∧ x < wn2y.heap.size ∧ x ≠ wn1x.heap.size := fun x off e => by have := frn1x x off e; omega
              have kn2y := kn1x.trans (bn2y.mono kn1x.size)
              have cn2y := HC25.out _ kn2y
              refine hK.out _ _ (.inr cn2y) ?_
              clear hK K'
              try simp only [pt]
              refine AnyTill.on 10 fun K' hK => ?_
              go_simp
              (go_at_call 65; (refine (nlleft (MS.out.L.below kn2y) VL2.out.is).mono ?_); rintro e wn5 ⟨rfl, bn5⟩)
              rw [EL.out]
              have atn5 := atn2y.below bn5
              have gn5 := (bn5.block _ ln2y).trans gn2y
              have ln5 := Nat.lt_of_lt_of_le ln2y bn5.size
              have frn5 : ∀ x off, A8 = some ⟨x, off, none⟩ → w7.heap.size ≤ x ∧ x < wn5.heap.size ∧ x ≠ wn1x.heap.size := fun x off e => by have := frn2y x off e; have := bn5.size; omega
              have kn5 := kn2y.trans (bn5.mono kn2y.size)
              have cn5 := HC25.out _ kn5
              refine hK.out _ _ (.inr cn5) ?_
              clear hK K'
              try simp only [pt]
              refine AnyTill.tv (i := 11) (v := .agg (balL ⟨i.p, m, g, rs, v.cl.nx, v.cl.left, 0, 0, 0⟩ ⟨A8, c8⟩ ⟨A3, c3⟩).toArray) (hy := (Or.inl ⟨by rfl, fun w5 _ => build_b rfl _ rfl rfl rfl rfl rfl w5⟩)) (hC := cn5) (h := ?_)
              refine AnyTill.on 13 fun K' hK => ?_
              rw [if_pos (by rfl)]
              refine wp_store_row 63 (.tmp 26) (.tmp 155) rfl wn1x.heap.size (balL ⟨i.p, m, g, rs, v.cl.nx, v.cl.left, 0, 0, 0⟩ ⟨A8, c8⟩ ⟨A3, c3⟩).toArray rfl rfl _ _ gn5 (rbal_sz _ _ _) rfl (bal_one _ _ _) ?_
              have kx := below_setRow kn5 (g := wn1x.heap.size) bln2y (balL ⟨i.p, m, g, rs, v.cl.nx, v.cl.left, 0, 0, 0⟩ ⟨A8, c8⟩ ⟨A3, c3⟩).toArray
              refine hK.out _ _ (.inr (HC25.out _ kx)) ?_
              clear hK K'
              try simp only [pt]
              refine AnyTill.done (by kernel_rfl) ?_ _
              refine NoPanic.normal ?_
              go_wp2
              go_meet
              exact ⟨_, A8, c8, rfl, bln2y, kx, setRow_heap _ _ _ _ _ _ gn5, atn5.off (fun x off e => (frn5 x off e).2.2) _, fun x off e => ⟨(frn5 x off e).1, by rw [setRow_size]; exact (frn5 x off e).2.1, (frn5 x off e).2.2⟩, hc8⟩
          case n1y =>
            go_simp
            generalize hn1y : World.alloc wd _ = wn1y
            have gn1y : wn1y.heap[wd.heap.size]? = some (.cells (balL bal0 .nil .nil).toArray 63 (0, 0)) := by rw [← hn1y]; exact heap_alloc_last _ _
            have bn1y : Below wd.heap.size wd wn1y := by rw [← hn1y]; exact (Below.refl _ _).alloc (Nat.le_refl _) _
            have ln1y : wd.heap.size < wn1y.heap.size := by rw [← hn1y]; simp
            clear hn1y
            have bln1y : w7.heap.size ≤ wd.heap.size := kd.size
            have kn1y := kd.trans (bn1y.mono kd.size)
            have cn1y := HC25.out _ kn1y
            refine hK.out _ _ (.inr cn1y) ?_
            clear hK K'
            try simp only [pt]
            refine AnyTill.on 6 fun K' hK => ?_
            refine step_app_r rfl (.tmp 149) rfl bk_type hi hz0 hz1 hz2 m c A g rfl (HA.out.below (MS.out.own.lo.trans (kn1y.mono MS.out.own.lo.size))) HN.out (by omega) ?_
            intro A8 c8 wn7 ho8 bn7 hc8 hn8
            have atn7 := ownr_at ho8
            have gn7 := (bn7.block _ ln1y).trans gn1y
            have ln7 := Nat.lt_of_lt_of_le ln1y bn7.size
            have frn7 : ∀ x off, A8 = some ⟨x, off, none⟩ → w7.heap.size ≤ x ∧ x < wn7.heap.size ∧ x ≠ wd.heap.size := fun x off e => by have := World.ownsRow.lt ho8 x (by rw [e]; rfl); have := kn1y.size; omega
            have kn7 := kn1y.trans (bn7.mono kn1y.size)
            have cn7 := HC25.out _ kn7
            refine hK.out _ _ (.inr cn7) ?_
            clear hK K'
            try simp only [pt]
            refine AnyTill.on 10 fun K' hK => ?_
            go_simp
            (go_at_call 65; (refine (nlleft (MS.out.L.below kn7) VL2.out.is).mono ?_); rintro e wn8 ⟨rfl, bn8⟩)
            rw [EL.out]
            have atn8 := atn7.below bn8
            have gn8 := (bn8.block _ ln7).trans gn7
            have ln8 := Nat.lt_of_lt_of_le ln7 bn8.size
            have frn8 : ∀ x off, A8 = some ⟨x, off, none⟩ → w7.heap.size ≤ x ∧ x < wn8.heap.size ∧ x ≠ wd.heap.size := fun x off e => by have := frn7 x off e; have := bn8.size; omega
            have kn8 := kn7.trans (bn8.mono kn7.size)
            have cn8 := HC25.out _ kn8
            refine hK.out _ _ (.inr cn8) ?_
            clear hK K'
            try simp only [pt]
            refine AnyTill.tv (i := 11) (v := .agg (balL ⟨i.p, m, g, rs, v.cl.nx, v.cl.left, 0, 0, 0⟩ ⟨A8, c8⟩ ⟨A3, c3⟩).toArray) (hy := (Or.inl ⟨by rfl, fun w5 _ => build_b rfl _ rfl rfl rfl rfl rfl w5⟩)) (hC := cn8) (h := ?_)
            refine AnyTill.on 13 fun K' hK => ?_
            rw [if_pos (by rfl)]
            refine wp_store_row 63 (.tmp 26) (.tmp 155) rfl wd.heap.size (balL ⟨i.p, m, g, rs, v.cl.nx, v.cl.left, 0, 0, 0⟩ ⟨A8, c8⟩ ⟨A3, c3⟩).toArray rfl rfl _ _ gn8 (rbal_sz _ _ _) rfl (bal_one _ _ _) ?_
            have kx := below_setRow kn8 (g := wd.heap.size) bln1y (balL ⟨i.p, m, g, rs, v.cl.nx, v.cl.left, 0, 0, 0⟩ ⟨A8, c8⟩ ⟨A3, c3⟩).toArray
            refine hK.out _ _ (.inr (HC25.out _ kx)) ?_
            clear hK K'
            try simp only [pt]
            refine AnyTill.done (by kernel_rfl) ?_ _
            refine NoPanic.normal ?_
            go_wp2
            go_meet
            exact ⟨_, A8, c8, rfl, bln1y, kx, setRow_heap _ _ _ _ _ _ gn8, atn8.off (fun x off e => (frn8 x off e).2.2) _, fun x off e => ⟨(frn8 x off e).1, by rw [setRow_size]; exact (frn8 x off e).2.1, (frn8 x off e).2.2⟩, hc8⟩
         case rest => as_aux_lemma =>
           obtain ⟨bc, A8, c8, rfl, hlb, kb8, g8, a8, fr8, hc8⟩ := hcut
           have bcl : bc < wc.heap.size := (Array.getElem?_eq_some_iff.1 g8).1
           have hl7 := MS.out.own.lo.size
           have s8 := Step.fresh MS.out.L.fin kb8 hl7 hlb bcl 3 9
           have MV : Hid (MkV w wc (mark O7 3 bc) i op ⟨ab, cb⟩ ⟨ar, cr⟩ lb' SL' w5.heap.size v.x U cu A4 k f4 A3 c3 m rs g A8 c8 bp bc (qL i v.r op ⟨ab, cb⟩ ⟨ar, cr⟩ bal0 vnil vnil v.x (.slice U v.x.q cu) (.slice A4 k c4) vnil 0 0 0 0 0 0 0) ⟨i.p, m, g, rs, v.cl.nx, v.cl.left, 0, 0, 0⟩) :=
             Lib.hid ⟨MS.out.step s8 (by decide) (by decide), P7.out.step s8 (by decide), ⟨g8, mark_at _ _ _⟩, a8, fun x off e => by
               obtain ⟨h1, h2, h3⟩ := fr8 x off e
               exact ⟨by omega, h2, by rw [mark_ne _ _ h3]; exact MS.out.L.fin.2 x h1⟩⟩
           generalize hO8 : mark O7 3 bc = O8
           rw [hO8] at MV
           obtain ⟨hqv, hfe⟩ := HF4.out.uniq HM.out.way
           have HFE := Lib.hid hfe
           have HQV := Lib.hid hqv
           have TY := Lib.hid (mk_temp_yes HS.out.inv HB.out HM.out HRS.out)
           have TN := Lib.hid (mk_temp_no HS.out.inv HB.out HM.out HRS.out)
           have ML := Lib.hid (mk_loss HS.out.inv HV.out HM.out)
           clear hO8 MS P7 hlb kb8 g8 a8 fr8 bcl hl7 s8 hqv hfe HC25 EL VL2 HA HN
           have ct : ∃ t0 e0, TempIs g m rs m t0 e0 ∧ ((Mon v.cl.tmp ∧ t0 = v.cl.tmp ∧ e0 = 0) ∨ (¬ Mon v.cl.tmp ∧ t0 = 0 ∧ e0 = 6)) := by
             by_cases h : Mon v.cl.tmp
             · exact ⟨_, _, TY.out h, .inl ⟨h, rfl, rfl⟩⟩
             · exact ⟨_, _, TN.out h, .inr ⟨h, rfl, rfl⟩⟩
           obtain ⟨t0, e0, hti, ht0⟩ := ct
           have x0 : wc.cell? ⟨rg, 0, none⟩ = some (.slice A m c) := cell_keep HC.out MV.out.lo
           have CT := Lib.hid (rtemp_any A A3 m c m c3 g rs t0 e0 wc (HAR.out.below MV.out.lo) MV.out.ms.rt hm9 hc3 hti)
           have HT0 := Lib.hid ht0
           clear TY TN hti ht0
           go_upto_region 27 with (first | (go_at_call 66; (refine (CT.out).mono ?_); rintro e w9 ⟨rfl, hb9⟩; have MV9 := Lib.hid (MV.out.below hb9); have c5 := MV9.out.c.cell (j := 5) rfl; have f5 := MV9.out.c.frz 5; clear hb9))
           rw [bal_set5 MV9.out.c.at' t0]
           obtain ⟨mv, _⟩ := MV9.out.setC ⟨i.p, m, g, rs, v.cl.nx, v.cl.left, t0, 0, 0⟩
           generalize hw : World.setRow w9 bc _ = wA
           rw [hw] at mv
           have MVA := Lib.hid mv
           clear hw mv MV9 MV CT x0 c5 f5
           rcases HT0.out with ⟨t1, rfl, rfl⟩ | ⟨t1, rfl, rfl⟩
           · clear HT0
             obtain ⟨L0, hL0⟩ : ∃ L0, rof v.cl.ls i.jd = L0 := ⟨_, rfl⟩
             have bL := ML.out.2.2.2.2
             have SH := Lib.hid ML.out.2.2.2.1
             rw [hL0] at bL SH
             have EAL := Lib.hid (show v.cl.al = -L0 by rw [HM.out.al, hL0])
             clear hL0
             have T1 := Lib.hid t1
             clear t1
             have c4 := MVA.out.c.cell (j := 4) rfl
             have c6 := MVA.out.c.cell (j := 6) rfl
             have f6 := MVA.out.c.frz 6
             go_upto_region 30 with (first | (go_at_call 67; (with_reducible refine (rshare_any _ _ _ _ ML.out.2.2.1 _).mono ?_); rintro e w' ⟨rfl, rfl⟩))
             clear c4 c6 f6
             rw [bal_set6 MVA.out.c.at' v.cl.ls]
             obtain ⟨mv, _⟩ := MVA.out.setC ⟨i.p, m, g, rs, v.cl.nx, v.cl.left, v.cl.tmp, v.cl.ls, 0⟩
             generalize hw : World.setRow wA bc _ = wB
             rw [hw] at mv
             have MVB := Lib.hid mv
             clear hw mv MVA
             have c6 := MVB.out.c.cell (j := 6) rfl
             have c7 := MVB.out.c.cell (j := 7) rfl
             have f7 := MVB.out.c.frz 7
             obtain ⟨j0, j1, j2, j3, j4, j5, j6, j7⟩ := MVB.out.ms.own.ins
             go_upto_region 33 with (first | (go_at_call 67; (with_reducible refine (rshare_any _ _ _ _ SH.out _).mono ?_); rintro e w' ⟨rfl, rfl⟩))
             clear c6 c7 f7 j0 j1 j2 j3 j4 j5 j6 j7
             rw [bal_set7 MVB.out.c.at' L0]
             obtain ⟨mv, _⟩ := MVB.out.setC ⟨i.p, m, g, rs, v.cl.nx, v.cl.left, v.cl.tmp, v.cl.ls, L0⟩
             generalize hw : World.setRow wB bc _ = wC
             rw [hw] at mv
             have MVC := Lib.hid mv
             clear hw mv MVB
             have c7 := MVC.out.c.cell (j := 7) rfl
             have f7 := MVC.out.c.frz 7
             go_upto_region 36 with fail
             clear c7 f7
             rw [bal_set7 MVC.out.c.at' (-L0)]
             obtain ⟨mv, _⟩ := MVC.out.setC ⟨i.p, m, g, rs, v.cl.nx, v.cl.left, v.cl.tmp, v.cl.ls, (-L0)⟩
             generalize hw : World.setRow wC bc _ = wD
             rw [hw] at mv
             have MVD := Lib.hid mv
             clear hw mv MVC
             rw [← EAL.out] at MVD
             clear EAL SH bL
             have ST : Hid (wD.setCells bp 17 (balL ⟨i.p, m, g, rs, v.cl.nx, v.cl.left, v.cl.tmp, v.cl.ls, v.cl.al⟩ ⟨A8, c8⟩ ⟨A3, c3⟩) = wD.setRow bp (qL i v.r op ⟨ab, cb⟩ ⟨ar, cr⟩ ⟨i.p, m, g, rs, v.cl.nx, v.cl.left, v.cl.tmp, v.cl.ls, v.cl.al⟩ (.slice A8 m c8) (.slice A3 m c3) v.x (.slice U v.x.q cu) (.slice A4 k c4) vnil 0 0 0 0 0 0 0).toArray) := Lib.hid ((setCells_row (balL ⟨i.p, m, g, rs, v.cl.nx, v.cl.left, v.cl.tmp, v.cl.ls, v.cl.al⟩ ⟨A8, c8⟩ ⟨A3, c3⟩) 17 _ wD MVD.out.p.at').trans (congrArg (wD.setRow bp) (put_bal ..)))
             go_upto_region 38 with (first | ((with_reducible show wpList _ _ _ _ _ _); (refine wpList_load_mid rfl 63 _ rfl bc 0 rfl (balL ⟨i.p, m, g, rs, v.cl.nx, v.cl.left, v.cl.tmp, v.cl.ls, v.cl.al⟩ ⟨A8, c8⟩ ⟨A3, c3⟩) _ (row_range MVD.out.c.at') Tryz.underlying63 rfl rbal_size ?_)) | ((with_reducible show wpList _ _ _ _ _ _); (refine wpList_store_mid rfl 63 _ _ rfl bp 17 (balL ⟨i.p, m, g, rs, v.cl.nx, v.cl.left, v.cl.tmp, v.cl.ls, v.cl.al⟩ ⟨A8, c8⟩ ⟨A3, c3⟩).toArray rfl rfl (there_row MVD.out.p.at' (show 17 + 8 ≤ 41 by decide)) (rbal_sz _ _ _) (bal_one _ _ _) ?_); rw [ST.out]))
             obtain ⟨mv, _⟩ := MVD.out.setP (qL i v.r op ⟨ab, cb⟩ ⟨ar, cr⟩ ⟨i.p, m, g, rs, v.cl.nx, v.cl.left, v.cl.tmp, v.cl.ls, v.cl.al⟩ (.slice A8 m c8) (.slice A3 m c3) v.x (.slice U v.x.q cu) (.slice A4 k c4) vnil 0 0 0 0 0 0 0)
             generalize hw : World.setRow wD bp _ = wE
             rw [hw] at mv
             have MVE := Lib.hid mv
             clear hw mv MVD ST
             have HNW : Hid (∀ j, j < k → Known R nr i.j (max (f4 j).y (i.p / 4)) i.p (v.now j) true) := Lib.hid fun j hj => by rw [HFE.out j hj]; exact HM.out.now j (by rw [← HQV.out]; exact hj)
             have HWS : Hid (∀ j, j < k → OldIs op (f4 j).c (f4 j).y (v.now j) (v.was j)) := Lib.hid fun j hj => by rw [HFE.out j hj]; exact HM.out.was j (by rw [← HQV.out]; exact hj)
             obtain ⟨ii, ji, jz0, jz1, jz2⟩ := info_parts int_info
             have p32 := MVE.out.p.cell (j := 32) rfl
             have hop9 : op.n ≤ 1000 := by have := HOK.out.iv.le; omega
             go_wp2
             clear p32
             go_loopg [27, 204] k (fun gh s27 s204 wr => ∃ (n : Nat) (nv : Value) (O9 : Nat → Nat), n ≤ k ∧ gh = k - n ∧ s204 = .int .i64 n ∧ (∃ A c, nv = .slice A n c) ∧ (∃ A c, s27 = .slice A n c) ∧ MkV w wr O9 i op ⟨ab, cb⟩ ⟨ar, cr⟩ lb' SL' w5.heap.size v.x U cu A4 k f4 A3 c3 m rs g A8 c8 bp bc (qL i v.r op ⟨ab, cb⟩ ⟨ar, cr⟩ ⟨i.p, m, g, rs, v.cl.nx, v.cl.left, v.cl.tmp, v.cl.ls, v.cl.al⟩ (.slice A8 m c8) (.slice A3 m c3) v.x (.slice U v.x.q cu) (.slice A4 k c4) nv 0 0 0 0 0 0 0) ⟨i.p, m, g, rs, v.cl.nx, v.cl.left, v.cl.tmp, v.cl.ls, v.cl.al⟩ ∧ LiT wr O9 w.heap.size 4 nv n v.now ∧ LiT wr O9 w.heap.size 5 s27 n v.was)
             case atStart => exact ⟨0, vnil, O8, Nat.zero_le _, rfl, rfl, ⟨none, 0, rfl⟩, ⟨none, 0, rfl⟩, MVE.out, LiT.nil _ _ _ _ _, LiT.nil _ _ _ _ _⟩
             case round =>
               obtain ⟨n, nv, O9, hn, hgn, rfl, ⟨AN, cn, rfl⟩, ⟨AW, cw, rfl⟩, hmv, hln, hlw⟩ := hrel
               have HGN := Lib.hid hgn
               have MVR := Lib.hid hmv
               have LN := Lib.hid hln
               have LW := Lib.hid hlw
               clear hgn hmv hln hlw MVE
               by_cases hlt : n < k
               · as_aux_lemma =>
                 have kn := HNW.out n hlt
                 have kw := HWS.out n hlt
                 obtain ⟨b5, off, rfl, hb5, e0, e1, e2, e3, e4⟩ := MVR.out.ms.rw.five hlt
                 obtain ⟨x0, hx0⟩ : ∃ x, (f4 n).c = x := ⟨_, rfl⟩
                 obtain ⟨x1, hx1⟩ : ∃ x, (f4 n).y = x := ⟨_, rfl⟩
                 obtain ⟨x2, hx2⟩ : ∃ x, (f4 n).o = x := ⟨_, rfl⟩
                 obtain ⟨x3, hx3⟩ : ∃ x, (f4 n).m = x := ⟨_, rfl⟩
                 obtain ⟨x4, hx4⟩ : ∃ x, (f4 n).k = x := ⟨_, rfl⟩
                 obtain ⟨zn, hzn⟩ : ∃ z, v.now n = z := ⟨_, rfl⟩
                 obtain ⟨zw, hzw⟩ : ∃ z, v.was n = z := ⟨_, rfl⟩
                 rw [hx0] at e0 kw
                 rw [hx1] at e1 kn kw
                 rw [hx2] at e2
                 rw [hx3] at e3
                 rw [hx4] at e4
                 rw [hzn] at kn kw
                 rw [hzw] at kw
                 have HZN := Lib.hid hzn
                 have HZW := Lib.hid hzw
                 have KN := Lib.hid kn
                 have KW := Lib.hid kw
                 have i0 : (0 : Int) ≤ (n : Int) := by omega
                 have i1 : (n : Int) < (k : Int) := by omega
                 have hba := (Below.refl wr.heap.size wr).alloc (Nat.le_refl _) (.cells #[.int .i64 x0, .int .i64 x1, .int .i64 x2, .int .i64 x3, .int .i64 x4] 126)
                 have gba := heap_alloc_last wr (.cells #[.int .i64 x0, .int .i64 x1, .int .i64 x2, .int .i64 x3, .int .i64 x4] 126)
                 obtain ⟨wa, hwa⟩ : ∃ wa, wr.alloc (.cells #[.int .i64 x0, .int .i64 x1, .int .i64 x2, .int .i64 x3, .int .i64 x4] 126) = wa := ⟨_, rfl⟩
                 rw [hwa] at hba gba
                 have rbx : Box wa O9 0 wr.heap.size 126 [.int .i64 x0, .int .i64 x1, .int .i64 x2, .int .i64 x3, .int .i64 x4] := ⟨gba, MVR.out.ms.L.fin.2 _ (Nat.le_refl _)⟩
                 have MR := Lib.hid (MkR.mk (MVR.out.below hba) (LN.out.below hba) (LW.out.below hba) rbx)
                 have HWA := Lib.hid hwa
                 have d1 := rbx.cell (j := 1) rfl
                 obtain ⟨j0, j1, j2, j3, j4, j5, j6, j7⟩ := (MVR.out.below hba).ms.own.ins
                 have CR9 := Lib.hid (rrate_any (HS.out.below (MVR.out.below hba).lo) i.j (max x1 (i.p / 4)) i.p zn true kn)
                 clear hx0 hx1 hx2 hx3 hx4 hzn hzw kn kw hba gba hwa rbx MVR LN LW HNW HWS
                 go_upto_region 41 with fail
                 rw [HWA.out]
                 clear e0 e1 e2 e3 e4 hb5 HWA
                 go_cut [30, 31] (fun s30 s31 wx => s30 = .int .i64 zn ∧ s31 = .bool true ∧ Below wa.heap.size wa wx)
                 case first =>
                   rcases (show i.p / 4 > x1 ∨ ¬ i.p / 4 > x1 by omega) with hmx | hmx
                   · rw [show max x1 (i.p / 4) = i.p / 4 by omega] at CR9
                     go_wp2_with (go_at_call 60; (with_reducible refine (CR9.out).mono ?_); rintro e w6 ⟨rfl, hb6⟩)
                     go_meet
                     exact ⟨rfl, rfl, hb6⟩
                   · rw [show max x1 (i.p / 4) = x1 by omega] at CR9
                     go_wp2_with (go_at_call 60; (with_reducible refine (CR9.out).mono ?_); rintro e w6 ⟨rfl, hb6⟩)
                     go_meet
                     exact ⟨rfl, rfl, hb6⟩
                 case rest =>
                   obtain ⟨rfl, rfl, hbx⟩ := hcut
                   have MR := Lib.hid (MR.out.below hbx)
                   clear hbx CR9 d1 j0 j1 j2 j3 j4 j5 j6 j7
                   go_upto_region 44 with fail
                   have bz : w.heap.size ≤ wc.heap.size := MR.out.mv.lo.size
                   refine wp_region_noPanic ?_
                   refine AnyUp.begin (C := fun w' => w'.cell? ⟨bp, 33, none⟩ = some (.slice AN n cn)) (E := fun w' => w'.rangeAt (w.heap.size + 1) 0 (balL op ⟨ab, cb⟩ ⟨ar, cr⟩) ∧ w'.cell? ⟨wr.heap.size, 0, none⟩ = some (.int .i64 x0) ∧ w'.cell? ⟨wr.heap.size, 1, none⟩ = some (.int .i64 x1)) (q := 16) (by kernel_rfl) ?_
                   obtain ⟨wd, hwd⟩ : ∃ wd, wc.drew = wd := ⟨_, rfl⟩
                   have kd : Below wc.heap.size wc wd := by rw [← hwd]; exact below_drew wc
                   rw [hwd]
                   have mr := MR.out.below kd
                   clear hwd
                   have e1 : wd.rangeAt (w.heap.size + 1) 0 (balL op ⟨ab, cb⟩ ⟨ar, cr⟩) ∧ wd.cell? ⟨wr.heap.size, 0, none⟩ = some (.int .i64 x0) ∧ wd.cell? ⟨wr.heap.size, 1, none⟩ = some (.int .i64 x1) := ⟨row_range mr.mv.ms.own.b7, mr.rb.cell rfl, mr.rb.cell rfl⟩
                   have p1 : wd.cell? ⟨bp, 33, none⟩ = some (.slice AN n cn) := mr.mv.p.cell (j := 33) rfl
                   refine AnyUp.takeQ (i := 0) (v := ?_) (by simp only [List.getElem?_toArray, List.getElem?_cons_zero]; rfl) (by kernel_rfl) (by kernel_rfl) (by kernel_rfl) (by kernel_rfl) (fun _ _ _ h => h) (Or.inl ⟨by rfl, ?_⟩) ⟨e1, .inr p1⟩ ?_
                   rotate_left
                   · intro w' hw'; (try dsimp only at hw'); go_simp <;> with_reducible rfl
                   try simp only [pt]
                   refine AnyUp.take (i := 1) (v := ?_) (by simp only [List.getElem?_toArray, List.getElem?_cons_succ, List.getElem?_cons_zero]; rfl) (by kernel_rfl) (by kernel_rfl) (by kernel_rfl) (by kernel_rfl) (by kernel_rfl) (fun _ _ _ h => h) (Or.inl ⟨by rfl, ?_⟩) ⟨e1, p1⟩ ?_
                   rotate_left
                   · intro w' hw'; (try dsimp only at hw'); go_simp <;> with_reducible rfl
                   try simp only [pt]
                   refine AnyUp.takeQ (i := 2) (v := ?_) (by simp only [List.getElem?_toArray, List.getElem?_cons_succ, List.getElem?_cons_zero]; rfl) (by kernel_rfl) (by kernel_rfl) (by kernel_rfl) (by kernel_rfl) (fun _ _ _ h => h) (Or.inl ⟨by rfl, ?_⟩) ⟨e1, .inr p1⟩ ?_
                   rotate_left
                   · intro w' hw'; (try dsimp only at hw'); go_simp <;> with_reducible rfl
                   try simp only [pt]
                   refine AnyUp.takeQ (i := 5) (v := ?_) (by simp only [List.getElem?_toArray, List.getElem?_cons_succ, List.getElem?_cons_zero]; rfl) (by kernel_rfl) (by kernel_rfl) (by kernel_rfl) (by kernel_rfl) (fun _ _ _ h => h) (Or.inl ⟨by rfl, ?_⟩) ⟨e1, .inr p1⟩ ?_
                   rotate_left
                   · intro w' hw'; (try dsimp only at hw'); go_simp <;> with_reducible rfl
                   try simp only [pt]
                   refine AnyUp.takeQ (i := 6) (v := .agg (balL op ⟨ab, cb⟩ ⟨ar, cr⟩).toArray) (by simp only [List.getElem?_toArray, List.getElem?_cons_succ, List.getElem?_cons_zero]; rfl) (by kernel_rfl) (by kernel_rfl) (by kernel_rfl) (by kernel_rfl) (fun _ _ _ h => h) (yieldsIf_load_mid (by rfl) 63 (.tmp 7) rfl (w.heap.size + 1) 0 rfl (balL op ⟨ab, cb⟩ ⟨ar, cr⟩) _ (fun _ h => h.1) Tryz.underlying63 rfl rbal_size) ⟨e1, .inr p1⟩ ?_
                   try simp only [pt]
                   refine AnyUp.takeQ (i := 7) (v := ?_) (by simp only [List.getElem?_toArray, List.getElem?_cons_succ, List.getElem?_cons_zero]; rfl) (by kernel_rfl) (by kernel_rfl) (by kernel_rfl) (by kernel_rfl) (fun _ _ _ h => h) (Or.inl ⟨by rfl, ?_⟩) ⟨e1, .inr p1⟩ ?_
                   rotate_left
                   · intro w' hw'; (try dsimp only at hw'); go_simp <;> with_reducible rfl
                   try simp only [pt]
                   refine AnyUp.takeQ (i := 8) (v := ?_) (by simp only [List.getElem?_toArray, List.getElem?_cons_succ, List.getElem?_cons_zero]; rfl) (by kernel_rfl) (by kernel_rfl) (by kernel_rfl) (by kernel_rfl) (fun _ _ _ h => h) (Or.inl ⟨by rfl, ?_⟩) ⟨e1, .inr p1⟩ ?_
                   rotate_left
                   · intro w' hw'; (try dsimp only at hw'); go_simp <;> with_reducible rfl
                   try simp only [pt]
                   refine AnyUp.takeQ (i := 9) (v := ?_) (by simp only [List.getElem?_toArray, List.getElem?_cons_succ, List.getElem?_cons_zero]; rfl) (by kernel_rfl) (by kernel_rfl) (by kernel_rfl) (by kernel_rfl) (fun _ _ _ h => h) (Or.inl ⟨by rfl, ?_⟩) ⟨e1, .inr p1⟩ ?_
                   rotate_left
                   · intro w' hw'; (try dsimp only at hw'); go_simp <;> with_reducible rfl
                   try simp only [pt]
                   refine AnyUp.takeQ (i := 10) (v := ?_) (by simp only [List.getElem?_toArray, List.getElem?_cons_succ, List.getElem?_cons_zero]; rfl) (by kernel_rfl) (by kernel_rfl) (by kernel_rfl) (by kernel_rfl) (fun _ _ _ h => h) (Or.inl ⟨by rfl, ?_⟩) ⟨e1, .inr p1⟩ ?_
                   rotate_left
                   · intro w' hw'; (try dsimp only at hw'); go_simp <;> with_reducible rfl
                   try simp only [pt]
                   refine AnyUp.takeQ (i := 11) (v := ?_) (by simp only [List.getElem?_toArray, List.getElem?_cons_succ, List.getElem?_cons_zero]; rfl) (by kernel_rfl) (by kernel_rfl) (by kernel_rfl) (by kernel_rfl) (fun _ _ _ h => h) (Or.inl ⟨by rfl, ?_⟩) ⟨e1, .inr p1⟩ ?_
                   rotate_left
                   · intro w' hw'; (try dsimp only at hw'); go_simp <;> with_reducible rfl
                   try simp only [pt]
                   refine' AnyUp.one (i := 3) (o := _) (by kernel_rfl) ?ho3ua (fun K' hK => ?hh3ua)
                   case ho3ua => (simp only [List.getElem?_toArray, List.getElem?_cons_succ, List.getElem?_cons_zero]; rfl)
                   go_simp
                   generalize hap : World.alloc wd _ = wl
                   have bl : Below wd.heap.size wd wl := by rw [← hap]; exact (Below.refl _ _).alloc (Nat.le_refl _) _
                   have l0 : wl.cell? ⟨wd.heap.size, 0, none⟩ = some (.int .i64 zn) := by rw [← hap]; exact rec_lit wd [.int .i64 zn] 3 wd.heap.size rfl 0 _ rfl
                   have ml := mr.below bl
                   clear hap mr e1 p1
                   have e1 : wl.rangeAt (w.heap.size + 1) 0 (balL op ⟨ab, cb⟩ ⟨ar, cr⟩) ∧ wl.cell? ⟨wr.heap.size, 0, none⟩ = some (.int .i64 x0) ∧ wl.cell? ⟨wr.heap.size, 1, none⟩ = some (.int .i64 x1) := ⟨row_range ml.mv.ms.own.b7, ml.rb.cell rfl, ml.rb.cell rfl⟩
                   have p1 : wl.cell? ⟨bp, 33, none⟩ = some (.slice AN n cn) := ml.mv.p.cell (j := 33) rfl
                   refine hK.out _ _ ⟨e1, .inr p1⟩ ?_
                   clear hK K' e1 p1
                   try simp only [pt]
                   refine' AnyUp.one (i := 4) (o := _) (by kernel_rfl) ?ho4ub (fun K' hK => ?hh4ub)
                   case ho4ub => (simp only [List.getElem?_toArray, List.getElem?_cons_succ, List.getElem?_cons_zero]; rfl)
                   refine step_push_int rfl (.tmp 225) (.tmp 227) rfl Tryz.underlying33 ji jz0 jz1 jz2 w w.heap.size n wd.heap.size _ v.now zn rfl rfl l0 ml.ln.own (by omega) ml.mv.lo (Nat.le_trans bz (Nat.le_trans kd.size bl.size)) wl.heap.size rfl ?_
                   intro b6 c6 w6 o6 hW6 hg6 hat6
                   have m6 := ml.now o6 hg6 hat6 (Nat.le_refl _)
                   have z6 : w.heap.size ≤ w6.heap.size := hW6.size
                   clear hW6 hg6 hat6 o6 ml l0 bl
                   have e1 : w6.rangeAt (w.heap.size + 1) 0 (balL op ⟨ab, cb⟩ ⟨ar, cr⟩) ∧ w6.cell? ⟨wr.heap.size, 0, none⟩ = some (.int .i64 x0) ∧ w6.cell? ⟨wr.heap.size, 1, none⟩ = some (.int .i64 x1) := ⟨row_range m6.mv.ms.own.b7, m6.rb.cell rfl, m6.rb.cell rfl⟩
                   have p1 : w6.cell? ⟨bp, 33, none⟩ = some (.slice AN n cn) := m6.mv.p.cell (j := 33) rfl
                   refine hK.out _ _ ⟨e1, .inr p1⟩ ?_
                   clear hK K'
                   try simp only [pt]
                   refine AnyUp.takeQ (i := 15) (v := ?_) (by simp only [List.getElem?_toArray, List.getElem?_cons_succ, List.getElem?_cons_zero]; rfl) (by kernel_rfl) (by kernel_rfl) (by kernel_rfl) (by kernel_rfl) (fun _ _ _ h => h) (Or.inl ⟨by rfl, ?_⟩) ⟨e1, .inr p1⟩ ?_
                   rotate_left
                   · intro w' hw'; (try dsimp only at hw'); go_simp <;> with_reducible rfl
                   try simp only [pt]
                   clear e1 p1
                   refine' AnyUp.one (i := 12) (o := _) (by kernel_rfl) ?ho12uc (fun K' hK => ?hh12uc)
                   case ho12uc => (simp only [List.getElem?_toArray, List.getElem?_cons_succ, List.getElem?_cons_zero]; rfl)
                   go_simp
                   (go_at_call 68; (refine (rold_any (HO.out.below m6.mv.lo) HOK.out.iv.is hop9 x0 x1 zn zw KW.out).mono ?_); rintro e w7 ⟨rfl, hb7⟩)
                   have m7 := m6.below hb7
                   have z7 : w.heap.size ≤ w7.heap.size := Nat.le_trans z6 hb7.size
                   clear hb7 m6
                   have e1 : w7.rangeAt (w.heap.size + 1) 0 (balL op ⟨ab, cb⟩ ⟨ar, cr⟩) ∧ w7.cell? ⟨wr.heap.size, 0, none⟩ = some (.int .i64 x0) ∧ w7.cell? ⟨wr.heap.size, 1, none⟩ = some (.int .i64 x1) := ⟨row_range m7.mv.ms.own.b7, m7.rb.cell rfl, m7.rb.cell rfl⟩
                   have p1 : w7.cell? ⟨bp, 33, none⟩ = some (.slice AN n cn) := m7.mv.p.cell (j := 33) rfl
                   refine hK.out _ _ ⟨e1, .inr p1⟩ ?_
                   clear hK K' e1 p1
                   try simp only [pt]
                   refine' AnyUp.one (i := 13) (o := _) (by kernel_rfl) ?ho13ud (fun K' hK => ?hh13ud)
                   case ho13ud => (simp only [List.getElem?_toArray, List.getElem?_cons_succ, List.getElem?_cons_zero]; rfl)
                   go_simp
                   generalize hap : World.alloc w7 _ = wm
                   have bl : Below w7.heap.size w7 wm := by rw [← hap]; exact (Below.refl _ _).alloc (Nat.le_refl _) _
                   have l0 : wm.cell? ⟨w7.heap.size, 0, none⟩ = some (.int .i64 zw) := by rw [← hap]; exact rec_lit w7 [.int .i64 zw] 3 w7.heap.size rfl 0 _ rfl
                   have ml := m7.below bl
                   clear hap m7
                   have e1 : wm.rangeAt (w.heap.size + 1) 0 (balL op ⟨ab, cb⟩ ⟨ar, cr⟩) ∧ wm.cell? ⟨wr.heap.size, 0, none⟩ = some (.int .i64 x0) ∧ wm.cell? ⟨wr.heap.size, 1, none⟩ = some (.int .i64 x1) := ⟨row_range ml.mv.ms.own.b7, ml.rb.cell rfl, ml.rb.cell rfl⟩
                   have p1 : wm.cell? ⟨bp, 33, none⟩ = some (.slice AN n cn) := ml.mv.p.cell (j := 33) rfl
                   refine hK.out _ _ ⟨e1, .inr p1⟩ ?_
                   clear hK K' e1 p1
                   try simp only [pt]
                   refine' AnyUp.one (i := 14) (o := _) (by kernel_rfl) ?ho14ue (fun K' hK => ?hh14ue)
                   case ho14ue => (simp only [List.getElem?_toArray, List.getElem?_cons_succ, List.getElem?_cons_zero]; rfl)
                   refine step_push_int rfl (.tmp 229) (.tmp 237) rfl Tryz.underlying33 ji jz0 jz1 jz2 w w.heap.size n w7.heap.size _ v.was zw rfl rfl l0 ml.lw.own (by omega) ml.mv.lo (Nat.le_trans z7 bl.size) wm.heap.size rfl ?_
                   intro b8 c9 w8 o8 hW8 hg8 hat8
                   have m8 := ml.was o8 hg8 hat8 (Nat.le_refl _)
                   clear hW8 hg8 hat8 o8 ml l0 bl
                   have e1 : w8.rangeAt (w.heap.size + 1) 0 (balL op ⟨ab, cb⟩ ⟨ar, cr⟩) ∧ w8.cell? ⟨wr.heap.size, 0, none⟩ = some (.int .i64 x0) ∧ w8.cell? ⟨wr.heap.size, 1, none⟩ = some (.int .i64 x1) := ⟨row_range m8.mv.ms.own.b7, m8.rb.cell rfl, m8.rb.cell rfl⟩
                   have p1 : w8.cell? ⟨bp, 33, none⟩ = some (.slice AN n cn) := m8.mv.p.cell (j := 33) rfl
                   refine hK.out _ _ ⟨e1, .inr p1⟩ ?_
                   clear hK K'
                   try simp only [pt]
                   refine' AnyUp.one (i := 16) (o := _) (by kernel_rfl) ?ho16uf (fun K' hK => ?hh16uf)
                   case ho16uf => (simp only [List.getElem?_toArray, List.getElem?_cons_succ, List.getElem?_cons_zero]; rfl)
                   have fp := m8.mv.p.frz 33
                   have q33 := q_set33 m8.mv.p.at' (.slice (some ⟨b6, 0, none⟩) (n + 1) c6)
                   have m9 := m8.setP (qL i v.r op ⟨ab, cb⟩ ⟨ar, cr⟩ ⟨i.p, m, g, rs, v.cl.nx, v.cl.left, v.cl.tmp, v.cl.ls, v.cl.al⟩ (.slice A8 m c8) (.slice A3 m c3) v.x (.slice U v.x.q cu) (.slice (some ⟨b5, off, none⟩) k c4) (.slice (some ⟨b6, 0, none⟩) (n + 1) c6) 0 0 0 0 0 0 0)
                   generalize hw9 : World.setRow w8 bp _ = w9 at q33
                   rw [hw9] at m9
                   clear hw9 m8
                   go_simp
                   clear q33
                   have e1 : w9.rangeAt (w.heap.size + 1) 0 (balL op ⟨ab, cb⟩ ⟨ar, cr⟩) ∧ w9.cell? ⟨wr.heap.size, 0, none⟩ = some (.int .i64 x0) ∧ w9.cell? ⟨wr.heap.size, 1, none⟩ = some (.int .i64 x1) := ⟨row_range m9.mv.ms.own.b7, m9.rb.cell rfl, m9.rb.cell rfl⟩
                   refine hK.out _ _ ⟨e1, .inl rfl⟩ ?_
                   clear hK K'
                   try simp only [pt]
                   refine AnyUp.takeQ (i := 17) (v := ?_) (by simp only [List.getElem?_toArray, List.getElem?_cons_succ, List.getElem?_cons_zero]; rfl) (by kernel_rfl) (by kernel_rfl) (by kernel_rfl) (by kernel_rfl) (fun _ _ _ h => h) (Or.inl ⟨by rfl, ?_⟩) ⟨e1, .inl rfl⟩ ?_
                   rotate_left
                   · intro w' hw'; (try dsimp only at hw'); go_simp <;> with_reducible rfl
                   try simp only [pt]
                   refine AnyUp.done (by kernel_rfl) ?_ _
                   refine NoPanic.normal ?_
                   have M9 := Lib.hid m9
                   clear m9 e1 p1 fp
                   go_wp2
                   go_roundg (k - (n + 1))
                   case measure => have := HGN.out; omega
                   case rel =>
                     exact ⟨n + 1, _, _, by omega, rfl, by go_num, ⟨_, _, rfl⟩, ⟨_, _, rfl⟩, M9.out.mv, M9.out.ln.ext fun j hj => by
                       by_cases e : j = n
                       · rw [if_pos e, e, HZN.out]
                       · rw [if_neg e], M9.out.lw.ext fun j hj => by
                       by_cases e : j = n
                       · rw [if_pos e, e, HZW.out]
                       · rw [if_neg e]⟩
               · as_aux_lemma =>
                 obtain rfl : k = n := by omega
                 clear hlt HGN HNW HWS hn ji jz0 jz1 jz2
                 obtain ⟨mm, rr, ee, hrm, hme⟩ := mk_rm HS.out.inv HOK.out HB.out HM.out HF4.out
                 have HME := Lib.hid hme
                 have fw := HF4.out.fiw HOK.out.iv.mon HB.out.mon
                 have CRM := Lib.hid fun (w6 : World) (k6 : Below wr.heap.size wr w6) => rrem_any (c := cb) (c' := c) (cu := cw) (cv := cn) ((HO.out.below MVR.out.lo).rows.below k6) ((HAR.out.below MVR.out.lo).below k6) HOK.out.iv.is HB.out.is hop9 hm9 ((own_at LW.out.own).below k6) ((own_at LN.out.own).below k6) fw hrm
                 clear hrm hme fw LW
                 go_upto_region 46 with fail
                 refine wp_region_noPanic ?_
                 refine AnyTill.begin (C := fun w' => w'.cell? ⟨w.heap.size + 1, 1, none⟩ = some (.slice ab op.n cb) ∧ w'.cell? ⟨rg, 0, none⟩ = some (.slice A m c) ∧ w'.cell? ⟨bp, 33, none⟩ = some (.slice AN k cn)) (q := 99) (by kernel_rfl) ?_
                 obtain ⟨wd, hwd⟩ : ∃ wd, wr.drew = wd := ⟨_, rfl⟩
                 have kd : Below wr.heap.size wr wd := by rw [← hwd]; exact below_drew wr
                 rw [hwd]
                 have mv := MVR.out.below kd
                 have ln := LN.out.below kd
                 clear hwd
                 have scd : wd.cell? ⟨w.heap.size + 1, 1, none⟩ = some (.slice ab op.n cb) ∧ wd.cell? ⟨rg, 0, none⟩ = some (.slice A m c) ∧ wd.cell? ⟨bp, 33, none⟩ = some (.slice AN k cn) := ⟨mv.ms.own.ops.1, cell_keep HC.out mv.lo, mv.p.cell (j := 33) rfl⟩
                 refine AnyTill.tk 0 scd ?_
                 refine AnyTill.tk 1 scd ?_
                 refine AnyTill.tk 2 scd ?_
                 refine AnyTill.tk 3 scd ?_
                 refine AnyTill.tk 4 scd ?_
                 refine AnyTill.tk 5 scd ?_
                 refine AnyTill.tk 6 scd ?_
                 refine AnyTill.tk 7 scd ?_
                 refine AnyTill.tk 8 scd ?_
                 refine AnyTill.on 9 fun K' hK => ?_
                 go_simp
                 (go_at_call 69; (refine (CRM.out _ kd).mono ?_); rintro e w6 ⟨rfl, hb6⟩)
                 have m6 := mv.below hb6
                 have l6 := ln.below hb6
                 clear mv ln scd
                 have scd : w6.cell? ⟨w.heap.size + 1, 1, none⟩ = some (.slice ab op.n cb) ∧ w6.cell? ⟨rg, 0, none⟩ = some (.slice A m c) ∧ w6.cell? ⟨bp, 33, none⟩ = some (.slice AN k cn) := ⟨m6.ms.own.ops.1, cell_keep HC.out m6.lo, m6.p.cell (j := 33) rfl⟩
                 refine hK.out _ _ (.inr scd) ?_
                 clear hK K'
                 try simp only [pt]
                 refine AnyTill.tk 10 scd ?_
                 refine AnyTill.tk 11 scd ?_
                 refine AnyTill.tk 12 scd ?_
                 refine AnyTill.tk 13 scd ?_
                 have q34 : w6.setCells bp 34 [.int .i64 mm, .int .i64 rr] = w6.setRow bp (qL i v.r op ⟨ab, cb⟩ ⟨ar, cr⟩ ⟨i.p, m, g, rs, v.cl.nx, v.cl.left, v.cl.tmp, v.cl.ls, v.cl.al⟩ (.slice A8 m c8) (.slice A3 m c3) v.x (.slice U v.x.q cu) (.slice A4 k c4) (.slice AN k cn) mm rr 0 0 0 0 0).toArray := (setCells_row [.int .i64 mm, .int .i64 rr] 34 _ w6 m6.p.at').trans (congrArg (w6.setRow bp) (put_chg ..))
                 have m7 := (m6.setP (qL i v.r op ⟨ab, cb⟩ ⟨ar, cr⟩ ⟨i.p, m, g, rs, v.cl.nx, v.cl.left, v.cl.tmp, v.cl.ls, v.cl.al⟩ (.slice A8 m c8) (.slice A3 m c3) v.x (.slice U v.x.q cu) (.slice A4 k c4) (.slice AN k cn) mm rr 0 0 0 0 0)).1
                 have l7 := l6.step (m6.setP (qL i v.r op ⟨ab, cb⟩ ⟨ar, cr⟩ ⟨i.p, m, g, rs, v.cl.nx, v.cl.left, v.cl.tmp, v.cl.ls, v.cl.al⟩ (.slice A8 m c8) (.slice A3 m c3) v.x (.slice U v.x.q cu) (.slice A4 k c4) (.slice AN k cn) mm rr 0 0 0 0 0)).2 (by decide)
                 have th := there_row m6.p.at' (show 34 + 2 ≤ 41 by decide)
                 generalize hw7 : World.setRow w6 bp _ = w7 at q34
                 rw [hw7] at m7 l7
                 clear hw7 m6 l6 hb6 kd
                 refine AnyTill.on 14 fun K' hK => ?_
                 rw [if_pos (by rfl)]
                 refine wp_store_mid 73 (.tmp 254) (.tmp 252) rfl bp 34 #[.int .i64 mm, .int .i64 rr] rfl rfl th chg_size (chg_one _ _) ?_
                 rw [q34]
                 have scd : w7.cell? ⟨w.heap.size + 1, 1, none⟩ = some (.slice ab op.n cb) ∧ w7.cell? ⟨rg, 0, none⟩ = some (.slice A m c) ∧ w7.cell? ⟨bp, 33, none⟩ = some (.slice AN k cn) := ⟨m7.ms.own.ops.1, cell_keep HC.out m7.lo, m7.p.cell (j := 33) rfl⟩
                 refine hK.out _ _ (.inr scd) ?_
                 clear hK K' q34 th
                 try simp only [pt]
                 refine AnyTill.tk 15 scd ?_
                 refine AnyTill.done (by kernel_rfl) ?_ _
                 refine NoPanic.normal ?_
                 have MV7 := Lib.hid m7
                 have LN7 := Lib.hid l7
                 clear m7 l7 scd MVR CRM LN
                 as_aux_lemma =>
                   rcases HME.out with ⟨t2, rfl, rfl, rfl⟩ | ⟨t2, rfl, rfl, rfl⟩
                   · have T2 := Lib.hid t2
                     clear t2 HME
                     go_upto_region 49 with fail
                     have ml := ML.out
                     have hol := HOK.out.left
                     have hox := HOK.out.nx
                     have hon := ml.1.2
                     have hob := HOK.out.bds
                     obtain ⟨P1, hP1⟩ : ∃ x, rof op.left v.cl.nx = x := ⟨_, rfl⟩
                     obtain ⟨P2, hP2⟩ : ∃ x, rof op.left op.nx = x := ⟨_, rfl⟩
                     have bP1 := share_bd hol hon
                     have bP2 := share_bd hol hox
                     rw [hP1] at bP1
                     rw [hP2] at bP2
                     have hlr : -(P1 - P2) = v.lr := by rw [HM.out.lr, hP1, hP2]
                     have hlm : op.ls - v.cl.ls - v.lr = v.lm := HM.out.lm.symm
                     have ham : op.al - v.cl.al = v.am := HM.out.am.symm
                     have hdf : v.tm + v.tr + v.lm + v.lr + v.am = v.df := HM.out.df.symm
                     have htt : v.x.tax + v.df + i.tu = v.tt := HM.out.tt.symm
                     have HP1 := Lib.hid hP1
                     have HP2 := Lib.hid hP2
                     have btx := mk_tax HS.out.inv HV.out HM.out
                     have bt2 := T2.out
                     have bt1 := T1.out
                     have hcl := ml.2.1
                     have hca := ml.2.2.2.2
                     have hal := HM.out.al
                     unfold RtOk at hox hon
                     unfold Mon at bt2 bt1
                     have blr : -200000000000 ≤ v.lr ∧ v.lr ≤ 200000000000 := by omega
                     have blm : -500000000000 ≤ v.lm ∧ v.lm ≤ 500000000000 := by omega
                     have bam : -300000000000 ≤ v.am ∧ v.am ≤ 300000000000 := by omega
                     have bdf : -2000000000000 ≤ v.df ∧ v.df ≤ 2000000000000 := by omega
                     have btt : -3000000000000 ≤ v.tt ∧ v.tt ≤ 3000000000000 := by omega
                     have bca : -100000000000 ≤ v.cl.al ∧ v.cl.al ≤ 0 := by omega
                     have LR := Lib.hid hlr
                     have LM := Lib.hid hlm
                     have AM := Lib.hid ham
                     have DF := Lib.hid hdf
                     have TT := Lib.hid htt
                     have v1 : IntKind.i64.wrap (P1 - P2) = P1 - P2 := IntWalk.i64_in _ (by omega)
                     have v2 : IntKind.i64.wrap (-(P1 - P2)) = v.lr := by rw [← hlr]; exact IntWalk.i64_in _ (by omega)
                     clear hlr hlm ham hdf htt hal ml hP1 hP2 hca T1 T2
                     refine wp_region_noPanic ?_
                     refine AnyTill.begin (C := fun w' => w'.cell? ⟨w.heap.size + 1, 3, none⟩ = some (.int .i64 op.nx) ∧ w'.cell? ⟨w.heap.size + 1, 4, none⟩ = some (.int .i64 op.left)) (q := 12) (by kernel_rfl) ?_
                     obtain ⟨wd, hwd⟩ : ∃ wd, w7.drew = wd := ⟨_, rfl⟩
                     have kd : Below w7.heap.size w7 wd := by rw [← hwd]; exact below_drew w7
                     rw [hwd]
                     have mv := MV7.out.below kd
                     have ln := LN7.out.below kd
                     clear hwd
                     have scd : wd.cell? ⟨w.heap.size + 1, 3, none⟩ = some (.int .i64 op.nx) ∧ wd.cell? ⟨w.heap.size + 1, 4, none⟩ = some (.int .i64 op.left) := ⟨mv.ms.own.ops.2.1, mv.ms.own.ops.2.2.1⟩
                     refine AnyTill.tk 0 scd ?_
                     refine AnyTill.tk 1 scd ?_
                     refine AnyTill.tk 2 scd ?_
                     refine AnyTill.tc (i := 3) (v := .int .i64 P1) (f := 70) (args := #[.int .i64 op.left, .int .i64 v.cl.nx]) (hc := fun w' _ => rpart_v op.left v.cl.nx w' (by omega) (by omega) _ HP1) (hC := scd) (h := ?_)
                     refine AnyTill.tk 4 scd ?_
                     refine AnyTill.tk 5 scd ?_
                     refine AnyTill.tk 6 scd ?_
                     refine AnyTill.tk 7 scd ?_
                     refine AnyTill.tc (i := 8) (v := .int .i64 P2) (f := 70) (args := #[.int .i64 op.left, .int .i64 op.nx]) (hc := fun w' _ => rpart_v op.left op.nx w' (by omega) (by omega) _ HP2) (hC := scd) (h := ?_)
                     refine AnyTill.tk 9 scd ?_
                     refine AnyTill.tk 10 scd ?_
                     refine AnyTill.tk 11 scd ?_
                     have q37 := q_set37 mv.p.at' v.lr
                     have m8 := (mv.setP (qL i v.r op ⟨ab, cb⟩ ⟨ar, cr⟩ ⟨i.p, m, g, rs, v.cl.nx, v.cl.left, v.cl.tmp, v.cl.ls, v.cl.al⟩ (.slice A8 m c8) (.slice A3 m c3) v.x (.slice U v.x.q cu) (.slice A4 k c4) (.slice AN k cn) v.tm v.tr 0 v.lr 0 0 0)).1
                     have l8 := ln.step (mv.setP (qL i v.r op ⟨ab, cb⟩ ⟨ar, cr⟩ ⟨i.p, m, g, rs, v.cl.nx, v.cl.left, v.cl.tmp, v.cl.ls, v.cl.al⟩ (.slice A8 m c8) (.slice A3 m c3) v.x (.slice U v.x.q cu) (.slice A4 k c4) (.slice AN k cn) v.tm v.tr 0 v.lr 0 0 0)).2 (by decide)
                     have fp := mv.p.frz 37
                     have pc := mv.p.cell (j := 37) rfl
                     generalize hw8 : World.setRow wd bp _ = w8 at q37
                     rw [hw8] at m8 l8
                     clear hw8 mv ln kd
                     refine AnyTill.on 12 fun K' hK => ?_
                     go_simp
                     refine hK.out _ _ (.inl rfl) ?_
                     clear hK K' q37 fp pc scd v1 v2
                     try simp only [pt]
                     refine AnyTill.done (by kernel_rfl) ?_ _
                     refine NoPanic.normal ?_
                     have MV8 := Lib.hid m8
                     have LN8 := Lib.hid l8
                     clear m8 l8 MV7 LN7
                     as_aux_lemma =>
                       obtain ⟨j0, j1, j2, j3, j4, j5, j6, j7⟩ := MV8.out.ms.own.ins
                       obtain ⟨o1, o3, o4, o5, o6, o7⟩ := MV8.out.ms.own.ops
                       have d1 := MV8.out.c.cell (j := 6) rfl
                       have d2 := MV8.out.p.cell (j := 37) rfl
                       have d3 := MV8.out.p.cell (j := 36) rfl
                       have fz := MV8.out.p.frz 36
                       go_upto_region 51 with fail
                       rw [show op.ls - v.cl.ls - v.lr = v.lm from LM.out, q_set36 MV8.out.p.at' v.lm]
                       have mv := (MV8.out.setP (qL i v.r op ⟨ab, cb⟩ ⟨ar, cr⟩ ⟨i.p, m, g, rs, v.cl.nx, v.cl.left, v.cl.tmp, v.cl.ls, v.cl.al⟩ (.slice A8 m c8) (.slice A3 m c3) v.x (.slice U v.x.q cu) (.slice A4 k c4) (.slice AN k cn) v.tm v.tr v.lm v.lr 0 0 0)).1
                       have ln := LN8.out.step (MV8.out.setP (qL i v.r op ⟨ab, cb⟩ ⟨ar, cr⟩ ⟨i.p, m, g, rs, v.cl.nx, v.cl.left, v.cl.tmp, v.cl.ls, v.cl.al⟩ (.slice A8 m c8) (.slice A3 m c3) v.x (.slice U v.x.q cu) (.slice A4 k c4) (.slice AN k cn) v.tm v.tr v.lm v.lr 0 0 0)).2 (by decide)
                       generalize hw : World.setRow w8 bp _ = w9
                       rw [hw] at mv ln
                       have MV9 := Lib.hid mv
                       have LN9 := Lib.hid ln
                       clear hw mv ln MV8 LN8 fz j0 j1 j2 j3 j4 j5 j6 j7 o1 o3 o4 o5 o6 o7 d1 d2 d3
                       as_aux_lemma =>
                         obtain ⟨j0, j1, j2, j3, j4, j5, j6, j7⟩ := MV9.out.ms.own.ins
                         obtain ⟨o1, o3, o4, o5, o6, o7⟩ := MV9.out.ms.own.ops
                         have d1 := MV9.out.c.cell (j := 7) rfl
                         have d3 := MV9.out.p.cell (j := 38) rfl
                         have fz := MV9.out.p.frz 38
                         go_upto_region 52 with fail
                         rw [show op.al - v.cl.al = v.am from AM.out, q_set38 MV9.out.p.at' v.am]
                         have mv := (MV9.out.setP (qL i v.r op ⟨ab, cb⟩ ⟨ar, cr⟩ ⟨i.p, m, g, rs, v.cl.nx, v.cl.left, v.cl.tmp, v.cl.ls, v.cl.al⟩ (.slice A8 m c8) (.slice A3 m c3) v.x (.slice U v.x.q cu) (.slice A4 k c4) (.slice AN k cn) v.tm v.tr v.lm v.lr v.am 0 0)).1
                         have ln := LN9.out.step (MV9.out.setP (qL i v.r op ⟨ab, cb⟩ ⟨ar, cr⟩ ⟨i.p, m, g, rs, v.cl.nx, v.cl.left, v.cl.tmp, v.cl.ls, v.cl.al⟩ (.slice A8 m c8) (.slice A3 m c3) v.x (.slice U v.x.q cu) (.slice A4 k c4) (.slice AN k cn) v.tm v.tr v.lm v.lr v.am 0 0)).2 (by decide)
                         generalize hw : World.setRow w9 bp _ = w10
                         rw [hw] at mv ln
                         have MV10 := Lib.hid mv
                         have LN10 := Lib.hid ln
                         clear hw mv ln MV9 LN9 fz j0 j1 j2 j3 j4 j5 j6 j7 o1 o3 o4 o5 o6 o7 d1 d3
                         as_aux_lemma =>
                           obtain ⟨j0, j1, j2, j3, j4, j5, j6, j7⟩ := MV10.out.ms.own.ins
                           obtain ⟨o1, o3, o4, o5, o6, o7⟩ := MV10.out.ms.own.ops
                           have d1 := MV10.out.p.cell (j := 34) rfl
                           have d2 := MV10.out.p.cell (j := 35) rfl
                           have d4 := MV10.out.p.cell (j := 36) rfl
                           have d5 := MV10.out.p.cell (j := 37) rfl
                           have d6 := MV10.out.p.cell (j := 38) rfl
                           have d3 := MV10.out.p.cell (j := 39) rfl
                           have fz := MV10.out.p.frz 39
                           go_upto_region 53 with fail
                           rw [show v.tm + v.tr + v.lm + v.lr + v.am = v.df from DF.out, q_set39 MV10.out.p.at' v.df]
                           have mv := (MV10.out.setP (qL i v.r op ⟨ab, cb⟩ ⟨ar, cr⟩ ⟨i.p, m, g, rs, v.cl.nx, v.cl.left, v.cl.tmp, v.cl.ls, v.cl.al⟩ (.slice A8 m c8) (.slice A3 m c3) v.x (.slice U v.x.q cu) (.slice A4 k c4) (.slice AN k cn) v.tm v.tr v.lm v.lr v.am v.df 0)).1
                           have ln := LN10.out.step (MV10.out.setP (qL i v.r op ⟨ab, cb⟩ ⟨ar, cr⟩ ⟨i.p, m, g, rs, v.cl.nx, v.cl.left, v.cl.tmp, v.cl.ls, v.cl.al⟩ (.slice A8 m c8) (.slice A3 m c3) v.x (.slice U v.x.q cu) (.slice A4 k c4) (.slice AN k cn) v.tm v.tr v.lm v.lr v.am v.df 0)).2 (by decide)
                           generalize hw : World.setRow w10 bp _ = w11
                           rw [hw] at mv ln
                           have MV11 := Lib.hid mv
                           have LN11 := Lib.hid ln
                           clear hw mv ln MV10 LN10 fz j0 j1 j2 j3 j4 j5 j6 j7 o1 o3 o4 o5 o6 o7 d1 d2 d4 d5 d6 d3
                           as_aux_lemma =>
                             obtain ⟨j0, j1, j2, j3, j4, j5, j6, j7⟩ := MV11.out.ms.own.ins
                             obtain ⟨o1, o3, o4, o5, o6, o7⟩ := MV11.out.ms.own.ops
                             have d1 := MV11.out.ms.X.cell (j := 5) rfl
                             have d2 := MV11.out.p.cell (j := 39) rfl
                             have d3 := MV11.out.p.cell (j := 40) rfl
                             have fz := MV11.out.p.frz 40
                             go_upto_region 54 with fail
                             rw [show v.x.tax + v.df + i.tu = v.tt from TT.out, q_set40 MV11.out.p.at' v.tt]
                             have mv := (MV11.out.setP (qL i v.r op ⟨ab, cb⟩ ⟨ar, cr⟩ ⟨i.p, m, g, rs, v.cl.nx, v.cl.left, v.cl.tmp, v.cl.ls, v.cl.al⟩ (.slice A8 m c8) (.slice A3 m c3) v.x (.slice U v.x.q cu) (.slice A4 k c4) (.slice AN k cn) v.tm v.tr v.lm v.lr v.am v.df v.tt)).1
                             have ln := LN11.out.step (MV11.out.setP (qL i v.r op ⟨ab, cb⟩ ⟨ar, cr⟩ ⟨i.p, m, g, rs, v.cl.nx, v.cl.left, v.cl.tmp, v.cl.ls, v.cl.al⟩ (.slice A8 m c8) (.slice A3 m c3) v.x (.slice U v.x.q cu) (.slice A4 k c4) (.slice AN k cn) v.tm v.tr v.lm v.lr v.am v.df v.tt)).2 (by decide)
                             generalize hw : World.setRow w11 bp _ = w12
                             rw [hw] at mv ln
                             have MV12 := Lib.hid mv
                             have LN12 := Lib.hid ln
                             clear hw mv ln MV11 LN11 fz j0 j1 j2 j3 j4 j5 j6 j7 o1 o3 o4 o5 o6 o7 d1 d2 d3
                             as_aux_lemma =>
                               obtain ⟨j0, j1, j2, j3, j4, j5, j6, j7⟩ := MV12.out.ms.own.ins
                               obtain ⟨o1, o3, o4, o5, o6, o7⟩ := MV12.out.ms.own.ops
                               have d1 := MV12.out.p.cell (j := 36) rfl
                               have d2 := MV12.out.p.cell (j := 37) rfl
                               have d3 := MV12.out.p.cell (j := 38) rfl
                               have d4 := MV12.out.p.cell (j := 39) rfl
                               have d5 := MV12.out.p.cell (j := 40) rfl
                               have d6 := MV12.out.ms.X.cell (j := 5) rfl
                               have d7 := MV12.out.c.cell (j := 5) rfl
                               have d8 := MV12.out.c.cell (j := 6) rfl
                               have d9 := MV12.out.c.cell (j := 7) rfl
                               have bl := (Below.refl w12.heap.size w12).alloc (Nat.le_refl _) (.cells #[.int .i64 v.lm, .int .i64 v.lr, .int .i64 v.am, .int .i64 (v.x.tax + i.tu), .int .i64 (v.cl.tmp - op.tmp), .int .i64 (v.cl.ls - op.ls), .int .i64 (v.cl.al - op.al), .int .i64 v.df, .int .i64 v.tt] 3)
                               have row : Row (w12.alloc (.cells #[.int .i64 v.lm, .int .i64 v.lr, .int .i64 v.am, .int .i64 (v.x.tax + i.tu), .int .i64 (v.cl.tmp - op.tmp), .int .i64 (v.cl.ls - op.ls), .int .i64 (v.cl.al - op.al), .int .i64 v.df, .int .i64 v.tt] 3)) w12.heap.size 9 (fun j => [v.lm, v.lr, v.am, v.x.tax + i.tu, v.cl.tmp - op.tmp, v.cl.ls - op.ls, v.cl.al - op.al, v.df, v.tt].getD j 0) := lit_row w12 [v.lm, v.lr, v.am, v.x.tax + i.tu, v.cl.tmp - op.tmp, v.cl.ls - op.ls, v.cl.al - op.al, v.df, v.tt] 3
                               obtain ⟨wl, hwl⟩ : ∃ wl, w12.alloc (.cells #[.int .i64 v.lm, .int .i64 v.lr, .int .i64 v.am, .int .i64 (v.x.tax + i.tu), .int .i64 (v.cl.tmp - op.tmp), .int .i64 (v.cl.ls - op.ls), .int .i64 (v.cl.al - op.al), .int .i64 v.df, .int .i64 v.tt] 3) = wl := ⟨_, rfl⟩
                               rw [hwl] at row bl
                               have HWL := Lib.hid hwl
                               have ROW := Lib.hid row
                               have MVL := Lib.hid (MV12.out.below bl)
                               have LNL := Lib.hid (LN12.out.below bl)
                               have EF : Hid (∀ j, j < 9 → finU i op v j = [v.lm, v.lr, v.am, v.x.tax + i.tu, v.cl.tmp - op.tmp, v.cl.ls - op.ls, v.cl.al - op.al, v.df, v.tt].getD j 0) := Lib.hid fun j hj => by
                                 rcases (show j = 0 ∨ j = 1 ∨ j = 2 ∨ j = 3 ∨ j = 4 ∨ j = 5 ∨ j = 6 ∨ j = 7 ∨ j = 8 by omega) with rfl | rfl | rfl | rfl | rfl | rfl | rfl | rfl | rfl <;> rfl
                               clear bl row hwl
                               go_cut [342, 343, 344] (fun s342 s343 s344 wx => s342 = .slice (some ⟨w12.heap.size, 0, none⟩) 9 9 ∧ s343 = .int .i64 9 ∧ s344 = .int .i64 0 ∧ wx = wl)
                               case first => as_aux_lemma =>
                                 clear MVL LNL ROW EF MV12 LN12
                                 go_wp2_with ((with_reducible show wpList _ _ _ _ _ _); (refine wpList_given rfl (build9 rfl _ (z0 := v.lm) (z1 := v.lr) (z2 := v.am) (z3 := v.x.tax + i.tu) (z4 := v.cl.tmp - op.tmp) (z5 := v.cl.ls - op.ls) (z6 := v.cl.al - op.al) (z7 := v.df) (z8 := v.tt) rfl rfl rfl rfl rfl rfl rfl rfl rfl w12) ?_); rw [HWL.out])
                                 go_meet
                                 exact ⟨rfl, rfl, rfl, rfl⟩
                               case rest =>
                               as_aux_lemma =>
                                 obtain ⟨rfl, rfl, rfl, rfl⟩ := hcut
                                 obtain ⟨wl, rfl⟩ : ∃ x, x = wc := ⟨_, rfl⟩
                                 clear HWL MV12 LN12 j0 j1 j2 j3 j4 j5 j6 j7 o1 o3 o4 o5 o6 o7 d1 d2 d3 d4 d5 d6 d7 d8 d9
                                 go_wp2
                                 go_loopg [344] 9 (fun gh s344 wr => ∃ n : Nat, n ≤ 9 ∧ gh = 9 - n ∧ s344 = .int .i64 n ∧ (∀ j, j < n → Mon ([v.lm, v.lr, v.am, v.x.tax + i.tu, v.cl.tmp - op.tmp, v.cl.ls - op.ls, v.cl.al - op.al, v.df, v.tt].getD j 0)) ∧ Below wl.heap.size wl wr)
                                 case atStart => exact ⟨0, Nat.zero_le _, rfl, rfl, fun j hj => absurd hj (Nat.not_lt_zero _), Below.refl _ _⟩
                                 case round =>
                                   obtain ⟨n, hn, hgn, rfl, hall, hbw⟩ := hrel
                                   have HGN := Lib.hid hgn
                                   have HALL := Lib.hid hall
                                   have HBW := Lib.hid hbw
                                   clear hgn hall hbw
                                   by_cases hlt : n < 9
                                   · have cn0 : wr.cell? ⟨w12.heap.size, n, none⟩ = some (.int .i64 ([v.lm, v.lr, v.am, v.x.tax + i.tu, v.cl.tmp - op.tmp, v.cl.ls - op.ls, v.cl.al - op.al, v.df, v.tt].getD n 0)) := ((ROW.out.below HBW.out).2 n hlt).1
                                     obtain ⟨y, hy⟩ : ∃ y, [v.lm, v.lr, v.am, v.x.tax + i.tu, v.cl.tmp - op.tmp, v.cl.ls - op.ls, v.cl.al - op.al, v.df, v.tt].getD n 0 = y := ⟨_, rfl⟩
                                     rw [hy] at cn0
                                     have i0 : (0 : Int) ≤ (n : Int) := by omega
                                     have i1 : (n : Int) < 9 := by omega
                                     by_cases hm : Mon y
                                     · have QM := Lib.hid hm
                                       have HY := Lib.hid hy
                                       clear hm hy
                                       go_wp2_with (first | (go_at_call 50; (with_reducible refine (rmoney_yes _ _ QM.out).mono ?_); rintro e w' ⟨rfl, rfl⟩))
                                       go_roundg (9 - (n + 1))
                                       case measure => have := HGN.out; omega
                                       case rel => exact ⟨n + 1, by omega, rfl, by go_num, fun j hj => by
                                         by_cases e : j = n
                                         · rw [e, HY.out]; exact QM.out
                                         · exact HALL.out j (by omega), HBW.out⟩
                                     · have QM := Lib.hid hm
                                       have NF := Lib.hid (show ¬ Fit i op v from fun h => by
                                         have h9 := h.2.2 n hlt
                                         rw [EF.out n hlt, hy] at h9
                                         exact hm h9)
                                       have HW := Lib.hid (MVL.out.below HBW.out).ms.own
                                       clear hm hy
                                       go_wp2_with (first | (go_at_call 50; (with_reducible refine (rmoney_no _ _ QM.out).mono ?_); rintro e w' ⟨rfl, rfl⟩) | ((with_reducible show wpList _ _ _ _ _ _); (refine wpList_load_mid rfl 75 _ rfl (w.heap.size + 3) 0 rfl pv0L _ (row_range HW.out.b13) Tryz.underlying75 rfl rpv0_size ?_)) | ((with_reducible show wpList _ _ _ _ _ _); (refine wpList_store_row rfl 75 _ _ rfl (w.heap.size + 2) pv0L.toArray rfl rfl _ _ HW.out.b10 rpv0_size rfl (one_all pv0L_one) ?_)))
                                       exact bodyPost_ret (results_ctt rfl _ _ (w.heap.size + 2) _ rfl (run_loadVar_row _ _ _ _ _ (0, 0) _ (setRow_heap _ _ _ _ _ _ HW.out.b10) Tryz.underlying75 rfl rpv0_size)) rfl (.inr (.inl ⟨rfl, NF.out, rfl, below_setRow HW.out.lo (Nat.le_add_right _ _) _⟩))
                                   · obtain rfl : n = 9 := by omega
                                     have fit : Fit i op v := ⟨by unfold Mon; exact bt1, by unfold Mon; exact bt2, fun j hj => by rw [EF.out j hj]; exact HALL.out j hj⟩
                                     have MVN := Lib.hid (MVL.out.below HBW.out)
                                     have LNN := Lib.hid (LNL.out.below HBW.out)
                                     have FT := Lib.hid fit
                                     have eQ : (qL i v.r op ⟨ab, cb⟩ ⟨ar, cr⟩ ⟨i.p, m, g, rs, v.cl.nx, v.cl.left, v.cl.tmp, v.cl.ls, v.cl.al⟩ (.slice A8 m c8) (.slice A3 m c3) v.x (.slice U v.x.q cu) (.slice A4 k c4) (.slice AN k cn) v.tm v.tr v.lm v.lr v.am v.df v.tt) = pvL i op v ⟨⟨ab, cb⟩, ⟨ar, cr⟩, ⟨A8, c8⟩, ⟨A3, c3⟩, ⟨U, cu⟩, ⟨A4, c4⟩, ⟨AN, cn⟩⟩ := by
                                       unfold qL pvL
                                       dsimp only [Sl.v]
                                       rw [HM.out.per, HM.out.cn, ← HQV.out]
                                     have EQ := Lib.hid eQ
                                     have st := Step.row (b := w.heap.size + 2) MVN.out.ms.L.fin (MVN.out.ms.z 2 (by decide)) (qL i v.r op ⟨ab, cb⟩ ⟨ar, cr⟩ ⟨i.p, m, g, rs, v.cl.nx, v.cl.left, v.cl.tmp, v.cl.ls, v.cl.al⟩ (.slice A8 m c8) (.slice A3 m c3) v.x (.slice U v.x.q cu) (.slice A4 k c4) (.slice AN k cn) v.tm v.tr v.lm v.lr v.am v.df v.tt).toArray
                                     have lo : Below w.heap.size w (wr.setRow (w.heap.size + 2) (qL i v.r op ⟨ab, cb⟩ ⟨ar, cr⟩ ⟨i.p, m, g, rs, v.cl.nx, v.cl.left, v.cl.tmp, v.cl.ls, v.cl.al⟩ (.slice A8 m c8) (.slice A3 m c3) v.x (.slice U v.x.q cu) (.slice A4 k c4) (.slice AN k cn) v.tm v.tr v.lm v.lr v.am v.df v.tt).toArray) := below_setRow MVN.out.lo (Nat.le_add_right _ _) _
                                     have fk : k ≤ cn ∧ cn ≤ maxLen := by
                                       obtain ⟨A', c', e, h1, h2, _⟩ := LNN.out.own.form
                                       injection e with _ _ e
                                       subst e
                                       exact ⟨h1, h2⟩
                                     have rpv : RPv O9 w.heap.size (wr.setRow (w.heap.size + 2) (qL i v.r op ⟨ab, cb⟩ ⟨ar, cr⟩ ⟨i.p, m, g, rs, v.cl.nx, v.cl.left, v.cl.tmp, v.cl.ls, v.cl.al⟩ (.slice A8 m c8) (.slice A3 m c3) v.x (.slice U v.x.q cu) (.slice A4 k c4) (.slice AN k cn) v.tm v.tr v.lm v.lr v.am v.df v.tt).toArray) op v ⟨⟨ab, cb⟩, ⟨ar, cr⟩, ⟨A8, c8⟩, ⟨A3, c3⟩, ⟨U, cu⟩, ⟨A4, c4⟩, ⟨AN, cn⟩⟩ :=
                                       ⟨HO.out.below lo, ⟨⟨by rw [HM.out.cn]; exact hc8, by rw [HM.out.cn]; exact ⟨hc3, hm3⟩, by rw [HM.out.cn, HM.out.cg]; exact MVN.out.a.free MVN.out.fr st (by decide), by rw [HM.out.cn]; exact (MVN.out.ms.rt.free MVN.out.ms.rtF st (by decide)).ext fun j hj => (HRS.out j hj).symm⟩, MVN.out.fr.step st, MVN.out.ms.rtF.step st⟩,
                                         (MVN.out.ms.us.step st (by decide)).1, ⟨hcu, hcm⟩, by rw [← HQV.out]; exact (MVN.out.ms.rw.free MVN.out.ms.rwF st (by decide)).ext HFE.out, by rw [← HQV.out]; exact ⟨hc4, hm4⟩, by rw [← HQV.out]; exact own_at (LNN.out.step st (by decide)).own, by rw [← HQV.out]; exact fk⟩
                                     have RPV := Lib.hid rpv
                                     have ST6 := Lib.hid st
                                     have LOW := Lib.hid lo
                                     clear eQ st lo fk rpv
                                     clear fit hlt HGN HALL ROW EF MVL LNL HBW
                                     go_wp2_with (first | ((with_reducible show wpList _ _ _ _ _ _); (refine wpList_load_mid rfl 75 _ rfl bp 0 rfl (qL i v.r op ⟨ab, cb⟩ ⟨ar, cr⟩ ⟨i.p, m, g, rs, v.cl.nx, v.cl.left, v.cl.tmp, v.cl.ls, v.cl.al⟩ (.slice A8 m c8) (.slice A3 m c3) v.x (.slice U v.x.q cu) (.slice A4 k c4) (.slice AN k cn) v.tm v.tr v.lm v.lr v.am v.df v.tt) _ (row_range MVN.out.p.at') Tryz.underlying75 rfl (qL_size _ _ _ _ _ _ _ _ _ _ _ _ _ _ _ _ _ _ _) ?_)) | ((with_reducible show wpList _ _ _ _ _ _); (refine wpList_store_row rfl 75 _ _ rfl (w.heap.size + 2) (qL i v.r op ⟨ab, cb⟩ ⟨ar, cr⟩ ⟨i.p, m, g, rs, v.cl.nx, v.cl.left, v.cl.tmp, v.cl.ls, v.cl.al⟩ (.slice A8 m c8) (.slice A3 m c3) v.x (.slice U v.x.q cu) (.slice A4 k c4) (.slice AN k cn) v.tm v.tr v.lm v.lr v.am v.df v.tt).toArray rfl rfl _ _ MVN.out.ms.own.b10 (qL_size _ _ _ _ _ _ _ _ _ _ _ _ _ _ _ _ _ _ _) rfl (qL_one ..) ?_)))
                                     exact bodyPost_ret (results_ctt rfl _ _ (w.heap.size + 2) _ rfl (run_loadVar_row _ _ _ _ _ (0, 0) _ (setRow_heap _ _ _ _ _ _ MVN.out.ms.own.b10) Tryz.underlying75 rfl (qL_size _ _ _ _ _ _ _ _ _ _ _ _ _ _ _ _ _ _ _))) rfl (.inr (.inr ⟨rfl, FT.out, lb', O9, ⟨⟨ab, cb⟩, ⟨ar, cr⟩, ⟨A8, c8⟩, ⟨A3, c3⟩, ⟨U, cu⟩, ⟨A4, c4⟩, ⟨AN, cn⟩⟩, by rw [EQ.out]; rfl, MVN.out.ms.L.step ST6.out (by decide) (by decide), RPV.out, LOW.out⟩))
                   · have NF := Lib.hid (show ¬ Fit i op v from fun h => t2 h.2.1)
                     clear HME t2
                     go_upto_region 48 with fail
                     have HW := Lib.hid MV7.out.ms.own
                     go_wp2_with (first | ((with_reducible show wpList _ _ _ _ _ _); (refine wpList_load_mid rfl 75 _ rfl (w.heap.size + 3) 0 rfl pv0L _ (row_range HW.out.b13) Tryz.underlying75 rfl rpv0_size ?_)) | ((with_reducible show wpList _ _ _ _ _ _); (refine wpList_store_row rfl 75 _ _ rfl (w.heap.size + 2) pv0L.toArray rfl rfl _ _ HW.out.b10 rpv0_size rfl (one_all pv0L_one) ?_)))
                     exact bodyPost_ret (results_ctt rfl _ _ (w.heap.size + 2) _ rfl (run_loadVar_row _ _ _ _ _ (0, 0) _ (setRow_heap _ _ _ _ _ _ HW.out.b10) Tryz.underlying75 rfl rpv0_size)) rfl (.inr (.inl ⟨rfl, NF.out, rfl, below_setRow HW.out.lo (Nat.le_add_right _ _) _⟩))
           · have NF := Lib.hid (show ¬ Fit i op v from fun h => t1 h.1)
             clear HT0
             go_upto_region 28 with fail
             have HW := Lib.hid MVA.out.ms.own
             go_wp2_with (first | ((with_reducible show wpList _ _ _ _ _ _); (refine wpList_load_mid rfl 75 _ rfl (w.heap.size + 3) 0 rfl pv0L _ (row_range HW.out.b13) Tryz.underlying75 rfl rpv0_size ?_)) | ((with_reducible show wpList _ _ _ _ _ _); (refine wpList_store_row rfl 75 _ _ rfl (w.heap.size + 2) pv0L.toArray rfl rfl _ _ HW.out.b10 rpv0_size rfl (one_all pv0L_one) ?_)))
             exact bodyPost_ret (results_ctt rfl _ _ (w.heap.size + 2) _ rfl (run_loadVar_row _ _ _ _ _ (0, 0) _ (setRow_heap _ _ _ _ _ _ HW.out.b10) Tryz.underlying75 rfl rpv0_size)) rfl (.inr (.inl ⟨rfl, NF.out, rfl, below_setRow HW.out.lo (Nat.le_add_right _ _) _⟩))
end
end Go.Proofs.YtmlafdehhbhbiaaGreat
