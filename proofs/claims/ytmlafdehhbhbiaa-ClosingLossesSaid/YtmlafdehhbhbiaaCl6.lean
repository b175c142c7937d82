/- Package closing: what a provision costs. -/
import Derived.Test.YtmlafdehhbhbiaaM13
import Derived.Test.YtmlafdehhbhbiaaTk
namespace Go.Proofs.Ytmlafdehhbhbiaa
open Go.RowKit
section
variable {R : Nat → Rt} {nr : Nat} {i : MIn} {op : MBal} {S0 S SL SL' : Int → Int → Int} {m nl : Nat} {g gl : Nat → Bk} {v : MPv} {rs : Nat → Int}
theorem cmk_temp (iv : TInv nr R) (b : BInv S m g) (H : MkAt R nr i op S0 S m g SL nl gl v SL') (hrs : ∀ k, k < m → v.cl.r k = rs k) : TArgs g m rs m ∧ v.cl.tmp = -tot (partU g rs) m := by
  refine ⟨⟨rfl, fun k hk => ⟨b.is.mon b.mon hk, by rw [← hrs k hk]; exact known_rt iv (H.rs k hk)⟩⟩, ?_⟩
  have e : tot (partU g v.cl.r) m = tot (partU g rs) m := tot_ext m fun k hk => by unfold partU; rw [hrs k hk]
  rw [H.tmp, e]
theorem cmk_temp_yes (iv : TInv nr R) (b : BInv S m g) (H : MkAt R nr i op S0 S m g SL nl gl v SL') (hrs : ∀ k, k < m → v.cl.r k = rs k) (hm : Mon v.cl.tmp) : TempIs g m rs m v.cl.tmp 0 := by
  obtain ⟨h1, h2⟩ := cmk_temp iv b H hrs
  exact .inr (.inr ⟨h1, by rw [← h2]; exact hm, h2, rfl⟩)
theorem cmk_temp_no (iv : TInv nr R) (b : BInv S m g) (H : MkAt R nr i op S0 S m g SL nl gl v SL') (hrs : ∀ k, k < m → v.cl.r k = rs k) (hm : ¬ Mon v.cl.tmp) : TempIs g m rs m 0 6 := by
  obtain ⟨h1, h2⟩ := cmk_temp iv b H hrs
  exact .inr (.inl ⟨h1, by rw [← h2]; exact hm, rfl, rfl⟩)
theorem cmk_loss (iv : TInv nr R) (vl : VInv SL nl gl) (H : MkAt R nr i op S0 S m g SL nl gl v SL') : ((0 ≤ v.cl.left ∧ v.cl.left ≤ 100000000000) ∧ RtOk v.cl.nx) ∧ (0 ≤ v.cl.ls ∧ v.cl.ls ≤ 100000000000) ∧ ShareIs v.cl.left v.cl.nx v.cl.ls 0 ∧ ShareIs v.cl.ls i.jd (rof v.cl.ls i.jd) 0 ∧ (0 ≤ rof v.cl.ls i.jd ∧ rof v.cl.ls i.jd ≤ 100000000000) := by
  obtain ⟨nl', gl', vl', e⟩ := H.tax.left vl
  have hl : 0 ≤ v.cl.left ∧ v.cl.left ≤ 100000000000 := by
    rw [H.left, ← e]
    exact ⟨tot_nonneg _ fun j hj => vl'.pos j hj, vl'.all⟩
  have hn := known_rt iv H.nx
  have h1 : ShareIs v.cl.left v.cl.nx v.cl.ls 0 := .inr ⟨⟨hl, hn⟩, H.ls, rfl⟩
  have s1 := share_low h1
  have h2 : ShareIs v.cl.ls i.jd (rof v.cl.ls i.jd) 0 := .inr ⟨⟨s1, H.arg.2.1⟩, rfl, rfl⟩
  exact ⟨⟨hl, hn⟩, s1, h1, h2, share_low h2⟩
end
section
variable {R : Nat → Rt} {nr : Nat} {i : MIn} {op : MBal} {S0 S SL SL' : Int → Int → Int} {m nl q : Nat} {g gl : Nat → Bk} {f : Nat → Wy} {v : MPv}
theorem cmk_rm (iv : TInv nr R) (ok : op.Ok S0) (b : BInv S m g) (H : MkAt R nr i op S0 S m g SL nl gl v SL') (hf : FIs S0 S q f) : ∃ mm rr ee, RmIs q f q v.was q v.now mm rr ee ∧ (((Mon v.tm ∧ Mon v.tr) ∧ mm = v.tm ∧ rr = v.tr ∧ ee = 0) ∨ (¬ (Mon v.tm ∧ Mon v.tr) ∧ mm = 0 ∧ rr = 0 ∧ ee = 6)) := by
  obtain ⟨hq, he⟩ := hf.uniq H.way
  have e1 : v.tm = tot (mvU f v.now) q := by
    rw [H.tm, ← hq]
    exact tot_ext q fun j hj => by unfold mvU; rw [he j hj]
  have e2 : v.tr = tot (rtU f v.was v.now) q := by
    rw [H.tr, ← hq]
    exact tot_ext q fun j hj => by unfold rtU; rw [he j hj]
  have ha : RArgs q f q v.was q v.now := ⟨rfl, rfl, fun j hj => by
    have hn := H.now j (by rw [← hq]; exact hj)
    have hw := H.was j (by rw [← hq]; exact hj)
    refine ⟨⟨hw.rt ok.rt (known_rt iv hn), known_rt iv hn⟩, ?_, ?_⟩
    · rw [hf.op j hj]; exact ok.iv.mon _ _
    · rw [hf.cl j hj]; exact b.mon _ _⟩
  by_cases hm : Mon v.tm ∧ Mon v.tr
  · exact ⟨v.tm, v.tr, 0, .inr (.inr ⟨ha, by rw [← e1, ← e2]; exact hm, e1, e2, rfl⟩), .inl ⟨hm, rfl, rfl, rfl⟩⟩
  · exact ⟨0, 0, 6, .inr (.inl ⟨ha, by rw [← e1, ← e2]; exact hm, rfl, rfl, rfl⟩), .inr ⟨hm, rfl, rfl, rfl⟩⟩
end
theorem cmk_tax {R : Nat → Rt} {nr : Nat} {i : MIn} {op : MBal} {S0 S SL SL' : Int → Int → Int} {m nl : Nat} {g gl : Nat → Bk} {v : MPv} (iv : TInv nr R) (vl : VInv SL nl gl) (H : MkAt R nr i op S0 S m g SL nl gl v SL') : 0 ≤ v.x.tax ∧ v.x.tax ≤ 100000000000 := by
  obtain ⟨hm, _, hu0, hu1, _, _, htx, _⟩ := H.tax.bd vl
  rw [H.tax.tax]
  unfold Mon at hm
  exact share_bd (by omega) (known_rt iv H.rate)
theorem two_at (w : World) (a b : Array Value) (T1 T2 : TypeId) : ((w.alloc (.cells a T1)).alloc (.cells b T2)).heap[w.heap.size]? = some (.cells a T1 (0, 0)) ∧ ((w.alloc (.cells a T1)).alloc (.cells b T2)).heap[w.heap.size + 1]? = some (.cells b T2 (0, 0)) ∧ Below w.heap.size w ((w.alloc (.cells a T1)).alloc (.cells b T2)) := by
  have z : (w.alloc (.cells a T1)).heap.size = w.heap.size + 1 := by simp
  have h1 := heap_alloc_last (w.alloc (.cells a T1)) (.cells b T2)
  rw [z] at h1
  exact ⟨by rw [heap_alloc_old _ _ (by omega)]; exact heap_alloc_last w _, h1, ((Below.refl _ _).alloc (Nat.le_refl _) _).alloc (by omega) _⟩
/-- the call's own blocks: the provision under way (cells Q), none, both balances -/
structure CW (w wr : World) (Q : List Value) (X Y : Nat) (LX LY : List Value) : Prop where
  lo : Below w.heap.size w wr
  p : wr.heap[w.heap.size]? = some (.cells Q.toArray 44 (0, 0))
  r : wr.heap[w.heap.size + 1]? = some (.cells pv0L.toArray 44 (0, 0))
  x : wr.heap[X]? = some (.cells LX.toArray 37 (0, 0))
  y : wr.heap[Y]? = some (.cells LY.toArray 37 (0, 0))
  hx : w.heap.size + 2 ≤ X
  hy : w.heap.size + 2 ≤ Y
section
variable {w wr w1 : World} {Q Q' LX LY : List Value} {X Y j : Nat} {u : Value}
theorem CW.lt (h : CW w wr Q X Y LX LY) : w.heap.size + 1 < wr.heap.size := (Array.getElem?_eq_some_iff.1 h.r).1
theorem CW.cell (h : CW w wr Q X Y LX LY) (e : Q[j]? = some u) : wr.cell? ⟨w.heap.size, j, none⟩ = some u := by
  rw [cell_of_row _ _ _ _ _ _ h.p]; simpa using e
theorem CW.cx (h : CW w wr Q X Y LX LY) (e : LX[j]? = some u) : wr.cell? ⟨X, j, none⟩ = some u := by
  rw [cell_of_row _ _ _ _ _ _ h.x]; simpa using e
theorem CW.cy (h : CW w wr Q X Y LX LY) (e : LY[j]? = some u) : wr.cell? ⟨Y, j, none⟩ = some u := by
  rw [cell_of_row _ _ _ _ _ _ h.y]; simpa using e
theorem CW.frz (h : CW w wr Q X Y LX LY) (j : Nat) : wr.frozen? ⟨w.heap.size, j, none⟩ = false := frozen_of_row _ _ j _ _ h.p
set_option maxRecDepth 100000 in
theorem CW.below (h : CW w wr Q X Y LX LY) (k : Below wr.heap.size wr w1) : CW w w1 Q X Y LX LY := by
  have l := h.lt
  exact ⟨h.lo.trans (k.mono h.lo.size), (k.block _ (by omega)).trans h.p, (k.block _ l).trans h.r, (k.block _ (Array.getElem?_eq_some_iff.1 h.x).1).trans h.x, (k.block _ (Array.getElem?_eq_some_iff.1 h.y).1).trans h.y, h.hx, h.hy⟩
set_option maxRecDepth 100000 in
theorem CW.setP (h : CW w wr Q X Y LX LY) (Q' : List Value) : CW w (wr.setRow w.heap.size Q'.toArray) Q' X Y LX LY := by
  have a := h.hx
  have b := h.hy
  exact ⟨below_setRow h.lo (Nat.le_refl _) _, setRow_heap _ _ _ _ _ _ h.p, (setRow_other _ _ _ _ (by omega)).trans h.r, (setRow_other _ _ _ _ (by omega)).trans h.x, (setRow_other _ _ _ _ (by omega)).trans h.y, a, b⟩
end
/-- all but what the closing's deferred tax itself may be -/
def Fit2 (i : MIn) (op : MBal) (v : MPv) : Prop := (Mon v.tm ∧ Mon v.tr) ∧ ∀ k, k < 9 → Mon (finU i op v k)
theorem ownw_at {w : World} {E : TypeId} {base n c : Nat} {A : Option Addr} {g : Nat → Wy} (o : OwnR we 5 w E base (.slice A n c) n g) : AtR we 5 w A n g := by
  obtain ⟨A', c', e, _, _, _, h⟩ := o.at we_len
  injection e with e1
  subst e1
  exact h
set_option maxHeartbeats 64000000 in
set_option maxRecDepth 100000 in
theorem pcosts {w : World} {O : Nat → Nat} {base t tb nr m nl : Nat} {vt : Value} {R : Nat → Rt} {i : MIn} {op : MBal} {v : MPv} {S0 S SL SL' : Int → Int → Int} {g gl : Nat → Bk} {ab ar ac ad U : Option Addr} {cb cr cc cd cu : Nat}
    (s : TabV 57 w O base t tb vt nr R) (b : BInv S m g) (vl : VInv SL nl gl) (ok : op.Ok S0) (ho : BalAt w op ⟨ab, cb⟩ ⟨ar, cr⟩) (hcl : BalAt w v.cl ⟨ac, cc⟩ ⟨ad, cd⟩) (H : MkAt R nr i op S0 S m g SL nl gl v SL') (ht : Mon v.cl.tmp) :
    Calls Try.prog 28 #[ptr tb, .agg (qL i v.r op ⟨ab, cb⟩ ⟨ar, cr⟩ v.cl (.slice ac v.cl.n cc) (.slice ad v.cl.n cd) v.x (.slice U v.x.q cu) vnil vnil 0 0 0 0 0 0 0).toArray] w fun e w' => Below w.heap.size w w' ∧ ((¬ Fit2 i op v ∧ e = .returned (.tuple #[.agg pv0L.toArray, .int .i64 6])) ∨
      (Fit2 i op v ∧ ∃ A4 c4 A5 c5, e = .returned (.tuple #[.agg (pvL i op v ⟨⟨ab, cb⟩, ⟨ar, cr⟩, ⟨ac, cc⟩, ⟨ad, cd⟩, ⟨U, cu⟩, ⟨A4, c4⟩, ⟨A5, c5⟩⟩).toArray, .int .i64 0]) ∧
        (AtR we 5 w' A4 v.q v.f ∧ (v.q ≤ c4 ∧ c4 ≤ maxLen) ∧ Free (fun _ => 0) w.heap.size w' A4) ∧ (At w' A5 v.q v.now ∧ (v.q ≤ c5 ∧ c5 ≤ maxLen) ∧ Free (fun _ => 0) w.heap.size w' A5))) := by
  have iv := s.inv
  have hn0 : op.n ≤ 1000 := by have := ok.iv.le; omega
  have hm9 : m ≤ 1000 := by have := b.le; omega
  have hcn := H.cn
  have hcg := H.cg
  have CF := Lib.hid fun w5 (k : Below w.heap.size w w5) => pfwd_w (c := cb) (c' := cc) (ho.rows.below k) (hcl.rows.below k) ok.iv.is (by rw [hcn, hcg]; exact b.is) hn0 (by rw [hcn]; exact hm9) ho.hb hcl.hb
  have HS := Lib.hid s
  have HB := Lib.hid b
  have HV := Lib.hid vl
  have HOK := Lib.hid ok
  have HO := Lib.hid ho
  have HC := Lib.hid hcl
  have HM := Lib.hid H
  have HT := Lib.hid ht
  have HIV := Lib.hid iv
  clear s b vl ok ho hcl H ht iv hcn hcg
  go_enter Try.func28, Try.ntmps28
  go_upto_region 1 with fail
  generalize hwa : World.alloc (World.alloc w _) _ = wa
  obtain ⟨h0, h1, kb⟩ : wa.heap[w.heap.size]? = some (.cells (qL i v.r op ⟨ab, cb⟩ ⟨ar, cr⟩ v.cl (.slice ac v.cl.n cc) (.slice ad v.cl.n cd) v.x (.slice U v.x.q cu) vnil vnil 0 0 0 0 0 0 0).toArray 44 (0, 0)) ∧ wa.heap[w.heap.size + 1]? = some (.cells pv0L.toArray 44 (0, 0)) ∧ Below w.heap.size w wa := by rw [← hwa]; exact two_at w _ _ _ _
  have H0 := Lib.hid h0
  have H1 := Lib.hid h1
  have KB := Lib.hid kb
  have lt1 := (Array.getElem?_eq_some_iff.1 h1).1
  have lt0 : w.heap.size < wa.heap.size := by omega
  clear h0 h1 kb hwa
  go_cut [6, 7] (fun s6 s7 wx => ∃ X Y, s6 = ptr X ∧ s7 = ptr Y ∧ X ≠ Y ∧ wa.heap.size ≤ X ∧ wa.heap.size ≤ Y ∧ Below wa.heap.size wa wx ∧ wx.heap[X]? = some (.cells (balL op ⟨ab, cb⟩ ⟨ar, cr⟩).toArray 37 (0, 0)) ∧ wx.heap[Y]? = some (.cells (balL v.cl ⟨ac, cc⟩ ⟨ad, cd⟩).toArray 37 (0, 0)))
  case first => as_aux_lemma =>
    refine wp_region_noPanic ?_
    refine AnyTill.begin (C := fun w' => w'.rangeAt w.heap.size 9 (balL op ⟨ab, cb⟩ ⟨ar, cr⟩) ∧ w'.rangeAt w.heap.size 17 (balL v.cl ⟨ac, cc⟩ ⟨ad, cd⟩)) (q := 99) (by kernel_rfl) ?_
    obtain ⟨wd, hwd⟩ : ∃ wd, wa.drew = wd := ⟨_, rfl⟩
    have kd : Below wa.heap.size wa wd := by rw [← hwd]; exact below_drew wa
    rw [hwd]
    have HC2 := Lib.hid fun (w5 : World) (k : Below wa.heap.size wa w5) => (show w5.rangeAt w.heap.size 9 (balL op ⟨ab, cb⟩ ⟨ar, cr⟩) ∧ w5.rangeAt w.heap.size 17 (balL v.cl ⟨ac, cc⟩ ⟨ad, cd⟩) from ⟨part_range ((k.block _ lt0).trans H0.out) (n := 8) rfl, part_range ((k.block _ lt0).trans H0.out) (n := 8) rfl⟩)
    have scd := HC2.out wd kd
    refine AnyTill.tk 0 scd ?_
    refine AnyTill.tv (i := 1) (v := .agg (balL op ⟨ab, cb⟩ ⟨ar, cr⟩).toArray) (hy := (yieldsIf_load_mid (by rfl) 37 (.tmp 10) rfl w.heap.size 9 rfl (balL op ⟨ab, cb⟩ ⟨ar, cr⟩) _ (fun _ h => h.1) Try.underlying37 rfl (bal_sizeL _ _ _))) (hC := scd) (h := ?_)
    refine AnyTill.tk 2 scd ?_
    refine AnyTill.tv (i := 3) (v := .agg (balL v.cl ⟨ac, cc⟩ ⟨ad, cd⟩).toArray) (hy := (yieldsIf_load_mid (by rfl) 37 (.tmp 12) rfl w.heap.size 17 rfl (balL v.cl ⟨ac, cc⟩ ⟨ad, cd⟩) _ (fun _ h => h.2) Try.underlying37 rfl (bal_sizeL _ _ _))) (hC := scd) (h := ?_)
    refine' AnyTill.two (i := 4) (k := 5) (o := _) (o' := _) (by kernel_rfl) ?a4 ?a5 (fun K' hK => ?x4) (fun K' hK => ?x5)
    case a4 => (simp only [List.getElem?_toArray, List.getElem?_cons_succ, List.getElem?_cons_zero]; rfl)
    case a5 => (simp only [List.getElem?_toArray, List.getElem?_cons_succ, List.getElem?_cons_zero]; rfl)
    case x4 =>
      go_simp
      generalize hap : World.alloc wd _ = v1
      have g1 : v1.heap[wd.heap.size]? = some (.cells (balL bal0 .nil .nil).toArray 37 (0, 0)) := by rw [← hap]; exact heap_alloc_last _ _
      have k1 : Below wd.heap.size wd v1 := by rw [← hap]; exact (Below.refl _ _).alloc (Nat.le_refl _) _
      have l1 : wd.heap.size < v1.heap.size := by rw [← hap]; simp
      have s1 := kd.size
      have z1 := k1.size
      have k1 := kd.trans (k1.mono kd.size)
      clear hap
      refine hK.out _ _ (.inr (HC2.out _ k1)) ?_
      clear hK K'
      try simp only [pt]
      refine AnyTill.on 5 fun K' hK => ?_
      go_simp
      generalize hap : World.alloc v1 _ = v2
      have g2 : v2.heap[v1.heap.size]? = some (.cells (balL bal0 .nil .nil).toArray 37 (0, 0)) := by rw [← hap]; exact heap_alloc_last _ _
      have k2 : Below v1.heap.size v1 v2 := by rw [← hap]; exact (Below.refl _ _).alloc (Nat.le_refl _) _
      have g1 := (k2.block _ l1).trans g1
      have k2 := k1.trans (k2.mono k1.size)
      clear hap
      refine hK.out _ _ (.inr (HC2.out _ k2)) ?_
      clear hK K'
      try simp only [pt]
      refine AnyTill.on 6 fun K' hK => ?_
      rw [if_pos (by rfl)]
      refine wp_store_row 37 (.tmp 6) (.tmp 11) rfl (wd.heap.size) ((balL op ⟨ab, cb⟩ ⟨ar, cr⟩)).toArray rfl rfl _ _ g1 (bal_size _ _ _) rfl (bal_one _ _ _) ?_
      have k3 := below_setRow k2 (g := wd.heap.size) kd.size ((balL op ⟨ab, cb⟩ ⟨ar, cr⟩)).toArray
      have hx : (v2.setRow (wd.heap.size) ((balL op ⟨ab, cb⟩ ⟨ar, cr⟩)).toArray).heap[wd.heap.size]? = some (.cells ((balL op ⟨ab, cb⟩ ⟨ar, cr⟩)).toArray 37 (0, 0)) := setRow_heap _ _ _ _ _ _ g1
      have hy : (v2.setRow (wd.heap.size) ((balL op ⟨ab, cb⟩ ⟨ar, cr⟩)).toArray).heap[v1.heap.size]? = _ := (setRow_other _ _ _ _ (by omega)).trans g2
      refine hK.out _ _ (.inr (HC2.out _ k3)) ?_
      clear hK K'
      try simp only [pt]
      refine AnyTill.on 7 fun K' hK => ?_
      rw [if_pos (by rfl)]
      refine wp_store_row 37 (.tmp 7) (.tmp 13) rfl (v1.heap.size) ((balL v.cl ⟨ac, cc⟩ ⟨ad, cd⟩)).toArray rfl rfl _ _ hy (bal_size _ _ _) rfl (bal_one _ _ _) ?_
      have k4 := below_setRow k3 (g := v1.heap.size) k1.size ((balL v.cl ⟨ac, cc⟩ ⟨ad, cd⟩)).toArray
      refine hK.out _ _ (.inr (HC2.out _ k4)) ?_
      clear hK K'
      try simp only [pt]
      refine AnyTill.done (by kernel_rfl) ?_ _
      refine NoPanic.normal ?_
      go_wp2
      go_meet
      exact ⟨wd.heap.size, v1.heap.size, rfl, rfl, by omega, kd.size, k1.size, k4, (setRow_other _ _ _ _ (by omega)).trans hx, setRow_heap _ _ _ _ _ _ hy⟩
    case x5 =>
      go_simp
      generalize hap : World.alloc wd _ = v1
      have g1 : v1.heap[wd.heap.size]? = some (.cells (balL bal0 .nil .nil).toArray 37 (0, 0)) := by rw [← hap]; exact heap_alloc_last _ _
      have k1 : Below wd.heap.size wd v1 := by rw [← hap]; exact (Below.refl _ _).alloc (Nat.le_refl _) _
      have l1 : wd.heap.size < v1.heap.size := by rw [← hap]; simp
      have s1 := kd.size
      have z1 := k1.size
      have k1 := kd.trans (k1.mono kd.size)
      clear hap
      refine hK.out _ _ (.inr (HC2.out _ k1)) ?_
      clear hK K'
      try simp only [pt]
      refine AnyTill.on 4 fun K' hK => ?_
      go_simp
      generalize hap : World.alloc v1 _ = v2
      have g2 : v2.heap[v1.heap.size]? = some (.cells (balL bal0 .nil .nil).toArray 37 (0, 0)) := by rw [← hap]; exact heap_alloc_last _ _
      have k2 : Below v1.heap.size v1 v2 := by rw [← hap]; exact (Below.refl _ _).alloc (Nat.le_refl _) _
      have g1 := (k2.block _ l1).trans g1
      have k2 := k1.trans (k2.mono k1.size)
      clear hap
      refine hK.out _ _ (.inr (HC2.out _ k2)) ?_
      clear hK K'
      try simp only [pt]
      refine AnyTill.on 6 fun K' hK => ?_
      rw [if_pos (by rfl)]
      refine wp_store_row 37 (.tmp 6) (.tmp 11) rfl (v1.heap.size) ((balL op ⟨ab, cb⟩ ⟨ar, cr⟩)).toArray rfl rfl _ _ g2 (bal_size _ _ _) rfl (bal_one _ _ _) ?_
      have k3 := below_setRow k2 (g := v1.heap.size) k1.size ((balL op ⟨ab, cb⟩ ⟨ar, cr⟩)).toArray
      have hx : (v2.setRow (v1.heap.size) ((balL op ⟨ab, cb⟩ ⟨ar, cr⟩)).toArray).heap[v1.heap.size]? = some (.cells ((balL op ⟨ab, cb⟩ ⟨ar, cr⟩)).toArray 37 (0, 0)) := setRow_heap _ _ _ _ _ _ g2
      have hy : (v2.setRow (v1.heap.size) ((balL op ⟨ab, cb⟩ ⟨ar, cr⟩)).toArray).heap[wd.heap.size]? = _ := (setRow_other _ _ _ _ (by omega)).trans g1
      refine hK.out _ _ (.inr (HC2.out _ k3)) ?_
      clear hK K'
      try simp only [pt]
      refine AnyTill.on 7 fun K' hK => ?_
      rw [if_pos (by rfl)]
      refine wp_store_row 37 (.tmp 7) (.tmp 13) rfl (wd.heap.size) ((balL v.cl ⟨ac, cc⟩ ⟨ad, cd⟩)).toArray rfl rfl _ _ hy (bal_size _ _ _) rfl (bal_one _ _ _) ?_
      have k4 := below_setRow k3 (g := wd.heap.size) kd.size ((balL v.cl ⟨ac, cc⟩ ⟨ad, cd⟩)).toArray
      refine hK.out _ _ (.inr (HC2.out _ k4)) ?_
      clear hK K'
      try simp only [pt]
      refine AnyTill.done (by kernel_rfl) ?_ _
      refine NoPanic.normal ?_
      go_wp2
      go_meet
      exact ⟨v1.heap.size, wd.heap.size, rfl, rfl, by omega, k1.size, kd.size, k4, (setRow_other _ _ _ _ (by omega)).trans hx, setRow_heap _ _ _ _ _ _ hy⟩
  case rest =>
    as_aux_lemma =>
    obtain ⟨X, Y, rfl, rfl, hXY, hX, hY, kx, gx, gy⟩ := hcut
    obtain ⟨w1, rfl⟩ : ∃ x, x = wc := ⟨_, rfl⟩
    have CW1 := Lib.hid (show CW w w1 (qL i v.r op ⟨ab, cb⟩ ⟨ar, cr⟩ v.cl (.slice ac v.cl.n cc) (.slice ad v.cl.n cd) v.x (.slice U v.x.q cu) vnil vnil 0 0 0 0 0 0 0) X Y (balL op ⟨ab, cb⟩ ⟨ar, cr⟩) (balL v.cl ⟨ac, cc⟩ ⟨ad, cd⟩) from ⟨KB.out.trans (kx.mono KB.out.size), (kx.block _ lt0).trans H0.out, (kx.block _ lt1).trans H1.out, gx, gy, by omega, by omega⟩)
    have x1 : w1.cell? ⟨X, 1, none⟩ = some (.slice ab op.n cb) := CW1.out.cx (j := 1) rfl
    have y1 : w1.cell? ⟨Y, 1, none⟩ = some (.slice ac v.cl.n cc) := CW1.out.cy (j := 1) rfl
    have hx0 := CW1.out.hx
    have hy0 := CW1.out.hy
    clear kx gx gy H0 H1 KB lt0 lt1 hX hY
    go_wp2_with fail
    refine (CF.out _ CW1.out.lo).mono ?_
    rintro e w2 ⟨A4, q4, c4, f4, rfl, o4, hf4, hb⟩
    have fis := hf4.fis HOK.out.iv.mon HB.out.mon
    obtain ⟨hq, he⟩ := fis.uniq HM.out.way
    subst hq
    have CW2 := Lib.hid (CW1.out.below hb)
    have LT1 := CW1.out.lt
    have WS2 := Lib.hid ((o4.ext he).mono (show w.heap.size + 2 ≤ w1.heap.size by omega))
    obtain ⟨A4', c4', e', hc4, hm4, _⟩ := o4.at we_len
    injection e' with e1' _ e3'
    subst e1' e3'
    have hq9 := fis.le
    clear fis hf4 o4 he hb CF CW1 x1 y1 LT1
    have p32 : w2.cell? ⟨w.heap.size, 32, none⟩ = some vnil := CW2.out.cell (j := 32) rfl
    have f32 := CW2.out.frz 32
    go_upto_region 3 with fail
    rw [q_set32 CW2.out.p]
    have cw := CW2.out.setP (qL i v.r op ⟨ab, cb⟩ ⟨ar, cr⟩ v.cl (.slice ac v.cl.n cc) (.slice ad v.cl.n cd) v.x (.slice U v.x.q cu) (.slice A4 v.q c4) vnil 0 0 0 0 0 0 0)
    have ws := WS2.out.off (show w.heap.size < w.heap.size + 2 by omega) (qL i v.r op ⟨ab, cb⟩ ⟨ar, cr⟩ v.cl (.slice ac v.cl.n cc) (.slice ad v.cl.n cd) v.x (.slice U v.x.q cu) (.slice A4 v.q c4) vnil 0 0 0 0 0 0 0).toArray
    generalize hw3 : World.setRow w2 _ _ = w3
    rw [hw3] at cw ws
    have CW3 := Lib.hid cw
    have WS3 := Lib.hid ws
    clear cw ws hw3 CW2 WS2 p32 f32
    have CO := Lib.hid fun w5 (k : Below w3.heap.size w3 w5) => pofrows (c := c4) ((ownw_at WS3.out).below k) (show v.q ≤ 1000000 by omega)
    have CR := Lib.hid fun w5 (k : Below w3.heap.size w3 w5) A' c' (hA : AtR be 3 w5 A' v.q (ofW v.f)) (hc : v.q ≤ c' ∧ c' ≤ maxLen) => prates_any (HS.out.below (CW3.out.lo.trans (k.mono CW3.out.lo.size))) i.j A' v.q c' (ofW v.f) hA hc (by omega) i.p 0 v.q v.now (.inr (.inr ⟨HM.out.arg.1, rfl, rfl, HM.out.now⟩))
    refine wp_region_noPanic ?_
    refine AnyTill.begin (C := fun w' => w'.cell? ⟨w.heap.size, 0, none⟩ = some (.string i.j) ∧ w'.cell? ⟨w.heap.size, 1, none⟩ = some (.int .i64 i.p) ∧ w'.cell? ⟨w.heap.size, 32, none⟩ = some (.slice A4 v.q c4)) (q := 99) (by kernel_rfl) ?_
    obtain ⟨wd, hwd⟩ : ∃ wd, w3.drew = wd := ⟨_, rfl⟩
    have kd : Below w3.heap.size w3 wd := by rw [← hwd]; exact below_drew w3
    rw [hwd]
    have HC2 := Lib.hid fun (w5 : World) (k : Below w3.heap.size w3 w5) => (show w5.cell? ⟨w.heap.size, 0, none⟩ = some (.string i.j) ∧ w5.cell? ⟨w.heap.size, 1, none⟩ = some (.int .i64 i.p) ∧ w5.cell? ⟨w.heap.size, 32, none⟩ = some (.slice A4 v.q c4) from ⟨(CW3.out.below k).cell (j := 0) rfl, (CW3.out.below k).cell (j := 1) rfl, (CW3.out.below k).cell (j := 32) rfl⟩)
    have scd := HC2.out wd kd
    clear hwd
    refine AnyTill.tk 0 scd ?_
    refine AnyTill.tk 1 scd ?_
    refine AnyTill.tk 2 scd ?_
    refine AnyTill.tk 3 scd ?_
    refine AnyTill.tk 4 scd ?_
    refine AnyTill.tk 5 scd ?_
    refine AnyTill.tk 7 scd ?_
    refine AnyTill.tk 8 scd ?_
    refine AnyTill.tk 9 scd ?_
    refine AnyTill.on 6 fun K' hK => ?_
    go_simp
    (go_at_call 51; (refine (CO.out _ kd).mono ?_); rintro e w4 ⟨A', c', rfl, ha1, ha2, ha3, hb4⟩)
    have k4 := kd.trans (hb4.mono kd.size)
    have scd4 := HC2.out _ k4
    refine hK.out _ _ (.inr scd4) ?_
    clear hK K' scd
    try simp only [pt]
    refine AnyTill.on 10 fun K' hK => ?_
    go_simp
    (go_at_call 34; (refine (CR.out _ k4 A' c' ha3 ⟨ha1, ha2⟩).mono ?_); rintro e w5 ⟨v5, rfl, o5, hb5⟩)
    have k5 := k4.trans (hb5.mono k4.size)
    have scd5 := HC2.out _ k5
    obtain ⟨A5, c5, rfl, hc5, hm5, _⟩ := o5.at
    refine hK.out _ _ (.inr scd5) ?_
    clear hK K' scd4 ha1 ha2 ha3
    try simp only [pt]
    refine AnyTill.tk 11 scd5 ?_
    refine AnyTill.tk 12 scd5 ?_
    refine AnyTill.tk 13 scd5 ?_
    refine AnyTill.tk 14 scd5 ?_
    refine AnyTill.tk 15 scd5 ?_
    refine AnyTill.done (by kernel_rfl) ?_ _
    refine NoPanic.normal ?_
    have l4 := CW3.out.lt
    have l5 := k4.size
    have CW5 := Lib.hid (CW3.out.below k5)
    have WS5 := Lib.hid (WS3.out.below k5)
    have NW5 := Lib.hid (o5.mono (show w.heap.size + 2 ≤ w4.heap.size by omega))
    clear CO CR HC2 scd5 k4 k5 kd hb4 hb5 o5 CW3 WS3 l4 l5
    have p33 : w5.cell? ⟨w.heap.size, 33, none⟩ = some vnil := CW5.out.cell (j := 33) rfl
    have f33 := CW5.out.frz 33
    go_upto_region 7 with fail
    rw [q_set33 CW5.out.p]
    have cw := CW5.out.setP (qL i v.r op ⟨ab, cb⟩ ⟨ar, cr⟩ v.cl (.slice ac v.cl.n cc) (.slice ad v.cl.n cd) v.x (.slice U v.x.q cu) (.slice A4 v.q c4) (.slice A5 v.q c5) 0 0 0 0 0 0 0)
    have ws := WS5.out.off (show w.heap.size < w.heap.size + 2 by omega) (qL i v.r op ⟨ab, cb⟩ ⟨ar, cr⟩ v.cl (.slice ac v.cl.n cc) (.slice ad v.cl.n cd) v.x (.slice U v.x.q cu) (.slice A4 v.q c4) (.slice A5 v.q c5) 0 0 0 0 0 0 0).toArray
    have nw := own_off NW5.out (show w.heap.size < w.heap.size + 2 by omega) (qL i v.r op ⟨ab, cb⟩ ⟨ar, cr⟩ v.cl (.slice ac v.cl.n cc) (.slice ad v.cl.n cd) v.x (.slice U v.x.q cu) (.slice A4 v.q c4) (.slice A5 v.q c5) 0 0 0 0 0 0 0).toArray
    generalize hw6 : World.setRow w5 _ _ = w6
    rw [hw6] at cw ws nw
    have CW6 := Lib.hid cw
    have WS6 := Lib.hid ws
    have NW6 := Lib.hid nw
    clear cw ws nw hw6 CW5 WS5 NW5 p33 f33
    as_aux_lemma =>
      obtain ⟨mm, rr, ee, hrm, hme⟩ := cmk_rm HIV.out HOK.out HB.out HM.out HM.out.way
      have HME := Lib.hid hme
      have fw := HM.out.way.fiw HOK.out.iv.mon HB.out.mon
      have OR := Lib.hid fun w7 (k : Below w6.heap.size w6 w7) => poldrates (Q := qL i v.r op ⟨ab, cb⟩ ⟨ar, cr⟩ v.cl (.slice ac v.cl.n cc) (.slice ad v.cl.n cd) v.x (.slice U v.x.q cu) (.slice A4 v.q c4) (.slice A5 v.q c5) 0 0 0 0 0 0 0) (HO.out.below (CW6.out.lo.trans (k.mono CW6.out.lo.size))) HOK.out.iv.is hn0 (show v.q ≤ 1000000 by omega) rfl rfl rfl rfl hc4 ((ownw_at WS6.out).below k) ((own_at NW6.out).below k) HM.out.was
      have hbc : BIs S v.cl.n v.cl.g := by rw [HM.out.cn, HM.out.cg]; exact HB.out.is
      have hn1 : v.cl.n ≤ 1000 := by rw [HM.out.cn]; exact hm9
      have CRM := Lib.hid fun (w7 : World) (k : Below w6.heap.size w6 w7) Aw cw (hA : At w7 Aw v.q v.was) (hc : v.q ≤ cw ∧ cw ≤ maxLen) => prem_any (c := cb) (c' := cc) (cu := cw) (cv := c5) (HO.out.rows.below (CW6.out.lo.trans (k.mono CW6.out.lo.size))) (HC.out.rows.below (CW6.out.lo.trans (k.mono CW6.out.lo.size))) HOK.out.iv.is hbc hn0 hn1 HO.out.hb HC.out.hb hA ((own_at NW6.out).below k) hc ⟨hc5, hm5⟩ fw hrm
      clear hrm hme fw
      refine wp_region_noPanic ?_
      refine AnyTill.begin (C := fun w' => w'.cell? ⟨X, 1, none⟩ = some (.slice ab op.n cb) ∧ w'.cell? ⟨Y, 1, none⟩ = some (.slice ac v.cl.n cc)) (q := 99) (by kernel_rfl) ?_
      obtain ⟨wd, hwd⟩ : ∃ wd, w6.drew = wd := ⟨_, rfl⟩
      have kd : Below w6.heap.size w6 wd := by rw [← hwd]; exact below_drew w6
      rw [hwd]
      have HC2 := Lib.hid fun (w7 : World) (k : Below w6.heap.size w6 w7) => (show w7.cell? ⟨X, 1, none⟩ = some (.slice ab op.n cb) ∧ w7.cell? ⟨Y, 1, none⟩ = some (.slice ac v.cl.n cc) from ⟨(CW6.out.below k).cx (j := 1) rfl, (CW6.out.below k).cy (j := 1) rfl⟩)
      have scd := HC2.out wd kd
      clear hwd
      refine AnyTill.tk 0 scd ?_
      refine AnyTill.tk 1 scd ?_
      refine AnyTill.tk 2 scd ?_
      refine AnyTill.tk 3 scd ?_
      refine AnyTill.tk 6 scd ?_
      have rg := row_range (CW6.out.below kd).p
      refine AnyTill.on 4 fun K' hK => ?_
      rw [if_pos (by rfl)]
      refine wp_load_mid 44 (.tmp 3) rfl w.heap.size 0 rfl (qL i v.r op ⟨ab, cb⟩ ⟨ar, cr⟩ v.cl (.slice ac v.cl.n cc) (.slice ad v.cl.n cd) v.x (.slice U v.x.q cu) (.slice A4 v.q c4) (.slice A5 v.q c5) 0 0 0 0 0 0 0) _ rg Try.underlying44 rfl (cq_size _ _ _ _ _ _ _ _ _ _ _ _ _ _ _ _ _ _ _) ?_
      refine hK.out _ _ (.inr scd) ?_
      clear hK K' rg
      try simp only [pt]
      refine AnyTill.on 5 fun K' hK => ?_
      go_simp
      (go_at_call 53; (refine (OR.out _ kd).mono ?_); rintro e w7 ⟨Aw, cw, rfl, ha1, ha2, ha3, hb7⟩)
      have k7 := kd.trans (hb7.mono kd.size)
      have scd7 := HC2.out _ k7
      refine hK.out _ _ (.inr scd7) ?_
      clear hK K' scd OR
      try simp only [pt]
      refine AnyTill.on 7 fun K' hK => ?_
      go_simp
      (go_at_call 52; (refine (CRM.out _ k7 Aw cw ha3 ⟨ha1, ha2⟩).mono ?_); rintro e w8 ⟨rfl, hb8⟩)
      have k8 := k7.trans (hb8.mono k7.size)
      have scd8 := HC2.out _ k8
      refine hK.out _ _ (.inr scd8) ?_
      clear hK K' scd7 CRM ha1 ha2 ha3
      try simp only [pt]
      refine AnyTill.tk 8 scd8 ?_
      refine AnyTill.tk 9 scd8 ?_
      refine AnyTill.tk 10 scd8 ?_
      refine AnyTill.tk 11 scd8 ?_
      have c8 := CW6.out.below k8
      have ws := (WS6.out.below k8).off (show w.heap.size < w.heap.size + 2 by omega) (qL i v.r op ⟨ab, cb⟩ ⟨ar, cr⟩ v.cl (.slice ac v.cl.n cc) (.slice ad v.cl.n cd) v.x (.slice U v.x.q cu) (.slice A4 v.q c4) (.slice A5 v.q c5) mm rr 0 0 0 0 0).toArray
      have nw := own_off (NW6.out.below k8) (show w.heap.size < w.heap.size + 2 by omega) (qL i v.r op ⟨ab, cb⟩ ⟨ar, cr⟩ v.cl (.slice ac v.cl.n cc) (.slice ad v.cl.n cd) v.x (.slice U v.x.q cu) (.slice A4 v.q c4) (.slice A5 v.q c5) mm rr 0 0 0 0 0).toArray
      have cw9 := c8.setP (qL i v.r op ⟨ab, cb⟩ ⟨ar, cr⟩ v.cl (.slice ac v.cl.n cc) (.slice ad v.cl.n cd) v.x (.slice U v.x.q cu) (.slice A4 v.q c4) (.slice A5 v.q c5) mm rr 0 0 0 0 0)
      have q34 : w8.setCells w.heap.size 34 [.int .i64 mm, .int .i64 rr] = w8.setRow w.heap.size (qL i v.r op ⟨ab, cb⟩ ⟨ar, cr⟩ v.cl (.slice ac v.cl.n cc) (.slice ad v.cl.n cd) v.x (.slice U v.x.q cu) (.slice A4 v.q c4) (.slice A5 v.q c5) mm rr 0 0 0 0 0).toArray := (setCells_row [.int .i64 mm, .int .i64 rr] 34 _ w8 c8.p).trans (congrArg (w8.setRow w.heap.size) (put_chg ..))
      have th := there_row c8.p (show 34 + 2 ≤ 41 by decide)
      generalize hw9 : World.setRow w8 _ _ = w9 at q34
      rw [hw9] at cw9 ws nw
      clear hw9 c8 k7 k8 hb7 hb8 kd HC2 CW6 WS6 NW6
      refine AnyTill.on 12 fun K' hK => ?_
      rw [if_pos (by rfl)]
      refine wp_store_mid 42 (.tmp 51) (.tmp 49) rfl w.heap.size 34 #[.int .i64 mm, .int .i64 rr] rfl rfl th cchg_size (chg_one _ _) ?_
      rw [q34]
      have scd9 : w9.cell? ⟨X, 1, none⟩ = some (.slice ab op.n cb) ∧ w9.cell? ⟨Y, 1, none⟩ = some (.slice ac v.cl.n cc) := ⟨cw9.cx (j := 1) rfl, cw9.cy (j := 1) rfl⟩
      refine hK.out _ _ (.inr scd9) ?_
      clear hK K' q34 th scd8
      try simp only [pt]
      refine AnyTill.tk 13 scd9 ?_
      refine AnyTill.done (by kernel_rfl) ?_ _
      refine NoPanic.normal ?_
      have CW9 := Lib.hid cw9
      have WS9 := Lib.hid ws
      have NW9 := Lib.hid nw
      clear cw9 ws nw scd9
      rcases HME.out with ⟨t2, rfl, rfl, rfl⟩ | ⟨t2, rfl, rfl, rfl⟩
      · have T2 := Lib.hid t2
        clear t2 HME
        as_aux_lemma =>
          have ml := cmk_loss HIV.out HV.out HM.out
          have hol := HOK.out.left
          have hox := HOK.out.nx
          have hon := ml.1.2
          have hob := HOK.out.bds
          obtain ⟨P1, hP1⟩ : ∃ x, rof op.left v.cl.nx = x := ⟨_, rfl⟩
          obtain ⟨P2, hP2⟩ : ∃ x, rof op.left op.nx = x := ⟨_, rfl⟩
          have bP1 := share_bd hol hon
          have bP2 := share_bd hol hox
          rw [hP1] at bP1
          rw [hP2] at bP2
          have hlr : P2 - P1 = v.lr := by rw [HM.out.lr, hP1, hP2]; omega
          have hlm : op.ls - v.cl.ls - v.lr = v.lm := HM.out.lm.symm
          have ham : op.al - v.cl.al = v.am := HM.out.am.symm
          have hdf : v.tm + v.tr + v.lm + v.lr + v.am = v.df := HM.out.df.symm
          have htt : v.x.tax + v.df + i.tu = v.tt := HM.out.tt.symm
          have HP1 := Lib.hid hP1
          have HP2 := Lib.hid hP2
          have btx := cmk_tax HIV.out HV.out HM.out
          have bt2 := T2.out
          have bt1 := HT.out
          have btu := HM.out.arg.2.2
          have hcl := ml.2.1
          have hca := ml.2.2.2.2
          have hal := HM.out.al
          unfold RtOk at hox hon
          unfold Mon at bt2 bt1 btu
          have blr : -200000000000 ≤ v.lr ∧ v.lr ≤ 200000000000 := by omega
          have blm : -500000000000 ≤ v.lm ∧ v.lm ≤ 500000000000 := by omega
          have bam : -300000000000 ≤ v.am ∧ v.am ≤ 300000000000 := by omega
          have bdf : -2000000000000 ≤ v.df ∧ v.df ≤ 2000000000000 := by omega
          have btt : -3000000000000 ≤ v.tt ∧ v.tt ≤ 3000000000000 := by omega
          have bca : -100000000000 ≤ v.cl.al ∧ v.cl.al ≤ 0 := by omega
          have LR := Lib.hid hlr
          have LM := Lib.hid hlm
          have AM := Lib.hid ham
          have DF := Lib.hid hdf
          have TT := Lib.hid htt
          have v1 : IntKind.i64.wrap (P2 - P1) = v.lr := by rw [← hlr]; exact IntWalk.i64_in _ (by omega)
          clear hlr hlm ham hdf htt hal ml hP1 hP2 hca T2
          go_upto_region 10 with fail
          refine wp_region_noPanic ?_
          refine AnyTill.begin (C := fun w' => w'.cell? ⟨X, 4, none⟩ = some (.int .i64 op.left) ∧ w'.cell? ⟨X, 3, none⟩ = some (.int .i64 op.nx) ∧ w'.cell? ⟨Y, 3, none⟩ = some (.int .i64 v.cl.nx)) (q := 12) (by kernel_rfl) ?_
          obtain ⟨wd, hwd⟩ : ∃ wd, w9.drew = wd := ⟨_, rfl⟩
          have kd : Below w9.heap.size w9 wd := by rw [← hwd]; exact below_drew w9
          rw [hwd]
          have scd : wd.cell? ⟨X, 4, none⟩ = some (.int .i64 op.left) ∧ wd.cell? ⟨X, 3, none⟩ = some (.int .i64 op.nx) ∧ wd.cell? ⟨Y, 3, none⟩ = some (.int .i64 v.cl.nx) := ⟨(CW9.out.below kd).cx (j := 4) rfl, (CW9.out.below kd).cx (j := 3) rfl, (CW9.out.below kd).cy (j := 3) rfl⟩
          clear hwd
          refine AnyTill.tk 0 scd ?_
          refine AnyTill.tk 1 scd ?_
          refine AnyTill.tk 2 scd ?_
          refine AnyTill.tk 3 scd ?_
          refine AnyTill.tc (i := 4) (v := .int .i64 P2) (f := 54) (args := #[.int .i64 op.left, .int .i64 op.nx]) (hc := fun w' _ => pcshr_at op.left op.nx P2 w' (by omega) (by omega) HP2) (hC := scd) (h := ?_)
          refine AnyTill.tk 5 scd ?_
          refine AnyTill.tk 6 scd ?_
          refine AnyTill.tk 7 scd ?_
          refine AnyTill.tk 8 scd ?_
          refine AnyTill.tc (i := 9) (v := .int .i64 P1) (f := 54) (args := #[.int .i64 op.left, .int .i64 v.cl.nx]) (hc := fun w' _ => pcshr_at op.left v.cl.nx P1 w' (by omega) (by omega) HP1) (hC := scd) (h := ?_)
          refine AnyTill.tk 10 scd ?_
          refine AnyTill.tk 11 scd ?_
          have CWd := Lib.hid (CW9.out.below kd)
          have WSd := Lib.hid (WS9.out.below kd)
          have NWd := Lib.hid (NW9.out.below kd)
          have q37 := q_set37 CWd.out.p v.lr
          have cw := CWd.out.setP (qL i v.r op ⟨ab, cb⟩ ⟨ar, cr⟩ v.cl (.slice ac v.cl.n cc) (.slice ad v.cl.n cd) v.x (.slice U v.x.q cu) (.slice A4 v.q c4) (.slice A5 v.q c5) v.tm v.tr 0 v.lr 0 0 0)
          have ws := WSd.out.off (show w.heap.size < w.heap.size + 2 by omega) (qL i v.r op ⟨ab, cb⟩ ⟨ar, cr⟩ v.cl (.slice ac v.cl.n cc) (.slice ad v.cl.n cd) v.x (.slice U v.x.q cu) (.slice A4 v.q c4) (.slice A5 v.q c5) v.tm v.tr 0 v.lr 0 0 0).toArray
          have nw := own_off NWd.out (show w.heap.size < w.heap.size + 2 by omega) (qL i v.r op ⟨ab, cb⟩ ⟨ar, cr⟩ v.cl (.slice ac v.cl.n cc) (.slice ad v.cl.n cd) v.x (.slice U v.x.q cu) (.slice A4 v.q c4) (.slice A5 v.q c5) v.tm v.tr 0 v.lr 0 0 0).toArray
          have fp := CWd.out.frz 37
          have pc : wd.cell? ⟨w.heap.size, 37, none⟩ = some (.int .i64 0) := CWd.out.cell (j := 37) rfl
          generalize hw : World.setRow wd w.heap.size _ = w10 at q37
          rw [hw] at cw ws nw
          have CW10 := Lib.hid cw
          have WS10 := Lib.hid ws
          have NW10 := Lib.hid nw
          clear cw ws nw hw CWd WSd NWd CW9 WS9 NW9 kd
          refine AnyTill.on 12 fun K' hK => ?_
          go_simp
          refine hK.out _ _ (.inl rfl) ?_
          clear hK K' q37 fp pc scd v1
          try simp only [pt]
          refine AnyTill.done (by kernel_rfl) ?_ _
          refine NoPanic.normal ?_
          as_aux_lemma =>
            have x6 : w10.cell? ⟨X, 6, none⟩ = some (.int .i64 op.ls) := CW10.out.cx (j := 6) rfl
            have y6 : w10.cell? ⟨Y, 6, none⟩ = some (.int .i64 v.cl.ls) := CW10.out.cy (j := 6) rfl
            have p37 : w10.cell? ⟨w.heap.size, 37, none⟩ = some (.int .i64 v.lr) := CW10.out.cell (j := 37) rfl
            have p36 : w10.cell? ⟨w.heap.size, 36, none⟩ = some (.int .i64 0) := CW10.out.cell (j := 36) rfl
            have fz := CW10.out.frz 36
            go_upto_region 12 with fail
            rw [show op.ls - v.cl.ls - v.lr = v.lm from LM.out, q_set36 CW10.out.p v.lm]
            have cw := CW10.out.setP (qL i v.r op ⟨ab, cb⟩ ⟨ar, cr⟩ v.cl (.slice ac v.cl.n cc) (.slice ad v.cl.n cd) v.x (.slice U v.x.q cu) (.slice A4 v.q c4) (.slice A5 v.q c5) v.tm v.tr v.lm v.lr 0 0 0)
            have ws := WS10.out.off (show w.heap.size < w.heap.size + 2 by omega) (qL i v.r op ⟨ab, cb⟩ ⟨ar, cr⟩ v.cl (.slice ac v.cl.n cc) (.slice ad v.cl.n cd) v.x (.slice U v.x.q cu) (.slice A4 v.q c4) (.slice A5 v.q c5) v.tm v.tr v.lm v.lr 0 0 0).toArray
            have nw := own_off NW10.out (show w.heap.size < w.heap.size + 2 by omega) (qL i v.r op ⟨ab, cb⟩ ⟨ar, cr⟩ v.cl (.slice ac v.cl.n cc) (.slice ad v.cl.n cd) v.x (.slice U v.x.q cu) (.slice A4 v.q c4) (.slice A5 v.q c5) v.tm v.tr v.lm v.lr 0 0 0).toArray
            generalize hw : World.setRow w10 w.heap.size _ = w11
            rw [hw] at cw ws nw
            have CW11 := Lib.hid cw
            have WS11 := Lib.hid ws
            have NW11 := Lib.hid nw
            clear cw ws nw hw CW10 WS10 NW10 x6 y6 p37 p36 fz
            have x7 : w11.cell? ⟨X, 7, none⟩ = some (.int .i64 op.al) := CW11.out.cx (j := 7) rfl
            have y7 : w11.cell? ⟨Y, 7, none⟩ = some (.int .i64 v.cl.al) := CW11.out.cy (j := 7) rfl
            have p38 : w11.cell? ⟨w.heap.size, 38, none⟩ = some (.int .i64 0) := CW11.out.cell (j := 38) rfl
            have fz := CW11.out.frz 38
            go_upto_region 13 with (first | (go_at_call 55; (with_reducible refine (pchg_any _ _ _ (by omega)).mono ?_); rintro e w' ⟨rfl, rfl⟩))
            rw [show op.al - v.cl.al = v.am from AM.out, q_set38 CW11.out.p v.am]
            have cw := CW11.out.setP (qL i v.r op ⟨ab, cb⟩ ⟨ar, cr⟩ v.cl (.slice ac v.cl.n cc) (.slice ad v.cl.n cd) v.x (.slice U v.x.q cu) (.slice A4 v.q c4) (.slice A5 v.q c5) v.tm v.tr v.lm v.lr v.am 0 0)
            have ws := WS11.out.off (show w.heap.size < w.heap.size + 2 by omega) (qL i v.r op ⟨ab, cb⟩ ⟨ar, cr⟩ v.cl (.slice ac v.cl.n cc) (.slice ad v.cl.n cd) v.x (.slice U v.x.q cu) (.slice A4 v.q c4) (.slice A5 v.q c5) v.tm v.tr v.lm v.lr v.am 0 0).toArray
            have nw := own_off NW11.out (show w.heap.size < w.heap.size + 2 by omega) (qL i v.r op ⟨ab, cb⟩ ⟨ar, cr⟩ v.cl (.slice ac v.cl.n cc) (.slice ad v.cl.n cd) v.x (.slice U v.x.q cu) (.slice A4 v.q c4) (.slice A5 v.q c5) v.tm v.tr v.lm v.lr v.am 0 0).toArray
            generalize hw : World.setRow w11 w.heap.size _ = w12
            rw [hw] at cw ws nw
            have CW12 := Lib.hid cw
            have WS12 := Lib.hid ws
            have NW12 := Lib.hid nw
            clear cw ws nw hw CW11 WS11 NW11 x7 y7 p38 fz
            as_aux_lemma =>
              have v1 : IntKind.i64.wrap (v.tm + v.tr + v.lm) = v.tm + v.tr + v.lm := IntWalk.i64_in _ (by omega)
              have v2 : IntKind.i64.wrap (v.tm + v.tr + v.lm + v.lr) = v.tm + v.tr + v.lm + v.lr := IntWalk.i64_in _ (by omega)
              have v3 : IntKind.i64.wrap (v.tm + v.tr + v.lm + v.lr + v.am) = v.df := by rw [IntWalk.i64_in _ (by omega)]; exact DF.out
              have CT := Lib.hid fun w5 => ptot_any v.tm v.tr w5 ⟨by unfold Mon; exact bt2.1, by unfold Mon; exact bt2.2⟩
              refine wp_region_noPanic ?_
              refine AnyTill.begin (C := fun w' => w'.cell? ⟨w.heap.size, 34, none⟩ = some (.int .i64 v.tm) ∧ w'.cell? ⟨w.heap.size, 35, none⟩ = some (.int .i64 v.tr) ∧ w'.cell? ⟨w.heap.size, 36, none⟩ = some (.int .i64 v.lm) ∧ w'.cell? ⟨w.heap.size, 37, none⟩ = some (.int .i64 v.lr) ∧ w'.cell? ⟨w.heap.size, 38, none⟩ = some (.int .i64 v.am)) (q := 13) (by kernel_rfl) ?_
              obtain ⟨wd, hwd⟩ : ∃ wd, w12.drew = wd := ⟨_, rfl⟩
              have kd : Below w12.heap.size w12 wd := by rw [← hwd]; exact below_drew w12
              rw [hwd]
              have HC2 := Lib.hid fun (w7 : World) (k : Below w12.heap.size w12 w7) => (show w7.cell? ⟨w.heap.size, 34, none⟩ = some (.int .i64 v.tm) ∧ w7.cell? ⟨w.heap.size, 35, none⟩ = some (.int .i64 v.tr) ∧ w7.cell? ⟨w.heap.size, 36, none⟩ = some (.int .i64 v.lm) ∧ w7.cell? ⟨w.heap.size, 37, none⟩ = some (.int .i64 v.lr) ∧ w7.cell? ⟨w.heap.size, 38, none⟩ = some (.int .i64 v.am) from ⟨(CW12.out.below k).cell (j := 34) rfl, (CW12.out.below k).cell (j := 35) rfl, (CW12.out.below k).cell (j := 36) rfl, (CW12.out.below k).cell (j := 37) rfl, (CW12.out.below k).cell (j := 38) rfl⟩)
              have scd := HC2.out wd kd
              clear hwd
              refine AnyTill.tk 0 scd ?_
              refine AnyTill.tk 1 scd ?_
              refine AnyTill.tk 3 scd ?_
              refine AnyTill.tk 4 scd ?_
              refine AnyTill.tk 6 scd ?_
              refine AnyTill.tk 7 scd ?_
              refine AnyTill.tk 9 scd ?_
              refine AnyTill.tk 10 scd ?_
              refine AnyTill.on 2 fun K' hK => ?_
              go_simp
              (go_at_call 56; (refine (CT.out _).mono ?_); rintro e w13 ⟨rfl, hb13⟩)
              have k13 := kd.trans (hb13.mono kd.size)
              have scd13 := HC2.out _ k13
              refine hK.out _ _ (.inr scd13) ?_
              clear hK K' scd CT
              try simp only [pt]
              refine AnyTill.tk 5 scd13 ?_
              refine AnyTill.tk 8 scd13 ?_
              refine AnyTill.tk 11 scd13 ?_
              refine AnyTill.tk 12 scd13 ?_
              have CWd := Lib.hid (CW12.out.below k13)
              have WSd := Lib.hid (WS12.out.below k13)
              have NWd := Lib.hid (NW12.out.below k13)
              have q39 := q_set39 CWd.out.p v.df
              have cw := CWd.out.setP (qL i v.r op ⟨ab, cb⟩ ⟨ar, cr⟩ v.cl (.slice ac v.cl.n cc) (.slice ad v.cl.n cd) v.x (.slice U v.x.q cu) (.slice A4 v.q c4) (.slice A5 v.q c5) v.tm v.tr v.lm v.lr v.am v.df 0)
              have ws := WSd.out.off (show w.heap.size < w.heap.size + 2 by omega) (qL i v.r op ⟨ab, cb⟩ ⟨ar, cr⟩ v.cl (.slice ac v.cl.n cc) (.slice ad v.cl.n cd) v.x (.slice U v.x.q cu) (.slice A4 v.q c4) (.slice A5 v.q c5) v.tm v.tr v.lm v.lr v.am v.df 0).toArray
              have nw := own_off NWd.out (show w.heap.size < w.heap.size + 2 by omega) (qL i v.r op ⟨ab, cb⟩ ⟨ar, cr⟩ v.cl (.slice ac v.cl.n cc) (.slice ad v.cl.n cd) v.x (.slice U v.x.q cu) (.slice A4 v.q c4) (.slice A5 v.q c5) v.tm v.tr v.lm v.lr v.am v.df 0).toArray
              have fp := CWd.out.frz 39
              have pc : w13.cell? ⟨w.heap.size, 39, none⟩ = some (.int .i64 0) := CWd.out.cell (j := 39) rfl
              generalize hw : World.setRow w13 w.heap.size _ = w14 at q39
              rw [hw] at cw ws nw
              have CW14 := Lib.hid cw
              have WS14 := Lib.hid ws
              have NW14 := Lib.hid nw
              clear cw ws nw hw CWd WSd NWd CW12 WS12 NW12 kd k13 hb13 HC2
              refine AnyTill.on 13 fun K' hK => ?_
              go_simp
              refine hK.out _ _ (.inl rfl) ?_
              clear hK K' q39 fp pc scd13 v1 v2 v3
              try simp only [pt]
              refine AnyTill.done (by kernel_rfl) ?_ _
              refine NoPanic.normal ?_
              as_aux_lemma =>
                have p30 : w14.cell? ⟨w.heap.size, 30, none⟩ = some (.int .i64 v.x.tax) := CW14.out.cell (j := 30) rfl
                have p39 : w14.cell? ⟨w.heap.size, 39, none⟩ = some (.int .i64 v.df) := CW14.out.cell (j := 39) rfl
                have p7 : w14.cell? ⟨w.heap.size, 7, none⟩ = some (.int .i64 i.tu) := CW14.out.cell (j := 7) rfl
                have p40 : w14.cell? ⟨w.heap.size, 40, none⟩ = some (.int .i64 0) := CW14.out.cell (j := 40) rfl
                have fz := CW14.out.frz 40
                go_upto_region 15 with fail
                rw [show v.x.tax + v.df + i.tu = v.tt from TT.out, q_set40 CW14.out.p v.tt]
                have cw := CW14.out.setP (qL i v.r op ⟨ab, cb⟩ ⟨ar, cr⟩ v.cl (.slice ac v.cl.n cc) (.slice ad v.cl.n cd) v.x (.slice U v.x.q cu) (.slice A4 v.q c4) (.slice A5 v.q c5) v.tm v.tr v.lm v.lr v.am v.df v.tt)
                have ws := WS14.out.off (show w.heap.size < w.heap.size + 2 by omega) (qL i v.r op ⟨ab, cb⟩ ⟨ar, cr⟩ v.cl (.slice ac v.cl.n cc) (.slice ad v.cl.n cd) v.x (.slice U v.x.q cu) (.slice A4 v.q c4) (.slice A5 v.q c5) v.tm v.tr v.lm v.lr v.am v.df v.tt).toArray
                have nw := own_off NW14.out (show w.heap.size < w.heap.size + 2 by omega) (qL i v.r op ⟨ab, cb⟩ ⟨ar, cr⟩ v.cl (.slice ac v.cl.n cc) (.slice ad v.cl.n cd) v.x (.slice U v.x.q cu) (.slice A4 v.q c4) (.slice A5 v.q c5) v.tm v.tr v.lm v.lr v.am v.df v.tt).toArray
                generalize hw : World.setRow w14 w.heap.size _ = w15
                rw [hw] at cw ws nw
                have CW15 := Lib.hid cw
                have WS15 := Lib.hid ws
                have NW15 := Lib.hid nw
                clear cw ws nw hw CW14 WS14 NW14 p30 p39 p7 p40 fz
                as_aux_lemma =>
                  obtain ⟨okb, hok⟩ : ∃ okb : Bool, okb = true ↔ ∀ k, k < 9 → Mon (finU i op v k) := by
                    by_cases h : ∀ k, k < 9 → Mon (finU i op v k)
                    · exact ⟨true, fun _ => h, fun _ => rfl⟩
                    · exact ⟨false, fun e => (by cases e), fun e => absurd e h⟩
                  have HOKB := Lib.hid hok
                  have CB : Hid (∀ w5, Calls Try.prog 57 #[.agg (qL i v.r op ⟨ab, cb⟩ ⟨ar, cr⟩ v.cl (.slice ac v.cl.n cc) (.slice ad v.cl.n cd) v.x (.slice U v.x.q cu) (.slice A4 v.q c4) (.slice A5 v.q c5) v.tm v.tr v.lm v.lr v.am v.df v.tt).toArray] w5 fun e w' => e = .returned (.bool okb) ∧ Below w5.heap.size w5 w') := Lib.hid fun w5 => pbookable (s := ⟨⟨ab, cb⟩, ⟨ar, cr⟩, ⟨ac, cc⟩, ⟨ad, cd⟩, ⟨U, cu⟩, ⟨A4, c4⟩, ⟨A5, c5⟩⟩) btx (by unfold Mon; exact btu) ⟨by unfold Mon; omega, by unfold Mon; exact bt1⟩ ⟨by unfold Mon; omega, by unfold Mon; omega⟩ ⟨by unfold Mon; omega, by unfold Mon; omega⟩ hok
                  have RG := Lib.hid (row_range CW15.out.p)
                  clear hok
                  go_wp2_with (first | ((with_reducible show wpList _ _ _ _ _ _); (refine wpList_load_mid rfl 44 (.tmp 3) rfl w.heap.size 0 rfl (qL i v.r op ⟨ab, cb⟩ ⟨ar, cr⟩ v.cl (.slice ac v.cl.n cc) (.slice ad v.cl.n cd) v.x (.slice U v.x.q cu) (.slice A4 v.q c4) (.slice A5 v.q c5) v.tm v.tr v.lm v.lr v.am v.df v.tt) _ RG.out Try.underlying44 rfl (cq_size _ _ _ _ _ _ _ _ _ _ _ _ _ _ _ _ _ _ _) ?_)))
                  refine (CB.out _).mono ?_
                  rintro e w16 ⟨rfl, hb⟩
                  have CW16 := Lib.hid (CW15.out.below hb)
                  have WS16 := Lib.hid (WS15.out.below hb)
                  have NW16 := Lib.hid (NW15.out.below hb)
                  have RG := Lib.hid (row_range CW16.out.p)
                  clear hb CB CW15 WS15 NW15
                  cases okb with
                  | false =>
                    have NF : Hid (¬ Fit2 i op v) := Lib.hid fun h => by have := HOKB.out.2 h.2; cases this
                    clear HOKB RG
                    go_wp2_with (first | ((with_reducible show wpList _ _ _ _ _ _); (refine wpList_store_row rfl 44 (.tmp 4) (.tmp 110) rfl (w.heap.size + 1) pv0L.toArray rfl rfl _ _ CW16.out.r pv0_size rfl (one_all pv0L_one) ?_)))
                    (try simp only [Exit.inBlock, Exit.then])
                    exact bodyPost_ret (results_ct rfl _ _ (w.heap.size + 1) _ rfl (run_loadVar_row _ _ _ _ _ (0, 0) _ (setRow_heap _ _ _ _ _ _ CW16.out.r) Try.underlying44 rfl pv0_size)) rfl ⟨below_setRow CW16.out.lo (by omega) _, .inl ⟨NF.out, rfl⟩⟩
                  | true =>
                    have FT : Hid (Fit2 i op v) := Lib.hid ⟨⟨by unfold Mon; exact bt2.1, by unfold Mon; exact bt2.2⟩, HOKB.out.1 rfl⟩
                    clear HOKB
                    go_wp2_with (first | ((with_reducible show wpList _ _ _ _ _ _); (refine wpList_load_mid rfl 44 (.tmp 3) rfl w.heap.size 0 rfl (qL i v.r op ⟨ab, cb⟩ ⟨ar, cr⟩ v.cl (.slice ac v.cl.n cc) (.slice ad v.cl.n cd) v.x (.slice U v.x.q cu) (.slice A4 v.q c4) (.slice A5 v.q c5) v.tm v.tr v.lm v.lr v.am v.df v.tt) _ RG.out Try.underlying44 rfl (cq_size _ _ _ _ _ _ _ _ _ _ _ _ _ _ _ _ _ _ _) ?_)) | ((with_reducible show wpList _ _ _ _ _ _); (refine wpList_store_row rfl 44 (.tmp 4) (.tmp 111) rfl (w.heap.size + 1) (qL i v.r op ⟨ab, cb⟩ ⟨ar, cr⟩ v.cl (.slice ac v.cl.n cc) (.slice ad v.cl.n cd) v.x (.slice U v.x.q cu) (.slice A4 v.q c4) (.slice A5 v.q c5) v.tm v.tr v.lm v.lr v.am v.df v.tt).toArray rfl rfl _ _ CW16.out.r (cq_size _ _ _ _ _ _ _ _ _ _ _ _ _ _ _ _ _ _ _) rfl (qL_one ..) ?_)))
                    (try simp only [Exit.inBlock, Exit.then])
                    have o5 := WS16.out.off (show w.heap.size + 1 < w.heap.size + 2 by omega) (qL i v.r op ⟨ab, cb⟩ ⟨ar, cr⟩ v.cl (.slice ac v.cl.n cc) (.slice ad v.cl.n cd) v.x (.slice U v.x.q cu) (.slice A4 v.q c4) (.slice A5 v.q c5) v.tm v.tr v.lm v.lr v.am v.df v.tt).toArray
                    have n5 := own_off NW16.out (show w.heap.size + 1 < w.heap.size + 2 by omega) (qL i v.r op ⟨ab, cb⟩ ⟨ar, cr⟩ v.cl (.slice ac v.cl.n cc) (.slice ad v.cl.n cd) v.x (.slice U v.x.q cu) (.slice A4 v.q c4) (.slice A5 v.q c5) v.tm v.tr v.lm v.lr v.am v.df v.tt).toArray
                    exact bodyPost_ret (results_ct rfl _ _ (w.heap.size + 1) _ rfl (run_loadVar_row _ _ _ _ _ (0, 0) _ (setRow_heap _ _ _ _ _ _ CW16.out.r) Try.underlying44 rfl (cq_size _ _ _ _ _ _ _ _ _ _ _ _ _ _ _ _ _ _ _))) rfl ⟨below_setRow CW16.out.lo (by omega) _, .inr ⟨FT.out, A4, c4, A5, c5, rfl, ⟨ownw_at o5, ⟨hc4, hm4⟩, (ownr_free o5).wide (by omega)⟩, own_at n5, ⟨hc5, hm5⟩, (own_free n5).wide (by omega)⟩⟩
      · have NF := Lib.hid (show ¬ Fit2 i op v from fun h => t2 h.1)
        clear HME t2
        go_wp2_with (first | ((with_reducible show wpList _ _ _ _ _ _); (refine wpList_store_row rfl 44 (.tmp 4) (.tmp 54) rfl (w.heap.size + 1) pv0L.toArray rfl rfl _ _ CW9.out.r pv0_size rfl (one_all pv0L_one) ?_)))
        (try simp only [Exit.inBlock, Exit.then])
        exact bodyPost_ret (results_ct rfl _ _ (w.heap.size + 1) _ rfl (run_loadVar_row _ _ _ _ _ (0, 0) _ (setRow_heap _ _ _ _ _ _ CW9.out.r) Try.underlying44 rfl pv0_size)) rfl ⟨below_setRow CW9.out.lo (by omega) _, .inl ⟨NF.out, rfl⟩⟩
end Go.Proofs.Ytmlafdehhbhbiaa
