/- Law 19's stories told twice: what lives on from close to close, the program's and the document's. -/
import Derived.Test.YtmlafdehhbhbiaaGreatLaw19e
import Derived.Test.YtmlafdehhbhbiaaGreatRMk3
import Derived.Test.YtmlafdehhbhbiaaGreatMk
namespace Go.Proofs.YtmlafdehhbhbiaaGreat
open Go.RowKit
structure LSM (w wr : World) (O : Nat → Nat) (tr tb nr : Nat) (R : Nat → Rt) (rg : Nat) (S : Int → Int → Int) (lb : Nat) (SL : Int → Int → Int) (bo bw : Nat) (op : MBal) (sb sr ub ur : Sl) (ws : Nat) (cs : List Value) : Prop where
 tr : NowT 116 w wr O 1 tr nr R
 t : NowT 144 w wr O 4 tb nr R
 r : NowB w wr O 2 rg S
 l : NowL w wr O 3 lb SL
 bx : Box wr O 5 bo 35 (balL op sb sr)
 bw : Box wr O 7 bw 63 (balL op ub ur)
 ba : BalO O w.heap.size wr op sb sr
 bb : BalO O w.heap.size wr op ub ur
 st : Box wr O 0 ws 52 cs
section
variable {w wr w1 : World} {O O1 : Nat → Nat} {tr tb nr rg lb bo bw ws : Nat} {R : Nat → Rt} {S S1 SL : Int → Int → Int} {op : MBal} {sb sr ub ur : Sl} {cs : List Value}
set_option maxRecDepth 100000 in
theorem LSM.below (h : LSM w wr O tr tb nr R rg S lb SL bo bw op sb sr ub ur ws cs) (k : Below wr.heap.size wr w1) : LSM w w1 O tr tb nr R rg S lb SL bo bw op sb sr ub ur ws cs :=
 ⟨h.tr.below k, h.t.below k, h.r.below k, h.l.below k, h.bx.below k, h.bw.below k, h.ba.below k, h.bb.below k, h.st.below k⟩
set_option maxRecDepth 100000 in
theorem LSM.reg (h : LSM w wr O tr tb nr R rg S lb SL bo bw op sb sr ub ur ws cs) (k : Step w.heap.size O 2 wr O1 w1) (n : NowB w w1 O1 2 rg S1) : LSM w w1 O1 tr tb nr R rg S1 lb SL bo bw op sb sr ub ur ws cs :=
 ⟨h.tr.step k (by decide) (by decide), h.t.step k (by decide) (by decide), n, h.l.step k (by decide) (by decide), h.bx.step k (by decide), h.bw.step k (by decide), h.ba.step k (by decide), h.bb.step k (by decide), h.st.step k (by decide)⟩
set_option maxRecDepth 100000 in
theorem LSM.other {t : Nat} (h : LSM w wr O tr tb nr R rg S lb SL bo bw op sb sr ub ur ws cs) (k : Step w.heap.size O t wr O1 w1) (ht : t = 6 ∨ t = 9) : LSM w w1 O1 tr tb nr R rg S lb SL bo bw op sb sr ub ur ws cs :=
 ⟨h.tr.step k (by omega) (by omega), h.t.step k (by omega) (by omega), h.r.step k (by omega) (by omega), h.l.step k (by omega) (by omega), h.bx.step k (by omega), h.bw.step k (by omega), h.ba.step k (by omega), h.bb.step k (by omega), h.st.step k (by omega)⟩
theorem LSM.low (h : LSM w wr O tr tb nr R rg S lb SL bo bw op sb sr ub ur ws cs) : Below w.heap.size w wr := h.t.low
theorem LSM.fin (h : LSM w wr O tr tb nr R rg S lb SL bo bw op sb sr ub ur ws cs) : Fin0 w.heap.size O wr := h.t.fin
set_option maxRecDepth 100000 in
theorem LSM.join {v : World} {O2 : Nat → Nat} {t4 lb2 : Nat} {SL2 : Int → Int → Int} (h : LSM w v O tr tb nr R rg S lb SL bo bw op sb sr ub ur ws cs) (hb : Below v.heap.size v wr) (hn : NowL v wr O2 1 lb2 SL2) :
   ∃ O4, LSM w wr O4 tr tb nr R rg S lb SL bo bw op sb sr ub ur ws cs ∧ NowL w wr O4 t4 lb2 SL2 ∧ (∀ b s1 s2, BalO O2 v.heap.size wr b s1 s2 → BalO O4 w.heap.size wr b s1 s2) ∧ (∀ k, k < v.heap.size → O4 k = O k) ∧
     (∀ b s1 s2, BalO O w.heap.size v b s1 s2 → BalO O4 w.heap.size wr b s1 s2) ∧ ∀ A, Free O2 v.heap.size wr A → Free O4 w.heap.size wr A := by
 have lo := h.t.low.trans (hb.mono h.t.low.size)
 have f := join_fin (t := t4) h.t.fin h.t.low.size hn.fin hb.size
 have old : ∀ k, k < v.heap.size → joinO O O2 v.heap.size t4 k = O k := fun k hk => if_pos hk
 have oldB : ∀ b s1 s2, BalO O w.heap.size v b s1 s2 → BalO (joinO O O2 v.heap.size t4) w.heap.size wr b s1 s2 := fun b s1 s2 q =>
   ⟨q.at'.below hb, (q.fb.below hb).old fun b off e => (q.fb b off e).2.1, (q.fr.below hb).old fun b off e => (q.fr b off e).2.1⟩
 exact ⟨joinO O O2 v.heap.size t4, ⟨(h.tr.below hb).marks (join_old h.t.fin.2 (by decide)) f lo (Nat.le_refl _), (h.t.below hb).marks (join_old h.t.fin.2 (by decide)) f lo (Nat.le_refl _), NowB.marks (h.r.below hb) (join_old h.t.fin.2 (by decide)) f lo (Nat.le_refl _),
   NowL.marks (h.l.below hb) (join_old h.t.fin.2 (by decide)) f lo (Nat.le_refl _), (h.bx.below hb).marks (by rw [old _ h.bx.lt]; exact h.bx.tag), (h.bw.below hb).marks (by rw [old _ h.bw.lt]; exact h.bw.tag), oldB _ _ _ h.ba, oldB _ _ _ h.bb, (h.st.below hb).marks (by rw [old _ h.st.lt]; exact h.st.tag)⟩,
   NowL.marks hn (join_new hn.fin.1) f lo h.t.low.size, fun b s1 s2 q => q.join h.t.low.size, old, oldB, fun A q => q.join h.t.low.size⟩
def swapO (O : Nat → Nat) : Nat → Nat := fun k => if O k = 3 then 0 else if O k = 8 then 3 else O k
theorem swap_ne {k t : Nat} (h : O k = t) (h3 : t ≠ 3) (h8 : t ≠ 8) : swapO O k = t := by
 unfold swapO; rw [if_neg (by omega), if_neg (by omega)]; exact h
theorem Free.swap {z : Nat} {A : Option Addr} (h : Free O z w A) : Free (swapO O) z w A := fun b off e => by
 obtain ⟨h1, h2, h3⟩ := h b off e
 exact ⟨h1, h2, swap_ne h3 (by decide) (by decide)⟩
theorem BalO.swap {z : Nat} {b : MBal} {s1 s2 : Sl} (h : BalO O z w b s1 s2) : BalO (swapO O) z w b s1 s2 := ⟨h.at', h.fb.swap, h.fr.swap⟩
set_option maxRecDepth 100000 in
theorem LSM.swap {lb2 : Nat} {SL2 : Int → Int → Int} (h : LSM w wr O tr tb nr R rg S lb SL bo bw op sb sr ub ur ws cs) (hn : NowL w wr O 8 lb2 SL2) : LSM w wr (swapO O) tr tb nr R rg S lb2 SL2 bo bw op sb sr ub ur ws cs := by
 have f : Fin0 w.heap.size (swapO O) wr := ⟨fun k hk => swap_ne (h.fin.1 k hk) (by decide) (by decide), fun k hk => swap_ne (h.fin.2 k hk) (by decide) (by decide)⟩
 have l := Nat.le_refl w.heap.size
 exact ⟨h.tr.marks (fun k e => swap_ne e (by decide) (by decide)) f h.low l, h.t.marks (fun k e => swap_ne e (by decide) (by decide)) f h.low l, NowB.marks h.r (fun k e => swap_ne e (by decide) (by decide)) f h.low l,
   NowL.marks hn (fun k e => by unfold swapO; rw [if_neg (by omega), if_pos e]) f h.low l, h.bx.marks (swap_ne h.bx.tag (by decide) (by decide)), h.bw.marks (swap_ne h.bw.tag (by decide) (by decide)), h.ba.swap, h.bb.swap, h.st.marks (swap_ne h.st.tag (by decide) (by decide))⟩
end
set_option maxRecDepth 100000 in
theorem LSM.opened {w wr : World} {O : Nat → Nat} {tr tb nr rg lb bo bw ws : Nat} {R : Nat → Rt} {S SL : Int → Int → Int} {op op2 : MBal} {sb sr ub ur sb2 sr2 ub2 ur2 : Sl} {cs : List Value} (h : LSM w wr O tr tb nr R rg S lb SL bo bw op sb sr ub ur ws cs) (b2 : BalO O w.heap.size wr op2 sb2 sr2) (b3 : BalO O w.heap.size wr op2 ub2 ur2) :
   LSM w ((wr.setRow bo (balL op2 sb2 sr2).toArray).setRow bw (balL op2 ub2 ur2).toArray) O tr tb nr R rg S lb SL bo bw op2 sb2 sr2 ub2 ur2 ws cs := by
 obtain ⟨bx, st⟩ := h.bx.set h.fin (balL op2 sb2 sr2)
 obtain ⟨by', st'⟩ := (h.bw.step st (by decide)).set (h.t.step st (by decide) (by decide)).fin (balL op2 ub2 ur2)
 exact ⟨(h.tr.step st (by decide) (by decide)).step st' (by decide) (by decide), (h.t.step st (by decide) (by decide)).step st' (by decide) (by decide), (h.r.step st (by decide) (by decide)).step st' (by decide) (by decide), (h.l.step st (by decide) (by decide)).step st' (by decide) (by decide),
   bx.step st' (by decide), by', (b2.step st (by decide)).step st' (by decide), (b3.step st (by decide)).step st' (by decide), (h.st.step st (by decide)).step st' (by decide)⟩
theorem RPv.r {O : Nat → Nat} {z : Nat} {w : World} {op : MBal} {v : MPv} {s : Pss} (h : RPv O z w op v s) : PvR w op v s := ⟨h.op, h.cl.at', h.vc, h.ws, h.nw⟩
theorem two_tabs {w w2 w3 : World} {O2 O3 : Nat → Nat} {tr tb nr ws : Nat} {R : Nat → Rt} {cs : List Value} (h : NowT 116 w w2 O2 2 tr nr R) (x : Box w2 O2 0 ws 52 cs) (n : NowT 144 w2 w3 O3 1 tb nr R) (hb : Below w2.heap.size w2 w3) :
   ∃ O, NowT 116 w w3 O 1 tr nr R ∧ NowT 144 w w3 O 4 tb nr R ∧ Box w3 O 0 ws 52 cs := by
 have lo := h.low.trans (hb.mono h.low.size)
 let Oa : Nat → Nat := fun k => if k < w2.heap.size then (if O2 k = 2 then 1 else 0) else if O3 k = 1 then 4 else 0
 have f : Fin0 w.heap.size Oa w3 := by
   refine ⟨fun k hk => ?_, fun k hk => ?_⟩
   · show (if k < w2.heap.size then (if O2 k = 2 then 1 else 0) else if O3 k = 1 then 4 else 0) = 0
     rw [if_pos (Nat.lt_of_lt_of_le hk h.low.size), if_neg (by rw [h.fin.1 k hk]; decide)]
   · show (if k < w2.heap.size then (if O2 k = 2 then 1 else 0) else if O3 k = 1 then 4 else 0) = 0
     rw [if_neg (by have := hb.size; omega), if_neg (by rw [n.fin.2 k hk]; decide)]
 refine ⟨Oa, (h.below hb).marks (fun k e => ?_) f lo (Nat.le_refl _), n.marks (fun k e => ?_) f lo h.low.size, (x.below hb).marks ?_⟩
 · show (if k < w2.heap.size then (if O2 k = 2 then 1 else 0) else if O3 k = 1 then 4 else 0) = 1
   have : k < w2.heap.size := Nat.lt_of_not_le fun q => by rw [h.fin.2 k q] at e; cases e
   rw [if_pos this, if_pos e]
 · show (if k < w2.heap.size then (if O2 k = 2 then 1 else 0) else if O3 k = 1 then 4 else 0) = 4
   rw [if_neg (fun q => by rw [n.fin.1 k q] at e; cases e), if_pos e]
 · show (if ws < w2.heap.size then (if O2 ws = 2 then 1 else 0) else if O3 ws = 1 then 4 else 0) = 0
   rw [if_pos x.lt, x.tag, if_neg (by decide)]
theorem setRow_alloc_lt (w : World) (o : Obj) (g : Nat) (cs : Array Value) (hg : g < w.heap.size) : (w.alloc o).setRow g cs = (w.setRow g cs).alloc o := by
 simp only [World.setRow, World.alloc]
 congr 1
 apply Array.ext_getElem?
 intro i
 rw [Array.getElem?_modify, Array.getElem?_push, Array.getElem?_push, Array.getElem?_modify, Array.size_modify]
 by_cases h : g = i
 · subst h
   rw [if_pos rfl, if_neg (by omega), if_neg (by omega), if_pos rfl]
 · rw [if_neg h, if_neg h]
theorem two_rows (w : World) (T1 T2 : TypeId) (a b a' b' : Array Value) : ((((w.alloc (.cells a T1)).alloc (.cells b T2)).setRow w.heap.size a').setRow (w.heap.size + 1) b') = (w.alloc (.cells a' T1)).alloc (.cells b' T2) := by
 rw [setRow_alloc_lt _ _ _ _ (by simp), World.setRow_alloc_new]
 have z : (w.alloc (.cells a' T1)).heap.size = w.heap.size + 1 := by simp
 rw [← z, World.setRow_alloc_new]
structure PvF (O : Nat → Nat) (z : Nat) (w : World) (op : MBal) (v : MPv) (s : Pss) : Prop where
 op : BalO O z w op s.ob s.or
 cl : BalO O z w v.cl s.cb s.cr
 vc : At w s.vc.a v.x.q v.x.u
 vf : Free O z w s.vc.a
 ws : AtR we 5 w s.ws.a v.q v.f
 wf : Free O z w s.ws.a
 nw : At w s.nw.a v.q v.now
 nf : Free O z w s.nw.a
section
variable {w w1 : World} {O O1 O2 : Nat → Nat} {base z z2 t : Nat} {op : MBal} {v : MPv} {s : Pss}
set_option maxRecDepth 100000 in
theorem PvF.step (h : PvF O z w op v s) (st : Step base O t w O1 w1) (ht : t ≠ 0) : PvF O1 z w1 op v s :=
 ⟨h.op.step st ht, h.cl.step st ht, h.vc.free h.vf st ht, h.vf.step st, h.ws.free h.wf st ht, h.wf.step st, h.nw.free h.nf st ht, h.nf.step st⟩
theorem PvF.r (h : PvF O z w op v s) : PvR w op v s := ⟨h.op.at', h.cl.at', h.vc, h.ws, h.nw⟩
theorem pvf_of (pa : PvAt O2 z2 w op v s) (ho : BalO O z w op s.ob s.or) (jb : ∀ b s1 s2, BalO O2 z2 w b s1 s2 → BalO O z w b s1 s2) (jf : ∀ A, Free O2 z2 w A → Free O z w A) : PvF O z w op v s :=
 ⟨ho, jb _ _ _ pa.cl, pa.vc, jf _ pa.vc2, pa.ws, jf _ pa.ws2, pa.nw, jf _ pa.nw2⟩
end
theorem nowl_seen {w0 w : World} {O : Nat → Nat} {t sb n : Nat} {S : Int → Int → Int} {g : Nat → Bk} (h : NowL w0 w O t sb S) (iv : VInv S n g) : ∃ A c, w.cell? ⟨sb, 0, none⟩ = some (.slice A n c) ∧ n ≤ c ∧ c ≤ maxLen ∧ AtR ve 3 w A n g := by
 obtain ⟨v, n', g', s, iv'⟩ := h.st
 obtain ⟨rfl, e⟩ := iv'.is.uniq iv.is
 have c0 := s.hd.c0
 obtain ⟨A, c, rfl, h1, h2, _, h3⟩ := s.at
 exact ⟨A, c, c0, h1, h2, h3.ext e⟩
theorem rpv_size (i : MIn) (op : MBal) (v : MPv) (s : Pss) : (Tryz.prog.info? 75).map (·.size) = some (pvL i op v s).toArray.size := by
 rw [pv_len]; kernel_rfl
theorem ownv_at {w : World} {E : TypeId} {base n c : Nat} {A : Option Addr} {g : Nat → Bk} (o : OwnR ve 3 w E base (.slice A n c) n g) : AtR ve 3 w A n g := by
 obtain ⟨A', c', e, _, _, _, h⟩ := o.at ve_len
 injection e with e1
 subst e1
 exact h
theorem TOk.qle {S S' : Int → Int → Int} {n : Nat} {g : Nat → Bk} {p : Tq} {x : Tx} (t : TOk S n g p x S') : x.q ≤ 1000000 := by
 obtain ⟨m, h, hl, q⟩ := t.next
 have := hl.inv.le
 rcases q with ⟨_, q, _⟩ | ⟨_, q, _⟩ | ⟨_, q, _⟩ <;> omega
end Go.Proofs.YtmlafdehhbhbiaaGreat
