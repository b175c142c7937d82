/- The document's own provision, half way: what stands in memory behind the tax; rows copied behind nothing, at a drawn step. -/
import Derived.Test.YtmlafdehhbhbiaaGreatRMk
import Derived.Test.YtmlafdehhbhbiaaGreatMkFlat
import Derived.Test.YtmlafdehhbhbiaaGreatMkQ
namespace Go.Proofs.YtmlafdehhbhbiaaGreat
open Go.RowKit
theorem atr_news {w : World} {ad : Addr} {m : Nat} {g : Nat → Bk} (h : AtR be 3 w (some ad) m g) : ∀ (j : Nat) (u : Value), (rl be g m)[j]? = some u → w.cell? (ad.add j) = some u := fun j u hu => by
 have hl : j < m * 3 := by
   have := (List.getElem?_eq_some_iff.1 hu).1
   rwa [rl_length be_len g m] at this
 rcases h with h0 | ⟨b, off, e, hb, hc⟩
 · omega
 · injection e with e
   subst e
   rw [Go.WideShapes.add_plain]
   have e2 : j = j / 3 * 3 + j % 3 := by omega
   rw [e2, rl_get be_len (show j / 3 < m by omega) (show j % 3 < 3 by omega)] at hu
   have := hc (j / 3) (by omega) (j % 3) u hu
   rw [show off + j / 3 * 3 + j % 3 = off + j by omega] at this
   exact this
theorem step_app_r {P : Program} {ops : Array Oper} {o : Oper} {a : Act} {K : Act → World → Prop} {Q : Exit → Act → World → Prop} {Z : Prop} {i : TypeInfo} {T E : TypeId} {w : World}
   (hgd : o.guard = none) (x : Operand) (ho : o.op = .call { callee := .builtin .append, args := #[.const (.slice none 0 0), x], argTypes := #[T, T] })
   (ht : P.underlying T = some (.slice E)) (hi : P.info? E = some i) (hz : i.zero = some (.agg #[.int .i64 0, .int .i64 0, .int .i64 0])) (hsize : i.size = 3) (hby : i.bytes = 24)
   (m c : Nat) (A : Option Addr) (g : Nat → Bk) (hx : a.eval x = .slice A m c) (hA : AtR be 3 w A m g) (hnone : A = none → m = 0 ∧ c = 0) (hm : m ≤ 1000000)
   (h : ∀ A' c' w', OwnR be 3 w' E w.heap.size (.slice A' m c') m g → Below w.heap.size w w' → m ≤ c' ∧ c' ≤ maxLen → (A' = none → m = 0 ∧ c' = 0) → K (a.put o.dst (.slice A' m c')) w') :
   if Region.wanted o (yielded ops a.tmps) = true then Oper.wp P o a w K Q else Z := by
 have key : ∃ v' w', (Builtin.append_ #[T, T] o.type #[.slice none 0 0, .slice A m c]).run P w = .ok v' w' ∧ OwnR be 3 w' E w.heap.size v' m g ∧ Below w.heap.size w w' := by
   rcases A with _ | ad
   · obtain ⟨rfl, rfl⟩ := hnone rfl
     exact ⟨.slice none 0 0, w, run_append_owned_none (P := P) w w.heap.size T o.type E i 3 ht hi (.slice none 0 0) 0 _ (World.ownsRow_nil _ _ _ _), World.ownsRow_nil _ _ _ _, Below.refl _ _⟩
   · obtain ⟨v', w', hr, h2, h3, _, _⟩ := run_append_own_at (P := P) w w.heap.size T o.type E i _ 3 24 ht hi hz hsize hby rfl (by decide) (.slice none 0 0) 0 [] (World.ownsRow_nil _ _ _ _) ad m c (rl be g m) (rl_length be_len g m) (atr_news hA) (rl_one be_one) (by unfold maxLen; omega) (by omega) (Nat.le_refl _)
     rw [Nat.zero_add, List.nil_append] at h2
     exact ⟨v', w', hr, h2, (Below.refl _ _).grown h3 (Nat.le_refl _) (fun k hk => by simp [Value.ownBlock] at hk)⟩
 obtain ⟨v', w', hr, h2, h3⟩ := key
 obtain ⟨A', c', rfl, k1, k2, k3⟩ := h2.form
 rw [if_pos (by simp [Region.wanted, hgd])]
 unfold Oper.wp execOp
 simp only [ho, resolve, invoke, builtin, Sem.run_bind, Sem.run_pure, Result.andThen_ok, List.map_toArray, List.map_cons, List.map_nil, Act.eval]
 simp only [Act.eval] at hx
 simp only [hx, hr]
 exact h A' c' w' h2 h3 ⟨k1, k2⟩ k3
theorem MkW.step {w wr w1 : World} {O O1 : Nat → Nat} {t : Nat} {i : MIn} {op : MBal} {sb sr : Sl} (h : MkW w wr i op sb sr) (z : ∀ k, k < 4 → O (w.heap.size + k) = 6) (st : Step w.heap.size O t wr O1 w1) (f : Fin0 w.heap.size O wr) (ht : t ≠ 0) (h6 : t ≠ 6) : MkW w w1 i op sb sr := by
 have l := h.lt
 have kb := st.below f ht h.lo.size
 have q : ∀ k, k < 4 → w1.heap[w.heap.size + k]? = wr.heap[w.heap.size + k]? := fun k hk => st.kept.block _ (by omega) (by rw [z k hk]; exact fun e => h6 e.symm)
 exact ⟨h.lo.trans kb, (q 0 (by omega)).trans h.b6, (q 1 (by omega)).trans h.b7, (q 2 (by omega)).trans h.b10, (q 3 (by omega)).trans h.b13⟩
structure MkS (w wr : World) (O : Nat → Nat) (i : MIn) (op : MBal) (sb sr : Sl) (lb' : Nat) (SL' : Int → Int → Int) (bx : Nat) (x : Tx) (U : Option Addr) (cu : Nat) (A4 : Option Addr) (q : Nat) (f : Nat → Wy) (A3 : Option Addr) (m : Nat) (rs : Nat → Int) : Prop where
 own : MkW w wr i op sb sr
 z : ∀ k, k < 4 → O (w.heap.size + k) = 6
 L : NowL w wr O 1 lb' SL'
 X : Box wr O 0 bx 71 (txl x.inc x.exp x.used x.new x.txb x.tax (.slice U x.q cu))
 us : AtO w.heap.size O wr U x.q x.u
 rw : AtR we 5 wr A4 q f
 rwF : Free O w.heap.size wr A4
 rt : At wr A3 m rs
 rtF : Free O w.heap.size wr A3
section
variable {w wr w1 : World} {O O1 : Nat → Nat} {t : Nat} {i : MIn} {op : MBal} {sb sr : Sl} {lb' : Nat} {SL' : Int → Int → Int} {bx : Nat} {x : Tx} {U : Option Addr} {cu : Nat} {A4 : Option Addr} {q : Nat} {f : Nat → Wy} {A3 : Option Addr} {m : Nat} {rs : Nat → Int}
set_option maxRecDepth 100000 in
theorem MkS.step (h : MkS w wr O i op sb sr lb' SL' bx x U cu A4 q f A3 m rs) (st : Step w.heap.size O t wr O1 w1) (h0 : t ≠ 0) (h1 : t ≠ 1) (h6 : t ≠ 6 := by decide) : MkS w w1 O1 i op sb sr lb' SL' bx x U cu A4 q f A3 m rs := by
 have l := h.own.lt
 exact ⟨h.own.step h.z st h.L.fin h0 h6, fun k hk => by rw [st.ext _ (by omega)]; exact h.z k hk, h.L.step st (fun e => h1 e.symm) h0, h.X.step st (fun e => h0 e.symm), h.us.step st h0, h.rw.free h.rwF st h0, h.rwF.step st, h.rt.free h.rtF st h0, h.rtF.step st⟩
end
structure LiT (w : World) (O : Nat → Nat) (base t : Nat) (v : Value) (n : Nat) (g : Nat → Int) : Prop where
 own : Own w 3 base v n g
 tag : ∀ b, v.ownBlock = some b → O b = t
section
variable {w wr w1 : World} {O O1 : Nat → Nat} {base t t' n : Nat} {v : Value} {g : Nat → Int}
theorem LiT.nil (w : World) (O : Nat → Nat) (base t : Nat) (g : Nat → Int) : LiT w O base t (.slice none 0 0) 0 g := ⟨Own.nil _ _ _ _, fun b h => by simp [Value.ownBlock] at h⟩
theorem LiT.step (h : LiT w O base t v n g) (st : Step base O t' w O1 w1) (hne : t ≠ t') : LiT w1 O1 base t v n g := by
 refine ⟨own_blocks h.own fun b hb => st.kept.block b (World.ownsRow.lt h.own b hb).2 (by rw [h.tag b hb]; exact hne), fun b hb => ?_⟩
 rw [st.ext b (World.ownsRow.lt h.own b hb).2]; exact h.tag b hb
theorem LiT.below (h : LiT w O base t v n g) (k : Below w.heap.size w w1) : LiT w1 O base t v n g := ⟨h.own.below k, h.tag⟩
theorem LiT.pushed {z : Int} {b c H : Nat} (h : LiT w O base t v n g) (f : Fin0 base O w) (o : Own w1 3 base (.slice (some ⟨b, 0, none⟩) (n + 1) c) (n + 1) (fun j => if j = n then z else g j)) (hg : w.grownBy w1 v.ownBlock) (hat : v.ownBlock = some b ∨ b = H) (hH : w.heap.size ≤ H) :
   LiT w1 (mark O t b) base t (.slice (some ⟨b, 0, none⟩) (n + 1) c) (n + 1) (fun j => if j = n then z else g j) ∧ Step base O t w (mark O t b) w1 := by
 have hl := World.ownsRow.lt o b rfl
 refine ⟨⟨o, fun b' hb => ?_⟩, Step.grown f hg h.tag hat hH hl.1 hl.2⟩
 have : b = b' := by simpa [Value.ownBlock] using hb
 subst this
 exact mark_at _ _ _
end
section
variable {w w1 : World} {O : Nat → Nat} {base b t n k : Nat} {A : Option Addr} {α : Type} {enc : α → List Value} {g : Nat → α}
theorem Step.fresh (f : Fin0 base O w) (kb : Below w.heap.size w w1) (hb : base ≤ w.heap.size) (h1 : w.heap.size ≤ b) (h2 : b < w1.heap.size) (t t2 : Nat) : Step base O t2 w (mark O t b) w1 :=
 ⟨⟨kb.os, kb.tape, kb.output, kb.size, fun i hi _ => kb.block i hi⟩, fun i hi => mark_ne _ _ (by omega), fun i hi => (mark_ne _ _ (by omega)).trans (f.1 i hi), fun i hi => (mark_ne _ _ (by omega)).trans (f.2 i (by have := kb.size; omega))⟩
theorem AtR.off (h : AtR enc k w A n g) (hne : ∀ x off, A = Option.some ⟨x, off, none⟩ → x ≠ b) (P : Array Value) : AtR enc k (w.setRow b P) A n g := by
 rcases h with h | ⟨x, off, e, hb, hc⟩
 · exact .inl h
 · refine .inr ⟨x, off, e, by rw [setRow_size]; exact hb, fun j hj i u hu => ?_⟩
   rw [← hc j hj i u hu]
   exact World.cell?_of_block (a := ⟨x, off + j * k + i, .none⟩) (setRow_other _ _ _ _ (hne x off e))
end
theorem rbal_sz (b : MBal) (sb sr : Sl) : (Tryz.prog.info? 63).map (·.size) = some (balL b sb sr).toArray.size := by
 rw [show (balL b sb sr).toArray.size = 8 from rfl]; kernel_rfl
theorem build_b {o : Oper} {x0 x1 x2 x3 x4 : Operand} (ho : o.op = .build 63 #[(0, x0), (1, x1), (2, x2), (3, x3), (4, x4)]) (ev : Operand → Value) {p nx lf : Int} {A A' : Option Addr} {n c c' : Nat} {g : Nat → Bk} {r : Nat → Int} (h0 : ev x0 = .int .i64 p) (h1 : ev x1 = .slice A n c) (h2 : ev x2 = .slice A' n c') (h3 : ev x3 = .int .i64 nx) (h4 : ev x4 = .int .i64 lf) (w : World) :
   (execOp ev o).run Tryz.prog w = .ok (.value (.agg (balL ⟨p, n, g, r, nx, lf, 0, 0, 0⟩ ⟨A, c⟩ ⟨A', c'⟩).toArray)) w := by
 unfold execOp
 simp only [ho]
 simp only [List.map_toArray, List.map_cons, List.map_nil, h0, h1, h2, h3, h4]
 kernel_rfl
structure MkV (w wr : World) (O : Nat → Nat) (i : MIn) (op : MBal) (sb sr : Sl) (lb' : Nat) (SL' : Int → Int → Int) (bx : Nat) (x : Tx) (U : Option Addr) (cu : Nat) (A4 : Option Addr) (q : Nat) (f : Nat → Wy) (A3 : Option Addr) (c3 m : Nat) (rs : Nat → Int) (g : Nat → Bk) (A8 : Option Addr) (c8 bp bc : Nat) (Q : List Value) (B : MBal) : Prop where
 ms : MkS w wr O i op sb sr lb' SL' bx x U cu A4 q f A3 m rs
 p : Box wr O 2 bp 75 Q
 c : Box wr O 3 bc 63 (balL B ⟨A8, c8⟩ ⟨A3, c3⟩)
 a : AtR be 3 wr A8 m g
 fr : Free O w.heap.size wr A8
section
variable {w wr w1 : World} {O O1 : Nat → Nat} {t : Nat} {i : MIn} {op : MBal} {sb sr : Sl} {lb' : Nat} {SL' : Int → Int → Int} {bx : Nat} {x : Tx} {U : Option Addr} {cu : Nat} {A4 : Option Addr} {q : Nat} {f : Nat → Wy} {A3 : Option Addr} {c3 m : Nat} {rs : Nat → Int} {g : Nat → Bk} {A8 : Option Addr} {c8 bp bc : Nat} {Q Q' : List Value} {B B' : MBal}
set_option maxRecDepth 100000 in
theorem MkV.step (h : MkV w wr O i op sb sr lb' SL' bx x U cu A4 q f A3 c3 m rs g A8 c8 bp bc Q B) (st : Step w.heap.size O t wr O1 w1) (ht : 4 ≤ t) (h6 : t ≠ 6 := by decide) : MkV w w1 O1 i op sb sr lb' SL' bx x U cu A4 q f A3 c3 m rs g A8 c8 bp bc Q B :=
 ⟨h.ms.step st (by omega) (by omega) h6, h.p.step st (by omega), h.c.step st (by omega), h.a.free h.fr st (by omega), h.fr.step st⟩
set_option maxRecDepth 100000 in
theorem MkV.below (h : MkV w wr O i op sb sr lb' SL' bx x U cu A4 q f A3 c3 m rs g A8 c8 bp bc Q B) (k : Below wr.heap.size wr w1) : MkV w w1 O i op sb sr lb' SL' bx x U cu A4 q f A3 c3 m rs g A8 c8 bp bc Q B :=
 h.step (Step.of_below (t := 9) h.ms.L.fin k) (by decide)
set_option maxRecDepth 100000 in
theorem MkV.setC (h : MkV w wr O i op sb sr lb' SL' bx x U cu A4 q f A3 c3 m rs g A8 c8 bp bc Q B) (B' : MBal) : MkV w (wr.setRow bc (balL B' ⟨A8, c8⟩ ⟨A3, c3⟩).toArray) O i op sb sr lb' SL' bx x U cu A4 q f A3 c3 m rs g A8 c8 bp bc Q B' ∧ Step w.heap.size O 3 wr O (wr.setRow bc (balL B' ⟨A8, c8⟩ ⟨A3, c3⟩).toArray) := by
 obtain ⟨c, st⟩ := h.c.set h.ms.L.fin (balL B' ⟨A8, c8⟩ ⟨A3, c3⟩)
 exact ⟨⟨h.ms.step st (by decide) (by decide), h.p.step st (by decide), c, h.a.free h.fr st (by decide), h.fr.step st⟩, st⟩
set_option maxRecDepth 100000 in
theorem MkV.setP (h : MkV w wr O i op sb sr lb' SL' bx x U cu A4 q f A3 c3 m rs g A8 c8 bp bc Q B) (Q' : List Value) : MkV w (wr.setRow bp Q'.toArray) O i op sb sr lb' SL' bx x U cu A4 q f A3 c3 m rs g A8 c8 bp bc Q' B ∧ Step w.heap.size O 2 wr O (wr.setRow bp Q'.toArray) := by
 obtain ⟨p, st⟩ := h.p.set h.ms.L.fin Q'
 exact ⟨⟨h.ms.step st (by decide) (by decide), p, h.c.step st (by decide), h.a.free h.fr st (by decide), h.fr.step st⟩, st⟩
theorem MkV.lo (h : MkV w wr O i op sb sr lb' SL' bx x U cu A4 q f A3 c3 m rs g A8 c8 bp bc Q B) : Below w.heap.size w wr := h.ms.own.lo
end
section
variable {R : Nat → Rt} {nr : Nat} {i : MIn} {op : MBal} {S0 S SL SL' : Int → Int → Int} {m nl : Nat} {g gl : Nat → Bk} {v : MPv} {rs : Nat → Int}
theorem mk_temp (iv : TInv nr R) (b : BInv S m g) (H : MkAt R nr i op S0 S m g SL nl gl v SL') (hrs : ∀ k, k < m → v.cl.r k = rs k) : TArgs g m rs m ∧ v.cl.tmp = -tot (partU g rs) m := by
 refine ⟨⟨rfl, fun k hk => ⟨b.is.mon b.mon hk, by rw [← hrs k hk]; exact known_rt iv (H.rs k hk)⟩⟩, ?_⟩
 have e : tot (partU g v.cl.r) m = tot (partU g rs) m := tot_ext m fun k hk => by unfold partU; rw [hrs k hk]
 rw [H.tmp, e]
theorem mk_temp_yes (iv : TInv nr R) (b : BInv S m g) (H : MkAt R nr i op S0 S m g SL nl gl v SL') (hrs : ∀ k, k < m → v.cl.r k = rs k) (hm : Mon v.cl.tmp) : TempIs g m rs m v.cl.tmp 0 := by
 obtain ⟨h1, h2⟩ := mk_temp iv b H hrs
 exact .inr (.inr ⟨h1, by rw [← h2]; exact hm, h2, rfl⟩)
theorem mk_temp_no (iv : TInv nr R) (b : BInv S m g) (H : MkAt R nr i op S0 S m g SL nl gl v SL') (hrs : ∀ k, k < m → v.cl.r k = rs k) (hm : ¬ Mon v.cl.tmp) : TempIs g m rs m 0 6 := by
 obtain ⟨h1, h2⟩ := mk_temp iv b H hrs
 exact .inr (.inl ⟨h1, by rw [← h2]; exact hm, rfl, rfl⟩)
theorem mk_loss (iv : TInv nr R) (vl : VInv SL nl gl) (H : MkAt R nr i op S0 S m g SL nl gl v SL') : ((0 ≤ v.cl.left ∧ v.cl.left ≤ 100000000000) ∧ RtOk v.cl.nx) ∧ (0 ≤ v.cl.ls ∧ v.cl.ls ≤ 100000000000) ∧ ShareIs v.cl.left v.cl.nx v.cl.ls 0 ∧ ShareIs v.cl.ls i.jd (rof v.cl.ls i.jd) 0 ∧ (0 ≤ rof v.cl.ls i.jd ∧ rof v.cl.ls i.jd ≤ 100000000000) := by
 obtain ⟨nl', gl', vl', e⟩ := H.tax.left vl
 have hl : 0 ≤ v.cl.left ∧ v.cl.left ≤ 100000000000 := by
   rw [H.left, ← e]
   exact ⟨tot_nonneg _ fun j hj => vl'.pos j hj, vl'.all⟩
 have hn := known_rt iv H.nx
 have h1 : ShareIs v.cl.left v.cl.nx v.cl.ls 0 := .inr ⟨⟨hl, hn⟩, H.ls, rfl⟩
 have s1 := share_low h1
 have h2 : ShareIs v.cl.ls i.jd (rof v.cl.ls i.jd) 0 := .inr ⟨⟨s1, H.arg.2.1⟩, rfl, rfl⟩
 exact ⟨⟨hl, hn⟩, s1, h1, h2, share_low h2⟩
end
structure MkR (w wr : World) (O : Nat → Nat) (i : MIn) (op : MBal) (sb sr : Sl) (lb' : Nat) (SL' : Int → Int → Int) (bx : Nat) (x : Tx) (U : Option Addr) (cu : Nat) (A4 : Option Addr) (q : Nat) (f : Nat → Wy) (A3 : Option Addr) (c3 m : Nat) (rs : Nat → Int) (g : Nat → Bk) (A8 : Option Addr) (c8 bp bc : Nat) (Q : List Value) (B : MBal) (nv : Value) (n : Nat) (ng : Nat → Int) (wv : Value) (n' : Nat) (wg : Nat → Int) (rb : Nat) (l : List Value) : Prop where
 mv : MkV w wr O i op sb sr lb' SL' bx x U cu A4 q f A3 c3 m rs g A8 c8 bp bc Q B
 ln : LiT wr O w.heap.size 4 nv n ng
 lw : LiT wr O w.heap.size 5 wv n' wg
 rb : Box wr O 0 rb 126 l
section
variable {w wr w1 : World} {O O1 : Nat → Nat} {t : Nat} {i : MIn} {op : MBal} {sb sr : Sl} {lb' : Nat} {SL' : Int → Int → Int} {bx : Nat} {x : Tx} {U : Option Addr} {cu : Nat} {A4 : Option Addr} {q : Nat} {f : Nat → Wy} {A3 : Option Addr} {c3 m : Nat} {rs : Nat → Int} {g : Nat → Bk} {A8 : Option Addr} {c8 bp bc : Nat} {Q Q' : List Value} {B B' : MBal} {nv wv : Value} {n n' rb : Nat} {ng wg : Nat → Int} {l : List Value}
set_option maxRecDepth 100000 in
theorem MkR.below (h : MkR w wr O i op sb sr lb' SL' bx x U cu A4 q f A3 c3 m rs g A8 c8 bp bc Q B nv n ng wv n' wg rb l) (k : Below wr.heap.size wr w1) : MkR w w1 O i op sb sr lb' SL' bx x U cu A4 q f A3 c3 m rs g A8 c8 bp bc Q B nv n ng wv n' wg rb l := ⟨h.mv.below k, h.ln.below k, h.lw.below k, h.rb.below k⟩
set_option maxRecDepth 100000 in
theorem MkR.now {z : Int} {b c X : Nat} (h : MkR w wr O i op sb sr lb' SL' bx x U cu A4 q f A3 c3 m rs g A8 c8 bp bc Q B nv n ng wv n' wg rb l) (o : Own w1 3 w.heap.size (.slice (some ⟨b, 0, none⟩) (n + 1) c) (n + 1) (fun j => if j = n then z else ng j)) (hg : wr.grownBy w1 nv.ownBlock) (hat : nv.ownBlock = some b ∨ b = X) (hH : wr.heap.size ≤ X) :
   MkR w w1 (mark O 4 b) i op sb sr lb' SL' bx x U cu A4 q f A3 c3 m rs g A8 c8 bp bc Q B (.slice (some ⟨b, 0, none⟩) (n + 1) c) (n + 1) (fun j => if j = n then z else ng j) wv n' wg rb l := by
 obtain ⟨k, st⟩ := h.ln.pushed h.mv.ms.L.fin o hg hat hH
 exact ⟨h.mv.step st (by decide), k, h.lw.step st (by decide), h.rb.step st (by decide)⟩
set_option maxRecDepth 100000 in
theorem MkR.was {z : Int} {b c X : Nat} (h : MkR w wr O i op sb sr lb' SL' bx x U cu A4 q f A3 c3 m rs g A8 c8 bp bc Q B nv n ng wv n' wg rb l) (o : Own w1 3 w.heap.size (.slice (some ⟨b, 0, none⟩) (n' + 1) c) (n' + 1) (fun j => if j = n' then z else wg j)) (hg : wr.grownBy w1 wv.ownBlock) (hat : wv.ownBlock = some b ∨ b = X) (hH : wr.heap.size ≤ X) :
   MkR w w1 (mark O 5 b) i op sb sr lb' SL' bx x U cu A4 q f A3 c3 m rs g A8 c8 bp bc Q B nv n ng (.slice (some ⟨b, 0, none⟩) (n' + 1) c) (n' + 1) (fun j => if j = n' then z else wg j) rb l := by
 obtain ⟨k, st⟩ := h.lw.pushed h.mv.ms.L.fin o hg hat hH
 exact ⟨h.mv.step st (by decide), h.ln.step st (by decide), k, h.rb.step st (by decide)⟩
set_option maxRecDepth 100000 in
theorem MkR.setP (h : MkR w wr O i op sb sr lb' SL' bx x U cu A4 q f A3 c3 m rs g A8 c8 bp bc Q B nv n ng wv n' wg rb l) (Q' : List Value) : MkR w (wr.setRow bp Q'.toArray) O i op sb sr lb' SL' bx x U cu A4 q f A3 c3 m rs g A8 c8 bp bc Q' B nv n ng wv n' wg rb l := by
 obtain ⟨k, st⟩ := h.mv.setP Q'
 exact ⟨k, h.ln.step st (by decide), h.lw.step st (by decide), h.rb.step st (by decide)⟩
theorem LiT.ext {gg : Nat → Int} {v : Value} (h : LiT wr O n t v n' gg) {g2 : Nat → Int} (e : ∀ j, j < n' → gg j = g2 j) : LiT wr O n t v n' g2 := ⟨h.own.ext e, h.tag⟩
end
section
variable {R : Nat → Rt} {nr : Nat} {i : MIn} {op : MBal} {S0 S SL SL' : Int → Int → Int} {m nl q : Nat} {g gl : Nat → Bk} {f : Nat → Wy} {v : MPv}
theorem mk_rm (iv : TInv nr R) (ok : op.Ok S0) (b : BInv S m g) (H : MkAt R nr i op S0 S m g SL nl gl v SL') (hf : FIs S0 S q f) : ∃ mm rr ee, RmIs q f q v.was q v.now mm rr ee ∧ (((Mon v.tm ∧ Mon v.tr) ∧ mm = v.tm ∧ rr = v.tr ∧ ee = 0) ∨ (¬ (Mon v.tm ∧ Mon v.tr) ∧ mm = 0 ∧ rr = 0 ∧ ee = 6)) := by
 obtain ⟨hq, he⟩ := hf.uniq H.way
 have e1 : v.tm = tot (mvU f v.now) q := by
   rw [H.tm, ← hq]
   exact tot_ext q fun j hj => by unfold mvU; rw [he j hj]
 have e2 : v.tr = tot (rtU f v.was v.now) q := by
   rw [H.tr, ← hq]
   exact tot_ext q fun j hj => by unfold rtU; rw [he j hj]
 have ha : RArgs q f q v.was q v.now := ⟨rfl, rfl, fun j hj => by
   have hn := H.now j (by rw [← hq]; exact hj)
   have hw := H.was j (by rw [← hq]; exact hj)
   refine ⟨⟨hw.rt ok.rt (known_rt iv hn), known_rt iv hn⟩, ?_, ?_⟩
   · rw [hf.op j hj]; exact ok.iv.mon _ _
   · rw [hf.cl j hj]; exact b.mon _ _⟩
 by_cases hm : Mon v.tm ∧ Mon v.tr
 · exact ⟨v.tm, v.tr, 0, .inr (.inr ⟨ha, by rw [← e1, ← e2]; exact hm, e1, e2, rfl⟩), .inl ⟨hm, rfl, rfl, rfl⟩⟩
 · exact ⟨0, 0, 6, .inr (.inl ⟨ha, by rw [← e1, ← e2]; exact hm, rfl, rfl, rfl⟩), .inr ⟨hm, rfl, rfl, rfl⟩⟩
end
theorem mk_tax {R : Nat → Rt} {nr : Nat} {i : MIn} {op : MBal} {S0 S SL SL' : Int → Int → Int} {m nl : Nat} {g gl : Nat → Bk} {v : MPv} (iv : TInv nr R) (vl : VInv SL nl gl) (H : MkAt R nr i op S0 S m g SL nl gl v SL') : 0 ≤ v.x.tax ∧ v.x.tax ≤ 100000000000 := by
 obtain ⟨hm, _, hu0, hu1, _, _, htx, _⟩ := H.tax.bd vl
 rw [H.tax.tax]
 unfold Mon at hm
 exact share_bd (by omega) (known_rt iv H.rate)
end Go.Proofs.YtmlafdehhbhbiaaGreat
