/- Law 19's stories: what lives on from close to close. -/
import Derived.Test.YtmlafdehhbhbiaaGreatBox
import Derived.Test.YtmlafdehhbhbiaaGreatBof
import Derived.Test.YtmlafdehhbhbiaaGreatM12
import Derived.Test.YtmlafdehhbhbiaaGreatStory
import Derived.Test.YtmlafdehhbhbiaaGreatMkFlat
import Derived.Test.YtmlafdehhbhbiaaGreatMk
import Derived.Test.YtmlafdehhbhbiaaGreatLaw19a
import Derived.Deep.LoopGhost
import Derived.Deep.DeepCutAuto
import Derived.BigQuiet
import Derived.Deep.QuietTactic
namespace Go.Proofs.YtmlafdehhbhbiaaGreat
open Go.RowKit
structure LS (w wr : World) (O : Nat → Nat) (tb nr : Nat) (R : Nat → Rt) (rg : Nat) (S : Int → Int → Int) (lb : Nat) (SL : Int → Int → Int) (bo : Nat) (op : MBal) (sb sr : Sl) (ws : Nat) (cs : List Value) : Prop where
 t : NowT 144 w wr O 1 tb nr R
 r : NowB w wr O 2 rg S
 l : NowV w wr O 3 lb SL
 bx : Box wr O 5 bo 35 (balL op sb sr)
 ba : BalO O w.heap.size wr op sb sr
 st : Box wr O 0 ws 52 cs
section
variable {w wr w1 : World} {O O1 : Nat → Nat} {tb nr rg lb bo ws : Nat} {R : Nat → Rt} {S S1 SL : Int → Int → Int} {op : MBal} {sb sr : Sl} {cs : List Value}
set_option maxRecDepth 100000 in
theorem LS.below (h : LS w wr O tb nr R rg S lb SL bo op sb sr ws cs) (k : Below wr.heap.size wr w1) : LS w w1 O tb nr R rg S lb SL bo op sb sr ws cs :=
 ⟨h.t.below k, h.r.below k, h.l.below k, h.bx.below k, h.ba.below k, h.st.below k⟩
set_option maxRecDepth 100000 in
theorem LS.reg (h : LS w wr O tb nr R rg S lb SL bo op sb sr ws cs) (k : Step w.heap.size O 2 wr O1 w1) (n : NowB w w1 O1 2 rg S1) : LS w w1 O1 tb nr R rg S1 lb SL bo op sb sr ws cs :=
 ⟨h.t.step k (by decide) (by decide), n, h.l.step k (by decide) (by decide), h.bx.step k (by decide), h.ba.step k (by decide), h.st.step k (by decide)⟩
set_option maxRecDepth 100000 in
theorem LS.other (h : LS w wr O tb nr R rg S lb SL bo op sb sr ws cs) (k : Step w.heap.size O 6 wr O1 w1) : LS w w1 O1 tb nr R rg S lb SL bo op sb sr ws cs :=
 ⟨h.t.step k (by decide) (by decide), h.r.step k (by decide) (by decide), h.l.step k (by decide) (by decide), h.bx.step k (by decide), h.ba.step k (by decide), h.st.step k (by decide)⟩
set_option maxRecDepth 100000 in
theorem LS.join {v : World} {O2 : Nat → Nat} {lb2 : Nat} {SL2 : Int → Int → Int} (h : LS w v O tb nr R rg S lb SL bo op sb sr ws cs) (hb : Below v.heap.size v wr) (hn : NowV v wr O2 1 lb2 SL2) :
   ∃ O4, LS w wr O4 tb nr R rg S lb2 SL2 bo op sb sr ws cs ∧ (∀ b s1 s2, BalO O2 v.heap.size wr b s1 s2 → BalO O4 w.heap.size wr b s1 s2) ∧ (∀ k, k < v.heap.size → O4 k = O k) ∧ ∀ A, Free O2 v.heap.size wr A → Free O4 w.heap.size wr A := by
 have lo := h.t.low.trans (hb.mono h.t.low.size)
 have f := join_fin (t := 3) h.t.fin h.t.low.size hn.fin hb.size
 have old : ∀ k, k < v.heap.size → joinO O O2 v.heap.size 3 k = O k := fun k hk => if_pos hk
 refine ⟨joinO O O2 v.heap.size 3, ⟨(h.t.below hb).marks (join_old h.t.fin.2 (by decide)) f lo (Nat.le_refl _), NowB.marks (h.r.below hb) (join_old h.t.fin.2 (by decide)) f lo (Nat.le_refl _), NowL.marks hn (join_new hn.fin.1) f lo h.t.low.size, (h.bx.below hb).marks (by rw [old _ h.bx.lt]; exact h.bx.tag), ?_, (h.st.below hb).marks (by rw [old _ h.st.lt]; exact h.st.tag)⟩, fun b s1 s2 q => q.join h.t.low.size, old, fun A q => q.join h.t.low.size⟩
 exact ⟨h.ba.at'.below hb, (h.ba.fb.below hb).old fun b off e => (h.ba.fb b off e).2.1, (h.ba.fr.below hb).old fun b off e => (h.ba.fr b off e).2.1⟩
theorem LS.low (h : LS w wr O tb nr R rg S lb SL bo op sb sr ws cs) : Below w.heap.size w wr := h.t.low
theorem LS.fin (h : LS w wr O tb nr R rg S lb SL bo op sb sr ws cs) : Fin0 w.heap.size O wr := h.t.fin
end
set_option maxRecDepth 100000 in
theorem LS.opened {w wr : World} {O : Nat → Nat} {tb nr rg lb bo ws : Nat} {R : Nat → Rt} {S SL : Int → Int → Int} {op op2 : MBal} {sb sr sb2 sr2 : Sl} {cs : List Value} (h : LS w wr O tb nr R rg S lb SL bo op sb sr ws cs) (b2 : BalO O w.heap.size wr op2 sb2 sr2) :
   LS w (wr.setRow bo (balL op2 sb2 sr2).toArray) O tb nr R rg S lb SL bo op2 sb2 sr2 ws cs := by
 obtain ⟨bx, st⟩ := h.bx.set h.fin (balL op2 sb2 sr2)
 exact ⟨h.t.step st (by decide) (by decide), h.r.step st (by decide) (by decide), h.l.step st (by decide) (by decide), bx, b2.step st (by decide), h.st.step st (by decide)⟩
theorem pv_open (i : MIn) (op : MBal) (v : MPv) (s : Pss) (j : Nat) (u : Value) (h : (balL op s.ob s.or)[j]? = some u) : (pvL i op v s)[9 + j]? = some u := by
 have hj : j < 8 := (List.getElem?_eq_some_iff.1 h).1
 rcases (show j = 0 ∨ j = 1 ∨ j = 2 ∨ j = 3 ∨ j = 4 ∨ j = 5 ∨ j = 6 ∨ j = 7 by omega) with rfl | rfl | rfl | rfl | rfl | rfl | rfl | rfl <;> exact h
theorem pv_close (i : MIn) (op : MBal) (v : MPv) (s : Pss) (j : Nat) (u : Value) (h : (balL v.cl s.cb s.cr)[j]? = some u) : (pvL i op v s)[17 + j]? = some u := by
 have hj : j < 8 := (List.getElem?_eq_some_iff.1 h).1
 rcases (show j = 0 ∨ j = 1 ∨ j = 2 ∨ j = 3 ∨ j = 4 ∨ j = 5 ∨ j = 6 ∨ j = 7 by omega) with rfl | rfl | rfl | rfl | rfl | rfl | rfl | rfl <;> exact h
set_option maxRecDepth 100000 in
theorem nowb_seen {w0 w : World} {O : Nat → Nat} {t sb n : Nat} {S : Int → Int → Int} {g : Nat → Bk} (h : NowB w0 w O t sb S) (iv : BInv S n g) : ∃ A c, w.cell? ⟨sb, 0, none⟩ = some (.slice A n c) ∧ n ≤ c ∧ c ≤ maxLen ∧ AtR be 3 w A n g := by
 obtain ⟨v, n', g', s, iv'⟩ := h.st
 obtain ⟨rfl, e⟩ := iv'.is.uniq iv.is
 have c0 := s.hd.c0
 obtain ⟨A, c, rfl, h1, h2, _, h3⟩ := s.at
 exact ⟨A, c, c0, h1, h2, h3.ext e⟩
theorem join_more {w wm w3 : World} {O O' : Nat → Nat} {E : TypeId} {t1 t2 t4 tb rb lb n : Nat} {R : Nat → Rt} {S SL : Int → Int → Int} (ht : NowT E w wm O t1 tb n R) (hp : NowB w wm O t2 rb S) (hb : Below wm.heap.size wm w3) (hn : NowV wm w3 O' 1 lb SL) (h1 : t1 ≠ 0) (h2 : t2 ≠ 0) :
   ∃ O4, NowT E w w3 O4 t1 tb n R ∧ NowB w w3 O4 t2 rb S ∧ NowV w w3 O4 t4 lb SL ∧ ∀ k, k < wm.heap.size → O4 k = O k := by
 have lo := ht.low.trans (hb.mono ht.low.size)
 have f := join_fin (t := t4) ht.fin ht.low.size hn.fin hb.size
 exact ⟨joinO O O' wm.heap.size t4, (ht.below hb).marks (join_old ht.fin.2 h1) f lo (Nat.le_refl _), NowB.marks (hp.below hb) (join_old ht.fin.2 h2) f lo (Nat.le_refl _), NowL.marks hn (join_new hn.fin.1) f lo ht.low.size, fun k hk => if_pos hk⟩
theorem three_set {w : World} {g : Nat} {i : MIn} {T : TypeId} (h : w.heap[g]? = some (.cells (inL i).toArray T (0, 0))) (j : ByteArray) (p l : Int) :
   ((w.setCell ⟨g, 0, none⟩ (.string j)).setCell ⟨g, 1, none⟩ (.int .i64 p)).setCell ⟨g, 6, none⟩ (.int .i64 l) = w.setRow g (inL ⟨j, p, i.bk, i.pm, i.jd, i.cp, l, i.tu⟩).toArray := by
 rw [setCell_eq_setRow w g 0 _ _ _ (.string j) h, setCell_eq_setRow _ g 1 _ _ _ (.int .i64 p) (setRow_heap _ _ _ _ _ _ h), setRow_setRow]
 rw [setCell_eq_setRow _ g 6 _ _ _ (.int .i64 l) (setRow_heap _ _ _ _ _ _ h), setRow_setRow]
 rfl
abbrev zl41 : List Value := [.string ⟨#[]⟩, .int .i64 0, .int .i64 0, .int .i64 0, .int .i64 0, .int .i64 0, .int .i64 0, .int .i64 0, .int .i64 0, .int .i64 0, .slice none 0 0, .slice none 0 0, .int .i64 0, .int .i64 0, .int .i64 0, .int .i64 0, .int .i64 0, .int .i64 0, .slice none 0 0, .slice none 0 0, .int .i64 0, .int .i64 0, .int .i64 0, .int .i64 0, .int .i64 0, .int .i64 0, .int .i64 0, .int .i64 0, .int .i64 0, .int .i64 0, .int .i64 0, .slice none 0 0, .slice none 0 0, .slice none 0 0, .int .i64 0, .int .i64 0, .int .i64 0, .int .i64 0, .int .i64 0, .int .i64 0, .int .i64 0]
def Closed (w wb : World) (tb nr : Nat) (R : Nat → Rt) (rg : Nat) (i : MIn) (op : MBal) (S0 S : Int → Int → Int) (m : Nat) (g : Nat → Bk) (SL : Int → Int → Int) (nl : Nat) (gl : Nat → Bk) (bo : Nat) (sb sr : Sl) (ws : Nat) (cs : List Value) (sp sl se : Value) (wx : World) : Prop :=
 ∃ bp, sp = ptr bp ∧ Below wb.heap.size wb wx ∧ ((∃ e, e ≠ 0 ∧ sl = .pointer none ∧ se = .int .i64 e) ∨
   ∃ v SL' lb' O4 ss, sl = ptr lb' ∧ se = .int .i64 0 ∧ MkAt R nr i op S0 S m g SL nl gl v SL' ∧ Fit i op v ∧ LS w wx O4 tb nr R rg S lb' SL' bo op sb sr ws cs ∧ BalO O4 w.heap.size wx v.cl ss.cb ss.cr ∧
     (AtR we 5 wx ss.ws.a v.q v.f ∧ ss.ws.Fits v.q ∧ Free O4 w.heap.size wx ss.ws.a) ∧ ss.nw.Fits v.q ∧ ss.vc.Fits v.x.q ∧ Box wx O4 6 bp 42 (pvL i op v ss))
theorem Fin0.wide {base base2 : Nat} {O : Nat → Nat} {w : World} (f : Fin0 base O w) (h : base2 ≤ base) : Fin0 base2 O w := ⟨fun k hk => f.1 k (by omega), f.2⟩
abbrev cs19 (a0 : Option Addr) (n0 c0 : Nat) (a1 : Option Addr) (n1 c1 : Nat) (a2 : Option Addr) (n2 c2 : Nat) : List Value := [.slice a0 n0 c0, .slice a1 n1 c1, .slice a2 n2 c2]
end Go.Proofs.YtmlafdehhbhbiaaGreat
