/- A provision under way, as cells; blocks of which all cells are known; numbers that are bounded. -/
import Derived.Test.YtmlafdehhbhbiaaMkVal
import Derived.Test.YtmlafdehhbhbiaaM2
import Derived.WalkKit
import Derived.WalkSpells
import Derived.WalkLawsBesides
import Derived.Lib.Hide
namespace Go.Proofs.Ytmlafdehhbhbiaa
open Go.RowKit
theorem in_one (i : MIn) : (inL i).toArray.all (·.oneCell') = true := one_all fun u hu => by
  unfold inL at hu
  simp only [List.mem_cons, List.not_mem_nil, or_false] at hu
  rcases hu with rfl | rfl | rfl | rfl | rfl | rfl | rfl | rfl <;> rfl
theorem row_range {w : World} {g : Nat} {l : List Value} {t : TypeId} (h : w.heap[g]? = some (.cells l.toArray t (0, 0))) : w.rangeAt g 0 l := fun j v hv => by
  rw [Nat.zero_add, cell_of_row _ _ _ _ _ _ h]; simpa using hv
theorem share_bd {a r : Int} (h : 0 ≤ a ∧ a ≤ 100000000000) (hr : RtOk r) : 0 ≤ rof a r ∧ rof a r ≤ 100000000000 := share_low (.inr ⟨⟨h, hr⟩, rfl, rfl⟩)
theorem MBal.Ok.bds {b : MBal} {S : Int → Int → Int} (h : b.Ok S) : (-100000000000 ≤ b.tmp ∧ b.tmp ≤ 100000000000) ∧ (0 ≤ b.ls ∧ b.ls ≤ 100000000000) ∧ -b.ls ≤ b.al ∧ b.al ≤ 0 := by
  have h1 := h.tmp.2
  have h2 := share_bd h.left h.nx
  have h3 := h.al
  rw [← h.ls] at h2
  unfold Mon at h1
  exact ⟨h1, h2, h3⟩
/-- a block whose cells are known, under mark t -/
structure Box (w : World) (O : Nat → Nat) (t b : Nat) (T : TypeId) (l : List Value) : Prop where
  at' : w.heap[b]? = some (.cells l.toArray T (0, 0))
  tag : O b = t
section
variable {w w1 : World} {O O1 O2 : Nat → Nat} {base t t' t2 b : Nat} {T : TypeId} {l : List Value}
theorem Box.lt (h : Box w O t b T l) : b < w.heap.size := (Array.getElem?_eq_some_iff.1 h.at').1
theorem Box.below (h : Box w O t b T l) (k : Below w.heap.size w w1) : Box w1 O t b T l := ⟨(k.block b h.lt).trans h.at', h.tag⟩
theorem Box.step (h : Box w O t b T l) (k : Step base O t' w O1 w1) (hne : t ≠ t') : Box w1 O1 t b T l :=
  ⟨(k.kept.block b h.lt (by rw [h.tag]; exact hne)).trans h.at', (k.ext b h.lt).trans h.tag⟩
theorem Box.marks (h : Box w O t b T l) (e : O2 b = t2) : Box w O2 t2 b T l := ⟨h.at', e⟩
theorem Box.new (w : World) (O : Nat → Nat) (t : Nat) (T : TypeId) (l : List Value) : Box (w.alloc (.cells l.toArray T)) (mark O t w.heap.size) t w.heap.size T l := ⟨heap_alloc_last w _, mark_at _ _ _⟩
theorem Box.cell (h : Box w O t b T l) {j : Nat} {u : Value} (hj : l[j]? = some u) : w.cell? ⟨b, j, none⟩ = some u := by
  rw [cell_of_row _ _ j _ _ _ h.at']; simpa using hj
theorem Box.frz (h : Box w O t b T l) (j : Nat) : w.frozen? ⟨b, j, none⟩ = false := frozen_of_row _ _ j _ _ h.at'
theorem Box.range (h : Box w O t b T l) : w.rangeAt b 0 l := row_range h.at'
theorem Box.sub (h : Box w O t b T l) {o : Nat} {l' : List Value} (e : ∀ (j : Nat) (u : Value), l'[j]? = some u → l[o + j]? = some u) : w.rangeAt b o l' := fun j u hu => h.cell (e j u hu)
theorem Step.row (f : Fin0 base O w) (hO : O b = t) (P : Array Value) : Step base O t w O (w.setRow b P) :=
  ⟨⟨rfl, rfl, rfl, by simp, fun k _ hk => setRow_other _ _ _ _ (fun e => hk (by rw [e]; exact hO))⟩, fun _ _ => rfl, f.1, fun k hk => f.2 k (by simpa using hk)⟩
theorem Box.set (h : Box w O t b T l) (f : Fin0 base O w) (l' : List Value) : Box (w.setRow b l'.toArray) O t b T l' ∧ Step base O t w O (w.setRow b l'.toArray) :=
  ⟨⟨setRow_heap _ _ _ _ _ _ h.at', h.tag⟩, Step.row f h.tag _⟩
end
theorem bal_one (b : MBal) (sb sr : Sl) : (balL b sb sr).toArray.all (·.oneCell') = true := one_all fun u hu => by
  unfold balL Sl.v at hu
  simp only [List.mem_cons, List.not_mem_nil, or_false] at hu
  rcases hu with rfl | rfl | rfl | rfl | rfl | rfl | rfl | rfl <;> rfl
theorem bal_size (b : MBal) (sb sr : Sl) : (Try.prog.info? 37).map (·.size) = some (balL b sb sr).toArray.size := by
  rw [show (balL b sb sr).toArray.size = 8 from rfl]; kernel_rfl
theorem cin_size (i : MIn) : (Try.prog.info? 31).map (·.size) = some (inL i).toArray.size := by
  rw [show (inL i).toArray.size = 8 from rfl]; kernel_rfl
/-- a provision under way -/
def qL (i : MIn) (r : Int) (op : MBal) (sb sr : Sl) (cl : MBal) (sc sd : Value) (x : Tx) (vc ws nw : Value) (tm tr lm lr am df tt : Int) : List Value := [
  .string i.j, .int .i64 i.p, .int .i64 i.bk, .int .i64 i.pm, .int .i64 i.jd, .int .i64 i.cp, .int .i64 i.lf, .int .i64 i.tu,
  .int .i64 r,
  .int .i64 op.per, sb.v op.n, sr.v op.n, .int .i64 op.nx, .int .i64 op.left, .int .i64 op.tmp, .int .i64 op.ls, .int .i64 op.al,
  .int .i64 cl.per, sc, sd, .int .i64 cl.nx, .int .i64 cl.left, .int .i64 cl.tmp, .int .i64 cl.ls, .int .i64 cl.al,
  .int .i64 x.inc, .int .i64 x.exp, .int .i64 x.used, .int .i64 x.new, .int .i64 x.txb, .int .i64 x.tax, vc,
  ws, nw, .int .i64 tm, .int .i64 tr, .int .i64 lm, .int .i64 lr, .int .i64 am, .int .i64 df, .int .i64 tt]
abbrev bal0 : MBal := ⟨0, 0, fun _ => ⟨0, 0, 0⟩, fun _ => 0, 0, 0, 0, 0, 0⟩
abbrev tx0 : Tx := ⟨0, 0, 0, 0, 0, 0, 0, fun _ => 0⟩
abbrev vnil : Value := .slice none 0 0
/-- with its ways alone -/
def q0L (i : MIn) (r : Int) (op : MBal) (sb sr : Sl) (ws : Value) : List Value := qL i r op sb sr bal0 vnil vnil tx0 vnil ws vnil 0 0 0 0 0 0 0
theorem qL_one (i : MIn) (r : Int) (op : MBal) (sb sr : Sl) (cl : MBal) {A1 A2 A3 A4 A5 : Option Addr} {n1 n2 n3 n4 n5 c1 c2 c3 c4 c5 : Nat} (x : Tx) (tm tr lm lr am df tt : Int) : (qL i r op sb sr cl (.slice A1 n1 c1) (.slice A2 n2 c2) x (.slice A3 n3 c3) (.slice A4 n4 c4) (.slice A5 n5 c5) tm tr lm lr am df tt).toArray.all (·.oneCell') = true := one_all fun u hu => by
  unfold qL Sl.v at hu
  simp only [List.mem_cons, List.not_mem_nil, or_false] at hu
  rcases hu with rfl | rfl | rfl | rfl | rfl | rfl | rfl | rfl | rfl | rfl | rfl | rfl | rfl | rfl | rfl | rfl | rfl | rfl | rfl | rfl | rfl | rfl | rfl | rfl | rfl | rfl | rfl | rfl | rfl | rfl | rfl | rfl | rfl | rfl | rfl | rfl | rfl | rfl | rfl | rfl | rfl <;> rfl
theorem q_one (i : MIn) (r : Int) (op : MBal) (sb sr : Sl) {A : Option Addr} {n c : Nat} : (q0L i r op sb sr (.slice A n c)).toArray.all (·.oneCell') = true := qL_one ..
/-- values written into a list, from a place on -/
def putL : Array Value → Nat → List Value → Array Value
  | cs, _, [] => cs
  | cs, o, v :: r => putL (cs.setIfInBounds o v) (o + 1) r
theorem setCells_row {b : Nat} {T : TypeId} {fr : Nat × Nat} : ∀ (vs : List Value) (o : Nat) (cs : Array Value) (w : World), w.heap[b]? = some (.cells cs T fr) → w.setCells b o vs = w.setRow b (putL cs o vs)
  | [], _, cs, w, h => (setRow_self w b cs T fr h).symm
  | v :: r, o, cs, w, h => by
    rw [World.setCells, setCell_eq_setRow w b o cs T fr v h, setCells_row r (o + 1) (cs.setIfInBounds o v) _ (setRow_heap _ _ _ _ _ _ h), setRow_setRow, putL]
theorem there_row {w : World} {b : Nat} {T : TypeId} {cs : Array Value} (h : w.heap[b]? = some (.cells cs T (0, 0))) {o n : Nat} (hn : o + n ≤ cs.size) : w.there b o n := fun j hj => by
  refine ⟨?_, frozen_of_row _ _ _ _ _ h⟩
  rw [cell_of_row _ _ _ _ _ _ h, Array.getElem?_eq_getElem (by omega)]
  rfl
theorem q_set32 {w : World} {b : Nat} {T : TypeId} {i : MIn} {r : Int} {op : MBal} {sb sr : Sl} {cl : MBal} {sc sd : Value} {x : Tx} {vc ws nw : Value} {tm tr lm lr am df tt : Int} (h : w.heap[b]? = some (.cells (qL i r op sb sr cl sc sd x vc ws nw tm tr lm lr am df tt).toArray T (0, 0))) (ws' : Value) : w.setCell ⟨b, 32, none⟩ ws' = w.setRow b (qL i r op sb sr cl sc sd x vc ws' nw tm tr lm lr am df tt).toArray := by
  rw [setCell_eq_setRow w b 32 _ _ _ _ h]; kernel_rfl
theorem q_set33 {w : World} {b : Nat} {T : TypeId} {i : MIn} {r : Int} {op : MBal} {sb sr : Sl} {cl : MBal} {sc sd : Value} {x : Tx} {vc ws nw : Value} {tm tr lm lr am df tt : Int} (h : w.heap[b]? = some (.cells (qL i r op sb sr cl sc sd x vc ws nw tm tr lm lr am df tt).toArray T (0, 0))) (nw' : Value) : w.setCell ⟨b, 33, none⟩ nw' = w.setRow b (qL i r op sb sr cl sc sd x vc ws nw' tm tr lm lr am df tt).toArray := by
  rw [setCell_eq_setRow w b 33 _ _ _ _ h]; kernel_rfl
theorem q_set36 {w : World} {b : Nat} {T : TypeId} {i : MIn} {r : Int} {op : MBal} {sb sr : Sl} {cl : MBal} {sc sd : Value} {x : Tx} {vc ws nw : Value} {tm tr lm lr am df tt : Int} (h : w.heap[b]? = some (.cells (qL i r op sb sr cl sc sd x vc ws nw tm tr lm lr am df tt).toArray T (0, 0))) (y : Int) : w.setCell ⟨b, 36, none⟩ (.int .i64 y) = w.setRow b (qL i r op sb sr cl sc sd x vc ws nw tm tr y lr am df tt).toArray := by
  rw [setCell_eq_setRow w b 36 _ _ _ _ h]; kernel_rfl
theorem q_set37 {w : World} {b : Nat} {T : TypeId} {i : MIn} {r : Int} {op : MBal} {sb sr : Sl} {cl : MBal} {sc sd : Value} {x : Tx} {vc ws nw : Value} {tm tr lm lr am df tt : Int} (h : w.heap[b]? = some (.cells (qL i r op sb sr cl sc sd x vc ws nw tm tr lm lr am df tt).toArray T (0, 0))) (y : Int) : w.setCell ⟨b, 37, none⟩ (.int .i64 y) = w.setRow b (qL i r op sb sr cl sc sd x vc ws nw tm tr lm y am df tt).toArray := by
  rw [setCell_eq_setRow w b 37 _ _ _ _ h]; kernel_rfl
theorem q_set38 {w : World} {b : Nat} {T : TypeId} {i : MIn} {r : Int} {op : MBal} {sb sr : Sl} {cl : MBal} {sc sd : Value} {x : Tx} {vc ws nw : Value} {tm tr lm lr am df tt : Int} (h : w.heap[b]? = some (.cells (qL i r op sb sr cl sc sd x vc ws nw tm tr lm lr am df tt).toArray T (0, 0))) (y : Int) : w.setCell ⟨b, 38, none⟩ (.int .i64 y) = w.setRow b (qL i r op sb sr cl sc sd x vc ws nw tm tr lm lr y df tt).toArray := by
  rw [setCell_eq_setRow w b 38 _ _ _ _ h]; kernel_rfl
theorem q_set39 {w : World} {b : Nat} {T : TypeId} {i : MIn} {r : Int} {op : MBal} {sb sr : Sl} {cl : MBal} {sc sd : Value} {x : Tx} {vc ws nw : Value} {tm tr lm lr am df tt : Int} (h : w.heap[b]? = some (.cells (qL i r op sb sr cl sc sd x vc ws nw tm tr lm lr am df tt).toArray T (0, 0))) (y : Int) : w.setCell ⟨b, 39, none⟩ (.int .i64 y) = w.setRow b (qL i r op sb sr cl sc sd x vc ws nw tm tr lm lr am y tt).toArray := by
  rw [setCell_eq_setRow w b 39 _ _ _ _ h]; kernel_rfl
theorem q_set40 {w : World} {b : Nat} {T : TypeId} {i : MIn} {r : Int} {op : MBal} {sb sr : Sl} {cl : MBal} {sc sd : Value} {x : Tx} {vc ws nw : Value} {tm tr lm lr am df tt : Int} (h : w.heap[b]? = some (.cells (qL i r op sb sr cl sc sd x vc ws nw tm tr lm lr am df tt).toArray T (0, 0))) (y : Int) : w.setCell ⟨b, 40, none⟩ (.int .i64 y) = w.setRow b (qL i r op sb sr cl sc sd x vc ws nw tm tr lm lr am df y).toArray := by
  rw [setCell_eq_setRow w b 40 _ _ _ _ h]; kernel_rfl
theorem put_chg (i : MIn) (r : Int) (op : MBal) (sb sr : Sl) (cl : MBal) (sc sd : Value) (x : Tx) (vc ws nw : Value) (m r' : Int) : putL (qL i r op sb sr cl sc sd x vc ws nw 0 0 0 0 0 0 0).toArray 34 [.int .i64 m, .int .i64 r'] = (qL i r op sb sr cl sc sd x vc ws nw m r' 0 0 0 0 0).toArray := by kernel_rfl
theorem cq_size (i : MIn) (r : Int) (op : MBal) (sb sr : Sl) (cl : MBal) (sc sd : Value) (x : Tx) (vc ws nw : Value) (tm tr lm lr am df tt : Int) : (Try.prog.info? 44).map (·.size) = some (qL i r op sb sr cl sc sd x vc ws nw tm tr lm lr am df tt).toArray.size := by
  rw [show (qL i r op sb sr cl sc sd x vc ws nw tm tr lm lr am df tt).toArray.size = 41 from rfl]; kernel_rfl
theorem pv_size (i : MIn) (op : MBal) (v : MPv) (s : Pss) : (Try.prog.info? 44).map (·.size) = some (pvL i op v s).toArray.size := by
  rw [pv_len]; kernel_rfl
theorem pv0_size : (Try.prog.info? 44).map (·.size) = some pv0L.toArray.size := by
  rw [show pv0L.toArray.size = 41 from rfl]; kernel_rfl
theorem cchg_size : (Try.prog.info? 42).map (·.size) = some 2 := by kernel_rfl
theorem pv_q (i : MIn) (op : MBal) (v : MPv) (s : Pss) : pvL i op v s = qL i v.r op s.ob s.or v.cl (s.cb.v v.cl.n) (s.cr.v v.cl.n) v.x (s.vc.v v.x.q) (s.ws.v v.q) (s.nw.v v.q) v.tm v.tr v.lm v.lr v.am v.df v.tt := rfl
theorem chg_one (a b : Int) : (#[.int .i64 a, .int .i64 b] : Array Value).all (·.oneCell') = true := one_all (l := [.int .i64 a, .int .i64 b]) fun u hu => by
  simp only [List.mem_cons, List.not_mem_nil, or_false] at hu
  rcases hu with rfl | rfl <;> rfl
theorem put_bal (i : MIn) (r : Int) (op : MBal) (sb sr : Sl) (ws vc nw : Value) (x : Tx) (B : MBal) (s1 s2 : Sl) : putL (qL i r op sb sr bal0 vnil vnil x vc ws nw 0 0 0 0 0 0 0).toArray 17 (balL B s1 s2) = (qL i r op sb sr B (s1.v B.n) (s2.v B.n) x vc ws nw 0 0 0 0 0 0 0).toArray := by kernel_rfl
theorem wpList_given {P : Program} {ops : Array Oper} {Q : Exit → Act → World → Prop} {rest : List Oper} {a : Act} {w w' : World} {o : Oper} {v : Value} (hg : o.guard = none) (hx : (execOp a.eval o).run P w = .ok (.value v) w') (h : wpList P ops Q rest (a.put o.dst v) w') : wpList P ops Q (o :: rest) a w :=
  wpList_plain hg fun K hK => by
    unfold Oper.wp
    rw [hx]
    exact hK _ _ h
theorem build9 {o : Oper} {x0 x1 x2 x3 x4 x5 x6 x7 x8 : Operand} (ho : o.op = .buildSlice 35 9 #[(0, x0), (1, x1), (2, x2), (3, x3), (4, x4), (5, x5), (6, x6), (7, x7), (8, x8)]) (ev : Operand → Value) {z0 z1 z2 z3 z4 z5 z6 z7 z8 : Int}
    (h0 : ev x0 = .int .i64 z0) (h1 : ev x1 = .int .i64 z1) (h2 : ev x2 = .int .i64 z2) (h3 : ev x3 = .int .i64 z3) (h4 : ev x4 = .int .i64 z4) (h5 : ev x5 = .int .i64 z5) (h6 : ev x6 = .int .i64 z6) (h7 : ev x7 = .int .i64 z7) (h8 : ev x8 = .int .i64 z8) (w : World) :
    (execOp ev o).run Try.prog w = .ok (.value (.slice (some ⟨w.heap.size, 0, none⟩) 9 9)) (w.alloc (.cells #[.int .i64 z0, .int .i64 z1, .int .i64 z2, .int .i64 z3, .int .i64 z4, .int .i64 z5, .int .i64 z6, .int .i64 z7, .int .i64 z8] 3)) := by
  unfold execOp
  simp only [ho]
  simp only [List.map_toArray, List.map_cons, List.map_nil, h0, h1, h2, h3, h4, h5, h6, h7, h8]
  kernel_rfl
theorem ownr_at {w : World} {E : TypeId} {base n c : Nat} {A : Option Addr} {g : Nat → Bk} (o : OwnR be 3 w E base (.slice A n c) n g) : AtR be 3 w A n g := by
  obtain ⟨A', c', e, _, _, _, h⟩ := o.at be_len
  injection e with e1
  subst e1
  exact h
theorem own_at {w : World} {E : TypeId} {base n c : Nat} {A : Option Addr} {g : Nat → Int} (o : Own w E base (.slice A n c) n g) : At w A n g := by
  obtain ⟨A', c', e, _, _, h⟩ := o.at
  injection e with e1
  subst e1
  exact h
section
variable {w : World} {b : Nat} {T : TypeId} {p nx lf tm ls al : Int} {n : Nat} {g : Nat → Bk} {r : Nat → Int} {s1 s2 : Sl}
theorem bal_set1 (h : w.heap[b]? = some (.cells (balL ⟨p, n, g, r, nx, lf, tm, ls, al⟩ s1 s2).toArray T (0, 0))) (A : Option Addr) (c : Nat) : w.setCell ⟨b, 1, none⟩ (.slice A n c) = w.setRow b (balL ⟨p, n, g, r, nx, lf, tm, ls, al⟩ ⟨A, c⟩ s2).toArray := by
  rw [setCell_eq_setRow w b 1 _ _ _ _ h]; rfl
theorem bal_set2 (h : w.heap[b]? = some (.cells (balL ⟨p, n, g, r, nx, lf, tm, ls, al⟩ s1 s2).toArray T (0, 0))) (A : Option Addr) (c : Nat) : w.setCell ⟨b, 2, none⟩ (.slice A n c) = w.setRow b (balL ⟨p, n, g, r, nx, lf, tm, ls, al⟩ s1 ⟨A, c⟩).toArray := by
  rw [setCell_eq_setRow w b 2 _ _ _ _ h]; rfl
theorem bal_set4 (h : w.heap[b]? = some (.cells (balL ⟨p, n, g, r, nx, lf, tm, ls, al⟩ s1 s2).toArray T (0, 0))) (x : Int) : w.setCell ⟨b, 4, none⟩ (.int .i64 x) = w.setRow b (balL ⟨p, n, g, r, nx, x, tm, ls, al⟩ s1 s2).toArray := by
  rw [setCell_eq_setRow w b 4 _ _ _ _ h]; rfl
theorem bal_set5 (h : w.heap[b]? = some (.cells (balL ⟨p, n, g, r, nx, lf, tm, ls, al⟩ s1 s2).toArray T (0, 0))) (x : Int) : w.setCell ⟨b, 5, none⟩ (.int .i64 x) = w.setRow b (balL ⟨p, n, g, r, nx, lf, x, ls, al⟩ s1 s2).toArray := by
  rw [setCell_eq_setRow w b 5 _ _ _ _ h]; rfl
theorem bal_set6 (h : w.heap[b]? = some (.cells (balL ⟨p, n, g, r, nx, lf, tm, ls, al⟩ s1 s2).toArray T (0, 0))) (x : Int) : w.setCell ⟨b, 6, none⟩ (.int .i64 x) = w.setRow b (balL ⟨p, n, g, r, nx, lf, tm, x, al⟩ s1 s2).toArray := by
  rw [setCell_eq_setRow w b 6 _ _ _ _ h]; rfl
theorem bal_set7 (h : w.heap[b]? = some (.cells (balL ⟨p, n, g, r, nx, lf, tm, ls, al⟩ s1 s2).toArray T (0, 0))) (x : Int) : w.setCell ⟨b, 7, none⟩ (.int .i64 x) = w.setRow b (balL ⟨p, n, g, r, nx, lf, tm, ls, x⟩ s1 s2).toArray := by
  rw [setCell_eq_setRow w b 7 _ _ _ _ h]; rfl
end
end Go.Proofs.Ytmlafdehhbhbiaa
