/- Package closing: what stands in memory while a provision is made. -/
import Derived.Test.YtmlafdehhbhbiaaCl6
namespace Go.Proofs.Ytmlafdehhbhbiaa
open Go.RowKit
theorem three_at (w : World) (a b c : Array Value) (T1 T2 T3 : TypeId) : (((w.alloc (.cells a T1)).alloc (.cells b T2)).alloc (.cells c T3)).heap[w.heap.size]? = some (.cells a T1 (0, 0)) ∧ (((w.alloc (.cells a T1)).alloc (.cells b T2)).alloc (.cells c T3)).heap[w.heap.size + 1]? = some (.cells b T2 (0, 0)) ∧ (((w.alloc (.cells a T1)).alloc (.cells b T2)).alloc (.cells c T3)).heap[w.heap.size + 2]? = some (.cells c T3 (0, 0)) ∧ Below w.heap.size w (((w.alloc (.cells a T1)).alloc (.cells b T2)).alloc (.cells c T3)) := by
  obtain ⟨h0, h1, kb⟩ := two_at w a b T1 T2
  have z : ((w.alloc (.cells a T1)).alloc (.cells b T2)).heap.size = w.heap.size + 2 := by simp
  have h2 := heap_alloc_last ((w.alloc (.cells a T1)).alloc (.cells b T2)) (.cells c T3)
  rw [z] at h2
  exact ⟨by rw [heap_alloc_old _ _ (by omega)]; exact h0, by rw [heap_alloc_old _ _ (by omega)]; exact h1, h2, kb.alloc (by omega) _⟩
/-- the call's own blocks: what is asked, what the last close left, the result -/
structure CM (w wr : World) (i : MIn) (op : MBal) (sb sr : Sl) : Prop where
  lo : Below w.heap.size w wr
  b6 : wr.heap[w.heap.size]? = some (.cells (inL i).toArray 31 (0, 0))
  b7 : wr.heap[w.heap.size + 1]? = some (.cells (balL op sb sr).toArray 37 (0, 0))
  b10 : wr.heap[w.heap.size + 2]? = some (.cells pv0L.toArray 44 (0, 0))
section
variable {w wr w1 : World} {i : MIn} {op : MBal} {sb sr : Sl} {b : Nat}
theorem CM.lt (h : CM w wr i op sb sr) : w.heap.size + 2 < wr.heap.size := (Array.getElem?_eq_some_iff.1 h.b10).1
set_option maxRecDepth 100000 in
theorem CM.below (h : CM w wr i op sb sr) (k : Below wr.heap.size wr w1) : CM w w1 i op sb sr := by
  have l := h.lt
  exact ⟨h.lo.trans (k.mono h.lo.size), (k.block _ (by omega)).trans h.b6, (k.block _ (by omega)).trans h.b7, (k.block _ l).trans h.b10⟩
set_option maxRecDepth 100000 in
theorem CM.row (h : CM w wr i op sb sr) (hb : w.heap.size + 3 ≤ b) (P : Array Value) : CM w (wr.setRow b P) i op sb sr :=
  ⟨below_setRow h.lo (by omega) _, (setRow_other _ _ _ _ (by omega)).trans h.b6, (setRow_other _ _ _ _ (by omega)).trans h.b7, (setRow_other _ _ _ _ (by omega)).trans h.b10⟩
set_option maxRecDepth 100000 in
theorem CM.ins (h : CM w wr i op sb sr) : wr.cell? ⟨w.heap.size, 0, none⟩ = some (.string i.j) ∧ wr.cell? ⟨w.heap.size, 1, none⟩ = some (.int .i64 i.p) ∧ wr.cell? ⟨w.heap.size, 2, none⟩ = some (.int .i64 i.bk) ∧ wr.cell? ⟨w.heap.size, 3, none⟩ = some (.int .i64 i.pm) ∧ wr.cell? ⟨w.heap.size, 4, none⟩ = some (.int .i64 i.jd) ∧ wr.cell? ⟨w.heap.size, 5, none⟩ = some (.int .i64 i.cp) ∧ wr.cell? ⟨w.heap.size, 6, none⟩ = some (.int .i64 i.lf) ∧ wr.cell? ⟨w.heap.size, 7, none⟩ = some (.int .i64 i.tu) :=
  ⟨cell_of_row _ _ 0 _ _ _ h.b6, cell_of_row _ _ 1 _ _ _ h.b6, cell_of_row _ _ 2 _ _ _ h.b6, cell_of_row _ _ 3 _ _ _ h.b6, cell_of_row _ _ 4 _ _ _ h.b6, cell_of_row _ _ 5 _ _ _ h.b6, cell_of_row _ _ 6 _ _ _ h.b6, cell_of_row _ _ 7 _ _ _ h.b6⟩
set_option maxRecDepth 100000 in
theorem CM.op1 {ab : Option Addr} {cb : Nat} (h : CM w wr i op ⟨ab, cb⟩ sr) : wr.cell? ⟨w.heap.size + 1, 1, none⟩ = some (.slice ab op.n cb) := cell_of_row _ _ 1 _ _ _ h.b7
end
section
variable {w w1 : World} {b n k : Nat} {A : Option Addr} {α : Type} {enc : α → List Value} {g : Nat → α}
theorem atr_off (h : AtR enc k w A n g) (hne : ∀ x off, A = Option.some ⟨x, off, none⟩ → x ≠ b) (P : Array Value) : AtR enc k (w.setRow b P) A n g := by
  rcases h with h | ⟨x, off, e, hb, hc⟩
  · exact .inl h
  · refine .inr ⟨x, off, e, by rw [setRow_size]; exact hb, fun j hj i u hu => ?_⟩
    rw [← hc j hj i u hu]
    exact World.cell?_of_block (a := ⟨x, off + j * k + i, .none⟩) (setRow_other _ _ _ _ (hne x off e))
theorem at_off {g : Nat → Int} (h : At w A n g) (hne : ∀ x off, A = Option.some ⟨x, off, none⟩ → x ≠ b) (P : Array Value) : At (w.setRow b P) A n g := by
  rcases h with h | ⟨x, off, e, hb, hc⟩
  · exact .inl h
  · refine .inr ⟨x, off, e, by rw [setRow_size]; exact hb, fun j hj => ?_⟩
    rw [← hc j hj]
    exact World.cell?_of_block (a := ⟨x, off + j, .none⟩) (setRow_other _ _ _ _ (hne x off e))
theorem Free.off {O : Nat → Nat} {z : Nat} (h : Free O z w A) (P : Array Value) : Free O z (w.setRow b P) A := fun x off e => by
  obtain ⟨h1, h2, h3⟩ := h x off e
  exact ⟨h1, by rw [setRow_size]; exact h2, h3⟩
end
set_option maxRecDepth 100000 in
/-- a block that bears no mark is written -/
theorem nowv_row {w0 w : World} {O : Nat → Nat} {lb b : Nat} {S : Int → Int → Int} (h : NowV w0 w O 1 lb S) (hO : O b = 0) (h0 : w0.heap.size ≤ b) (hb : b < w.heap.size) (P : Array Value) : NowV w0 (w.setRow b P) O 1 lb S := by
  let O2 : Nat → Nat := fun k => if k = b then 2 else O k
  have f2 : Fin0 w0.heap.size O2 w := ⟨fun k hk => by show (if k = b then 2 else O k) = 0; rw [if_neg (by omega)]; exact h.fin.1 k hk, fun k hk => by show (if k = b then 2 else O k) = 0; rw [if_neg (by omega)]; exact h.fin.2 k hk⟩
  have h2 : NowV w0 w O2 1 lb S := NowL.marks h (fun k e => by
    show (if k = b then 2 else O k) = 1
    rw [if_neg (fun q => by rw [q, hO] at e; cases e)]; exact e) f2 h.low (Nat.le_refl _)
  have st : Step w0.heap.size O2 2 w O2 (w.setRow b P) := ⟨⟨rfl, rfl, rfl, by simp, fun k _ hk => setRow_other _ _ _ _ (fun e => hk (by rw [e]; exact if_pos rfl))⟩, fun _ _ => rfl, f2.1, fun k hk => f2.2 k (by simpa using hk)⟩
  have h3 := h2.step st (by decide) (by decide)
  exact NowL.marks h3 (fun k e => by
    have e' : (if k = b then 2 else O k) = 1 := e
    by_cases q : k = b
    · rw [if_pos q] at e'; cases e'
    · rwa [if_neg q] at e') ⟨h.fin.1, fun k hk => h.fin.2 k (by simpa using hk)⟩ h3.low (Nat.le_refl _)
/-- behind the tax: the losses left, the balances under way (B, block X), the tax (block T), the rows -/
structure MkL (w wr : World) (O : Nat → Nat) (i : MIn) (op : MBal) (sb sr : Sl) (lb' : Nat) (SL' : Int → Int → Int) (X : Nat) (B : MBal) (A3 : Option Addr) (c3 : Nat) (A4 : Option Addr) (c4 m : Nat) (g : Nat → Bk) (rs : Nat → Int) (T : Nat) (x : Tx) (U : Option Addr) (cu : Nat) : Prop where
  cm : CM w wr i op sb sr
  L : NowV w wr O 1 lb' SL'
  xB : wr.heap[X]? = some (.cells (balL B ⟨A3, c3⟩ ⟨A4, c4⟩).toArray 37 (0, 0))
  tB : wr.heap[T]? = some (.cells (txl x.inc x.exp x.used x.new x.txb x.tax (.slice U x.q cu)).toArray 39 (0, 0))
  us : At wr U x.q x.u
  rw : AtR be 3 wr A3 m g
  rt : At wr A4 m rs
  fU : Free O (w.heap.size + 3) wr U
  f3 : Free O (w.heap.size + 3) wr A3
  f4 : Free O (w.heap.size + 3) wr A4
  nU : ∀ b off, U = some ⟨b, off, none⟩ → b ≠ X
  n3 : ∀ b off, A3 = some ⟨b, off, none⟩ → b ≠ X
  n4 : ∀ b off, A4 = some ⟨b, off, none⟩ → b ≠ X
  hX : w.heap.size + 3 ≤ X
  oX : O X = 0
  hT : T ≠ X
section
variable {w wr w1 : World} {O : Nat → Nat} {i : MIn} {op : MBal} {sb sr : Sl} {lb' : Nat} {SL' : Int → Int → Int} {X : Nat} {B B' : MBal} {A3 : Option Addr} {c3 : Nat} {A4 : Option Addr} {c4 m : Nat} {g : Nat → Bk} {rs : Nat → Int} {T : Nat} {x : Tx} {U : Option Addr} {cu : Nat}
theorem MkL.lt (h : MkL w wr O i op sb sr lb' SL' X B A3 c3 A4 c4 m g rs T x U cu) : X < wr.heap.size := (Array.getElem?_eq_some_iff.1 h.xB).1
theorem MkL.ltT (h : MkL w wr O i op sb sr lb' SL' X B A3 c3 A4 c4 m g rs T x U cu) : T < wr.heap.size := (Array.getElem?_eq_some_iff.1 h.tB).1
set_option maxRecDepth 100000 in
theorem MkL.below (h : MkL w wr O i op sb sr lb' SL' X B A3 c3 A4 c4 m g rs T x U cu) (k : Below wr.heap.size wr w1) : MkL w w1 O i op sb sr lb' SL' X B A3 c3 A4 c4 m g rs T x U cu :=
  ⟨h.cm.below k, h.L.below k, (k.block _ h.lt).trans h.xB, (k.block _ h.ltT).trans h.tB, h.us.below k, h.rw.below k, h.rt.below k, h.fU.below k, h.f3.below k, h.f4.below k, h.nU, h.n3, h.n4, h.hX, h.oX, h.hT⟩
set_option maxRecDepth 100000 in
theorem MkL.setX (h : MkL w wr O i op sb sr lb' SL' X B A3 c3 A4 c4 m g rs T x U cu) (B' : MBal) : MkL w (wr.setRow X (balL B' ⟨A3, c3⟩ ⟨A4, c4⟩).toArray) O i op sb sr lb' SL' X B' A3 c3 A4 c4 m g rs T x U cu :=
  ⟨h.cm.row h.hX _, nowv_row h.L h.oX (by have := h.hX; omega) h.lt _, setRow_heap _ _ _ _ _ _ h.xB, (setRow_other _ _ _ _ h.hT).trans h.tB, at_off h.us h.nU _, atr_off h.rw h.n3 _, at_off h.rt h.n4 _, h.fU.off _, h.f3.off _, h.f4.off _, h.nU, h.n3, h.n4, h.hX, h.oX, h.hT⟩
end
theorem cbuild_q {o : Oper} {x0 x1 x2 x3 x4 : Operand} (ho : o.op = .build 44 #[(0, x0), (1, x1), (2, x2), (3, x3), (4, x4)]) (ev : Operand → Value) {i : MIn} {r : Int} {op cl : MBal} {sb sr : Sl} {A3 A4 U : Option Addr} {c3 c4 cu : Nat} {x : Tx} (h0 : ev x0 = .agg (inL i).toArray) (h1 : ev x1 = .int .i64 r) (h2 : ev x2 = .agg (balL op sb sr).toArray) (h3 : ev x3 = .agg (balL cl ⟨A3, c3⟩ ⟨A4, c4⟩).toArray) (h4 : ev x4 = .agg (txl x.inc x.exp x.used x.new x.txb x.tax (.slice U x.q cu)).toArray) (w : World) :
    (execOp ev o).run Try.prog w = .ok (.value (.agg (qL i r op sb sr cl (.slice A3 cl.n c3) (.slice A4 cl.n c4) x (.slice U x.q cu) vnil vnil 0 0 0 0 0 0 0).toArray)) w := by
  unfold execOp
  simp only [ho]
  simp only [List.map_toArray, List.map_cons, List.map_nil, h0, h1, h2, h3, h4]
  kernel_rfl
theorem cin_sizeL (i : MIn) : (Try.prog.info? 31).map (·.size) = some (inL i).length := by
  rw [show (inL i).length = 8 from rfl]; kernel_rfl
theorem ctx_size (a b c d e f : Int) (v : Value) : (Try.prog.info? 39).map (·.size) = some (txl a b c d e f v).toArray.size := by
  rw [show (txl a b c d e f v).toArray.size = 7 from rfl]; kernel_rfl
theorem ctx_one (a b c d e f : Int) (A : Option Addr) (n k : Nat) : (txl a b c d e f (.slice A n k)).toArray.all (·.oneCell') = true := one_all fun u hu => by
  unfold txl at hu
  simp only [List.mem_cons, List.not_mem_nil, or_false] at hu
  rcases hu with rfl | rfl | rfl | rfl | rfl | rfl | rfl <;> rfl
end Go.Proofs.Ytmlafdehhbhbiaa
