/- What a period has, balances, a provision: as values; a whole provision out of and into memory. -/
import Derived.Test.YtmlafdehhbhbiaaMkSum
import Derived.Test.YtmlafdehhbhbiaaMark
import Derived.Test.YtmlafdehhbhbiaaM10
import Derived.Deep.WholeRow
namespace Go.Proofs.Ytmlafdehhbhbiaa
open Go.RowKit
/-- what a period has -/
def inL (i : MIn) : List Value := [.string i.j, .int .i64 i.p, .int .i64 i.bk, .int .i64 i.pm, .int .i64 i.jd, .int .i64 i.cp, .int .i64 i.lf, .int .i64 i.tu]
/-- balances; sb: the buckets, sr: their rates -/
def balL (b : MBal) (sb sr : Sl) : List Value := [.int .i64 b.per, sb.v b.n, sr.v b.n, .int .i64 b.nx, .int .i64 b.left, .int .i64 b.tmp, .int .i64 b.ls, .int .i64 b.al]
/-- where a provision's seven slices lie -/
structure Pss where
  ob : Sl
  or : Sl
  cb : Sl
  cr : Sl
  vc : Sl
  ws : Sl
  nw : Sl
/-- a provision -/
def pvL (i : MIn) (op : MBal) (v : MPv) (s : Pss) : List Value := [
  .string i.j, .int .i64 i.p, .int .i64 i.bk, .int .i64 i.pm, .int .i64 i.jd, .int .i64 i.cp, .int .i64 i.lf, .int .i64 i.tu,
  .int .i64 v.r,
  .int .i64 op.per, s.ob.v op.n, s.or.v op.n, .int .i64 op.nx, .int .i64 op.left, .int .i64 op.tmp, .int .i64 op.ls, .int .i64 op.al,
  .int .i64 v.cl.per, s.cb.v v.cl.n, s.cr.v v.cl.n, .int .i64 v.cl.nx, .int .i64 v.cl.left, .int .i64 v.cl.tmp, .int .i64 v.cl.ls, .int .i64 v.cl.al,
  .int .i64 v.x.inc, .int .i64 v.x.exp, .int .i64 v.x.used, .int .i64 v.x.new, .int .i64 v.x.txb, .int .i64 v.x.tax, s.vc.v v.x.q,
  s.ws.v v.q, s.nw.v v.q, .int .i64 v.tm, .int .i64 v.tr, .int .i64 v.lm, .int .i64 v.lr, .int .i64 v.am, .int .i64 v.df, .int .i64 v.tt]
/-- no provision -/
def pv0L : List Value := [
  .string ⟨#[]⟩, .int .i64 0, .int .i64 0, .int .i64 0, .int .i64 0, .int .i64 0, .int .i64 0, .int .i64 0,
  .int .i64 0,
  .int .i64 0, .slice none 0 0, .slice none 0 0, .int .i64 0, .int .i64 0, .int .i64 0, .int .i64 0, .int .i64 0,
  .int .i64 0, .slice none 0 0, .slice none 0 0, .int .i64 0, .int .i64 0, .int .i64 0, .int .i64 0, .int .i64 0,
  .int .i64 0, .int .i64 0, .int .i64 0, .int .i64 0, .int .i64 0, .int .i64 0, .slice none 0 0,
  .slice none 0 0, .slice none 0 0, .int .i64 0, .int .i64 0, .int .i64 0, .int .i64 0, .int .i64 0, .int .i64 0, .int .i64 0]
/-- a provision's rows in memory -/
structure PvAt (O : Nat → Nat) (z : Nat) (w : World) (op : MBal) (v : MPv) (s : Pss) : Prop where
  op : BalAt w op s.ob s.or
  cl : BalO O z w v.cl s.cb s.cr
  vc : At w s.vc.a v.x.q v.x.u
  vc1 : s.vc.Fits v.x.q
  vc2 : Free O z w s.vc.a
  ws : AtR we 5 w s.ws.a v.q v.f
  ws1 : s.ws.Fits v.q
  ws2 : Free O z w s.ws.a
  nw : At w s.nw.a v.q v.now
  nw1 : s.nw.Fits v.q
  nw2 : Free O z w s.nw.a
section
variable {w w1 : World} {O O1 O' : Nat → Nat} {z z' t : Nat} {i : MIn} {op : MBal} {v : MPv} {s : Pss}
set_option maxRecDepth 100000 in
theorem PvAt.below (h : PvAt O z w op v s) (k : Below w.heap.size w w1) : PvAt O z w1 op v s :=
  ⟨h.op.below k, h.cl.below k, h.vc.below k, h.vc1, h.vc2.below k, h.ws.below k, h.ws1, h.ws2.below k, h.nw.below k, h.nw1, h.nw2.below k⟩
set_option maxRecDepth 100000 in
theorem PvAt.rows (h : PvAt O' z w op v s) : BalO O' z w v.cl s.cb s.cr ∧ (AtR we 5 w s.ws.a v.q v.f ∧ s.ws.Fits v.q ∧ Free O' z w s.ws.a) ∧ s.nw.Fits v.q ∧ s.vc.Fits v.x.q := ⟨h.cl, ⟨h.ws, h.ws1, h.ws2⟩, h.nw1, h.vc1⟩
/-- .. where PvAt.join -/
theorem pv_len (i : MIn) (op : MBal) (v : MPv) (s : Pss) : (pvL i op v s).toArray.size = 41 := rfl
theorem pvL_len (i : MIn) (op : MBal) (v : MPv) (s : Pss) : (pvL i op v s).length = 41 := rfl
theorem one_all {l : List Value} (h : ∀ u ∈ l, u.oneCell' = true) : l.toArray.all (·.oneCell') = true := Array.all_eq_true_iff_forall_mem.2 (fun v hv => h v (by simpa using hv))
theorem pvL_one (i : MIn) (op : MBal) (v : MPv) (s : Pss) : ∀ u ∈ pvL i op v s, u.oneCell' = true := by
  intro u hu
  unfold pvL Sl.v at hu
  simp only [List.mem_cons, List.not_mem_nil, or_false] at hu
  rcases hu with rfl | rfl | rfl | rfl | rfl | rfl | rfl | rfl | rfl | rfl | rfl | rfl | rfl | rfl | rfl | rfl | rfl | rfl | rfl | rfl | rfl | rfl | rfl | rfl | rfl | rfl | rfl | rfl | rfl | rfl | rfl | rfl | rfl | rfl | rfl | rfl | rfl | rfl | rfl | rfl | rfl <;> rfl
theorem pv0L_one : ∀ u ∈ pv0L, u.oneCell' = true := by
  intro u hu
  unfold pv0L at hu
  simp only [List.mem_cons, List.not_mem_nil, or_false] at hu
  rcases hu with rfl | rfl | rfl | rfl | rfl | rfl | rfl | rfl | rfl | rfl | rfl | rfl | rfl | rfl | rfl | rfl | rfl | rfl | rfl | rfl | rfl | rfl | rfl | rfl | rfl | rfl | rfl | rfl | rfl | rfl | rfl | rfl | rfl | rfl | rfl | rfl | rfl | rfl | rfl | rfl | rfl <;> rfl
/-- a provision's cells, behind one letter -/
structure PvC (P : Array Value) (l : List Value) : Prop where
  at' : ∀ (j : Nat) (u : Value), l[j]? = some u → P[j]? = some u
  size : P.size = 41
  one : P.all (·.oneCell') = true
theorem pvc_of (i : MIn) (op : MBal) (v : MPv) (s : Pss) : PvC (pvL i op v s).toArray (pvL i op v s) := ⟨fun j u h => by simpa using h, rfl, one_all (pvL_one i op v s)⟩
theorem pvc_no : PvC pv0L.toArray pv0L := ⟨fun j u h => by simpa using h, rfl, one_all pv0L_one⟩
end
end Go.Proofs.Ytmlafdehhbhbiaa
