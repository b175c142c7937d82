/- The document's own change of deferred tax: a contract. -/
import Derived.Test.YtmlafdehhbhbiaaRmMath
import Derived.Test.YtmlafdehhbhbiaaM8
import Derived.Test.YtmlafdehhbhbiaaM9
import Derived.Test.YtmlafdehhbhbiaaM2
namespace Go.Proofs.Ytmlafdehhbhbiaa
open Go.RowKit
/-- nobody's marks -/
abbrev O0 : Nat → Nat := fun _ => 0
theorem head0 (w : World) (xs : Array Value) (T : TypeId) : Head (w.alloc (.cells xs T)) O0 0 w.heap.size xs.toList :=
  have h := Head.new w O0 0 xs T
  ⟨h.cell, h.frz, rfl, h.lt⟩
theorem Head.apart {w : World} {O : Nat → Nat} {t sb : Nat} {xs : List Value} (h : Head w O t sb xs) {b : Nat} (o : Nat) (x : Value) (hne : sb ≠ b) : Head (w.setCell ⟨b, o, .none⟩ x) O t sb xs :=
  h.block (Below.heap_setCell _ _ _ _ hne) (by simp) rfl
/-- a result's two cells, and those that it is made from -/
structure TwoC (w wr : World) (b1 : Nat) (m r : Int) : Prop where
  res : Head wr O0 0 w.heap.size [.int .i64 0, .int .i64 0]
  mkg : Head wr O0 0 b1 [.int .i64 m, .int .i64 r]
  ne : b1 ≠ w.heap.size
  gt : w.heap.size ≤ b1
  low : Below w.heap.size w wr
theorem TwoC.below {w wr w1 : World} {b1 : Nat} {m r : Int} (h : TwoC w wr b1 m r) (k : Below wr.heap.size wr w1) : TwoC w w1 b1 m r := ⟨h.res.below k, h.mkg.below k, h.ne, h.gt, h.low.trans (k.mono h.low.size)⟩
theorem TwoC.setR {w wr : World} {b1 : Nat} {m r : Int} (h : TwoC w wr b1 m r) (x : Int) : TwoC w (wr.setCell ⟨b1, 1, none⟩ (.int .i64 x)) b1 m x := ⟨h.res.apart _ _ (fun e => h.ne e.symm), h.mkg.set 1 (.int .i64 x) (by simp), h.ne, h.gt, h.low.setCell h.gt _⟩
theorem TwoC.setM {w wr : World} {b1 : Nat} {m r : Int} (h : TwoC w wr b1 m r) (x : Int) : TwoC w (wr.setCell ⟨b1, 0, none⟩ (.int .i64 x)) b1 x r := ⟨h.res.apart _ _ (fun e => h.ne e.symm), h.mkg.set 0 (.int .i64 x) (by simp), h.ne, h.gt, h.low.setCell h.gt _⟩
theorem results_ct {fn : Func} {p u : Tmp} {T : TypeId} (h : fn.results = #[.cell p T, .tmp u]) (tmps : Array Value) (w : World) (b : Nat) (x : Value) (hp : tmps.getD p undef = .pointer (some ⟨b, 0, none⟩)) (hl : (loadVar T ⟨b, 0, none⟩).run Try.prog w = .ok x w) :
    (results fn tmps).run Try.prog w = .ok (.tuple #[x, tmps.getD u undef]) w := by
  have hp' : tmps[p]?.getD undef = .pointer (some ⟨b, 0, none⟩) := by simpa using hp
  simp [results, h, hp', asAddr, hl, Result.andThen]
end Go.Proofs.Ytmlafdehhbhbiaa
