/- Package enact: Rate, Rows, Clone: a contract for each. -/
import Derived.Test.YtdchihhekmbeiaaEnact
import Derived.WalkKit
import Derived.WalkSpells
import Derived.WalkLawsBesides
import Derived.Lib.Hide
import Derived.IntWalk
import Derived.Lib.LazyBuf
import Derived.Deep.LoopGhost
import Derived.Deep.QuietTactic
import Derived.BigQuiet
import Derived.Deep.RegionHeld3
import Derived.Deep.RegionLaw
namespace Go.Proofs.Ytdchihhekmbeiaa
open Go.RowKit

section
variable {w w1 : World} {O O1 : Nat → Nat} {base t t' sb n : Nat} {v : Value} {R : Nat → Rt} {E : TypeId}
/-- the later one holds -/
def Sup (x b : Rt) : Prop := b.y < x.y ∨ (x.y = b.y ∧ b.p < x.p)
/-- the best row so far lies in a block of the call's own -/
structure EBest (w wr : World) (R : Nat → Rt) (k : Nat) (j : ByteArray) (y p : Int) (f : Bool) (X : Rt) : Prop where
  best : (f = true ∧ ∃ i : Nat, BestAt R k j y p i ∧ X = R i) ∨ (f = false ∧ BestAt R k j y p (-1) ∧ X.r = 0)
  cell : ∀ i u, (re X)[i]? = some u → wr.cell? ⟨w.heap.size, i, none⟩ = some u
  frz : ∀ i, wr.frozen? ⟨w.heap.size, i, none⟩ = false
  lt : w.heap.size < wr.heap.size
  low : Below w.heap.size w wr
theorem EBest.moved {wr w2 : World} {k : Nat} {j : ByteArray} {y p : Int} {f : Bool} {X : Rt} (h : EBest w wr R k j y p f X) (b : Below wr.heap.size wr w2) {f' : Bool}
    (e : (f' = true ∧ ∃ i : Nat, BestAt R (k + 1) j y p i ∧ X = R i) ∨ (f' = false ∧ BestAt R (k + 1) j y p (-1) ∧ X.r = 0)) : EBest w w2 R (k + 1) j y p f' X :=
  ⟨e, fun i u hu => cell_keep (h.cell i u hu) b, fun i => (b.frozen (p := ⟨w.heap.size, i, none⟩) h.lt).trans (h.frz i), Nat.lt_of_lt_of_le h.lt b.size, h.low.trans (b.mono h.low.size)⟩
theorem EBest.over {wr w2 : World} {k : Nat} {j : ByteArray} {y p : Int} {f : Bool} {X : Rt} (h : EBest w wr R k j y p f X) (b : Below wr.heap.size wr w2) : EBest w w2 R k j y p f X :=
  ⟨h.best, fun i u hu => cell_keep (h.cell i u hu) b, fun i => (b.frozen (p := ⟨w.heap.size, i, none⟩) h.lt).trans (h.frz i), Nat.lt_of_lt_of_le h.lt b.size, h.low.trans (b.mono h.low.size)⟩
theorem EBest.skip {wr w2 : World} {k : Nat} {j : ByteArray} {y p : Int} {f : Bool} {X : Rt} (h : EBest w wr R k j y p f X) (hM : ¬ Mt (R k) j y p) (b : Below wr.heap.size wr w2) : EBest w w2 R (k + 1) j y p f X :=
  h.moved b (by
    rcases h.best with ⟨e, i, hi, hX⟩ | ⟨e, hi, hX⟩
    · exact .inl ⟨e, i, hi.skip hM, hX⟩
    · exact .inr ⟨e, hi.skip hM, hX⟩)
theorem EBest.stay {wr w2 : World} {k : Nat} {j : ByteArray} {y p : Int} {X : Rt} (h : EBest w wr R k j y p true X) (hs : ¬ Sup (R k) X) (b : Below wr.heap.size wr w2) : EBest w w2 R (k + 1) j y p true X :=
  h.moved b (by
    rcases h.best with ⟨e, i, hi, rfl⟩ | ⟨e, _⟩
    · exact .inl ⟨rfl, i, hi.keep (by unfold Sup at hs; unfold Le; omega), rfl⟩
    · cases e)
/-- the four cells of a rate, written -/
def set4 (w : World) (B : Nat) (x : Rt) : World := (((w.setCell ⟨B, 0, none⟩ (.string x.j)).setCell ⟨B, 1, none⟩ (.int .i64 x.y)).setCell ⟨B, 2, none⟩ (.int .i64 x.r)).setCell ⟨B, 3, none⟩ (.int .i64 x.p)
theorem set4_cell {w : World} {B : Nat} {X : Rt} (h : ∀ i u, (re X)[i]? = some u → w.cell? ⟨B, i, none⟩ = some u) (hf : ∀ i, w.frozen? ⟨B, i, none⟩ = false) (hl : B < w.heap.size) (x : Rt) : ∀ i u, (re x)[i]? = some u → (set4 w B x).cell? ⟨B, i, none⟩ = some u :=
  have hd : Head w (fun _ => 0) 0 B (re X) := ⟨h, hf, rfl, hl⟩
  ((((hd.set 0 (.string x.j) (by simp [re])).set 1 (.int .i64 x.y) (by simp [re])).set 2 (.int .i64 x.r) (by simp [re])).set 3 (.int .i64 x.p) (by simp [re])).cell
theorem EBest.take {wr : World} {k : Nat} {j : ByteArray} {y p : Int} {f : Bool} {X : Rt} (h : EBest w wr R k j y p f X) (hM : Mt (R k) j y p) (hs : f = true → Sup (R k) X) : EBest w (set4 wr w.heap.size (R k)) R (k + 1) j y p true (R k) := by
  refine ⟨.inl ⟨rfl, k, ?_, rfl⟩, set4_cell h.cell h.frz h.lt _, fun i => by simpa [set4] using h.frz i, by simpa [set4] using h.lt, ?_⟩
  · rcases h.best with ⟨e, i, hi, rfl⟩ | ⟨_, hi, _⟩
    · refine hi.take hM fun i' e' => ?_
      obtain rfl : i = i' := by omega
      have := hs e
      unfold Sup at this; unfold Le; omega
    · exact hi.take hM fun i e' => by omega
  · exact (((h.low.setCell (Nat.le_refl _) _).setCell (Nat.le_refl _) _).setCell (Nat.le_refl _) _).setCell (Nat.le_refl _) _
end
end Go.Proofs.Ytdchihhekmbeiaa
