/- Package rate's Sum: a contract, for lists of up to a million numbers. -/
import Derived.Test.YtdchihhekmbeiaaSums
import Derived.WalkKit
import Derived.WalkSpells
import Derived.WalkLawsBesides
import Derived.Lib.Hide
import Derived.Laws.Externs
import Derived.Deep.QuietTactic
import Derived.BigQuiet
namespace Go.Proofs.Ytdchihhekmbeiaa
open Go.RowKit

/-- at the head of a round: k numbers are summed, all amounts; their total stands in block s, in two halves -/
def SumAt (w : World) (s : Nat) (g : Nat → Int) (k : Nat) (wr : World) : Prop :=
  (∀ j, j < k → Mon (g j)) ∧ s < wr.heap.size ∧ wr.cell? ⟨s, 0, none⟩ = some (.int .u64 (hiOf (tot g k))) ∧ wr.cell? ⟨s, 1, none⟩ = some (.int .u64 (loOf (tot g k))) ∧
    wr.frozen? ⟨s, 0, none⟩ = false ∧ wr.frozen? ⟨s, 1, none⟩ = false ∧ Below s w wr
theorem SumAt.next {w w1 wr : World} {s k : Nat} {g : Nat → Int} {u v : Value} (hM : ∀ j, j < k → Mon (g j)) (hm : Mon (g k)) (hs : s < wr.heap.size) (hb1 : Below wr.heap.size wr w1)
    (d0 : w1.cell? ⟨s, 0, none⟩ = some u) (d1 : w1.cell? ⟨s, 1, none⟩ = some v) (d2 : w1.frozen? ⟨s, 0, none⟩ = false) (d3 : w1.frozen? ⟨s, 1, none⟩ = false) (hbw : Below s w wr) :
    SumAt w s g (k + 1) ((w1.setCell ⟨s, 0, none⟩ (.int .u64 (hiOf (tot g k + g k)))).setCell ⟨s, 1, none⟩ (.int .u64 (loOf (tot g k + g k)))) := by
  have d1' : (w1.setCell ⟨s, 0, none⟩ (.int .u64 (hiOf (tot g k + g k)))).cell? ⟨s, 1, none⟩ = some v := by
    rw [World.cell?_setCell_other _ _ _ _ (by simp)]; exact d1
  refine ⟨fun j hj => ?_, ?_, ?_, ?_, ?_, ?_, ?_⟩
  · rcases Nat.lt_or_ge j k with h | h
    · exact hM j h
    · rw [show j = k by omega]; exact hm
  · have := hb1.size; simp; omega
  · rw [World.cell?_setCell_other _ _ _ _ (by simp)]
    exact World.cell?_setCell_same _ _ _ d0
  · exact World.cell?_setCell_same _ _ _ d1'
  · simpa using d2
  · simpa using d3
  · exact ((hbw.trans (hb1.mono (by omega))).setCell (Nat.le_refl _) _).setCell (Nat.le_refl _) _
end Go.Proofs.Ytdchihhekmbeiaa
