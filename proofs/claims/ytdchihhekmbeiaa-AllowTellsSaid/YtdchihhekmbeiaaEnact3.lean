/- Package enact: Add: a contract, by why a rate is refused. -/
import Derived.Test.YtdchihhekmbeiaaEnact2
import Derived.WalkKit
import Derived.WalkSpells
import Derived.WalkLawsBesides
import Derived.Lib.Hide
import Derived.IntWalk
import Derived.Deep.LoopGhost
import Derived.Deep.QuietTactic
import Derived.BigQuiet
import Derived.Deep.RegionHeld3
import Derived.Deep.RegionLaw
namespace Go.Proofs.Ytdchihhekmbeiaa
open Go.RowKit

section
variable {w w1 : World} {O O1 : Nat → Nat} {base t t' sb n : Nat} {v : Value} {R : Nat → Rt} {E : TypeId}
/-- one rate more -/
theorem TabV.pushed (s : TabV E w O base t sb v n R) (fn : Fin0 base O w) {x : Rt} (hx : TErr R n x.j x.y x.r x.p 0) {w2 : World} {b2 c2 H : Nat} (b1 : Below w.heap.size w w1) (g : w1.grownBy w2 v.ownBlock)
    (o2 : OwnR re 4 w2 E base (.slice (some ⟨b2, 0, none⟩) (n + 1) c2) (n + 1) (fun j => if j = n then x else R j)) (hat : v.ownBlock = some b2 ∨ b2 = H) (hH : w1.heap.size ≤ H) :
    TabV E (w2.setCell ⟨sb, 0, none⟩ (.slice (some ⟨b2, 0, none⟩) (n + 1) c2)) (mark O t b2) base t sb (.slice (some ⟨b2, 0, none⟩) (n + 1) c2) (n + 1) (pushT R n x) ∧
      Step base O t w (mark O t b2) (w2.setCell ⟨sb, 0, none⟩ (.slice (some ⟨b2, 0, none⟩) (n + 1) c2)) := by
  have hd1 := s.hd.below b1
  have hl := World.ownsRow.lt o2 b2 rfl
  have hne : b2 ≠ sb := by
    rcases hat with q | q
    · exact (s.row.tag b2 q).2
    · have := hd1.lt; omega
  have k1 := Step.of_below (t := t) fn b1
  have k2 := Step.grown (t := t) k1.fin g (fun b hb => (s.row.tag b hb).1) hat hH hl.1 hl.2
  have hd2 := (hd1.block (O1 := O) (g.block sb hd1.lt fun e => (s.row.tag sb e.symm).2 rfl) g.size rfl).marked b2
  have k3 := Step.set (t := t) k2.fin 0 (.slice (some ⟨b2, 0, none⟩) (n + 1) c2) hd2.tag
  have hd3 := hd2.set 0 (.slice (some ⟨b2, 0, none⟩) (n + 1) c2) (by simp)
  refine ⟨⟨hd3, ⟨?_, fun b hb => ?_⟩, s.inv.push hx⟩, k1.trans (k2.trans k3)⟩
  · refine own_blocks o2 fun b hb => ?_
    have : b2 = b := by simpa [Value.ownBlock] using hb
    subst this
    exact Below.heap_setCell _ _ _ _ hne
  · have : b2 = b := by simpa [Value.ownBlock] using hb
    subst this
    exact ⟨mark_at _ _ _, hne⟩
end
end Go.Proofs.Ytdchihhekmbeiaa
