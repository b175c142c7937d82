/- Rows of buckets told alike; the document's own register in a law's hands: Move, Reclass, Get, Total. -/
import Derived.Test.YtolmdoigcaaieaaRBucket4
import Derived.WalkKit
import Derived.WalkSpells
import Derived.WalkLawsBesides
import Derived.Lib.Hide
import Derived.IntWalk
import Derived.Laws.StructEq
import Derived.Deep.LoopGhost
import Derived.Deep.QuietTactic
import Derived.BigQuiet
namespace Go.Proofs.Ytolmdoigcaaieaa
open Go.RowKit

/-- what is in the buckets behind an answer -/
def mvS (e : Int) (S : Int → Int → Int) (c y a : Int) : Int → Int → Int := if e = 0 then upS S c y (S c y + a) else S
def rcS (e : Int) (S : Int → Int → Int) (c y c' y' a : Int) : Int → Int → Int := if e = 0 then upS (upS S c y (S c y - a)) c' y' (S c' y' + a) else S
/-- the document's register in a law's hands -/
structure NowB (w0 w : World) (O : Nat → Nat) (t sb : Nat) (S : Int → Int → Int) : Prop where
  st : ∃ v n g, BV w O w0.heap.size t sb v n g ∧ BInv S n g
  fin : Fin0 w0.heap.size O w
  low : Below w0.heap.size w0 w
section
variable {w0 w w1 : World} {O O1 : Nat → Nat} {t t' sb n : Nat} {g : Nat → Bk} {S : Int → Int → Int}
theorem NowB.below (h : NowB w0 w O t sb S) (k : Below w.heap.size w w1) : NowB w0 w1 O t sb S := by
  obtain ⟨v, n, g, s, iv⟩ := h.st
  exact ⟨⟨v, n, g, s.below k, iv⟩, h.fin.below k, h.low.trans (k.mono h.low.size)⟩
theorem NowB.step (h : NowB w0 w O t sb S) (k : Step w0.heap.size O t' w O1 w1) (h1 : t ≠ t') (h2 : t' ≠ 0) : NowB w0 w1 O1 t sb S := by
  obtain ⟨v, n, g, s, iv⟩ := h.st
  exact ⟨⟨v, n, g, s.step k h1, iv⟩, k.fin, h.low.trans (k.below h.fin h2 h.low.size)⟩
theorem nowb_new (w0 w : World) (O : Nat → Nat) (fn : Fin0 w0.heap.size O w) (lo : Below w0.heap.size w0 w) (T : TypeId) (t : Nat) :
    NowB w0 (w.alloc (.cells #[.slice none 0 0] T)) (mark O t w.heap.size) t w.heap.size (fun _ _ => 0) ∧ ∀ t', Step w0.heap.size O t' w (mark O t w.heap.size) (w.alloc (.cells #[.slice none 0 0] T)) := by
  obtain ⟨a, b⟩ := BV.new (t := t) fn lo.size T (fun _ => ⟨0, 0, 0⟩)
  exact ⟨⟨⟨_, _, _, a, BInv.zero _⟩, (b 0).fin, lo.alloc lo.size _⟩, b⟩
/-- how many buckets there are, and what they come to -/
theorem NowB.told (h : NowB w0 w O t sb S) : ∃ n g, BInv S n g := by
  obtain ⟨v, n, g, _, iv⟩ := h.st
  exact ⟨n, g, iv⟩
theorem nbget (h : NowB w0 w O t sb S) (c y : Int) :
    Calls Try.prog 23 #[ptr sb, .int .i64 c, .int .i64 y] w fun e w' => e = .returned (.int .i64 (S c y)) ∧ Below w.heap.size w w' := by
  obtain ⟨v, n, g, s, iv⟩ := h.st
  exact rbget s iv.is (by have := iv.le; omega) c y
theorem nbtotal (h : NowB w0 w O t sb S) {m : Nat} {g' : Nat → Bk} (b : BIs S m g') :
    Calls Try.prog 37 #[ptr sb] w fun e w' => e = .returned (.int .i64 (btot g' m)) ∧ Below w.heap.size w w' := by
  obtain ⟨v, n, g, s, iv⟩ := h.st
  rw [← iv.is.total b]
  exact rbtotal s (by have := iv.le; omega) fun j hj => iv.is.mon iv.mon hj
theorem nbmove (h : NowB w0 w O t sb S) (ht : t ≠ 0) {m : Nat} {g' : Nat → Bk} (b : BIs S m g') (c y a e : Int) (he : MErr S m (btot g' m) c y a e) :
    Calls Try.prog 22 #[ptr sb, .int .i64 c, .int .i64 y, .int .i64 a] w fun e' w' => e' = .returned (.int .i64 e) ∧ ∃ O', NowB w0 w' O' t sb (mvS e S c y a) ∧ Step w0.heap.size O t w O' w' := by
  obtain ⟨v, n, g, s, iv⟩ := h.st
  rw [← iv.is.total b, ← (iv.is.uniq b).1] at he
  by_cases h0 : e = 1 ∨ e = 6
  · refine (rbmove_no s iv c y a e he h0).mono ?_
    rintro e' w' ⟨rfl, hb⟩
    refine ⟨rfl, O, ?_, Step.of_below h.fin hb⟩
    unfold mvS
    rw [if_neg (by omega)]
    exact h.below hb
  · cases he
    case arg => omega
    case over => omega
    case limit h1 h2 h3 =>
      refine (rbmove_right s iv h.fin h.low.size c y a h1 h2).mono ?_
      rintro e' w' (⟨_, rfl, hb⟩ | ⟨h4, _⟩)
      · exact ⟨rfl, O, h.below hb, Step.of_below h.fin hb⟩
      · omega
    case ok h1 h2 h3 =>
      refine (rbmove_right s iv h.fin h.low.size c y a h1 h2).mono ?_
      rintro e' w' (⟨h4, _⟩ | ⟨_, rfl, v', m', g2, O', s', iv', st⟩)
      · omega
      · exact ⟨rfl, O', ⟨⟨_, _, _, s', iv'⟩, st.fin, h.low.trans (st.below h.fin ht h.low.size)⟩, st⟩
end
end Go.Proofs.Ytolmdoigcaaieaa
