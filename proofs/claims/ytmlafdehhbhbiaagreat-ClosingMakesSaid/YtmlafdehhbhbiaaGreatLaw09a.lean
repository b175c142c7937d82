/- The document's example of chapter 9; tables that a law made; EnactErrors, EnactLater: their walks. -/
import Derived.Test.YtmlafdehhbhbiaaGreatM4
import Derived.Test.YtmlafdehhbhbiaaGreatM1
import Derived.WalkKit
import Derived.WalkSpells
import Derived.WalkLawsBesides
import Derived.Lib.Hide
import Derived.IntWalk
import Derived.Laws.StructEq
import Derived.Deep.LoopGhost
namespace Go.Proofs.YtmlafdehhbhbiaaGreat
open Go.RowKit
structure NowT (E : TypeId) (w0 w : World) (O : Nat → Nat) (t sb n : Nat) (R : Nat → Rt) : Prop where
 st : ∃ v, TabV E w O w0.heap.size t sb v n R
 fin : Fin0 w0.heap.size O w
 low : Below w0.heap.size w0 w
section
variable {w0 w w1 : World} {O O1 : Nat → Nat} {t t' sb n : Nat} {R : Nat → Rt} {E : TypeId}
theorem NowT.below (h : NowT E w0 w O t sb n R) (k : Below w.heap.size w w1) : NowT E w0 w1 O t sb n R := by
 obtain ⟨v, s⟩ := h.st
 exact ⟨⟨v, s.below k⟩, h.fin.below k, h.low.trans (k.mono h.low.size)⟩
theorem NowT.step (h : NowT E w0 w O t sb n R) (k : Step w0.heap.size O t' w O1 w1) (h1 : t ≠ t') (h2 : t' ≠ 0) : NowT E w0 w1 O1 t sb n R := by
 obtain ⟨v, s⟩ := h.st
 exact ⟨⟨v, s.step k h1⟩, k.fin, h.low.trans (k.below h.fin h2 h.low.size)⟩
theorem NowT.inv (h : NowT E w0 w O t sb n R) : TInv n R := by
 obtain ⟨v, s⟩ := h.st
 exact s.inv
theorem nowt_new (w0 w : World) (O : Nat → Nat) (fn : Fin0 w0.heap.size O w) (lo : Below w0.heap.size w0 w) (E T : TypeId) (t : Nat) (R : Nat → Rt) :
   NowT E w0 (w.alloc (.cells #[.slice none 0 0] T)) (mark O t w.heap.size) t w.heap.size 0 R ∧ ∀ t', Step w0.heap.size O t' w (mark O t w.heap.size) (w.alloc (.cells #[.slice none 0 0] T)) := by
 obtain ⟨a, b⟩ := TabV.new (t := t) fn lo.size E T R
 exact ⟨⟨⟨_, a⟩, (b 0).fin, lo.alloc lo.size _⟩, b⟩
theorem nadd_ok (h : NowT 144 w0 w O t sb n R) (ht : t ≠ 0) (x : Rt) (he : TErr R n x.j x.y x.r x.p 0) :
   Calls Tryz.prog 31 #[ptr sb, .string x.j, .int .i64 x.y, .int .i64 x.r, .int .i64 x.p] w fun e' w' => e' = .returned (.int .i64 0) ∧ ∃ O', NowT 144 w0 w' O' t sb (n + 1) (pushT R n x) ∧ Step w0.heap.size O t w O' w' := by
 obtain ⟨v, s⟩ := h.st
 refine (eadd_ok s h.fin h.low.size x he).mono ?_
 rintro e w' ⟨rfl, v', O', a, b⟩
 exact ⟨rfl, O', ⟨⟨_, a⟩, b.fin, h.low.trans (b.below h.fin ht h.low.size)⟩, b⟩
end
def rno : Nat → Rt := fun _ => ⟨⟨#[]⟩, 0, 0, 0⟩
theorem known_none (R : Nat → Rt) (j : ByteArray) (y p : Int) : Known R 0 j y p 0 false := .inr ⟨rfl, rfl, fun k h => by omega⟩
theorem terr_first (R : Nat → Rt) {j : ByteArray} {y r p : Int} (h : ROk j y r p) : TErr R 0 j y r p 0 := .ok h (fun ⟨k, hk, _⟩ => by omega) (by omega)
def rA : Nat → Rt := fun k => ⟨⟨#[97]⟩, k, 1000 * k, k⟩
end Go.Proofs.YtmlafdehhbhbiaaGreat
