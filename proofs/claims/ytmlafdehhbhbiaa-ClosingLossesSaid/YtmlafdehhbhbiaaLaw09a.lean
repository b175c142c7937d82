/- The document's example of chapter 9; tables that a law made; EnactErrors, EnactLater: their walks. -/
import Derived.Test.YtmlafdehhbhbiaaM4
import Derived.Test.YtmlafdehhbhbiaaM1
import Derived.WalkKit
import Derived.WalkSpells
import Derived.WalkLawsBesides
import Derived.Lib.Hide
import Derived.IntWalk
import Derived.Laws.StructEq
import Derived.Deep.LoopGhost
namespace Go.Proofs.Ytmlafdehhbhbiaa
open Go.RowKit

/-- a table that the law made, of which something is told -/
structure NowT (E : TypeId) (w0 w : World) (O : Nat → Nat) (t sb n : Nat) (R : Nat → Rt) : Prop where
  st : ∃ v, TabV E w O w0.heap.size t sb v n R
  fin : Fin0 w0.heap.size O w
  low : Below w0.heap.size w0 w
section
variable {w0 w w1 : World} {O O1 : Nat → Nat} {t t' sb n : Nat} {R : Nat → Rt} {E : TypeId}
theorem NowT.below (h : NowT E w0 w O t sb n R) (k : Below w.heap.size w w1) : NowT E w0 w1 O t sb n R := by
  obtain ⟨v, s⟩ := h.st
  exact ⟨⟨v, s.below k⟩, h.fin.below k, h.low.trans (k.mono h.low.size)⟩
theorem NowT.step (h : NowT E w0 w O t sb n R) (k : Step w0.heap.size O t' w O1 w1) (h1 : t ≠ t') (h2 : t' ≠ 0) : NowT E w0 w1 O1 t sb n R := by
  obtain ⟨v, s⟩ := h.st
  exact ⟨⟨v, s.step k h1⟩, k.fin, h.low.trans (k.below h.fin h2 h.low.size)⟩
theorem NowT.inv (h : NowT E w0 w O t sb n R) : TInv n R := by
  obtain ⟨v, s⟩ := h.st
  exact s.inv
theorem nowt_new (w0 w : World) (O : Nat → Nat) (fn : Fin0 w0.heap.size O w) (lo : Below w0.heap.size w0 w) (E T : TypeId) (t : Nat) (R : Nat → Rt) :
    NowT E w0 (w.alloc (.cells #[.slice none 0 0] T)) (mark O t w.heap.size) t w.heap.size 0 R ∧ ∀ t', Step w0.heap.size O t' w (mark O t w.heap.size) (w.alloc (.cells #[.slice none 0 0] T)) := by
  obtain ⟨a, b⟩ := TabV.new (t := t) fn lo.size E T R
  exact ⟨⟨⟨_, a⟩, (b 0).fin, lo.alloc lo.size _⟩, b⟩
theorem nadd_no (h : NowT 57 w0 w O t sb n R) (x : Rt) (e : Int) (he : TErr R n x.j x.y x.r x.p e) (h0 : e ≠ 0) :
    Calls Try.prog 6 #[ptr sb, .string x.j, .int .i64 x.y, .int .i64 x.r, .int .i64 x.p] w fun e' w' => e' = .returned (.int .i64 e) ∧ Below w.heap.size w w' := by
  obtain ⟨v, s⟩ := h.st
  exact eadd_no s x e he h0
theorem nadd_ok (h : NowT 57 w0 w O t sb n R) (ht : t ≠ 0) (x : Rt) (he : TErr R n x.j x.y x.r x.p 0) :
    Calls Try.prog 6 #[ptr sb, .string x.j, .int .i64 x.y, .int .i64 x.r, .int .i64 x.p] w fun e' w' => e' = .returned (.int .i64 0) ∧ ∃ O', NowT 57 w0 w' O' t sb (n + 1) (pushT R n x) ∧ Step w0.heap.size O t w O' w' := by
  obtain ⟨v, s⟩ := h.st
  refine (eadd_ok s h.fin h.low.size x he).mono ?_
  rintro e w' ⟨rfl, v', O', a, b⟩
  exact ⟨rfl, O', ⟨⟨_, a⟩, b.fin, h.low.trans (b.below h.fin ht h.low.size)⟩, b⟩
theorem nrate (h : NowT 57 w0 w O t sb n R) (j : ByteArray) (y p r : Int) (ok : Bool) (hk : Known R n j y p r ok) :
    Calls Try.prog 22 #[ptr sb, .string j, .int .i64 y, .int .i64 p] w fun e w' => e = .returned (.tuple #[.int .i64 r, .bool ok]) ∧ Below w.heap.size w w' := by
  obtain ⟨v, s⟩ := h.st
  exact erate_any s j y p r ok hk
end
/-- no rates at all -/
def rno : Nat → Rt := fun _ => ⟨⟨#[]⟩, 0, 0, 0⟩
theorem known_none (R : Nat → Rt) (j : ByteArray) (y p : Int) : Known R 0 j y p 0 false := .inr ⟨rfl, rfl, fun k h => by omega⟩
theorem terr_first (R : Nat → Rt) {j : ByteArray} {y r p : Int} (h : ROk j y r p) : TErr R 0 j y r p 0 := .ok h (fun ⟨k, hk, _⟩ => by omega) (by omega)
/-- the rates of EnactErrors -/
def rA : Nat → Rt := fun k => ⟨⟨#[97]⟩, k, 1000 * k, k⟩
theorem rA_push (k : Nat) : pushT rA k (rA k) = rA := by
  funext j
  unfold pushT
  split
  · rename_i h; rw [h]
  · rfl
theorem rA_ok {k : Nat} (h : k < 24) : TErr rA k ⟨#[97]⟩ k (1000 * k) k 0 :=
  .ok ⟨by decide, by omega, by omega, by omega, by omega, by omega, by omega⟩ (fun ⟨i, hi, _, e, _⟩ => by
    have e' : (i : Int) = k := e
    omega) (by omega)
theorem rA_known {q : Nat} {y p : Int} (hq : q < 24) (h : (y = q ∧ (q : Int) ≤ p) ∨ (p = q ∧ (q : Int) ≤ y)) : Known rA 24 ⟨#[97]⟩ y p (1000 * q) true := by
  refine .inl ⟨rfl, q, hq, ⟨rfl, ?_, ?_⟩, fun k hk hM => ?_, rfl⟩
  · show (q : Int) ≤ y
    omega
  · show (q : Int) ≤ p
    omega
  · obtain ⟨_, h1, h2⟩ := hM
    have h1' : (k : Int) ≤ y := h1
    have h2' : (k : Int) ≤ p := h2
    show (k : Int) < q ∨ ((k : Int) = q ∧ (k : Int) ≤ q)
    omega
theorem rA_there {q : Nat} (hq : q < 24) : TErr rA 24 ⟨#[97]⟩ q 1 q 4 := .there ⟨by decide, by omega, by omega, by omega, by omega, by omega, by omega⟩ ⟨q, hq, rfl, rfl, rfl⟩
theorem rA_limit : TErr rA 24 ⟨#[97]⟩ 90 1 1 5 := .limit ⟨by decide, by omega, by omega, by omega, by omega, by omega, by omega⟩ (fun ⟨i, _, _, e1, e2⟩ => by
    have e1' : (i : Int) = 90 := e1
    have e2' : (i : Int) = 1 := e2
    omega) rfl
end Go.Proofs.Ytmlafdehhbhbiaa
