/- The document's own store: Post, whatever is posted; a new one: a contract. -/
import Derived.Test.YtpbpflhoeidpnaaRPost2
import Derived.Test.YtpbpflhoeidpnaaRPost3
import Derived.Test.YtpbpflhoeidpnaaLaw07a
namespace Go.Proofs.Ytpbpflhoeidpnaa
open Go.RowKit

/-- a journal that is taken by the document's store -/
theorem lrpost_ok {w0 w : World} {O : Nat → Nat} {t sb n : Nat} {js : Nat → Jn} (h : Now w0 w O t sb n js) (ht : t ≠ 0) (hn : n ≤ 40) (ent : ByteArray) (p kd of : Int) (m : Nat) (ga gm : Nat → Int) (l : Value) (hl : SomeL l w m ga gm) (hp : PErr js n ent p kd of m ga gm 0) :
    Calls Try.prog 25 #[ptr sb, .string ent, .int .i64 p, .int .i64 kd, .int .i64 of, l] w fun r w' => r = .returned (.tuple #[.int .i64 ((n : Int) + 1), .int .i64 0]) ∧
      ∃ O', Now w0 w' O' t sb (n + 1) (pushJ js n ⟨(n : Int) + 1, ent, p, kd, of, m, ga, gm⟩) ∧ Step w0.heap.size O t w O' w' := by
  obtain ⟨v, L, s⟩ := h.st
  have iv := s.inv.push (s := (n : Int) + 1) hp
  have fin : ∀ (r : Ending) (w' : World), (r = Ending.returned (.tuple #[.int .i64 ((n : Int) + 1), .int .i64 0]) ∧ ∃ O', St w' O' w0.heap.size t sb (n + 1) (pushJ js n ⟨(n : Int) + 1, ent, p, kd, of, m, ga, gm⟩) ∧ Step w0.heap.size O t w O' w') →
      r = Ending.returned (.tuple #[.int .i64 ((n : Int) + 1), .int .i64 0]) ∧ ∃ O', Now w0 w' O' t sb (n + 1) (pushJ js n ⟨(n : Int) + 1, ent, p, kd, of, m, ga, gm⟩) ∧ Step w0.heap.size O t w O' w' := by
    rintro r w' ⟨rfl, O', a, b⟩
    exact ⟨rfl, O', ⟨a, b.fin, h.low.trans (b.below h.fin ht h.low.size)⟩, b⟩
  cases hp with
  | ok1 a b c d e => exact (rpost_ok1 s h.fin ht h.low.size hn ent p kd of m ga gm l hl a b c e iv).mono fin
  | ok2 k a b c d e f g i j => exact (rpost_ok2 s h.fin ht h.low.size hn ent p kd of m ga gm l hl a b k c d e f g j iv).mono fin
theorem lrpost_no {w0 w : World} {O : Nat → Nat} {t sb n : Nat} {js : Nat → Jn} (h : Now w0 w O t sb n js) (hn : n ≤ 40) (ent : ByteArray) (p kd of : Int) (m : Nat) (ga gm : Nat → Int) (l : Value) (e : Int) (hl : SomeL l w m ga gm) (hln : m ≤ 1000000) (hp : PErr js n ent p kd of m ga gm e) (he : e ≠ 0) :
    Calls Try.prog 25 #[ptr sb, .string ent, .int .i64 p, .int .i64 kd, .int .i64 of, l] w fun r w' => r = .returned (.tuple #[.int .i64 0, .int .i64 e]) ∧ Below w.heap.size w w' := by
  obtain ⟨v, L, s⟩ := h.st
  have hp' := hp
  cases hp with
  | arg _ => exact rpost_no s hn ent p kd of m ga gm l _ hl hln hp' (by omega)
  | none _ _ _ => exact rpost_no s hn ent p kd of m ga gm l _ hl hln hp' (by omega)
  | there _ _ _ _ _ _ => exact rpost_no s hn ent p kd of m ga gm l _ hl hln hp' (by omega)
  | form1 _ _ _ => exact rpost_no s hn ent p kd of m ga gm l _ hl hln hp' (by omega)
  | form2 _ _ _ _ _ _ _ => exact rpost_no s hn ent p kd of m ga gm l _ hl hln hp' (by omega)
  | limit1 _ _ _ h => omega
  | limit2 _ _ _ _ _ _ _ _ h => omega
  | over1 a b c d e => exact rpost_over1 s hn ent p kd of m ga gm l hl a b c e
  | over2 k a b c d e f g i j => exact rpost_over2 s hn ent p kd of m ga gm l hl a b k c d e f g j
  | ok1 _ _ _ _ _ => omega
  | ok2 _ _ _ _ _ _ _ _ _ _ => omega
end Go.Proofs.Ytpbpflhoeidpnaa
