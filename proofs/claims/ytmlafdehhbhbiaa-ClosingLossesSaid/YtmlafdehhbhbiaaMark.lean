/- Other marks: objects seen under marks that tell of more; what a call made, taken among what lives on; rows that nobody writes. -/
import Derived.Test.YtmlafdehhbhbiaaLaw09a
import Derived.Test.YtmlafdehhbhbiaaM11
import Derived.Test.YtmlafdehhbhbiaaM10
import Derived.Test.YtmlafdehhbhbiaaMkMath
namespace Go.Proofs.Ytmlafdehhbhbiaa
open Go.RowKit
section
variable {w0 w1 w w' : World} {O O1 O2 : Nat → Nat} {base base2 t t2 sb n size : Nat} {E : TypeId} {v : Value} {xs ys : List Value}
set_option maxRecDepth 100000 in
theorem Head.marks (h : Head w O t sb xs) (e : ∀ k, O k = t → O2 k = t2) : Head w O2 t2 sb xs := ⟨h.cell, h.frz, e _ h.tag, h.lt⟩
set_option maxRecDepth 100000 in
theorem RowT.marks (h : RowT w O base t sb E size v n ys) (e : ∀ k, O k = t → O2 k = t2) (hb : base2 ≤ base) : RowT w O2 base2 t2 sb E size v n ys :=
  ⟨own_mono h.own hb, fun b q => ⟨e b (h.tag b q).1, (h.tag b q).2⟩⟩
set_option maxRecDepth 100000 in
theorem NowT.marks {R : Nat → Rt} (h : NowT E w1 w O t sb n R) (e : ∀ k, O k = t → O2 k = t2) (f : Fin0 w0.heap.size O2 w) (lo : Below w0.heap.size w0 w) (hb : w0.heap.size ≤ w1.heap.size) : NowT E w0 w O2 t2 sb n R := by
  obtain ⟨v, s⟩ := h.st
  exact ⟨⟨v, s.hd.marks e, s.row.marks e hb, s.inv⟩, f, lo⟩
set_option maxRecDepth 100000 in
theorem NowB.marks {S : Int → Int → Int} (h : NowB w1 w O t sb S) (e : ∀ k, O k = t → O2 k = t2) (f : Fin0 w0.heap.size O2 w) (lo : Below w0.heap.size w0 w) (hb : w0.heap.size ≤ w1.heap.size) : NowB w0 w O2 t2 sb S := by
  obtain ⟨v, n, g, s, iv⟩ := h.st
  exact ⟨⟨v, n, g, ⟨s.hd.marks e, s.row.marks e hb⟩, iv⟩, f, lo⟩
set_option maxRecDepth 100000 in
theorem NowL.marks {S : Int → Int → Int} (h : NowL w1 w O t sb S) (e : ∀ k, O k = t → O2 k = t2) (f : Fin0 w0.heap.size O2 w) (lo : Below w0.heap.size w0 w) (hb : w0.heap.size ≤ w1.heap.size) : NowL w0 w O2 t2 sb S := by
  obtain ⟨v, n, g, s, iv⟩ := h.st
  exact ⟨⟨v, n, g, ⟨s.hd.marks e, s.row.marks e hb⟩, iv⟩, f, lo⟩
end
/-- marks of before a call (which began with z blocks), and what the call marked with 1 under t -/
def joinO (O O' : Nat → Nat) (z t : Nat) : Nat → Nat := fun k => if k < z then O k else if O' k = 1 then t else 0
section
variable {w w' : World} {O O' : Nat → Nat} {base z t t' : Nat}
theorem join_old (f : ∀ k, z ≤ k → O k = 0) (ht : t' ≠ 0) : ∀ k, O k = t' → joinO O O' z t k = t' := fun k e => by
  unfold joinO
  rw [if_pos]
  · exact e
  · refine Nat.lt_of_not_le fun q => ?_
    rw [f k q] at e; exact ht e.symm
theorem join_new (f : ∀ k, k < z → O' k = 0) : ∀ k, O' k = 1 → joinO O O' z t k = t := fun k e => by
  unfold joinO
  rw [if_neg, if_pos e]
  intro q
  rw [f k q] at e; cases e
theorem join_fin (f : Fin0 base O w) (hb : base ≤ z) (f' : Fin0 z O' w') (hs : z ≤ w'.heap.size) : Fin0 base (joinO O O' z t) w' := by
  refine ⟨fun k hk => ?_, fun k hk => ?_⟩
  · unfold joinO; rw [if_pos (by omega)]; exact f.1 k hk
  · unfold joinO; rw [if_neg (by omega), f'.2 k hk, if_neg (by decide)]
theorem join_free {b : Nat} (h : z ≤ b) (h0 : O' b = 0) : joinO O O' z t b = 0 := by
  unfold joinO; rw [if_neg (by omega), h0, if_neg (by decide)]
end
/-- an address in a block from z on, which bears no mark -/
def Free (O : Nat → Nat) (z : Nat) (w : World) (A : Option Addr) : Prop := ∀ b off, A = some ⟨b, off, none⟩ → z ≤ b ∧ b < w.heap.size ∧ O b = 0
section
variable {w w1 w' : World} {O O1 O' : Nat → Nat} {base z z' t n k : Nat} {A : Option Addr} {α : Type} {enc : α → List Value} {g : Nat → α}
theorem Free.none (O : Nat → Nat) (z : Nat) (w : World) : Free O z w none := fun _ _ e => by cases e
theorem Free.step (h : Free O z w A) (st : Step base O t w O1 w1) : Free O1 z w1 A := fun b off e => by
  obtain ⟨h1, h2, h3⟩ := h b off e
  exact ⟨h1, Nat.lt_of_lt_of_le h2 st.kept.size, by rw [st.ext b h2]; exact h3⟩
theorem Free.below (h : Free O z w A) (kb : Below w.heap.size w w1) : Free O z w1 A := fun b off e => by
  obtain ⟨h1, h2, h3⟩ := h b off e
  exact ⟨h1, Nat.lt_of_lt_of_le h2 kb.size, h3⟩
theorem Free.join (h : Free O' z w A) (hz : z' ≤ z) : Free (joinO O O' z t) z' w A := fun b off e => by
  obtain ⟨h1, h2, h3⟩ := h b off e
  exact ⟨by omega, h2, join_free h1 h3⟩
theorem Free.old (h : Free O z' w A) (hA : ∀ b off, A = some ⟨b, off, .none⟩ → b < z) : Free (joinO O O' z t) z' w A := fun b off e => by
  obtain ⟨h1, h2, h3⟩ := h b off e
  exact ⟨h1, h2, by unfold joinO; rw [if_pos (hA b off e)]; exact h3⟩
theorem AtR.free (r : AtR enc k w A n g) (h : Free O z w A) (st : Step base O t w O1 w1) (ht : t ≠ 0) : AtR enc k w1 A n g := by
  rcases r with r | ⟨b, off, e, hb, hc⟩
  · exact .inl r
  · refine .inr ⟨b, off, e, Nat.lt_of_lt_of_le hb st.kept.size, fun j hj i u hu => ?_⟩
    rw [← hc j hj i u hu]
    refine World.cell?_of_block (a := ⟨b, off + j * k + i, .none⟩) (st.kept.block b hb ?_)
    rw [(h b off e).2.2]; exact fun e => ht e.symm
theorem At.free {g : Nat → Int} (r : At w A n g) (h : Free O z w A) (st : Step base O t w O1 w1) (ht : t ≠ 0) : At w1 A n g := by
  rcases r with r | ⟨b, off, e, hb, hc⟩
  · exact .inl r
  · refine .inr ⟨b, off, e, Nat.lt_of_lt_of_le hb st.kept.size, fun j hj => ?_⟩
    rw [← hc j hj]
    refine World.cell?_of_block (a := ⟨b, off + j, .none⟩) (st.kept.block b hb ?_)
    rw [(h b off e).2.2]; exact fun e => ht e.symm
end
theorem free_cell {base t X o : Nat} {O O1 : Nat → Nat} {w w1 : World} {u : Value} (s : Step base O t w O1 w1) (h : O X = 0) (ht : t ≠ 0) (c : w.cell? ⟨X, o, none⟩ = some u) : w1.cell? ⟨X, o, none⟩ = some u := by
  rw [← c]
  exact World.cell?_of_block (a := ⟨X, o, .none⟩) (s.kept.block X (World.block_lt_of_cell? _ _ c) (by rw [h]; exact fun e => ht e.symm))
/-- where a slice lies, and its room -/
structure Sl where
  a : Option Addr
  c : Nat
def Sl.v (s : Sl) (n : Nat) : Value := .slice s.a n s.c
def Sl.Fits (s : Sl) (n : Nat) : Prop := n ≤ s.c ∧ s.c ≤ maxLen
abbrev Sl.nil : Sl := ⟨none, 0⟩
theorem Sl.nil_fits : Sl.nil.Fits 0 := ⟨Nat.le_refl _, by unfold maxLen; exact Nat.zero_le _⟩
/-- the rows of balances in memory -/
structure BalAt (w : World) (b : MBal) (sb sr : Sl) : Prop where
  hb : sb.Fits b.n
  hr : sr.Fits b.n
  rows : AtR be 3 w sb.a b.n b.g
  rates : At w sr.a b.n b.r
/-- .. where nobody writes -/
structure BalO (O : Nat → Nat) (z : Nat) (w : World) (b : MBal) (sb sr : Sl) : Prop where
  at' : BalAt w b sb sr
  fb : Free O z w sb.a
  fr : Free O z w sr.a
section
variable {w w1 : World} {O O1 O' : Nat → Nat} {base z z' t : Nat} {b : MBal} {sb sr : Sl}
theorem BalAt.below (h : BalAt w b sb sr) (k : Below w.heap.size w w1) : BalAt w1 b sb sr := ⟨h.hb, h.hr, h.rows.below k, h.rates.below k⟩
theorem BalAt.nil (w : World) (hb : b.n = 0) : BalAt w b .nil .nil := ⟨by rw [hb]; exact Sl.nil_fits, by rw [hb]; exact Sl.nil_fits, .inl hb, .inl hb⟩
theorem BalO.nil (O : Nat → Nat) (z : Nat) (w : World) (hb : b.n = 0) : BalO O z w b .nil .nil := ⟨.nil w hb, Free.none _ _ _, Free.none _ _ _⟩
theorem BalO.below (h : BalO O z w b sb sr) (k : Below w.heap.size w w1) : BalO O z w1 b sb sr := ⟨h.at'.below k, h.fb.below k, h.fr.below k⟩
theorem BalO.step (h : BalO O z w b sb sr) (st : Step base O t w O1 w1) (ht : t ≠ 0) : BalO O1 z w1 b sb sr :=
  ⟨⟨h.at'.hb, h.at'.hr, h.at'.rows.free h.fb st ht, h.at'.rates.free h.fr st ht⟩, h.fb.step st, h.fr.step st⟩
theorem BalO.join (h : BalO O' z w b sb sr) (hz : z' ≤ z) : BalO (joinO O O' z t) z' w b sb sr := ⟨h.at', h.fb.join hz, h.fr.join hz⟩
end
end Go.Proofs.Ytmlafdehhbhbiaa
