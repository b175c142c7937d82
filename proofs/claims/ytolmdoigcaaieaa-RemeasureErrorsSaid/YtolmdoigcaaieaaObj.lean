/- Objects of a call's own that live on: a mark for each block tells which calls may write it; what a call leaves; a head of cells, and rows, under one mark. -/
import Derived.Test.YtolmdoigcaaieaaMem
import Derived.WalkKit
import Derived.Lib.Hide
import Derived.Laws.AppendOwnNone
namespace Go.Proofs.Ytolmdoigcaaieaa
open Go.RowKit

theorem cell_keep {w w' : World} {p : Addr} {u : Value} (h : w.cell? p = some u) (hb : Below w.heap.size w w') : w'.cell? p = some u :=
  (World.cell?_of_block (hb.block _ (World.block_lt_of_cell? _ _ h))).trans h
theorem below_drew (w : World) : Below w.heap.size w w.drew := ⟨rfl, rfl, rfl, Nat.le_refl _, fun _ _ => rfl⟩
/-- what a call leaves that may write only what bears mark t -/
structure Kept (O : Nat → Nat) (t : Nat) (w w' : World) : Prop where
  os : w'.os = w.os
  tape : w'.tape = w.tape
  output : w'.output = w.output
  size : w.heap.size ≤ w'.heap.size
  block : ∀ k, k < w.heap.size → O k ≠ t → w'.heap[k]? = w.heap[k]?
/-- nothing from before the call, and nothing that isn't made yet, bears a mark -/
def Fin0 (base : Nat) (O : Nat → Nat) (w : World) : Prop := (∀ k, k < base → O k = 0) ∧ ∀ k, w.heap.size ≤ k → O k = 0
/-- a step that writes what bears mark t -/
structure Step (base : Nat) (O : Nat → Nat) (t : Nat) (w : World) (O' : Nat → Nat) (w' : World) : Prop where
  kept : Kept O t w w'
  ext : ∀ k, k < w.heap.size → O' k = O k
  fin : Fin0 base O' w'
section
variable {base t : Nat} {O O1 O2 : Nat → Nat} {w w1 w2 : World}
theorem Fin0.below (f : Fin0 base O w) (k : Below w.heap.size w w1) : Fin0 base O w1 := ⟨f.1, fun i hi => f.2 i (Nat.le_trans k.size hi)⟩
theorem Fin0.zero (base : Nat) (w : World) : Fin0 base (fun _ => 0) w := ⟨fun _ _ => rfl, fun _ _ => rfl⟩
theorem Step.of_below (f : Fin0 base O w) (k : Below w.heap.size w w1) : Step base O t w O w1 := ⟨⟨k.os, k.tape, k.output, k.size, fun i hi _ => k.block i hi⟩, fun _ _ => rfl, f.below k⟩
theorem Step.refl (f : Fin0 base O w) : Step base O t w O w := Step.of_below f (Below.refl _ _)
theorem Step.trans (a : Step base O t w O1 w1) (b : Step base O1 t w1 O2 w2) : Step base O t w O2 w2 :=
  ⟨⟨b.kept.os.trans a.kept.os, b.kept.tape.trans a.kept.tape, b.kept.output.trans a.kept.output, Nat.le_trans a.kept.size b.kept.size, fun k hk hO => (b.kept.block k (Nat.lt_of_lt_of_le hk a.kept.size) (by rw [a.ext k hk]; exact hO)).trans (a.kept.block k hk hO)⟩,
   fun k hk => (b.ext k (Nat.lt_of_lt_of_le hk a.kept.size)).trans (a.ext k hk), b.fin⟩
theorem Step.below (s : Step base O t w O1 w1) (f : Fin0 base O w) (ht : t ≠ 0) (hb : base ≤ w.heap.size) : Below base w w1 :=
  ⟨s.kept.os, s.kept.tape, s.kept.output, s.kept.size, fun k hk => s.kept.block k (by omega) (by rw [f.1 k hk]; exact fun e => ht e.symm)⟩
end
section
variable {base t t' : Nat} {O O1 : Nat → Nat} {w w1 w2 : World}
theorem Step.alloc (f : Fin0 base O w) (x : Obj) : Step base O t w O (w.alloc x) := Step.of_below f ((Below.refl _ _).alloc (Nat.le_refl _) x)
/-- a cell of a block that bears the mark is written -/
theorem Step.set (f : Fin0 base O w) {b : Nat} (o : Nat) (x : Value) (hb : O b = t) : Step base O t w O (w.setCell ⟨b, o, none⟩ x) :=
  have z := (Below.refl 0 w).setCell (p := ⟨b, o, none⟩) (Nat.zero_le _) x
  ⟨⟨z.os, z.tape, z.output, z.size, fun k _ hk => Below.heap_setCell _ _ _ _ (by intro e; exact hk (by rw [e]; exact hb))⟩, fun _ _ => rfl, f.1, fun k hk => f.2 k (by simpa using hk)⟩
/-- the marks when block b bears t -/
def mark (O : Nat → Nat) (t b : Nat) : Nat → Nat := fun k => if k = b then t else O k
theorem mark_at (O : Nat → Nat) (t b : Nat) : mark O t b b = t := if_pos rfl
theorem mark_ne (O : Nat → Nat) (t : Nat) {b k : Nat} (h : k ≠ b) : mark O t b k = O k := if_neg h
/-- a new block that bears the mark -/
theorem Step.made (f : Fin0 base O w) (hb : base ≤ w.heap.size) (x : Obj) (t' : Nat) : Step base O t' w (mark O t w.heap.size) (w.alloc x) :=
  ⟨⟨rfl, rfl, rfl, by simp, fun k hk _ => Below.heap_alloc w _ k hk⟩, fun k hk => mark_ne _ _ (by omega), fun k hk => (mark_ne _ _ (by omega)).trans (f.1 k hk), fun k hk => by
    have hk' : w.heap.size + 1 ≤ k := by simpa using hk
    exact (mark_ne _ _ (by omega)).trans (f.2 k (by omega))⟩
/-- a row under the mark was appended to: it lies where it lay, or in a new block -/
theorem Step.grown (f : Fin0 base O w) {v : Value} (g : w.grownBy w1 v.ownBlock) (hv : ∀ b, v.ownBlock = some b → O b = t) {b H : Nat} (hat : v.ownBlock = some b ∨ b = H) (hH : w.heap.size ≤ H) (h1 : base ≤ b) (h2 : b < w1.heap.size) :
    Step base O t w (mark O t b) w1 := by
  have hO : ∀ k, k < w.heap.size → mark O t b k = O k := fun k hk => by
    by_cases q : k = b
    · rw [q, mark_at]
      rcases hat with h | h
      · exact (hv b h).symm
      · omega
    · exact mark_ne _ _ q
  refine ⟨⟨g.os, g.tape, g.output, g.size, fun k hk hne => g.block k hk fun e => hne (hv k e.symm)⟩, hO, fun k hk => ?_, fun k hk => ?_⟩
  · exact (mark_ne _ _ (by omega)).trans (f.1 k hk)
  · exact (mark_ne _ _ (by omega)).trans (f.2 k (by have := g.size; omega))
/-- a pointer to an object -/
abbrev ptr (sb : Nat) : Value := .pointer (some ⟨sb, 0, none⟩)
/-- the cells of an object's head, under mark t -/
structure Head (w : World) (O : Nat → Nat) (t sb : Nat) (xs : List Value) : Prop where
  cell : ∀ j u, xs[j]? = some u → w.cell? ⟨sb, j, none⟩ = some u
  frz : ∀ j, w.frozen? ⟨sb, j, none⟩ = false
  tag : O sb = t
  lt : sb < w.heap.size
variable {sb : Nat} {xs : List Value}
theorem Head.c0 {x : Value} {l : List Value} (h : Head w O t sb (x :: l)) : w.cell? ⟨sb, 0, none⟩ = some x := h.cell 0 _ rfl
theorem Head.c1 {x y : Value} {l : List Value} (h : Head w O t sb (x :: y :: l)) : w.cell? ⟨sb, 1, none⟩ = some y := h.cell 1 _ rfl
theorem Head.c2 {x y z : Value} {l : List Value} (h : Head w O t sb (x :: y :: z :: l)) : w.cell? ⟨sb, 2, none⟩ = some z := h.cell 2 _ rfl
theorem Head.below (h : Head w O t sb xs) (k : Below w.heap.size w w1) : Head w1 O t sb xs :=
  ⟨fun j u hu => (k.cell (p := ⟨sb, j, none⟩) h.lt).trans (h.cell j u hu), fun j => (k.frozen (p := ⟨sb, j, none⟩) h.lt).trans (h.frz j), h.tag, Nat.lt_of_lt_of_le h.lt k.size⟩
/-- a head whose block stays, stays -/
theorem Head.block (h : Head w O t sb xs) (k : w1.heap[sb]? = w.heap[sb]?) (hz : w.heap.size ≤ w1.heap.size) (hO : O1 sb = O sb) : Head w1 O1 t sb xs :=
  ⟨fun j u hu => (World.cell?_of_block (a := ⟨sb, j, none⟩) k).trans (h.cell j u hu), fun j => (World.frozen?_of_block (a := ⟨sb, j, none⟩) k).trans (h.frz j), hO.trans h.tag, Nat.lt_of_lt_of_le h.lt hz⟩
theorem Head.step (h : Head w O t sb xs) (k : Step base O t' w O1 w1) (hne : t ≠ t') : Head w1 O1 t sb xs :=
  h.block (k.kept.block sb h.lt (by rw [h.tag]; exact hne)) k.kept.size (k.ext sb h.lt)
theorem Head.set (h : Head w O t sb xs) (j : Nat) (x : Value) (hj : j < xs.length) : Head (w.setCell ⟨sb, j, none⟩ x) O t sb (xs.set j x) := by
  refine ⟨fun i u hu => ?_, fun i => by simpa using h.frz i, h.tag, by simpa using h.lt⟩
  rw [List.getElem?_set] at hu
  by_cases e : j = i
  · subst e
    rw [if_pos rfl, if_pos hj] at hu
    injection hu with hu; subst hu
    exact World.cell?_setCell_same _ _ _ (h.cell j _ (List.getElem?_eq_getElem hj))
  · rw [if_neg e] at hu
    rw [World.cell?_setCell_other _ _ _ _ (by intro q; injection q with _ q; exact e q)]
    exact h.cell i u hu
theorem Head.marked (h : Head w O t sb xs) (b : Nat) : Head w (mark O t b) t sb xs := by
  refine ⟨h.cell, h.frz, ?_, h.lt⟩
  by_cases q : sb = b
  · rw [q]; exact mark_at _ _ _
  · rw [mark_ne _ _ q]; exact h.tag
theorem Head.new (w : World) (O : Nat → Nat) (t : Nat) (xs : Array Value) (T : TypeId) : Head (w.alloc (.cells xs T)) (mark O t w.heap.size) t w.heap.size xs.toList := by
  have hh := heap_alloc_new w (.cells xs T)
  refine ⟨fun j u hu => ?_, fun j => frozen_of_row _ w.heap.size j _ T hh, mark_at _ _ _, by simp⟩
  rw [cell_of_row _ w.heap.size j _ T (0, 0) hh]; simpa using hu
/-- a row of the object's, under its mark, apart from its head -/
structure RowT (w : World) (O : Nat → Nat) (base t sb : Nat) (E : TypeId) (size : Nat) (v : Value) (n : Nat) (ys : List Value) : Prop where
  own : w.ownsRow base E size v n ys
  tag : ∀ b, v.ownBlock = some b → O b = t ∧ b ≠ sb
variable {E : TypeId} {size n : Nat} {v : Value} {ys : List Value}
theorem RowT.nil (w : World) (O : Nat → Nat) (base t sb : Nat) (E : TypeId) (size : Nat) : RowT w O base t sb E size (.slice none 0 0) 0 [] := ⟨World.ownsRow_nil _ _ _ _, fun b h => by simp [Value.ownBlock] at h⟩
theorem own_blocks {w w1 : World} (o : w.ownsRow base E size v n ys) (k : ∀ b, v.ownBlock = some b → w1.heap[b]? = w.heap[b]?) : w1.ownsRow base E size v n ys := by
  refine ⟨o.1, ?_⟩
  rcases o.2 with h | ⟨g, cap, cur, rfl, hb, hg, r⟩
  · exact .inl h
  · exact .inr ⟨g, cap, cur, rfl, hb, by rw [k g rfl]; exact hg, r⟩
theorem RowT.below (h : RowT w O base t sb E size v n ys) (k : Below w.heap.size w w1) : RowT w1 O base t sb E size v n ys :=
  ⟨own_blocks h.own fun b hb => k.block b (World.ownsRow.lt h.own b hb).2, h.tag⟩
theorem RowT.blocks (h : RowT w O base t sb E size v n ys) (k : ∀ b, v.ownBlock = some b → w1.heap[b]? = w.heap[b]? ∧ O1 b = O b) : RowT w1 O1 base t sb E size v n ys :=
  ⟨own_blocks h.own fun b hb => (k b hb).1, fun b hb => by rw [(k b hb).2]; exact h.tag b hb⟩
theorem RowT.step (h : RowT w O base t sb E size v n ys) (k : Step base O t' w O1 w1) (hne : t ≠ t') : RowT w1 O1 base t sb E size v n ys :=
  h.blocks fun b hb => ⟨k.kept.block b (World.ownsRow.lt h.own b hb).2 (by rw [(h.tag b hb).1]; exact hne), k.ext b (World.ownsRow.lt h.own b hb).2⟩
/-- the head is written: the row stays -/
theorem RowT.head (h : RowT w O base t sb E size v n ys) (j : Nat) (x : Value) : RowT (w.setCell ⟨sb, j, none⟩ x) O base t sb E size v n ys :=
  h.blocks fun b hb => ⟨Below.heap_setCell _ _ _ _ (h.tag b hb).2, rfl⟩
theorem RowT.form (h : RowT w O base t sb E size v n ys) : ∃ A c, v = .slice A n c ∧ n ≤ c ∧ c ≤ maxLen ∧ (A = none → n = 0 ∧ c = 0) := own_form h.own
/-- fewer of a row -/
theorem own_less {w : World} {A : Option Addr} {n c m : Nat} {ys : List Value} (o : w.ownsRow base E size (.slice A n c) n ys) (hm : m ≤ n) : w.ownsRow base E size (.slice A m c) m (ys.take (m * size)) := by
  refine ⟨?_, ?_⟩
  · rw [List.length_take, o.1]
    exact Nat.min_eq_left (Nat.mul_le_mul_right _ hm)
  · rcases o.2 with ⟨h, h0⟩ | ⟨g, cap, cur, hv, hb, hg, h1, h2, h3, h4⟩
    · injection h with e1 e2 e3
      subst e1 e2 e3
      have : m = 0 := by omega
      subst this
      exact .inl ⟨rfl, rfl⟩
    · injection hv with e1 e2 e3
      subst e1 e3
      refine .inr ⟨g, c, cur, rfl, hb, hg, by omega, h2, h3, ?_⟩
      rw [← h4, List.take_take, Nat.min_eq_left (Nat.mul_le_mul_right _ hm)]
end
theorem own_mono {w : World} {base base' n size : Nat} {E : TypeId} {v : Value} {ys : List Value} (o : w.ownsRow base E size v n ys) (h : base' ≤ base) : w.ownsRow base' E size v n ys := by
  refine ⟨o.1, ?_⟩
  rcases o.2 with h' | ⟨g, cap, cur, rfl, hb, r⟩
  · exact .inl h'
  · exact .inr ⟨g, cap, cur, rfl, by omega, r⟩
/-- a fresh row bears a mark from now on -/
theorem fresh_marked {base n size : Nat} {O : Nat → Nat} {w w1 : World} {E : TypeId} {v : Value} {ys : List Value} (f : Fin0 base O w) (hb : base ≤ w.heap.size) (k : Below w.heap.size w w1) (o : w1.ownsRow w.heap.size E size v n ys) (t : Nat) :
    ∃ O1, (∀ b, v.ownBlock = some b → O1 b = t ∧ b < w1.heap.size) ∧ ∀ t2, Step base O t2 w O1 w1 := by
  cases hv : v.ownBlock with
  | none => exact ⟨O, fun b h => (by cases h), fun t2 => Step.of_below f k⟩
  | some b =>
    have hl := World.ownsRow.lt o b hv
    refine ⟨mark O t b, fun b' h => (by injection h with h; subst h; exact ⟨mark_at _ _ _, hl.2⟩), fun t2 => ⟨⟨k.os, k.tape, k.output, k.size, fun i hi _ => k.block i hi⟩, fun i hi => mark_ne _ _ (by omega), fun i hi => (mark_ne _ _ (by omega)).trans (f.1 i hi), fun i hi => (mark_ne _ _ (by omega)).trans (f.2 i (by have := k.size; omega))⟩⟩
/-- a row is appended to an own one -/
theorem run_app_row {P : Program} {T ty E : TypeId} {i : TypeInfo} {w : World} {z : Value} {size bytes : Nat} (ht : P.underlying T = some (.slice E)) (hi : P.info? E = some i) (hz : i.zero = some z) (hsize : i.size = size) (hby : i.bytes = bytes) (hzs : z.cells.size = size) (hsz : 0 < size)
    (base b0 n m c : Nat) (v : Value) (A : Option Addr) (xs ys : List Value) (hown : w.ownsRow base E size v n xs) (hsrc : w.ownsRow b0 E size (.slice A m c) m ys) (h1 : ∀ u ∈ ys, u.oneCell' = true) (h63 : n + m ≤ maxLen) (hbytes : (n + m) * bytes ≤ 140737488355328) (hb : base ≤ w.heap.size) :
    ∃ v' w', (Builtin.append_ #[T, T] ty #[v, .slice A m c]).run P w = .ok v' w' ∧ w'.ownsRow base E size v' (n + m) (xs ++ ys) ∧ w.grownBy w' v.ownBlock := by
  rcases A with _ | ad
  · obtain ⟨A', c', e, _, _, hnone⟩ := own_form hsrc
    injection e with e1 _ e3
    subst e1 e3
    obtain ⟨rfl, rfl⟩ := hnone rfl
    have hy : ys = [] := List.eq_nil_of_length_eq_zero (by rw [hsrc.1, Nat.zero_mul])
    subst hy
    refine ⟨v, w, run_append_owned_none (P := P) w base T ty E i size ht hi v n _ hown, ?_, World.grownBy.refl _ _⟩
    rw [List.append_nil]; exact hown
  · obtain ⟨v', w', hr, h2, h3, _, _⟩ := run_append_own_at (P := P) w base T ty E i z size bytes ht hi hz hsize hby hzs hsz v n _ hown ad m c ys hsrc.1 (fun j u hu => by
      rcases hsrc.2 with ⟨e, _⟩ | ⟨g, cap, cur, e, _⟩
      · cases e
      · injection e with e1 _ _
        injection e1 with e1
        subst e1
        exact World.ownsRow.cells hsrc rfl j u hu) h1 h63 hbytes hb
    exact ⟨v', w', hr, h2, h3⟩
theorem wpList_app_row {P : Program} {ops : Array Oper} {rest : List Oper} {o : Oper} {a : Act} {Q : Exit → Act → World → Prop} {T E : TypeId} {i : TypeInfo} {w : World} {z : Value} {size bytes : Nat} (hgd : o.guard = none) (s x : Operand) (ho : o.op = .call { callee := .builtin .append, args := #[s, x], argTypes := #[T, T] })
    (ht : P.underlying T = some (.slice E)) (hi : P.info? E = some i) (hz : i.zero = some z) (hsize : i.size = size) (hby : i.bytes = bytes) (hzs : z.cells.size = size) (hsz : 0 < size)
    (W : World) (base b0 n m c : Nat) (v : Value) (A : Option Addr) (xs ys : List Value) (hs : a.eval s = v) (hx : a.eval x = .slice A m c) (hown : w.ownsRow base E size v n xs) (hsrc : w.ownsRow b0 E size (.slice A m c) m ys) (h1 : ∀ u ∈ ys, u.oneCell' = true) (h63 : n + m ≤ maxLen) (hbytes : (n + m) * bytes ≤ 140737488355328)
    (hW : Below base W w) (hb : base ≤ w.heap.size)
    (h : ∀ v' w', w'.ownsRow base E size v' (n + m) (xs ++ ys) → Below base W w' → w.grownBy w' v.ownBlock → wpList P ops Q rest (a.put o.dst v') w') :
    wpList P ops Q (o :: rest) a w := by
  obtain ⟨v', w', hr, h2, h3⟩ := run_app_row (P := P) (ty := o.type) ht hi hz hsize hby hzs hsz base b0 n m c v A xs ys hown hsrc h1 h63 hbytes hb
  refine wpList_plain hgd fun K hK => ?_
  unfold Oper.wp execOp
  simp only [ho, resolve, invoke, builtin, Sem.run_bind, Sem.run_pure, Result.andThen_ok, List.map_toArray, List.map_cons, List.map_nil, hs, hx, hr]
  exact hK _ _ (h v' w' h2 (hW.grown h3 hb (fun k hk => (World.ownsRow.lt hown k hk).1)) h3)
end Go.Proofs.Ytolmdoigcaaieaa
