/- Rows of values of one cell each, whatever they are: rows that can be read, rows of the call's own; one value appended. -/
import Derived.Test.YtpbpflhoeidpnaaMem
namespace Go.Proofs.Ytpbpflhoeidpnaa
open Go.RowKit

/-- n values f can be read from A on -/
def AtV (w : World) (A : Option Addr) (n : Nat) (f : Nat → Value) : Prop :=
  n = 0 ∨ ∃ b off, A = some ⟨b, off, none⟩ ∧ b < w.heap.size ∧ ∀ j, j < n → w.cell? ⟨b, off + j, none⟩ = some (f j)
section
variable {w w1 : World} {A : Option Addr} {n b : Nat} {f : Nat → Value}
theorem AtV.below (r : AtV w A n f) (k : Below w.heap.size w w1) : AtV w1 A n f := by
  rcases r with h | ⟨b, off, e, hb, hc⟩
  · exact .inl h
  · exact .inr ⟨b, off, e, Nat.lt_of_lt_of_le hb k.size, fun j hj => (k.cell (p := ⟨b, off + j, none⟩) hb).trans (hc j hj)⟩
theorem AtV.ext {f' : Nat → Value} (r : AtV w A n f) (e : ∀ j, j < n → f j = f' j) : AtV w A n f' := by
  rcases r with h | ⟨b, off, ea, hb, hc⟩
  · exact .inl h
  · exact .inr ⟨b, off, ea, hb, fun j hj => by rw [← e j hj]; exact hc j hj⟩
theorem AtV.some (r : AtV w A n f) (hn : 0 < n) : ∃ b off, A = some ⟨b, off, none⟩ ∧ b < w.heap.size ∧ ∀ j, j < n → w.cell? ⟨b, off + j, none⟩ = some (f j) := by
  rcases r with h | h
  · omega
  · exact h
end
/-- a literal list in a new block -/
theorem lit_v (w : World) (xs : List Value) (t : TypeId) (b : Nat) (h : w.heap.size = b) (d : Value) : AtV (w.alloc (.cells xs.toArray t)) (some ⟨b, 0, none⟩) xs.length (fun j => xs.getD j d) := by
  subst h
  refine .inr ⟨_, _, rfl, by simp, fun j hj => ?_⟩
  rw [Nat.zero_add, cell_of_row _ w.heap.size j _ t (0, 0) (heap_alloc_new w _)]
  simp [List.getD, hj]
/-- a slice of the call's own (from block base on): n values f -/
def OwnV (w : World) (E : TypeId) (base : Nat) (v : Value) (n : Nat) (f : Nat → Value) : Prop :=
  w.ownsRow base E 1 v n ((List.range n).map f)
section
variable {w w1 : World} {E : TypeId} {base n : Nat} {v : Value} {f : Nat → Value}
theorem OwnV.nil (w : World) (E : TypeId) (base : Nat) (f : Nat → Value) : OwnV w E base (.slice none 0 0) 0 f := World.ownsRow_nil _ _ _ _
theorem OwnV.ext {f' : Nat → Value} (o : OwnV w E base v n f) (e : ∀ j, j < n → f j = f' j) : OwnV w E base v n f' := by
  have : (List.range n).map f' = (List.range n).map f := List.map_congr_left fun j hj => by rw [e j (by simpa using hj)]
  unfold OwnV; rw [this]; exact o
theorem OwnV.kept {row : Option Nat} (o : OwnV w E base v n f) (hg : w.grownBy w1 row) (hne : v.ownBlock = none ∨ v.ownBlock ≠ row) : OwnV w1 E base v n f := World.ownsRow.kept o hg hne
theorem OwnV.alloc (o : OwnV w E base v n f) (x : Obj) : OwnV (w.alloc x) E base v n f := World.ownsRow.alloc o x
theorem OwnV.drew (o : OwnV w E base v n f) : OwnV w.drew E base v n f := o
theorem OwnV.below (o : OwnV w E base v n f) (k : Below w.heap.size w w1) : OwnV w1 E base v n f :=
  o.kept (row := none) ⟨k.os, k.tape, k.output, k.size, fun i hi _ => k.block i hi⟩ (by cases h : v.ownBlock <;> simp)
theorem OwnV.form (o : OwnV w E base v n f) : ∃ A c, v = .slice A n c ∧ n ≤ c ∧ c ≤ maxLen ∧ (A = none → n = 0 ∧ c = 0) := own_form o
theorem OwnV.at (o : OwnV w E base v n f) : ∃ A c, v = .slice A n c ∧ n ≤ c ∧ c ≤ maxLen ∧ AtV w A n f := by
  obtain ⟨A, c, rfl, h1, h2, h3⟩ := o.form
  refine ⟨A, c, rfl, h1, h2, ?_⟩
  rcases Cells.of_own o (Nat.le_refl _) with h | ⟨b, off, e, hb, hc⟩
  · exact .inl (by simpa using h)
  · exact .inr ⟨b, off, e, hb, fun j hj => hc j _ (by simp [hj])⟩
/-- an own slice stays, while another one is appended to -/
theorem OwnV.beside {v' : Value} (o : OwnV w E base v n f) (hg : w.grownBy w1 v'.ownBlock) (ha : Apart v v') : OwnV w1 E base v n f := by
  refine o.kept hg ?_
  cases h : v.ownBlock with
  | none => exact .inl rfl
  | some k => exact .inr fun e => ha k h e.symm
end
theorem Apart.pushV {w : World} {E : TypeId} {base n' : Nat} {v v' : Value} {f' : Nat → Value} (h : Apart v v') (o' : OwnV w E base v' n' f') {b n c H : Nat} (hb : v.ownBlock = some b ∨ b = H) (hH : w.heap.size ≤ H) : Apart (.slice (some ⟨b, 0, none⟩) n c) v' := by
  intro k hk
  have : b = k := by simpa [Value.ownBlock] using hk
  subst this
  rcases hb with hb | rfl
  · exact h _ hb
  · intro e; have := (World.ownsRow.lt o' _ e).2; omega
theorem push_list (f : Nat → Value) (x : Value) (n : Nat) : ((List.range (n + 1)).map fun j => if j = n then x else f j) = (List.range n).map f ++ [x] := by
  rw [List.range_succ, List.map_append]
  congr 1
  · refine List.map_congr_left fun j hj => ?_
    have hj' : j < n := by simpa using hj
    rw [if_neg (by omega)]
  · simp
/-- one value more at the end of an own slice -/
theorem wpList_push_v {P : Program} {ops : Array Oper} {rest : List Oper} {o : Oper} {a : Act} {Q : Exit → Act → World → Prop} {i : TypeInfo} {T E : TypeId} {w : World} {z0 : Value} {bytes : Nat}
    (hgd : o.guard = none) (s x : Operand) (ho : o.op = .call { callee := .builtin .append, args := #[s, x], argTypes := #[T, T] })
    (ht : P.underlying T = some (.slice E)) (hi : P.info? E = some i) (hz : i.zero = some z0) (hsize : i.size = 1) (hby : i.bytes = bytes) (hbb : bytes ≤ 64) (hzs : z0.cells.size = 1)
    (W : World) (base n X : Nat) (v : Value) (f : Nat → Value) (u : Value) (hs : a.eval s = v) (hx : a.eval x = .slice (some ⟨X, 0, none⟩) 1 1) (hc : w.cell? ⟨X, 0, none⟩ = some u) (hu1 : u.oneCell' = true)
    (hown : OwnV w E base v n f) (hn : n ≤ 1000000) (hW : Below base W w) (hb : base ≤ w.heap.size) (H : Nat) (hH : w.heap.size = H)
    (h : ∀ b c w', OwnV w' E base (.slice (some ⟨b, 0, none⟩) (n + 1) c) (n + 1) (fun j => if j = n then u else f j) → Below base W w' → w.grownBy w' v.ownBlock → (v.ownBlock = some b ∨ b = H) → wpList P ops Q rest (a.put o.dst (.slice (some ⟨b, 0, none⟩) (n + 1) c)) w') :
    wpList P ops Q (o :: rest) a w := by
  refine wpList_append_lies _ hgd s x T ho base E i z0 1 bytes ht hi hz hsize hby hzs (by decide) v n _ hs hown ⟨X, 0, none⟩ 1 1 [u] hx rfl ?_ (by simpa using hu1) (by decide) (by unfold maxLen; omega) ?_ hb H hH ?_
  · intro j u' hu
    match j, hu with
    | 0, hu => simp at hu; subst hu; rw [show (⟨X, 0, none⟩ : Addr).add 0 = ⟨X, 0, none⟩ by unfold Addr.add; split <;> simp_all]; exact hc
  · have := Nat.mul_le_mul (show n + 1 ≤ 1000001 by omega) hbb; omega
  intro b c w' ho' hg hat _
  refine h b c w' ?_ (hW.grown hg hb (fun k hk => (World.ownsRow.lt hown k hk).1)) hg hat
  unfold OwnV; rw [push_list]; exact ho'
/-- one value more, at a step of a region that draws its order -/
theorem step_push_v {P : Program} {ops : Array Oper} {o : Oper} {a : Act} {K : Act → World → Prop} {Q : Exit → Act → World → Prop} {Z : Prop} {i : TypeInfo} {T E : TypeId} {w : World} {z0 : Value} {bytes : Nat}
    (hgd : o.guard = none) (s x : Operand) (ho : o.op = .call { callee := .builtin .append, args := #[s, x], argTypes := #[T, T] })
    (ht : P.underlying T = some (.slice E)) (hi : P.info? E = some i) (hz : i.zero = some z0) (hsize : i.size = 1) (hby : i.bytes = bytes) (hbb : bytes ≤ 64) (hzs : z0.cells.size = 1)
    (W : World) (base n X : Nat) (v : Value) (f : Nat → Value) (u : Value) (hs : a.eval s = v) (hx : a.eval x = .slice (some ⟨X, 0, none⟩) 1 1) (hc : w.cell? ⟨X, 0, none⟩ = some u) (hu1 : u.oneCell' = true)
    (hown : OwnV w E base v n f) (hn : n ≤ 1000000) (hW : Below base W w) (hb : base ≤ w.heap.size) (H : Nat) (hH : w.heap.size = H)
    (h : ∀ b c w', OwnV w' E base (.slice (some ⟨b, 0, none⟩) (n + 1) c) (n + 1) (fun j => if j = n then u else f j) → Below base W w' → w.grownBy w' v.ownBlock → (v.ownBlock = some b ∨ b = H) → K (a.put o.dst (.slice (some ⟨b, 0, none⟩) (n + 1) c)) w') :
    if Region.wanted o (yielded ops a.tmps) = true then Oper.wp P o a w K Q else Z := by
  refine step_append_lies _ hgd s x T ho base E i z0 1 bytes ht hi hz hsize hby hzs (by decide) v n _ hs hown ⟨X, 0, none⟩ 1 1 [u] hx rfl ?_ (by simpa using hu1) (by decide) (by unfold maxLen; omega) ?_ hb H hH ?_
  · intro j u' hu
    match j, hu with
    | 0, hu => simp at hu; subst hu; rw [show (⟨X, 0, none⟩ : Addr).add 0 = ⟨X, 0, none⟩ by unfold Addr.add; split <;> simp_all]; exact hc
  · have := Nat.mul_le_mul (show n + 1 ≤ 1000001 by omega) hbb; omega
  intro b c w' ho' hg hat _
  refine h b c w' ?_ (hW.grown hg hb (fun k hk => (World.ownsRow.lt hown k hk).1)) hg hat
  unfold OwnV; rw [push_list]; exact ho'
/-- a cell of a block that came behind an own slice stays, while that slice is appended to -/
theorem OwnV.far {w0 w w1 : World} {E : TypeId} {base n : Nat} {v : Value} {f : Nat → Value} (o : OwnV w0 E base v n f) (hg : w.grownBy w1 v.ownBlock) {X : Nat} {u : Value} (h0 : w0.heap.size ≤ X) (hc : w.cell? ⟨X, 0, none⟩ = Option.some u) : w1.cell? ⟨X, 0, none⟩ = Option.some u := by
  have hX := World.block_lt_of_cell? w _ hc
  rw [hg.cell_far ⟨X, 0, none⟩ hX ?_]
  · exact hc
  · intro e; have := (World.ownsRow.lt o _ e.symm).2; simp at this; omega
end Go.Proofs.Ytpbpflhoeidpnaa
