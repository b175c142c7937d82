/- Words for what lies in memory: cells in a row that are read, and rows of the call's own. -/
import Derived.WalkKit
import Derived.Deep.QuietTactic
import Derived.OpenShut
import Derived.Laws.OwnMore
import Derived.OwnWalk
import Derived.Deep.OwnRows
import Derived.Maps.AppendAt
import Derived.Deep.AppendLies
import Derived.Lib.Hide
namespace Go.Proofs.Ytolmdoigcaaieaa
open Go.RowKit

/-- WHAT THE WALK IS TOLD OF A SLICE OF WHOLE NUMBERS THAT CAME IN (the shell of the kit's page names it so). -/
def IsRow (k : IntKind) (w : World) (a : Option Addr) (len cap : Nat) (zs : List Int) : Prop :=
  (a = none ∧ len = 0 ∧ cap = 0 ∧ zs = []) ∨
  ∃ x, a = some x ∧ len ≤ cap ∧ cap ≤ maxLen ∧ zs.length = cap ∧ (∀ i, i < zs.length → w.cell? (x.add i) = some (.int k (zs.getD i 0))) ∧ ∀ n ∈ zs, (Lit.int k n).wf = true

/-- the cells xs stand in a row from A on, below block B; of A nothing is said where there is none -/
def Cells (w : World) (B : Nat) (A : Option Addr) (xs : List Value) : Prop :=
  xs = [] ∨ ∃ b off, A = some ⟨b, off, none⟩ ∧ b < B ∧ ∀ j u, xs[j]? = some u → w.cell? ⟨b, off + j, none⟩ = some u

section
variable {w w' : World} {B B' : Nat} {A : Option Addr} {xs : List Value}
theorem Cells.below (h : Cells w B A xs) (k : Below B w w') : Cells w' B A xs := by
  rcases h with h | ⟨b, off, e, hb, hc⟩
  · exact .inl h
  · exact .inr ⟨b, off, e, hb, fun j u hu => (k.cell (p := ⟨b, off + j, none⟩) hb).trans (hc j u hu)⟩
theorem Cells.mono (h : Cells w B A xs) (k : B ≤ B') : Cells w B' A xs := by
  rcases h with h | ⟨b, off, e, hb, hc⟩
  · exact .inl h
  · exact .inr ⟨b, off, e, by omega, hc⟩
theorem Cells.take (h : Cells w B A xs) (k : Nat) : Cells w B A (xs.take k) := by
  rcases h with h | ⟨b, off, e, hb, hc⟩
  · exact .inl (by simp [h])
  · refine .inr ⟨b, off, e, hb, fun j u hu => hc j u ?_⟩
    rw [List.getElem?_take] at hu; split at hu <;> simp_all
theorem Cells.ints {zs : List Int} (h : Cells w B A (zs.map (Value.int .i64))) (hp : 0 < zs.length) :
    ∃ b off, A = some ⟨b, off, none⟩ ∧ b < B ∧ ∀ j, j < zs.length → w.cell? ⟨b, off + j, none⟩ = some (.int .i64 (zs.getD j 0)) := by
  rcases h with h | ⟨b, off, e, hb, hc⟩
  · simp at h; subst h; simp at hp
  · exact ⟨b, off, e, hb, fun j hj => hc j _ (by simp [List.getD, hj])⟩
theorem Cells.of_ints {a : Addr} {zs : List Int} (h : ∀ i, i < zs.length → w.cell? (a.add i) = some (.int .i64 (zs.getD i 0))) (hB : w.heap.size ≤ B) : Cells w B (some a) (zs.map (Value.int .i64)) := by
  rcases Nat.eq_zero_or_pos zs.length with h0 | h0
  · exact .inl (by simp [List.eq_nil_of_length_eq_zero h0])
  · obtain ⟨b, off, rfl, hc⟩ := ints_at h h0
    refine .inr ⟨b, off, rfl, ?_, fun j u hu => ?_⟩
    · have := World.block_lt_of_cell? w _ (hc 0 h0); simp at this; omega
    · rw [List.getElem?_map] at hu
      cases hj : zs[j]? with
      | none => simp [hj] at hu
      | some z =>
        simp [hj] at hu; subst hu
        have hl : j < zs.length := (List.getElem?_eq_some_iff.1 hj).1
        rw [hc j hl]; simp [List.getD, hj]
theorem Cells.of_own {base size c n : Nat} {e : TypeId} (h : w.ownsRow base e size (.slice A n c) n xs) (hB : w.heap.size ≤ B) : Cells w B A xs := by
  rcases h.2 with ⟨hv, h0⟩ | ⟨g, cap, cur, hv, _, hg, _⟩
  · exact .inl (List.eq_nil_of_length_eq_zero (by rw [h.1, h0, Nat.zero_mul]))
  · injection hv with hA _ _; subst hA
    refine .inr ⟨g, 0, rfl, ?_, fun j u hu => ?_⟩
    · have := (Array.getElem?_eq_some_iff.1 hg).1; omega
    · have := h.cells (g := g) rfl j u hu
      have e : (⟨g, 0, none⟩ : Addr).add j = ⟨g, 0 + j, none⟩ := by unfold Addr.add; split <;> simp_all
      rwa [e] at this
end
/-- what came in, as cells: the elements up to the length -/
theorem IsRow.cells {w : World} {A : Option Addr} {n c : Nat} {zs : List Int} (h : IsRow .i64 w A n c zs) :
    Cells w w.heap.size A ((zs.take n).map (Value.int .i64)) ∧ (zs.take n).length = n ∧ n ≤ c ∧ c ≤ maxLen ∧ (A = none → n = 0 ∧ c = 0) ∧ (∀ z ∈ zs.take n, (Lit.int .i64 z).wf = true) := by
  rcases h with ⟨rfl, rfl, rfl, rfl⟩ | ⟨x, rfl, h1, h2, h3, h4, h5⟩
  · exact ⟨.inl (by simp), by simp, by simp, by simp, fun _ => ⟨rfl, rfl⟩, by simp⟩
  · refine ⟨?_, by simp; omega, h1, h2, (by intro h; cases h), fun z hz => h5 z (List.mem_of_mem_take hz)⟩
    rw [List.map_take]
    exact (Cells.of_ints h4 (Nat.le_refl _)).take n
/-- a row of the call's own as an address, a length, a room -/
theorem own_form {w : World} {base n size : Nat} {e : TypeId} {v : Value} {xs : List Value} (h : w.ownsRow base e size v n xs) :
    ∃ A c, v = .slice A n c ∧ n ≤ c ∧ c ≤ maxLen ∧ (A = none → n = 0 ∧ c = 0) := by
  rcases h.2 with ⟨rfl, rfl⟩ | ⟨g, cap, cur, rfl, _, _, h1, h2, _⟩
  · exact ⟨none, 0, rfl, Nat.le_refl _, Nat.zero_le _, fun _ => ⟨rfl, rfl⟩⟩
  · exact ⟨_, cap, rfl, h1, h2, by intro h; cases h⟩
theorem bcell {w w1 : World} (hb : Below w.heap.size w w1) : (∀ b o, b < w.heap.size → w1.cell? ⟨b, o, none⟩ = w.cell? ⟨b, o, none⟩) ∧ (∀ b o, b < w.heap.size → w1.frozen? ⟨b, o, none⟩ = w.frozen? ⟨b, o, none⟩) :=
  ⟨fun b o h => hb.cell (p := ⟨b, o, none⟩) h, fun b o h => hb.frozen (p := ⟨b, o, none⟩) h⟩

theorem drewN_below (B : Nat) (w : World) (n : Nat) : Below B w (w.drewN n) := ⟨rfl, rfl, rfl, Nat.le_refl _, fun _ _ => rfl⟩
theorem below_of_drewN {w w' : World} {n : Nat} (h : Below (w.drewN n).heap.size (w.drewN n) w') : Below w.heap.size w w' := by
  have k := drewN_below w.heap.size w n
  exact k.trans (h.mono k.size)
theorem quiet_same {P : Program} {f : FuncId} {args : Array Value} {w : World} {n : Nat} {v : Value}
    (h : Calls P f args (w.drewN n) fun e w' => e = .returned v ∧ w.drewN n = w') : Calls P f args (w.drewN n) fun e w'' => e = .returned v ∧ ∃ m, w'' = w.drewN m :=
  h.mono fun _ _ ⟨he, hm⟩ => ⟨he, n, hm.symm⟩

/-- block b's first n cells are the numbers h, and none is frozen -/
def Row (w : World) (b n : Nat) (h : Nat → Int) : Prop :=
  b < w.heap.size ∧ ∀ j, j < n → w.cell? ⟨b, j, none⟩ = some (.int .i64 (h j)) ∧ w.frozen? ⟨b, j, none⟩ = false
section
variable {w w1 : World} {b n : Nat} {h : Nat → Int}
theorem Row.below (r : Row w b n h) (k : Below w.heap.size w w1) : Row w1 b n h :=
  ⟨Nat.lt_of_lt_of_le r.1 k.size, fun j hj => ⟨(k.cell (p := ⟨b, j, none⟩) r.1).trans (r.2 j hj).1, (k.frozen (p := ⟨b, j, none⟩) r.1).trans (r.2 j hj).2⟩⟩
theorem Row.ext {h' : Nat → Int} (r : Row w b n h) (e : ∀ j, j < n → h j = h' j) : Row w b n h' :=
  ⟨r.1, fun j hj => ⟨by rw [← e j hj]; exact (r.2 j hj).1, (r.2 j hj).2⟩⟩
theorem Row.set (r : Row w b n h) {k : Nat} (hk : k < n) (x : Int) : Row (w.setCell ⟨b, k, none⟩ (.int .i64 x)) b n (fun j => if j = k then x else h j) := by
  refine ⟨by simpa using r.1, fun j hj => ⟨?_, by simpa using (r.2 j hj).2⟩⟩
  by_cases e : j = k
  · subst e; simp only [if_true]; exact World.cell?_setCell_same _ _ _ (r.2 j hj).1
  · simp only [if_neg e]; rw [World.cell?_setCell_other _ _ _ _ (by intro q; injection q with _ q; exact e q.symm)]; exact (r.2 j hj).1
theorem Row.of_own {base c : Nat} {e : TypeId} {g : Nat} {zs : List Int} (o : w.ownsRow base e 1 (.slice (some ⟨g, 0, none⟩) n c) n (zs.map (Value.int .i64))) :
    base ≤ g ∧ Row w g n (fun j => zs.getD j 0) := by
  have hl := o.lt g rfl
  refine ⟨hl.1, hl.2, fun j hj => ⟨?_, o.frozenAt j⟩⟩
  have hn : zs.length = n := by have := o.1; simpa using this
  rw [o.cellAt j (by omega)]
  simp [List.getD, show j < zs.length by omega]
theorem Row.hid (r : Row w b n h) : Hid (∀ j, j < n → w.cell? ⟨b, 0 + j, none⟩ = some (.int .i64 (h j))) := Lib.hid fun j hj => by rw [Nat.zero_add]; exact (r.2 j hj).1
end
theorem own_some {w : World} {base n size : Nat} {e : TypeId} {v : Value} {xs : List Value} (h : w.ownsRow base e size v n xs) (hp : 0 < n) :
    ∃ g c, v = .slice (some ⟨g, 0, none⟩) n c ∧ n ≤ c ∧ c ≤ maxLen := by
  rcases h.2 with ⟨_, h0⟩ | ⟨g, cap, cur, rfl, _, _, h1, h2, _⟩
  · omega
  · exact ⟨g, cap, rfl, h1, h2⟩
/-- a literal list in a new block -/
theorem lit_row (w : World) (zs : List Int) (t : TypeId) : Row (w.alloc (.cells (zs.map (Value.int .i64)).toArray t)) w.heap.size zs.length (fun j => zs.getD j 0) := by
  have hh := heap_alloc_new w (.cells (zs.map (Value.int .i64)).toArray t)
  refine ⟨by simp, fun j hj => ⟨?_, ?_⟩⟩
  · rw [cell_of_row _ w.heap.size j _ t (0, 0) (heap_alloc_new w _)]
    simp [List.getD, hj]
  · simp only [World.frozen?, hh]; simp


/-- a new list of zeros -/
theorem made_row (w : World) (n : Nat) (t : TypeId) : Row (w.alloc (.cells (madeCells #[.int .i64 0] n) t)) w.heap.size n (fun _ => 0) := by
  have hh := heap_alloc_new w (.cells (madeCells #[.int .i64 0] n) t)
  refine ⟨by simp, fun j hj => ⟨?_, ?_⟩⟩
  · rw [cell_of_row _ w.heap.size j _ t (0, 0) (heap_alloc_new w _)]
    simp [madeCells, hj, Nat.mod_one]
  · simp only [World.frozen?, hh]; simp
theorem lit_row' (w : World) (zs : List Int) (t : TypeId) (b : Nat) (h : w.heap.size = b) : Row (w.alloc (.cells (zs.map (Value.int .i64)).toArray t)) b zs.length (fun j => zs.getD j 0) := h ▸ lit_row w zs t
theorem made_row' (w : World) (n : Nat) (t : TypeId) (b : Nat) (h : w.heap.size = b) : Row (w.alloc (.cells (madeCells #[.int .i64 0] n) t)) b n (fun _ => 0) := h ▸ made_row w n t
/-- n whole numbers g can be read from A on -/
def At (w : World) (A : Option Addr) (n : Nat) (g : Nat → Int) : Prop :=
  n = 0 ∨ ∃ b off, A = some ⟨b, off, none⟩ ∧ b < w.heap.size ∧ ∀ j, j < n → w.cell? ⟨b, off + j, none⟩ = some (.int .i64 (g j))
section
variable {w w1 : World} {A : Option Addr} {n b : Nat} {g : Nat → Int}
theorem At.below (r : At w A n g) (k : Below w.heap.size w w1) : At w1 A n g := by
  rcases r with h | ⟨b, off, e, hb, hc⟩
  · exact .inl h
  · exact .inr ⟨b, off, e, Nat.lt_of_lt_of_le hb k.size, fun j hj => (k.cell (p := ⟨b, off + j, none⟩) hb).trans (hc j hj)⟩
theorem At.ext {g' : Nat → Int} (r : At w A n g) (e : ∀ j, j < n → g j = g' j) : At w A n g' := by
  rcases r with h | ⟨b, off, ea, hb, hc⟩
  · exact .inl h
  · exact .inr ⟨b, off, ea, hb, fun j hj => by rw [← e j hj]; exact hc j hj⟩
theorem At.some (r : At w A n g) (hn : 0 < n) : ∃ b off, A = some ⟨b, off, none⟩ ∧ b < w.heap.size ∧ ∀ j, j < n → w.cell? ⟨b, off + j, none⟩ = some (.int .i64 (g j)) := by
  rcases r with h | h
  · omega
  · exact h
theorem Row.at (r : Row w b n g) : At w (.some ⟨b, 0, none⟩) n g := .inr ⟨b, 0, rfl, r.1, fun j hj => by rw [Nat.zero_add]; exact (r.2 j hj).1⟩
end
/-- what came in can be read -/
theorem IsRow.at {w : World} {A : Option Addr} {n c : Nat} {zs : List Int} (h : IsRow .i64 w A n c zs) :
    At w A n (fun j => zs.getD j 0) ∧ n ≤ c ∧ c ≤ maxLen ∧ (A = none → n = 0 ∧ c = 0) ∧ ∀ j, (Lit.int .i64 (zs.getD j 0)).wf = true := by
  obtain ⟨h1, h2, h3, h4, h5, h6⟩ := h.cells
  refine ⟨?_, h3, h4, h5, fun j => ?_⟩
  · rcases Nat.eq_zero_or_pos n with e | e
    · exact .inl e
    · obtain ⟨b, off, ea, hb, hc⟩ := h1.ints (by omega)
      exact .inr ⟨b, off, ea, hb, fun j hj => by rw [hc j (by omega)]; simp [List.getD, hj]⟩
  · rcases h with ⟨_, _, _, rfl⟩ | ⟨x, _, _, _, _, _, hw⟩
    · rfl
    · rw [List.getD_eq_getElem?_getD]
      cases hj : zs[j]? with
      | none => rfl
      | some z => exact hw z (List.mem_of_getElem? hj)
theorem IsRow.below {w w1 : World} {A : Option Addr} {n c : Nat} {zs : List Int} (h : IsRow .i64 w A n c zs) (k : Below w.heap.size w w1) : IsRow .i64 w1 A n c zs := by
  rcases h with h | ⟨x, rfl, h1, h2, h3, h4, h5⟩
  · exact .inl h
  · exact .inr ⟨x, rfl, h1, h2, h3, fun i hi => (World.cell?_of_block (k.block _ (World.block_lt_of_cell? _ _ (h4 i hi)))).trans (h4 i hi), h5⟩
theorem wf_i64 {z : Int} (h : (Lit.int .i64 z).wf = true) : -9223372036854775808 ≤ z ∧ z ≤ 9223372036854775807 := by
  simp [Lit.wf, IntKind.min, IntKind.max, IntKind.signed, IntKind.bits] at h; omega
/-- a slice of the call's own (from block base on): n whole numbers g -/
def Own (w : World) (E : TypeId) (base : Nat) (v : Value) (n : Nat) (g : Nat → Int) : Prop :=
  w.ownsRow base E 1 v n ((List.range n).map fun j => .int .i64 (g j))
section
variable {w w1 : World} {E : TypeId} {base n : Nat} {v : Value} {g : Nat → Int}
theorem Own.nil (w : World) (E : TypeId) (base : Nat) (g : Nat → Int) : Own w E base (.slice none 0 0) 0 g := World.ownsRow_nil _ _ _ _
theorem Own.ext {g' : Nat → Int} (o : Own w E base v n g) (e : ∀ j, j < n → g j = g' j) : Own w E base v n g' := by
  have : ((List.range n).map fun j => Value.int .i64 (g' j)) = (List.range n).map fun j => .int .i64 (g j) :=
    List.map_congr_left fun j hj => by rw [e j (by simpa using hj)]
  unfold Own; rw [this]; exact o
theorem Own.kept {row : Option Nat} (o : Own w E base v n g) (hg : w.grownBy w1 row) (hne : v.ownBlock = none ∨ v.ownBlock ≠ row) : Own w1 E base v n g := World.ownsRow.kept o hg hne
theorem Own.alloc (o : Own w E base v n g) (x : Obj) : Own (w.alloc x) E base v n g := World.ownsRow.alloc o x
theorem Own.below (o : Own w E base v n g) (k : Below w.heap.size w w1) : Own w1 E base v n g :=
  o.kept (row := none) ⟨k.os, k.tape, k.output, k.size, fun i hi _ => k.block i hi⟩ (by cases h : v.ownBlock <;> simp)
theorem Own.form (o : Own w E base v n g) : ∃ A c, v = .slice A n c ∧ n ≤ c ∧ c ≤ maxLen ∧ (A = none → n = 0 ∧ c = 0) := own_form o
theorem Own.some (o : Own w E base v n g) (hp : 0 < n) : ∃ b c, v = .slice (.some ⟨b, 0, none⟩) n c ∧ n ≤ c ∧ c ≤ maxLen ∧ base ≤ b ∧ Row w b n g := by
  obtain ⟨b, c, rfl, h1, h2⟩ := own_some o hp
  have e : ((List.range n).map fun j => Value.int .i64 (g j)) = ((List.range n).map g).map (Value.int .i64) := by simp
  have o' := o
  unfold Own at o'; rw [e] at o'
  obtain ⟨h3, h4⟩ := Row.of_own o'
  exact ⟨b, c, rfl, h1, h2, h3, h4.ext fun j hj => by simp [hj]⟩
theorem Own.row {b c : Nat} (o : Own w E base (.slice (.some ⟨b, 0, none⟩) n c) n g) (hp : 0 < n) : Row w b n g := by
  obtain ⟨b', c', e, _, _, _, r⟩ := o.some hp
  injection e with e1 _ _
  injection e1 with e1
  injection e1 with e1
  subst e1; exact r
theorem Own.at (o : Own w E base v n g) : ∃ A c, v = .slice A n c ∧ n ≤ c ∧ c ≤ maxLen ∧ At w A n g := by
  rcases Nat.eq_zero_or_pos n with e | e
  · obtain ⟨A, c, h1, h2, h3, _⟩ := o.form; exact ⟨A, c, h1, h2, h3, .inl e⟩
  · obtain ⟨b, c, h1, h2, h3, _, r⟩ := o.some e; exact ⟨_, c, h1, h2, h3, r.at⟩
end
/-- two slices do not share their arrays -/
def Apart (v v' : Value) : Prop := ∀ k, v.ownBlock = some k → v'.ownBlock ≠ some k
theorem Apart.symm {v v' : Value} (h : Apart v v') : Apart v' v := fun k a b => h k b a
theorem Apart.nil (v : Value) : Apart (.slice none 0 0) v := fun k h => by simp [Value.ownBlock] at h
/-- the one that was appended to lies where it lay, or in a new block -/
theorem Apart.push {w : World} {E : TypeId} {base n' : Nat} {v v' : Value} {g' : Nat → Int} (h : Apart v v') (o' : Own w E base v' n' g') {b n c H : Nat} (hb : v.ownBlock = some b ∨ b = H) (hH : w.heap.size ≤ H) : Apart (.slice (some ⟨b, 0, none⟩) n c) v' := by
  intro k hk
  have : b = k := by simpa [Value.ownBlock] using hk
  subst this
  rcases hb with hb | rfl
  · exact h _ hb
  · intro e; have := (World.ownsRow.lt o' _ e).2; omega
/-- an own slice stays, while another one is appended to -/
theorem Own.beside {w w1 : World} {E : TypeId} {base n : Nat} {v v' : Value} {g : Nat → Int} (o : Own w E base v n g) (hg : w.grownBy w1 v'.ownBlock) (ha : Apart v v') : Own w1 E base v n g := by
  refine o.kept hg ?_
  cases h : v.ownBlock with
  | none => exact .inl rfl
  | some k => exact .inr fun e => ha k h e.symm
/-- one number more at the end of an own slice -/
theorem wpList_push_int {P : Program} {ops : Array Oper} {rest : List Oper} {o : Oper} {a : Act} {Q : Exit → Act → World → Prop} {i : TypeInfo} {T E : TypeId} {w : World}
    (hgd : o.guard = none) (s x : Operand) (ho : o.op = .call { callee := .builtin .append, args := #[s, x], argTypes := #[T, T] })
    (ht : P.underlying T = some (.slice E)) (hi : P.info? E = some i) (hz : i.zero = some (.int .i64 0)) (hsize : i.size = 1) (hby : i.bytes = 8)
    (W : World) (base n X : Nat) (v : Value) (g : Nat → Int) (z : Int) (hs : a.eval s = v) (hx : a.eval x = .slice (some ⟨X, 0, none⟩) 1 1) (hc : w.cell? ⟨X, 0, none⟩ = some (.int .i64 z))
    (hown : Own w E base v n g) (hn : n ≤ 1000000) (hW : Below base W w) (hb : base ≤ w.heap.size) (H : Nat) (hH : w.heap.size = H)
    (h : ∀ b c w', Own w' E base (.slice (some ⟨b, 0, none⟩) (n + 1) c) (n + 1) (fun j => if j = n then z else g j) → Below base W w' → w.grownBy w' v.ownBlock → (v.ownBlock = some b ∨ b = H) → wpList P ops Q rest (a.put o.dst (.slice (some ⟨b, 0, none⟩) (n + 1) c)) w') :
    wpList P ops Q (o :: rest) a w := by
  refine wpList_append_lies _ hgd s x T ho base E i (.int .i64 0) 1 8 ht hi hz hsize hby rfl (by decide) v n _ hs hown ⟨X, 0, none⟩ 1 1 [.int .i64 z] hx rfl ?_ (ints_oneCell .i64 [z]) (by decide) (by unfold maxLen; omega) (by omega) hb H hH ?_
  · intro j u hu
    match j, hu with
    | 0, hu => simp at hu; subst hu; rw [show (⟨X, 0, none⟩ : Addr).add 0 = ⟨X, 0, none⟩ by unfold Addr.add; split <;> simp_all]; exact hc
  intro b c w' ho' hg hat _
  refine h b c w' ?_ (hW.grown hg hb (fun k hk => (World.ownsRow.lt hown k hk).1)) hg hat
  have e : ((List.range (n + 1)).map fun j => Value.int .i64 (if j = n then z else g j)) = ((List.range n).map fun j => Value.int .i64 (g j)) ++ [.int .i64 z] := by
    rw [List.range_succ, List.map_append]
    congr 1
    · refine List.map_congr_left fun j hj => ?_
      have hj' : j < n := by simpa using hj
      rw [if_neg (by omega)]
    · simp
  unfold Own; rw [e]; exact ho'
theorem Own.drew {w : World} {E : TypeId} {base n : Nat} {v : Value} {g : Nat → Int} (o : Own w E base v n g) : Own w.drew E base v n g := o
/-- one number more, at a step of a region that draws its order -/
theorem step_push_int {P : Program} {ops : Array Oper} {o : Oper} {a : Act} {K : Act → World → Prop} {Q : Exit → Act → World → Prop} {Z : Prop} {i : TypeInfo} {T E : TypeId} {w : World}
    (hgd : o.guard = none) (s x : Operand) (ho : o.op = .call { callee := .builtin .append, args := #[s, x], argTypes := #[T, T] })
    (ht : P.underlying T = some (.slice E)) (hi : P.info? E = some i) (hz : i.zero = some (.int .i64 0)) (hsize : i.size = 1) (hby : i.bytes = 8)
    (W : World) (base n X : Nat) (v : Value) (g : Nat → Int) (z : Int) (hs : a.eval s = v) (hx : a.eval x = .slice (some ⟨X, 0, none⟩) 1 1) (hc : w.cell? ⟨X, 0, none⟩ = some (.int .i64 z))
    (hown : Own w E base v n g) (hn : n ≤ 1000000) (hW : Below base W w) (hb : base ≤ w.heap.size) (H : Nat) (hH : w.heap.size = H)
    (h : ∀ b c w', Own w' E base (.slice (some ⟨b, 0, none⟩) (n + 1) c) (n + 1) (fun j => if j = n then z else g j) → Below base W w' → w.grownBy w' v.ownBlock → (v.ownBlock = some b ∨ b = H) → K (a.put o.dst (.slice (some ⟨b, 0, none⟩) (n + 1) c)) w') :
    if Region.wanted o (yielded ops a.tmps) = true then Oper.wp P o a w K Q else Z := by
  refine step_append_lies _ hgd s x T ho base E i (.int .i64 0) 1 8 ht hi hz hsize hby rfl (by decide) v n _ hs hown ⟨X, 0, none⟩ 1 1 [.int .i64 z] hx rfl ?_ (ints_oneCell .i64 [z]) (by decide) (by unfold maxLen; omega) (by omega) hb H hH ?_
  · intro j u hu
    match j, hu with
    | 0, hu => simp at hu; subst hu; rw [show (⟨X, 0, none⟩ : Addr).add 0 = ⟨X, 0, none⟩ by unfold Addr.add; split <;> simp_all]; exact hc
  intro b c w' ho' hg hat _
  refine h b c w' ?_ (hW.grown hg hb (fun k hk => (World.ownsRow.lt hown k hk).1)) hg hat
  have e : ((List.range (n + 1)).map fun j => Value.int .i64 (if j = n then z else g j)) = ((List.range n).map fun j => Value.int .i64 (g j)) ++ [.int .i64 z] := by
    rw [List.range_succ, List.map_append]
    congr 1
    · refine List.map_congr_left fun j hj => ?_
      have hj' : j < n := by simpa using hj
      rw [if_neg (by omega)]
    · simp
  unfold Own; rw [e]; exact ho'
/-- one number of an own slice is put in place of another -/
theorem Own.set {w : World} {E : TypeId} {base n b c : Nat} {g : Nat → Int} (o : Own w E base (.slice (Option.some ⟨b, 0, none⟩) n c) n g) (k : Nat) (x : Int) : Own (w.setCell ⟨b, k, none⟩ (.int .i64 x)) E base (.slice (Option.some ⟨b, 0, none⟩) n c) n (fun j => if j = k then x else g j) := by
  have h := (World.ownsRow.stored o k (.int .i64 x)).1
  unfold Own
  have e : ((List.range n).map fun j => Value.int .i64 (if j = k then x else g j)) = ((List.range n).map fun j => Value.int .i64 (g j)).set k (.int .i64 x) := by
    apply List.ext_getElem (by simp)
    intro j h1 h2
    simp at h1
    rw [List.getElem_set]
    by_cases e : k = j
    · subst e; simp
    · simp [e, show ¬ j = k from fun q => e q.symm]
  rw [e]; exact h
/-- a cell of a block that came behind an own slice stays, while that slice is appended to -/
theorem Own.far {w0 w w1 : World} {E : TypeId} {base n : Nat} {v : Value} {g : Nat → Int} (o : Own w0 E base v n g) (hg : w.grownBy w1 v.ownBlock) {X : Nat} {u : Value} (h0 : w0.heap.size ≤ X) (hc : w.cell? ⟨X, 0, none⟩ = Option.some u) : w1.cell? ⟨X, 0, none⟩ = Option.some u := by
  have hX := World.block_lt_of_cell? w _ hc
  rw [hg.cell_far ⟨X, 0, none⟩ hX ?_]
  · exact hc
  · intro e; have := (World.ownsRow.lt o _ e.symm).2; simp at this; omega
/-- a list of zeros, made by the call -/
theorem own_made (w : World) (n : Nat) (E : TypeId) (base : Nat) (hb : base ≤ w.heap.size) (hn : n ≤ maxLen) :
    Own (w.alloc (.cells (madeCells #[.int .i64 0] n) E)) E base (.slice (some ⟨w.heap.size, 0, none⟩) n n) n (fun _ => 0) := by
  have h := World.ownsRow_lit (base := base) (e := E) (size := 1) w (madeCells #[.int .i64 0] n) n hb hn (by simp [size_madeCells])
  rw [toList_madeCells_one] at h
  have e : ((List.range n).map fun _ => Value.int .i64 0) = List.replicate n (.int .i64 0) := by
    apply List.ext_getElem (by simp)
    intro j h1 h2
    simp
  unfold Own; rw [e]; exact h
end Go.Proofs.Ytolmdoigcaaieaa
