/- Rows of records of k cells each, whatever they are: 'enc' tells a record's cells. Rows that can be read, rows of the call's own; one record appended, put in place of another, cut off. -/
import Derived.Test.YtdchihhekmbeiaaM1
namespace Go.Proofs.Ytdchihhekmbeiaa
open Go.RowKit

/-- the cells of n records, one behind the other -/
def rl {α : Type} (enc : α → List Value) (g : Nat → α) (n : Nat) : List Value := (List.range n).flatMap fun j => enc (g j)
section
variable {α : Type} {enc : α → List Value} {k : Nat} {g h : Nat → α} {n m : Nat}
theorem rl_zero : rl enc g 0 = [] := rfl
theorem rl_succ (enc : α → List Value) (g : Nat → α) (n : Nat) : rl enc g (n + 1) = rl enc g n ++ enc (g n) := by
  unfold rl; rw [List.range_succ, List.flatMap_append]; simp
theorem rl_ext (e : ∀ j, j < n → g j = h j) : rl enc g n = rl enc h n := by
  induction n with
  | zero => rfl
  | succ n ih => rw [rl_succ, rl_succ, ih fun j hj => e j (by omega), e n (by omega)]
theorem rl_length (hk : ∀ x, (enc x).length = k) (g : Nat → α) (n : Nat) : (rl enc g n).length = n * k := by
  induction n with
  | zero => simp [rl]
  | succ n ih => rw [rl_succ, List.length_append, ih, hk, Nat.succ_mul]
theorem rl_get (hk : ∀ x, (enc x).length = k) {j i : Nat} (hj : j < n) (hi : i < k) : (rl enc g n)[j * k + i]? = (enc (g j))[i]? := by
  induction n with
  | zero => omega
  | succ n ih =>
    have hl := rl_length hk g n
    rw [rl_succ]
    by_cases q : j < n
    · rw [List.getElem?_append_left (by
        rw [hl]
        have := Nat.mul_le_mul_right k (show j + 1 ≤ n by omega)
        rw [Nat.succ_mul] at this; omega)]
      exact ih q
    · obtain rfl : j = n := by omega
      rw [List.getElem?_append_right (by omega), hl, Nat.add_sub_cancel_left]
/-- one record behind the others -/
theorem rl_push (enc : α → List Value) (g : Nat → α) (n : Nat) (x : α) : rl enc (fun j => if j = n then x else g j) (n + 1) = rl enc g n ++ enc x := by
  rw [rl_succ, if_pos rfl, rl_ext (h := g) fun j hj => if_neg (by omega)]
/-- records behind others -/
theorem rl_cat (enc : α → List Value) (g h : Nat → α) (n m : Nat) : rl enc (fun j => if j < n then g j else h (j - n)) (n + m) = rl enc g n ++ rl enc h m := by
  induction m with
  | zero => rw [Nat.add_zero, rl_zero, List.append_nil]; exact rl_ext fun j hj => if_pos hj
  | succ m ih => rw [Nat.add_succ, rl_succ, ih, rl_succ, if_neg (by omega), List.append_assoc, Nat.add_sub_cancel_left]
theorem rl_take (hk : ∀ x, (enc x).length = k) (g : Nat → α) (h : m ≤ n) : (rl enc g n).take (m * k) = rl enc g m := by
  obtain ⟨d, rfl⟩ := Nat.exists_eq_add_of_le h
  have e : rl enc g (m + d) = rl enc g m ++ rl enc (fun i => g (m + i)) d := by
    rw [← rl_cat]
    refine rl_ext fun j hj => ?_
    by_cases q : j < m
    · rw [if_pos q]
    · rw [if_neg q, show m + (j - m) = j by omega]
  rw [e, List.take_left' (rl_length hk g m)]
theorem rl_mem {u : Value} (hu : u ∈ rl enc g n) : ∃ j, j < n ∧ u ∈ enc (g j) := by
  obtain ⟨j, hj, h⟩ := List.mem_flatMap.1 hu
  exact ⟨j, by simpa using hj, h⟩
theorem rl_one (h1 : ∀ x, ∀ u ∈ enc x, u.oneCell' = true) : ∀ u ∈ rl enc g n, u.oneCell' = true := fun u hu => by
  obtain ⟨j, _, h⟩ := rl_mem hu
  exact h1 _ u h
/-- record i is put in place of another, cell by cell: what the row of cells is then -/
theorem rl_set (hk : ∀ x, (enc x).length = k) {i c : Nat} {x : α} {u : Value} (hi : i < n) (hc : c < k) (hx : ∀ d, d ≠ c → (enc x)[d]? = (enc (g i))[d]?) (hu : (enc x)[c]? = some u) :
    (rl enc g n).set (i * k + c) u = rl enc (fun j => if j = i then x else g j) n := by
  have hlt : ∀ j, j < n → ∀ d, d < k → j * k + d < n * k := fun j hj d hd => by
    have := Nat.mul_le_mul_right k (show j + 1 ≤ n by omega)
    rw [Nat.succ_mul] at this; omega
  apply List.ext_getElem? fun p => ?_
  by_cases hp : p < n * k
  · have hk0 : 0 < k := by omega
    obtain ⟨j, d, hd, rfl⟩ : ∃ j d, d < k ∧ p = j * k + d := ⟨p / k, p % k, Nat.mod_lt _ hk0, by rw [Nat.mul_comm]; exact (Nat.div_add_mod p k).symm⟩
    have hj : j < n := by
      rcases Nat.lt_or_ge j n with q | q
      · exact q
      · have := Nat.mul_le_mul_right k q; omega
    rw [rl_get hk hj hd, List.getElem?_set, rl_get hk hj hd]
    by_cases e : i * k + c = j * k + d
    · have eji : i = j := by
        rcases Nat.lt_trichotomy i j with q | q | q
        · have := Nat.mul_le_mul_right k (show i + 1 ≤ j by omega); rw [Nat.succ_mul] at this; omega
        · exact q
        · have := Nat.mul_le_mul_right k (show j + 1 ≤ i by omega); rw [Nat.succ_mul] at this; omega
      subst eji
      obtain rfl : c = d := by omega
      rw [if_pos rfl, if_pos (by rw [rl_length hk]; exact hp), if_pos rfl, hu]
    · rw [if_neg e]
      by_cases q : j = i
      · subst q
        rw [if_pos rfl]; exact (hx d (by omega)).symm
      · rw [if_neg q]
  · rw [List.getElem?_eq_none (by rw [List.length_set, rl_length hk]; omega), List.getElem?_eq_none (by rw [rl_length hk]; omega)]
end
/-- n records can be read from A on -/
def AtR {α : Type} (enc : α → List Value) (k : Nat) (w : World) (A : Option Addr) (n : Nat) (g : Nat → α) : Prop :=
  n = 0 ∨ ∃ b off, A = some ⟨b, off, none⟩ ∧ b < w.heap.size ∧ ∀ j, j < n → ∀ i u, (enc (g j))[i]? = some u → w.cell? ⟨b, off + j * k + i, none⟩ = some u
/-- a slice of the call's own (from block base on): n records -/
def OwnR {α : Type} (enc : α → List Value) (k : Nat) (w : World) (E : TypeId) (base : Nat) (v : Value) (n : Nat) (g : Nat → α) : Prop := w.ownsRow base E k v n (rl enc g n)
section
variable {α : Type} {enc : α → List Value} {k : Nat} {w w1 : World} {A : Option Addr} {E : TypeId} {base n m : Nat} {v : Value} {g h : Nat → α}
theorem AtR.below (r : AtR enc k w A n g) (kb : Below w.heap.size w w1) : AtR enc k w1 A n g := by
  rcases r with h | ⟨b, off, e, hb, hc⟩
  · exact .inl h
  · exact .inr ⟨b, off, e, Nat.lt_of_lt_of_le hb kb.size, fun j hj i u hu => (kb.cell (p := ⟨b, off + j * k + i, none⟩) hb).trans (hc j hj i u hu)⟩
theorem AtR.ext (r : AtR enc k w A n g) (e : ∀ j, j < n → g j = h j) : AtR enc k w A n h := by
  rcases r with h | ⟨b, off, ea, hb, hc⟩
  · exact .inl h
  · exact .inr ⟨b, off, ea, hb, fun j hj => by rw [← e j hj]; exact hc j hj⟩
theorem AtR.some (r : AtR enc k w A n g) (hn : 0 < n) : ∃ b off, A = some ⟨b, off, none⟩ ∧ b < w.heap.size ∧ ∀ j, j < n → ∀ i u, (enc (g j))[i]? = some u → w.cell? ⟨b, off + j * k + i, none⟩ = some u := by
  rcases r with h | h
  · omega
  · exact h
theorem OwnR.nil (enc : α → List Value) (k : Nat) (w : World) (E : TypeId) (base : Nat) (g : Nat → α) : OwnR enc k w E base (.slice none 0 0) 0 g := World.ownsRow_nil _ _ _ _
theorem OwnR.ext (o : OwnR enc k w E base v n g) (e : ∀ j, j < n → g j = h j) : OwnR enc k w E base v n h := by unfold OwnR; rw [← rl_ext e]; exact o
theorem OwnR.kept {row : Option Nat} (o : OwnR enc k w E base v n g) (hg : w.grownBy w1 row) (hne : v.ownBlock = none ∨ v.ownBlock ≠ row) : OwnR enc k w1 E base v n g := World.ownsRow.kept o hg hne
theorem OwnR.alloc (o : OwnR enc k w E base v n g) (x : Obj) : OwnR enc k (w.alloc x) E base v n g := World.ownsRow.alloc o x
theorem OwnR.drew (o : OwnR enc k w E base v n g) : OwnR enc k w.drew E base v n g := o
theorem OwnR.below (o : OwnR enc k w E base v n g) (kb : Below w.heap.size w w1) : OwnR enc k w1 E base v n g := own_blocks o fun b hb => kb.block b (World.ownsRow.lt o b hb).2
theorem OwnR.blocks (o : OwnR enc k w E base v n g) (kb : ∀ b, v.ownBlock = Option.some b → w1.heap[b]? = w.heap[b]?) : OwnR enc k w1 E base v n g := own_blocks o kb
theorem OwnR.mono {base' : Nat} (o : OwnR enc k w E base v n g) (hb : base' ≤ base) : OwnR enc k w E base' v n g := own_mono o hb
theorem OwnR.lt (o : OwnR enc k w E base v n g) : ∀ b, v.ownBlock = Option.some b → base ≤ b ∧ b < w.heap.size := World.ownsRow.lt o
theorem OwnR.form (o : OwnR enc k w E base v n g) : ∃ A c, v = .slice A n c ∧ n ≤ c ∧ c ≤ maxLen ∧ (A = none → n = 0 ∧ c = 0) := own_form o
/-- its block, its cells: none is frozen -/
theorem OwnR.some (hk : ∀ x, (enc x).length = k) (o : OwnR enc k w E base v n g) (hp : 0 < n) :
    ∃ b c, v = .slice (.some ⟨b, 0, none⟩) n c ∧ n ≤ c ∧ c ≤ maxLen ∧ base ≤ b ∧ b < w.heap.size ∧ (∀ j, j < n → ∀ i u, (enc (g j))[i]? = Option.some u → w.cell? ⟨b, j * k + i, none⟩ = Option.some u) ∧ ∀ j, w.frozen? ⟨b, j, none⟩ = false := by
  obtain ⟨b, c, rfl, h1, h2⟩ := own_some o hp
  obtain ⟨h3, h4⟩ := World.ownsRow.lt o b rfl
  refine ⟨b, c, rfl, h1, h2, h3, h4, fun j hj i u hu => ?_, fun j => World.ownsRow.frozenAt o j⟩
  have hi : i < k := by
    have := (List.getElem?_eq_some_iff.1 hu).1
    rw [hk] at this; exact this
  have hlt : j * k + i < n * k := by
    have := Nat.mul_le_mul_right k (show j + 1 ≤ n by omega)
    rw [Nat.succ_mul] at this; omega
  rw [World.ownsRow.cellAt o _ hlt, rl_get hk hj hi]; exact hu
theorem OwnR.at (hk : ∀ x, (enc x).length = k) (o : OwnR enc k w E base v n g) : ∃ A c, v = .slice A n c ∧ n ≤ c ∧ c ≤ maxLen ∧ (A = none → n = 0 ∧ c = 0) ∧ AtR enc k w A n g := by
  obtain ⟨A, c, rfl, h1, h2, h3⟩ := o.form
  refine ⟨A, c, rfl, h1, h2, h3, ?_⟩
  rcases Nat.eq_zero_or_pos n with e | e
  · exact .inl e
  · obtain ⟨b, c', e', _, _, _, hb, hc, _⟩ := o.some hk e
    injection e' with e1 _ _
    subst e1
    exact .inr ⟨b, 0, rfl, hb, fun j hj i u hu => by rw [Nat.zero_add]; exact hc j hj i u hu⟩
/-- the first m of them -/
theorem OwnR.less (hk : ∀ x, (enc x).length = k) {c : Nat} (o : OwnR enc k w E base (.slice A n c) n g) (hm : m ≤ n) : OwnR enc k w E base (.slice A m c) m g := by
  have r := own_less o hm
  rw [rl_take hk g hm] at r
  exact r
/-- one cell of record i is written -/
theorem OwnR.setc (hk : ∀ x, (enc x).length = k) {b c : Nat} (o : OwnR enc k w E base (.slice (Option.some ⟨b, 0, none⟩) n c) n g) (i d : Nat) (x : α) (u : Value) (hi : i < n) (hd : d < k) (hx : ∀ d', d' ≠ d → (enc x)[d']? = (enc (g i))[d']?) (hu : (enc x)[d]? = Option.some u) :
    OwnR enc k (w.setCell ⟨b, i * k + d, none⟩ u) E base (.slice (Option.some ⟨b, 0, none⟩) n c) n (fun j => if j = i then x else g j) := by
  have h := (World.ownsRow.stored o (i * k + d) u).1
  rw [rl_set hk hi hd hx hu] at h
  exact h
end
section
variable {α : Type} {enc : α → List Value} {k : Nat} {P : Program} {ops : Array Oper} {o : Oper} {a : Act} {i : TypeInfo} {T E : TypeId} {w : World} {z : Value} {bytes : Nat}
/-- one record more at the end of an own row -/
theorem wpList_push_r {rest : List Oper} {Q : Exit → Act → World → Prop} (hgd : o.guard = none) (s x : Operand) (ho : o.op = .call { callee := .builtin .append, args := #[s, x], argTypes := #[T, T] })
    (ht : P.underlying T = some (.slice E)) (hi : P.info? E = some i) (hz : i.zero = some z) (hsize : i.size = k) (hby : i.bytes = bytes) (hbb : bytes ≤ 128) (hzs : z.cells.size = k) (hk0 : 0 < k) (hk : ∀ y, (enc y).length = k) (h1 : ∀ y, ∀ u ∈ enc y, u.oneCell' = true)
    (W : World) (base n X : Nat) (v : Value) (g : Nat → α) (y : α) (hs : a.eval s = v) (hx : a.eval x = .slice (some ⟨X, 0, none⟩) 1 1) (hc : ∀ j u, (enc y)[j]? = some u → w.cell? ⟨X, j, none⟩ = some u)
    (hown : OwnR enc k w E base v n g) (hn : n ≤ 1000000) (hW : Below base W w) (hb : base ≤ w.heap.size) (H : Nat) (hH : w.heap.size = H)
    (h : ∀ b c w', OwnR enc k w' E base (.slice (some ⟨b, 0, none⟩) (n + 1) c) (n + 1) (fun j => if j = n then y else g j) → Below base W w' → w.grownBy w' v.ownBlock → (v.ownBlock = some b ∨ b = H) → wpList P ops Q rest (a.put o.dst (.slice (some ⟨b, 0, none⟩) (n + 1) c)) w') :
    wpList P ops Q (o :: rest) a w := by
  refine wpList_append_lies _ hgd s x T ho base E i z k bytes ht hi hz hsize hby hzs hk0 v n _ hs hown ⟨X, 0, none⟩ 1 1 (enc y) hx (by rw [hk, Nat.one_mul]) ?_ (h1 y) (by decide) (by unfold maxLen; omega) ?_ hb H hH ?_
  · intro j u hu
    rw [show (⟨X, 0, none⟩ : Addr).add j = ⟨X, j, none⟩ by unfold Addr.add; split <;> simp_all]; exact hc j u hu
  · have := Nat.mul_le_mul (show n + 1 ≤ 1000001 by omega) hbb; omega
  intro b c w' ho' hg hat _
  refine h b c w' ?_ (hW.grown hg hb (fun q hq => (World.ownsRow.lt hown q hq).1)) hg hat
  unfold OwnR; rw [rl_push]; exact ho'
/-- one record more, at a step of a region that draws its order -/
theorem step_push_r {K : Act → World → Prop} {Q : Exit → Act → World → Prop} {Z : Prop} (hgd : o.guard = none) (s x : Operand) (ho : o.op = .call { callee := .builtin .append, args := #[s, x], argTypes := #[T, T] })
    (ht : P.underlying T = some (.slice E)) (hi : P.info? E = some i) (hz : i.zero = some z) (hsize : i.size = k) (hby : i.bytes = bytes) (hbb : bytes ≤ 128) (hzs : z.cells.size = k) (hk0 : 0 < k) (hk : ∀ y, (enc y).length = k) (h1 : ∀ y, ∀ u ∈ enc y, u.oneCell' = true)
    (W : World) (base n X : Nat) (v : Value) (g : Nat → α) (y : α) (hs : a.eval s = v) (hx : a.eval x = .slice (some ⟨X, 0, none⟩) 1 1) (hc : ∀ j u, (enc y)[j]? = some u → w.cell? ⟨X, j, none⟩ = some u)
    (hown : OwnR enc k w E base v n g) (hn : n ≤ 1000000) (hW : Below base W w) (hb : base ≤ w.heap.size) (H : Nat) (hH : w.heap.size = H)
    (h : ∀ b c w', OwnR enc k w' E base (.slice (some ⟨b, 0, none⟩) (n + 1) c) (n + 1) (fun j => if j = n then y else g j) → Below base W w' → w.grownBy w' v.ownBlock → (v.ownBlock = some b ∨ b = H) → K (a.put o.dst (.slice (some ⟨b, 0, none⟩) (n + 1) c)) w') :
    if Region.wanted o (yielded ops a.tmps) = true then Oper.wp P o a w K Q else Z := by
  refine step_append_lies _ hgd s x T ho base E i z k bytes ht hi hz hsize hby hzs hk0 v n _ hs hown ⟨X, 0, none⟩ 1 1 (enc y) hx (by rw [hk, Nat.one_mul]) ?_ (h1 y) (by decide) (by unfold maxLen; omega) ?_ hb H hH ?_
  · intro j u hu
    rw [show (⟨X, 0, none⟩ : Addr).add j = ⟨X, j, none⟩ by unfold Addr.add; split <;> simp_all]; exact hc j u hu
  · have := Nat.mul_le_mul (show n + 1 ≤ 1000001 by omega) hbb; omega
  intro b c w' ho' hg hat _
  refine h b c w' ?_ (hW.grown hg hb (fun q hq => (World.ownsRow.lt hown q hq).1)) hg hat
  unfold OwnR; rw [rl_push]; exact ho'
end
/-- one record in a new block, as a literal lays it -/
theorem rec_lit (w : World) (l : List Value) (T : TypeId) (b : Nat) (hb : w.heap.size = b) : ∀ j u, l[j]? = some u → (w.alloc (.cells l.toArray T)).cell? ⟨b, j, none⟩ = some u := by
  subst hb
  intro j u hu
  rw [cell_of_row _ w.heap.size j _ T (0, 0) (heap_alloc_new w _)]; simpa using hu
end Go.Proofs.Ytdchihhekmbeiaa
