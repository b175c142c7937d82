/- Rows of lines (an account and an amount, two cells): rows that can be read, rows of the call's own; lines appended. -/
import Derived.Test.YtpbpflhoeidpnaaMem
import Derived.Test.YtpbpflhoeidpnaaMemV
import Derived.Test.YtpbpflhoeidpnaaJMath
import Derived.Laws.AppendOwnNone
import Derived.ArgAppend
import Derived.Laws.MakeOwn
namespace Go.Proofs.Ytpbpflhoeidpnaa
open Go.RowKit

/-- n lines (accounts ga, amounts gm) can be read from A on -/
def AtL (w : World) (A : Option Addr) (n : Nat) (ga gm : Nat → Int) : Prop :=
  n = 0 ∨ ∃ b off, A = some ⟨b, off, none⟩ ∧ b < w.heap.size ∧ ∀ j, j < n → w.cell? ⟨b, off + j * 2, none⟩ = some (.int .i64 (ga j)) ∧ w.cell? ⟨b, off + j * 2 + 1, none⟩ = some (.int .i64 (gm j))
section
variable {w w1 : World} {A : Option Addr} {n b : Nat} {ga gm : Nat → Int}
theorem AtL.below (r : AtL w A n ga gm) (k : Below w.heap.size w w1) : AtL w1 A n ga gm := by
  rcases r with h | ⟨b, off, e, hb, hc⟩
  · exact .inl h
  · exact .inr ⟨b, off, e, Nat.lt_of_lt_of_le hb k.size, fun j hj => ⟨(k.cell (p := ⟨b, off + j * 2, none⟩) hb).trans (hc j hj).1, (k.cell (p := ⟨b, off + j * 2 + 1, none⟩) hb).trans (hc j hj).2⟩⟩
theorem AtL.ext {ga' gm' : Nat → Int} (r : AtL w A n ga gm) (e : ∀ j, j < n → ga j = ga' j ∧ gm j = gm' j) : AtL w A n ga' gm' := by
  rcases r with h | ⟨b, off, ea, hb, hc⟩
  · exact .inl h
  · exact .inr ⟨b, off, ea, hb, fun j hj => by rw [← (e j hj).1, ← (e j hj).2]; exact hc j hj⟩
theorem AtL.some (r : AtL w A n ga gm) (hn : 0 < n) : ∃ b off, A = some ⟨b, off, none⟩ ∧ b < w.heap.size ∧ ∀ j, j < n → w.cell? ⟨b, off + j * 2, none⟩ = some (.int .i64 (ga j)) ∧ w.cell? ⟨b, off + j * 2 + 1, none⟩ = some (.int .i64 (gm j)) := by
  rcases r with h | h
  · omega
  · exact h
end
/-- the cells of lines -/
def lc (ga gm : Nat → Int) (i : Nat) : Value := .int .i64 (if i % 2 = 0 then ga (i / 2) else gm (i / 2))
theorem lc_a (ga gm : Nat → Int) (j : Nat) : lc ga gm (j * 2) = .int .i64 (ga j) := by unfold lc; rw [if_pos (by omega), show j * 2 / 2 = j by omega]
theorem lc_m (ga gm : Nat → Int) (j : Nat) : lc ga gm (j * 2 + 1) = .int .i64 (gm j) := by unfold lc; rw [if_neg (by omega), show (j * 2 + 1) / 2 = j by omega]
theorem lc_get (ga gm : Nat → Int) {n i : Nat} (h : i < n * 2) : ((List.range (n * 2)).map (lc ga gm))[i]? = some (lc ga gm i) := by simp [h]
theorem lc_ext {ga gm ga' gm' : Nat → Int} {n : Nat} (e : ∀ j, j < n → ga j = ga' j ∧ gm j = gm' j) : (List.range (n * 2)).map (lc ga gm) = (List.range (n * 2)).map (lc ga' gm') :=
  List.map_congr_left fun i hi => by
    have hi' : i < n * 2 := by simpa using hi
    unfold lc; rw [(e (i / 2) (by omega)).1, (e (i / 2) (by omega)).2]
theorem lc_one (ga gm : Nat → Int) : ∀ n, ∀ u ∈ (List.range n).map (lc ga gm), u.oneCell' = true := by
  intro n u hu
  obtain ⟨i, _, rfl⟩ := List.mem_map.1 hu
  rfl
theorem lc_cat (ga gm fa fm : Nat → Int) (n m : Nat) : (List.range (n * 2)).map (lc ga gm) ++ (List.range (m * 2)).map (lc fa fm) = (List.range ((n + m) * 2)).map (lc (cat n ga fa) (cat n gm fm)) := by
  apply List.ext_getElem (by simp; omega)
  intro i h1 h2
  simp at h1
  rw [List.getElem_append]
  split
  · rename_i h
    simp at h
    simp only [List.getElem_map, List.getElem_range]
    unfold lc; rw [cat_lt (by omega), cat_lt (by omega)]
  · rename_i h
    simp at h
    simp only [List.getElem_map, List.getElem_range, List.length_map, List.length_range]
    unfold lc; rw [cat_ge (by omega), cat_ge (by omega)]
    rw [show (i - n * 2) % 2 = i % 2 by omega, show (i - n * 2) / 2 = i / 2 - n by omega]
/-- a slice of the call's own (from block base on): n lines -/
def OwnL (w : World) (E : TypeId) (base : Nat) (v : Value) (n : Nat) (ga gm : Nat → Int) : Prop :=
  w.ownsRow base E 2 v n ((List.range (n * 2)).map (lc ga gm))
section
variable {w w1 : World} {E : TypeId} {base n : Nat} {v : Value} {ga gm : Nat → Int}
theorem OwnL.nil (w : World) (E : TypeId) (base : Nat) (ga gm : Nat → Int) : OwnL w E base (.slice none 0 0) 0 ga gm := World.ownsRow_nil _ _ _ _
theorem OwnL.ext {ga' gm' : Nat → Int} (o : OwnL w E base v n ga gm) (e : ∀ j, j < n → ga j = ga' j ∧ gm j = gm' j) : OwnL w E base v n ga' gm' := by
  unfold OwnL; rw [← lc_ext e]; exact o
theorem OwnL.kept {row : Option Nat} (o : OwnL w E base v n ga gm) (hg : w.grownBy w1 row) (hne : v.ownBlock = none ∨ v.ownBlock ≠ row) : OwnL w1 E base v n ga gm := World.ownsRow.kept o hg hne
theorem OwnL.alloc (o : OwnL w E base v n ga gm) (x : Obj) : OwnL (w.alloc x) E base v n ga gm := World.ownsRow.alloc o x
theorem OwnL.drew (o : OwnL w E base v n ga gm) : OwnL w.drew E base v n ga gm := o
theorem OwnL.below (o : OwnL w E base v n ga gm) (k : Below w.heap.size w w1) : OwnL w1 E base v n ga gm :=
  o.kept (row := none) ⟨k.os, k.tape, k.output, k.size, fun i hi _ => k.block i hi⟩ (by cases h : v.ownBlock <;> simp)
theorem OwnL.form (o : OwnL w E base v n ga gm) : ∃ A c, v = .slice A n c ∧ n ≤ c ∧ c ≤ maxLen ∧ (A = none → n = 0 ∧ c = 0) := own_form o
theorem OwnL.cut (o : OwnL w E base v n ga gm) : ∃ A c, v = .slice A n c ∧ n ≤ c ∧ c ≤ maxLen ∧ (A = none → n = 0 ∧ c = 0) ∧ AtL w A n ga gm := by
  obtain ⟨A, c, rfl, h1, h2, h3⟩ := o.form
  refine ⟨A, c, rfl, h1, h2, h3, ?_⟩
  rcases Cells.of_own o (Nat.le_refl _) with h | ⟨b, off, e, hb, hc⟩
  · refine .inl ?_
    have : n * 2 = 0 := by simpa using h
    omega
  · refine .inr ⟨b, off, e, hb, fun j hj => ⟨hc (j * 2) _ ?_, ?_⟩⟩
    · rw [← lc_a ga gm]; exact lc_get ga gm (by omega)
    · rw [Nat.add_assoc]; refine hc (j * 2 + 1) _ ?_; rw [← lc_m ga gm]; exact lc_get ga gm (by omega)
theorem OwnL.some (o : OwnL w E base v n ga gm) (hp : 0 < n) : ∃ b c, v = .slice (.some ⟨b, 0, none⟩) n c ∧ n ≤ c ∧ c ≤ maxLen ∧ base ≤ b ∧ b < w.heap.size ∧ ∀ j, j < n → w.cell? ⟨b, j * 2, none⟩ = .some (.int .i64 (ga j)) ∧ w.cell? ⟨b, j * 2 + 1, none⟩ = .some (.int .i64 (gm j)) := by
  obtain ⟨b, c, rfl, h1, h2⟩ := own_some o hp
  obtain ⟨h3, h4⟩ := World.ownsRow.lt o b rfl
  refine ⟨b, c, rfl, h1, h2, h3, h4, fun j hj => ⟨?_, ?_⟩⟩
  · rw [World.ownsRow.cellAt o _ (by omega), ← lc_a ga gm]; exact lc_get ga gm (by omega)
  · rw [World.ownsRow.cellAt o _ (by omega), ← lc_m ga gm]; exact lc_get ga gm (by omega)
/-- an own slice stays, while another one is appended to -/
theorem OwnL.beside {v' : Value} (o : OwnL w E base v n ga gm) (hg : w.grownBy w1 v'.ownBlock) (ha : Apart v v') : OwnL w1 E base v n ga gm := by
  refine o.kept hg ?_
  cases h : v.ownBlock with
  | none => exact .inl rfl
  | some k => exact .inr fun e => ha k h e.symm
theorem OwnL.mono {base' : Nat} (o : OwnL w E base v n ga gm) (h : base' ≤ base) : OwnL w E base' v n ga gm := by
  refine ⟨o.1, ?_⟩
  rcases o.2 with h0 | ⟨g, cap, cur, e, hb, hr⟩
  · exact .inl h0
  · exact .inr ⟨g, cap, cur, e, by omega, hr⟩
end
/-- lines from A on as a list of cells -/
theorem AtL.cells {w : World} {a : Addr} {n : Nat} {ga gm : Nat → Int} (h : AtL w (Option.some a) n ga gm) : ∀ j u, ((List.range (n * 2)).map (lc ga gm))[j]? = Option.some u → w.cell? (a.add j) = Option.some u := by
  intro i u hu
  have hi : i < n * 2 := by have := (List.getElem?_eq_some_iff.1 hu).1; simpa using this
  obtain ⟨b, off, e, _, hc⟩ := h.some (by omega)
  injection e with e; subst e
  have hu' : lc ga gm i = u := by simpa [hi] using hu
  subst hu'
  rw [show (⟨b, off, none⟩ : Addr).add i = ⟨b, off + i, none⟩ by unfold Addr.add; split <;> simp_all]
  rcases Nat.mod_two_eq_zero_or_one i with e | e
  · rw [show i = i / 2 * 2 by omega, lc_a]; exact (hc (i / 2) (by omega)).1
  · rw [show i = i / 2 * 2 + 1 by omega, lc_m, ← Nat.add_assoc]; exact (hc (i / 2) (by omega)).2
/-- one line more at the end of an own slice -/
theorem wpList_push_l {P : Program} {ops : Array Oper} {rest : List Oper} {o : Oper} {a : Act} {Q : Exit → Act → World → Prop} {i : TypeInfo} {T E : TypeId} {w : World}
    (hgd : o.guard = none) (s x : Operand) (ho : o.op = .call { callee := .builtin .append, args := #[s, x], argTypes := #[T, T] })
    (ht : P.underlying T = some (.slice E)) (hi : P.info? E = some i) (hz : i.zero = some (.agg #[.int .i64 0, .int .i64 0])) (hsize : i.size = 2) (hby : i.bytes = 16)
    (W : World) (base n X : Nat) (v : Value) (ga gm : Nat → Int) (za zm : Int) (hs : a.eval s = v) (hx : a.eval x = .slice (some ⟨X, 0, none⟩) 1 1) (hc : w.cell? ⟨X, 0, none⟩ = some (.int .i64 za)) (hc' : w.cell? ⟨X, 1, none⟩ = some (.int .i64 zm))
    (hown : OwnL w E base v n ga gm) (hn : n ≤ 1000000) (hW : Below base W w) (hb : base ≤ w.heap.size) (H : Nat) (hH : w.heap.size = H)
    (h : ∀ b c w', OwnL w' E base (.slice (some ⟨b, 0, none⟩) (n + 1) c) (n + 1) (fun j => if j = n then za else ga j) (fun j => if j = n then zm else gm j) → Below base W w' → w.grownBy w' v.ownBlock → (v.ownBlock = some b ∨ b = H) → wpList P ops Q rest (a.put o.dst (.slice (some ⟨b, 0, none⟩) (n + 1) c)) w') :
    wpList P ops Q (o :: rest) a w := by
  refine wpList_append_lies _ hgd s x T ho base E i _ 2 16 ht hi hz hsize hby rfl (by decide) v n _ hs hown ⟨X, 0, none⟩ 1 1 [.int .i64 za, .int .i64 zm] hx rfl ?_ (ints_oneCell .i64 [za, zm]) (by decide) (by unfold maxLen; omega) (by omega) hb H hH ?_
  · intro j u hu
    match j, hu with
    | 0, hu => simp at hu; subst hu; rw [show (⟨X, 0, none⟩ : Addr).add 0 = ⟨X, 0, none⟩ by unfold Addr.add; split <;> simp_all]; exact hc
    | 1, hu => simp at hu; subst hu; rw [show (⟨X, 0, none⟩ : Addr).add 1 = ⟨X, 1, none⟩ by unfold Addr.add; split <;> simp_all]; exact hc'
  intro b c w' ho' hg hat _
  refine h b c w' ?_ (hW.grown hg hb (fun k hk => (World.ownsRow.lt hown k hk).1)) hg hat
  have e := lc_cat ga gm (fun _ => za) (fun _ => zm) n 1
  have e1 : (List.range (1 * 2)).map (lc (fun _ => za) (fun _ => zm)) = [.int .i64 za, .int .i64 zm] := rfl
  rw [e1] at e
  rw [e] at ho'
  exact OwnL.ext ho' fun j hj => by
    by_cases q : j = n
    · rw [cat_ge (by omega), cat_ge (by omega), if_pos q, if_pos q]; exact ⟨rfl, rfl⟩
    · rw [cat_lt (by omega), cat_lt (by omega), if_neg q, if_neg q]; exact ⟨rfl, rfl⟩
/-- lines behind an own slice -/
theorem run_app_l {P : Program} {T ty E : TypeId} {i : TypeInfo} {w : World} (ht : P.underlying T = some (.slice E)) (hi : P.info? E = some i) (hz : i.zero = some (.agg #[.int .i64 0, .int .i64 0])) (hsize : i.size = 2) (hby : i.bytes = 16)
    (base n m c : Nat) (v : Value) (A : Option Addr) (ga gm fa fm : Nat → Int) (hown : OwnL w E base v n ga gm) (hA : AtL w A m fa fm) (hnone : A = none → m = 0 ∧ c = 0) (hn : n ≤ 1000000) (hm : m ≤ 1000000) (hb : base ≤ w.heap.size) :
    ∃ v' w', (Builtin.append_ #[T, T] ty #[v, .slice A m c]).run P w = .ok v' w' ∧ OwnL w' E base v' (n + m) (cat n ga fa) (cat n gm fm) ∧ w.grownBy w' v.ownBlock := by
  rcases A with _ | ad
  · obtain ⟨rfl, rfl⟩ := hnone rfl
    exact ⟨v, w, run_append_owned_none (P := P) w base T ty E i 2 ht hi v n _ hown, hown.ext fun j hj => ⟨(cat_lt hj).symm, (cat_lt hj).symm⟩, World.grownBy.refl _ _⟩
  · obtain ⟨v', w', hr, h2, h3, _, _⟩ := run_append_own_at (P := P) w base T ty E i _ 2 16 ht hi hz hsize hby rfl (by decide) v n _ hown ad m c ((List.range (m * 2)).map (lc fa fm)) (by simp) hA.cells (lc_one _ _ _) (by unfold maxLen; omega) (by omega) hb
    exact ⟨v', w', hr, by unfold OwnL; rw [← lc_cat]; exact h2, h3⟩
theorem wpList_app_l {P : Program} {ops : Array Oper} {rest : List Oper} {o : Oper} {a : Act} {Q : Exit → Act → World → Prop} {i : TypeInfo} {T E : TypeId} {w : World}
    (hgd : o.guard = none) (s x : Operand) (ho : o.op = .call { callee := .builtin .append, args := #[s, x], argTypes := #[T, T] })
    (ht : P.underlying T = some (.slice E)) (hi : P.info? E = some i) (hz : i.zero = some (.agg #[.int .i64 0, .int .i64 0])) (hsize : i.size = 2) (hby : i.bytes = 16)
    (W : World) (base n m c : Nat) (v : Value) (A : Option Addr) (ga gm fa fm : Nat → Int) (hs : a.eval s = v) (hx : a.eval x = .slice A m c) (hown : OwnL w E base v n ga gm) (hA : AtL w A m fa fm) (hnone : A = none → m = 0 ∧ c = 0) (hn : n ≤ 1000000) (hm : m ≤ 1000000)
    (hW : Below base W w) (hb : base ≤ w.heap.size)
    (h : ∀ v' w', OwnL w' E base v' (n + m) (cat n ga fa) (cat n gm fm) → Below base W w' → w.grownBy w' v.ownBlock → wpList P ops Q rest (a.put o.dst v') w') :
    wpList P ops Q (o :: rest) a w := by
  obtain ⟨v', w', hr, h2, h3⟩ := run_app_l (P := P) (ty := o.type) ht hi hz hsize hby base n m c v A ga gm fa fm hown hA hnone hn hm hb
  refine wpList_plain hgd fun K hK => ?_
  unfold Oper.wp execOp
  simp only [ho, resolve, invoke, builtin, Sem.run_bind, Sem.run_pure, Result.andThen_ok, List.map_toArray, List.map_cons, List.map_nil, hs, hx, hr]
  exact hK _ _ (h v' w' h2 (hW.grown h3 hb (fun k hk => (World.ownsRow.lt hown k hk).1)) h3)
/-- a new list of n empty lines -/
theorem make_l {P : Program} {T E : TypeId} {i : TypeInfo} (ht : P.underlying T = some (.slice E)) (hi : P.info? E = some i) (hz : i.zero = some (.agg #[.int .i64 0, .int .i64 0])) (hsize : i.size = 2) (hby : i.bytes = 16) (n : Nat) (hn : n ≤ 1000000) (w : World) :
    (Instr.makeSlice T (.int .i64 (n : Int)) (.int .i64 (n : Int))).run P w = .ok (.slice (some ⟨w.heap.size, 0, none⟩) n n) (w.alloc (.cells (madeCells #[.int .i64 0, .int .i64 0] (n * 2)) E)) := by
  have r := run_make (P := P) w T E i _ ht hi hz .i64 .i64 n n (by omega) (by omega) (by rw [hby]; omega) (by omega)
  rw [hsize] at r
  simp only [Int.toNat_natCast] at r
  exact r
theorem made_l (w : World) (E : TypeId) (n : Nat) (hn : n ≤ 1000000) : OwnL (w.alloc (.cells (madeCells #[.int .i64 0, .int .i64 0] (n * 2)) E)) E w.heap.size (.slice (some ⟨w.heap.size, 0, none⟩) n n) n (fun _ => 0) (fun _ => 0) := by
  have e : (madeCells #[.int .i64 0, .int .i64 0] (n * 2)).toList = (List.range (n * 2)).map (lc (fun _ => 0) (fun _ => 0)) := by
    apply List.ext_getElem (by simp [size_madeCells])
    intro j h1 h2
    rcases Nat.mod_two_eq_zero_or_one j with q | q <;> simp [madeCells, lc, q]
  unfold OwnL; rw [← e]
  exact World.ownsRow_lit w _ n (Nat.le_refl _) (by unfold maxLen; omega) (size_madeCells _ _)
/-- one line of an own slice is put in place of another: its account, its amount -/
theorem OwnL.setA {w : World} {E : TypeId} {base n b c : Nat} {ga gm : Nat → Int} (o : OwnL w E base (.slice (Option.some ⟨b, 0, none⟩) n c) n ga gm) (k : Nat) (x : Int) : OwnL (w.setCell ⟨b, k * 2, none⟩ (.int .i64 x)) E base (.slice (Option.some ⟨b, 0, none⟩) n c) n (fun j => if j = k then x else ga j) gm := by
  have h := (World.ownsRow.stored o (k * 2) (.int .i64 x)).1
  have e : (List.range (n * 2)).map (lc (fun j => if j = k then x else ga j) gm) = ((List.range (n * 2)).map (lc ga gm)).set (k * 2) (.int .i64 x) := by
    apply List.ext_getElem (by simp)
    intro j h1 h2
    rw [List.getElem_set]
    simp only [List.getElem_map, List.getElem_range]
    by_cases q : k * 2 = j
    · rw [if_pos q, ← q, lc_a, if_pos rfl]
    · rw [if_neg q]
      unfold lc
      by_cases p : j % 2 = 0
      · rw [if_pos p, if_pos p]; exact congrArg _ (if_neg (by omega))
      · rw [if_neg p, if_neg p]
  unfold OwnL; rw [e]; exact h
theorem OwnL.setM {w : World} {E : TypeId} {base n b c : Nat} {ga gm : Nat → Int} (o : OwnL w E base (.slice (Option.some ⟨b, 0, none⟩) n c) n ga gm) (k : Nat) (x : Int) : OwnL (w.setCell ⟨b, k * 2 + 1, none⟩ (.int .i64 x)) E base (.slice (Option.some ⟨b, 0, none⟩) n c) n ga (fun j => if j = k then x else gm j) := by
  have h := (World.ownsRow.stored o (k * 2 + 1) (.int .i64 x)).1
  have e : (List.range (n * 2)).map (lc ga (fun j => if j = k then x else gm j)) = ((List.range (n * 2)).map (lc ga gm)).set (k * 2 + 1) (.int .i64 x) := by
    apply List.ext_getElem (by simp)
    intro j h1 h2
    rw [List.getElem_set]
    simp only [List.getElem_map, List.getElem_range]
    by_cases q : k * 2 + 1 = j
    · rw [if_pos q, ← q, lc_m, if_pos rfl]
    · rw [if_neg q]
      unfold lc
      by_cases p : j % 2 = 0
      · rw [if_pos p, if_pos p]
      · rw [if_neg p, if_neg p]; exact congrArg _ (if_neg (by omega))
  unfold OwnL; rw [e]; exact h
/-- a literal list of lines in a new block -/
theorem lit_l (w : World) (xs : Array Value) (t : TypeId) (b n : Nat) (ga gm : Nat → Int) (h : w.heap.size = b) (e : xs.toList = (List.range (n * 2)).map (lc ga gm)) : AtL (w.alloc (.cells xs t)) (some ⟨b, 0, none⟩) n ga gm := by
  subst h
  refine .inr ⟨_, _, rfl, by simp, fun j hj => ⟨?_, ?_⟩⟩
  · rw [Nat.zero_add, cell_of_row _ w.heap.size _ _ t (0, 0) (heap_alloc_new w _), ← Array.getElem?_toList, e, ← lc_a ga gm]; exact lc_get ga gm (by omega)
  · rw [Nat.zero_add, cell_of_row _ w.heap.size _ _ t (0, 0) (heap_alloc_new w _), ← Array.getElem?_toList, e, ← lc_m ga gm]; exact lc_get ga gm (by omega)
theorem own_lit_l (w : World) (xs : Array Value) (t : TypeId) (base n : Nat) (ga gm : Nat → Int) (hb : base ≤ w.heap.size) (hn : n ≤ maxLen) (e : xs.toList = (List.range (n * 2)).map (lc ga gm)) : OwnL (w.alloc (.cells xs t)) t base (.slice (some ⟨w.heap.size, 0, none⟩) n n) n ga gm := by
  unfold OwnL; rw [← e]
  exact World.ownsRow_lit w xs n hb hn (by have := congrArg List.length e; simpa using this)
/-- some lines, which can be read -/
def SomeL (v : Value) (w' : World) (n : Nat) (ga gm : Nat → Int) : Prop := ∃ A c, v = .slice A n c ∧ n ≤ c ∧ c ≤ maxLen ∧ (A = none → n = 0 ∧ c = 0) ∧ AtL w' A n ga gm
theorem OwnL.someL {w : World} {E : TypeId} {base n : Nat} {v : Value} {ga gm : Nat → Int} (o : OwnL w E base v n ga gm) : SomeL v w n ga gm := o.cut
theorem keep_drew {w1 : World} {p r : Addr} {u v : Value} (h1 : w1.cell? p = some u) (h2 : w1.cell? r = some v) : w1.drew.cell? p = some u ∧ w1.drew.cell? r = some v ∧ Below w1.heap.size w1 w1.drew :=
  ⟨h1, h2, ⟨rfl, rfl, rfl, Nat.le_refl _, fun _ _ => rfl⟩⟩
theorem keep_call {w1 w' w2 : World} {p r : Addr} {u v : Value} (h1 : w'.cell? p = some u) (h2 : w'.cell? r = some v) (h3 : Below w1.heap.size w1 w') (hb : Below w'.heap.size w' w2) : w2.cell? p = some u ∧ w2.cell? r = some v ∧ Below w1.heap.size w1 w2 :=
  ⟨(World.cell?_of_block (hb.block _ (World.block_lt_of_cell? _ _ h1))).trans h1, (World.cell?_of_block (hb.block _ (World.block_lt_of_cell? _ _ h2))).trans h2, h3.trans (hb.mono h3.size)⟩
end Go.Proofs.Ytpbpflhoeidpnaa
