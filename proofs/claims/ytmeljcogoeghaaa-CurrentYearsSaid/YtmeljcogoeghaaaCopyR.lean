/- Rows of records of k cells: copy, append with room, clear, over a block that is known whole; a record put in, one struck out. -/
import Derived.Test.YtmeljcogoeghaaaRec
import Derived.Laws.CopyOwn
import Derived.Lib.AppendZerosOnto
import Derived.Lib.Overlaps
import Derived.Deep.RegionLaw
namespace Go.Proofs.Ytmeljcogoeghaaa
open Go.RowKit

section
variable {α : Type} {enc : α → List Value} {k : Nat} {g : Nat → α} {n p : Nat} {x : α}
/-- rows in two parts -/
theorem rl_split (enc : α → List Value) (g : Nat → α) (h : p ≤ n) : rl enc g n = rl enc g p ++ rl enc (fun j => g (p + j)) (n - p) := by
  obtain ⟨d, rfl⟩ := Nat.exists_eq_add_of_le h
  rw [Nat.add_sub_cancel_left, ← rl_cat]
  refine rl_ext fun j _ => ?_
  by_cases q : j < p
  · rw [if_pos q]
  · rw [if_neg q, show p + (j - p) = j by omega]
/-- a record put in -/
theorem rl_ins (enc : α → List Value) (g : Nat → α) (x : α) (h : p ≤ n) :
    rl enc (fun j => if j < p then g j else if j = p then x else g (j - 1)) (n + 1) = rl enc g p ++ (enc x ++ rl enc (fun j => g (p + j)) (n - p)) := by
  rw [rl_split enc _ (show p ≤ n + 1 by omega), rl_ext (h := g) fun j hj => if_pos hj, rl_split enc _ (show 1 ≤ n + 1 - p by omega)]
  congr 2
  · rw [rl_succ, rl_zero, List.nil_append, if_neg (by omega), if_pos (by omega)]
  · rw [show n + 1 - p - 1 = n - p by omega]
    refine rl_ext fun j _ => ?_
    rw [if_neg (by omega), if_neg (by omega), show p + (1 + j) - 1 = p + j by omega]
/-- a record struck out -/
theorem rl_del (enc : α → List Value) (g : Nat → α) (h : p < n) :
    rl enc (fun j => if j < p then g j else g (j + 1)) (n - 1) = rl enc g p ++ rl enc (fun j => g (p + 1 + j)) (n - 1 - p) := by
  rw [rl_split enc _ (show p ≤ n - 1 by omega), rl_ext (h := g) fun j hj => if_pos hj]
  congr 1
  refine rl_ext fun j _ => ?_
  rw [if_neg (by omega), show p + j + 1 = p + 1 + j by omega]
end
section
variable {α : Type}
theorem splice_ins (A B T X : List α) (h : X.length ≤ T.length) : splice (splice (A ++ (B ++ T)) (A.length + X.length) B) A.length X = A ++ (X ++ (B ++ T.drop X.length)) := by
  unfold splice
  have e1 : (A ++ (B ++ T)).drop (A.length + X.length + B.length) = T.drop X.length := by
    rw [show A.length + X.length + B.length = A.length + (B.length + X.length) by omega, List.drop_append, List.drop_append, List.drop_eq_nil_of_le (by omega), List.drop_eq_nil_of_le (by omega), List.nil_append, List.nil_append, show A.length + (B.length + X.length) - A.length - B.length = X.length by omega]
  have l1 : ((A ++ (B ++ T)).take (A.length + X.length)).length = A.length + X.length := by simp; omega
  rw [e1, List.drop_left' l1, List.take_append_of_le_length (by omega), List.take_take, Nat.min_eq_left (by omega), List.take_left]
theorem splice_put (A B X Z : List α) : splice (splice (A ++ Z) A.length X) (A.length + X.length) B = A ++ (X ++ (B ++ Z.drop (X.length + B.length))) := by
  have e : splice (A ++ Z) A.length X = (A ++ X) ++ Z.drop X.length := by
    unfold splice
    rw [List.take_left, List.drop_append, List.drop_eq_nil_of_le (by omega), List.nil_append, Nat.add_sub_cancel_left, List.append_assoc]
  have l : (A ++ X).length = A.length + X.length := by simp
  rw [e]
  unfold splice
  rw [← l, List.take_left, List.drop_append, List.drop_eq_nil_of_le (by omega), List.nil_append, Nat.add_sub_cancel_left, List.drop_drop, List.append_assoc]
theorem splice_end (A B T : List α) (X : List α) : ((splice (A ++ (B ++ T)) A.length X).take (A.length + X.length)) = A ++ X := by
  unfold splice
  rw [List.take_left, ← List.append_assoc, show A.length + X.length = (A ++ X).length by simp, List.take_left]
end
section
variable {P : Program} {w : World} {k : Nat} {i : TypeInfo} {elem : TypeId}
theorem run_copy_k (w : World) (dT sT ty : TypeId) (g o dLen dCap : Nat) (a : Addr) (sLen sCap : Nat) (cur : List Value) (t : TypeId) (cs : List Value)
    (hu : P.underlying dT = some (.slice elem)) (hi : P.info? elem = some i) (hk : i.size = k)
    (hg : w.heap[g]? = some (.cells cur.toArray t (0, 0))) (hn : cs.length = Nat.min sLen dLen * k)
    (hsrc : ∀ j v, cs[j]? = some v → w.cell? (a.add j) = some v) (hfit : o + cs.length ≤ cur.length) (h1 : ∀ v ∈ cs, v.oneCell' = true) :
    (Builtin.copy_ #[dT, sT] ty #[.slice (some ⟨g, o, none⟩) dLen dCap, .slice (some a) sLen sCap]).run P w = .ok (goInt (Nat.min sLen dLen)) (w.setRow g (splice cur o cs).toArray) := by
  have hl := run_loadCells_list (P := P) w a cs hsrc
  have hst := run_storeCells_at P g o t cs 0 cur.toArray w hg (by simpa using hfit) h1
  subst hk
  have e : w.setRow g (splice cur o cs).toArray = w.setRow g ((cur.take o ++ cs ++ cur.drop (o + cs.length)).toArray) := by unfold splice; rw [List.append_assoc]
  rw [e]
  simp only [Nat.add_zero] at hst
  simp [Builtin.copy_, run_underlying hu, Builtin.lenOf, Builtin.firstCells, sizeOf, typeInfo, hi, ← hn, hl, hst]
theorem setRow_has {g : Nat} {cur : List Value} {t : TypeId} (hg : w.heap[g]? = some (.cells cur.toArray t (0, 0))) (xs : List Value) : (w.setRow g xs.toArray).heap[g]? = some (.cells xs.toArray t (0, 0)) := setRow_heap w g cur.toArray xs.toArray t _ hg
variable {ops : Array Oper} {o : Oper} {a : Act}
/-- copy in a row that is known whole -/
theorem wpList_copy_k {rest : List Oper} {Q : Exit → Act → World → Prop} (hgd : o.guard = none) (d s : Operand) (dT sT : TypeId)
    (ho : o.op = .call { callee := .builtin .copy, args := #[d, s], argTypes := #[dT, sT] }) (hu : P.underlying dT = some (.slice elem)) (hi : P.info? elem = some i) (hk : i.size = k)
    (g off dLen dCap : Nat) (ad : Addr) (sLen sCap : Nat) (hd : a.eval d = .slice (some ⟨g, off, none⟩) dLen dCap) (hs : a.eval s = .slice (some ad) sLen sCap)
    (cur : List Value) (t : TypeId) (hg : w.heap[g]? = some (.cells cur.toArray t (0, 0))) (cs : List Value) (hn : cs.length = Nat.min sLen dLen * k)
    (hsrc : ∀ j v, cs[j]? = some v → w.cell? (ad.add j) = some v) (hfit : off + cs.length ≤ cur.length) (h1 : ∀ v ∈ cs, v.oneCell' = true) (B : Nat) (w0 : World) (hb : Below B w0 w) (hBg : B ≤ g)
    (h : ∀ w', Hid (w'.heap[g]? = some (.cells (splice cur off cs).toArray t (0, 0))) → Hid (∀ q, q ≠ g → w'.heap[q]? = w.heap[q]?) → Below B w0 w' → wpList P ops Q rest (a.put o.dst (goInt (Nat.min sLen dLen))) w') :
    wpList P ops Q (o :: rest) a w := by
  refine wpList_plain hgd fun K hK => ?_
  have hrun := run_copy_k (P := P) w dT sT o.type g off dLen dCap ad sLen sCap cur t cs hu hi hk hg hn hsrc hfit h1
  unfold Oper.wp
  simp only [execOp, ho, resolve, invoke, builtin, Sem.run_bind, Sem.run_pure, Result.andThen_ok, List.map_toArray, List.map_cons, List.map_nil, hd, hs, hrun]
  exact hK _ _ (h _ (Lib.hid (setRow_has hg _)) (Lib.hid fun q hq => setRow_other w g q _ hq) (below_setRow hb hBg _))
theorem step_copy_k {K : Act → World → Prop} {Q : Exit → Act → World → Prop} {Z : Prop} (hgd : o.guard = none) (d s : Operand) (dT sT : TypeId)
    (ho : o.op = .call { callee := .builtin .copy, args := #[d, s], argTypes := #[dT, sT] }) (hu : P.underlying dT = some (.slice elem)) (hi : P.info? elem = some i) (hk : i.size = k)
    (g off dLen dCap : Nat) (ad : Addr) (sLen sCap : Nat) (hd : a.eval d = .slice (some ⟨g, off, none⟩) dLen dCap) (hs : a.eval s = .slice (some ad) sLen sCap)
    (cur : List Value) (t : TypeId) (hg : w.heap[g]? = some (.cells cur.toArray t (0, 0))) (cs : List Value) (hn : cs.length = Nat.min sLen dLen * k)
    (hsrc : ∀ j v, cs[j]? = some v → w.cell? (ad.add j) = some v) (hfit : off + cs.length ≤ cur.length) (h1 : ∀ v ∈ cs, v.oneCell' = true) (B : Nat) (w0 : World) (hb : Below B w0 w) (hBg : B ≤ g)
    (h : ∀ w', Hid (w'.heap[g]? = some (.cells (splice cur off cs).toArray t (0, 0))) → Hid (∀ q, q ≠ g → w'.heap[q]? = w.heap[q]?) → Below B w0 w' → K (a.put o.dst (goInt (Nat.min sLen dLen))) w') :
    if Region.wanted o (yielded ops a.tmps) = true then Oper.wp P o a w K Q else Z := by
  have hw : Region.wanted o (yielded ops a.tmps) = true := by simp [Region.wanted, hgd]
  rw [if_pos hw]
  have hrun := run_copy_k (P := P) w dT sT o.type g off dLen dCap ad sLen sCap cur t cs hu hi hk hg hn hsrc hfit h1
  unfold Oper.wp
  simp [execOp, ho, resolve, invoke, builtin, hd, hs, hrun, Result.andThen]
  exact h _ (Lib.hid (setRow_has hg _)) (Lib.hid fun q hq => setRow_other w g q _ hq) (below_setRow hb hBg _)
/-- append with room, in a row that is known whole -/
theorem step_append_k {K : Act → World → Prop} {Q : Exit → Act → World → Prop} {Z : Prop} (hgd : o.guard = none) (d s : Operand) (T : TypeId)
    (ho : o.op = .call { callee := .builtin .append, args := #[d, s], argTypes := #[T, T] }) (hu : P.underlying T = some (.slice elem)) (hi : P.info? elem = some i) (hk : i.size = k)
    (g dLen dCap : Nat) (ad : Addr) (sLen sCap : Nat) (hd : a.eval d = .slice (some ⟨g, 0, none⟩) dLen dCap) (hs : a.eval s = .slice (some ad) sLen sCap)
    (cur : List Value) (hg : w.heap[g]? = some (.cells cur.toArray elem (0, 0))) (cs : List Value) (hn : cs.length = sLen * k) (hroom : dLen + sLen ≤ dCap)
    (hsrc : ∀ j v, cs[j]? = some v → w.cell? (ad.add j) = some v) (hfit : dLen * k + cs.length ≤ cur.length) (h1 : ∀ v ∈ cs, v.oneCell' = true) (B : Nat) (w0 : World) (hb : Below B w0 w) (hBg : B ≤ g)
    (h : ∀ w', Hid (w'.heap[g]? = some (.cells (splice cur (dLen * k) cs).toArray elem (0, 0))) → Hid (∀ q, q ≠ g → w'.heap[q]? = w.heap[q]?) → Below B w0 w' → K (a.put o.dst (.slice (some ⟨g, 0, none⟩) (dLen + sLen) dCap)) w') :
    if Region.wanted o (yielded ops a.tmps) = true then Oper.wp P o a w K Q else Z := by
  have hw : Region.wanted o (yielded ops a.tmps) = true := by simp [Region.wanted, hgd]
  rw [if_pos hw]
  subst hk
  have hrun := run_append_room (P := P) w T o.type elem i hu hi g dLen dCap cur.toArray hg ad sLen sCap cs hn hsrc h1 hroom (by simpa using hfit)
  have e : w.setRow g (splice cur (dLen * i.size) cs).toArray = w.setRow g ((cur.take (dLen * i.size) ++ cs ++ cur.drop (dLen * i.size + cs.length)).toArray) := by unfold splice; rw [List.append_assoc]
  unfold Oper.wp
  simp only [execOp, ho, resolve, invoke, builtin, Sem.run_bind, Sem.run_pure, Result.andThen_ok, List.map_toArray, List.map_cons, List.map_nil, hd, hs, hrun]
  rw [← e]
  exact h _ (Lib.hid (setRow_has hg _)) (Lib.hid fun q hq => setRow_other w g q _ hq) (below_setRow hb hBg _)
/-- clear, in a row that is known whole -/
theorem wpList_clear_k {rest : List Oper} {Q : Exit → Act → World → Prop} {z : Value} (hgd : o.guard = none) (d : Operand) (dT : TypeId)
    (ho : o.op = .call { callee := .builtin .clear, args := #[d], argTypes := #[dT] }) (hu : P.underlying dT = some (.slice elem)) (hv : ∀ w, (zeroValue elem).run P w = .ok z w) (zs : List Value)
    (g off m c : Nat) (hz : (Builtin.zeroCells z.cells (m + 1)).toList = zs) (hd : a.eval d = .slice (some ⟨g, off, none⟩) (m + 1) c)
    (cur : List Value) (t : TypeId) (hg : w.heap[g]? = some (.cells cur.toArray t (0, 0))) (hfit : off + zs.length ≤ cur.length) (h1 : ∀ v ∈ zs, v.oneCell' = true) (B : Nat) (w0 : World) (hb : Below B w0 w) (hBg : B ≤ g)
    (h : ∀ w', Hid (w'.heap[g]? = some (.cells (splice cur off zs).toArray t (0, 0))) → Below B w0 w' → wpList P ops Q rest (a.put o.dst (.tuple #[])) w') :
    wpList P ops Q (o :: rest) a w := by
  refine wpList_plain hgd fun K hK => ?_
  have hst := run_storeCells_at P g off t zs 0 cur.toArray w hg (by simpa using hfit) h1
  have e : w.setRow g (splice cur off zs).toArray = w.setRow g ((cur.take off ++ zs ++ cur.drop (off + zs.length)).toArray) := by unfold splice; rw [List.append_assoc]
  simp only [Nat.add_zero] at hst
  have hrun : ∀ ty, (Builtin.clear_ #[dT] ty #[.slice (some ⟨g, off, none⟩) (m + 1) c]).run P w = .ok (.tuple #[]) (w.setRow g (splice cur off zs).toArray) := fun ty => by
    rw [e]
    simp [Builtin.clear_, run_underlying hu, hv, hz, hst]
  unfold Oper.wp
  simp only [execOp, ho, resolve, invoke, builtin, Sem.run_bind, Sem.run_pure, Result.andThen_ok, List.map_toArray, List.map_cons, List.map_nil, hd, hrun]
  exact hK _ _ (h _ (Lib.hid (setRow_has hg _)) (below_setRow hb hBg _))
end
/-- an own row's block, whole -/
theorem OwnR.whole {α : Type} {enc : α → List Value} {k : Nat} {w : World} {E : TypeId} {base b n c : Nat} {g : Nat → α} (o : OwnR enc k w E base (Value.slice (Option.some ⟨b, 0, none⟩) n c) n g) :
    ∃ T, w.heap[b]? = Option.some (Obj.cells (rl enc g n ++ T).toArray E (0, 0)) ∧ base ≤ b ∧ n ≤ c ∧ c ≤ maxLen ∧ (rl enc g n ++ T).length = c * k := by
  rcases o.2 with ⟨h, _⟩ | ⟨g', cap, cur, hv, hb, hg, h1, h2, h3, h4⟩
  · cases h
  · injection hv with e1 _ e3
    injection e1 with e1
    injection e1 with e1
    subst e1 e3
    refine ⟨cur.toList.drop (n * k), ?_, hb, h1, h2, ?_⟩
    · rw [← h4, List.take_append_drop, Array.toArray_toList]; exact hg
    · rw [← h4, List.take_append_drop]; simpa using h3
/-- an own row out of its block -/
theorem OwnR.of_block {α : Type} {enc : α → List Value} {k : Nat} (hk : ∀ x, (enc x).length = k) {w : World} {E : TypeId} {base b n c : Nat} {g : Nat → α} {T : List Value} (hg : w.heap[b]? = Option.some (Obj.cells (rl enc g n ++ T).toArray E (0, 0))) (hb : base ≤ b) (h1 : n ≤ c) (h2 : c ≤ maxLen) (h3 : (rl enc g n ++ T).length = c * k) :
    OwnR enc k w E base (Value.slice (Option.some ⟨b, 0, none⟩) n c) n g :=
  ⟨rl_length hk g n, .inr ⟨b, c, _, rfl, hb, hg, h1, h2, by simpa using h3, by rw [List.take_left' (rl_length hk g n)]⟩⟩
end Go.Proofs.Ytmeljcogoeghaaa
