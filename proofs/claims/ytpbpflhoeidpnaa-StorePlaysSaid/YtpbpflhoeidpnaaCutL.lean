/- 'append(l[:k:k], l[k+1:]...)' over lines: as a law at a step of a region that draws; a row less one line. -/
import Derived.Test.YtpbpflhoeidpnaaLine
import Derived.RegionTactic
namespace Go.Proofs.Ytpbpflhoeidpnaa
open Go.RowKit

theorem run_cut_l {P : Program} {T ty E : TypeId} {i : TypeInfo} {w : World} (ht : P.underlying T = some (.slice E)) (hi : P.info? E = some i) (hz : i.zero = some (.agg #[.int .i64 0, .int .i64 0])) (hsize : i.size = 2) (hby : i.bytes = 16)
    (b off k m c : Nat) (ad : Addr) (ga gm fa fm : Nat → Int) (hA : AtL w (some ⟨b, off, none⟩) k ga gm) (hF : AtL w (some ad) m fa fm) (hk : k ≤ 1000000) (hm : m ≤ 1000000) :
    ∃ A' c' w', (Builtin.append_ #[T, T] ty #[.slice (some ⟨b, off, none⟩) k k, .slice (some ad) m c]).run P w = .ok (.slice A' (k + m) c') w' ∧ k + m ≤ c' ∧ c' ≤ maxLen ∧ (A' = none → k + m = 0 ∧ c' = 0) ∧ AtL w' A' (k + m) (cat k ga fa) (cat k gm fm) ∧ Below w.heap.size w w' ∧ ∀ x, (Value.slice A' (k + m) c').ownBlock = some x → x = b ∨ w.heap.size ≤ x := by
  rcases Nat.eq_zero_or_pos m with h0 | h0
  · subst h0
    have hr := run_append_room_cells (P := P) w T ty E i ht hi b off k k ad 0 c [] (by simp) (by simp) (by simp) (Nat.le_refl _) (by simp) (by simp)
    refine ⟨_, _, _, hr, Nat.le_refl _, by unfold maxLen; omega, (fun e => by cases e), ?_, ?_, fun x hx => .inl ((Option.some.inj hx).symm)⟩
    · simp only [World.setCells]
      exact hA.ext fun j hj => ⟨(cat_lt hj).symm, (cat_lt hj).symm⟩
    · simp only [World.setCells]; exact Below.refl _ _
  · obtain ⟨v', w', hr, ho, hg⟩ := run_append_arg_grows (P := P) w T ty E i _ 2 16 ht hi hz hsize hby rfl (by decide) ⟨b, off, none⟩ k k ((List.range (k * 2)).map (lc ga gm)) (by simp) hA.cells ad m c ((List.range (m * 2)).map (lc fa fm)) (by simp) hF.cells (by omega) (by unfold maxLen; omega) (by omega)
    rw [lc_cat] at ho
    have hfr := fun x hx => (World.ownsRow.lt ho x hx).1
    obtain ⟨A', c', rfl, h1, h2, h3, h4⟩ := OwnL.cut ho
    exact ⟨A', c', w', hr, h1, h2, h3, h4, (Below.refl _ _).grown hg (Nat.le_refl _) (by simp), fun x hx => .inr (hfr x hx)⟩
theorem step_cut_f {P : Program} {ops : Array Oper} {o : Oper} {a : Act} {K : Act → World → Prop} {Q : Exit → Act → World → Prop} {Z : Prop} {T E : TypeId} {i : TypeInfo} {w : World} (hgd : o.guard = none) (s x : Operand)
    (ho : o.op = .call { callee := .builtin .append, args := #[s, x], argTypes := #[T, T] }) (ht : P.underlying T = some (.slice E)) (hi : P.info? E = some i) (hz : i.zero = some (.agg #[.int .i64 0, .int .i64 0])) (hsize : i.size = 2) (hby : i.bytes = 16)
    (b off k m c : Nat) (ao : Option Addr) (hao : ∃ ad, ao = some ad) (ga gm fa fm : Nat → Int) (hs : a.eval s = .slice (some ⟨b, off, none⟩) k k) (hx : a.eval x = .slice ao m c) (hA : AtL w (some ⟨b, off, none⟩) k ga gm) (hF : AtL w ao m fa fm) (hk : k ≤ 1000000) (hm : m ≤ 1000000)
    (h : ∀ A' c' w', k + m ≤ c' → c' ≤ maxLen → (A' = none → k + m = 0 ∧ c' = 0) → AtL w' A' (k + m) (cat k ga fa) (cat k gm fm) → Below w.heap.size w w' → (∀ x, (Value.slice A' (k + m) c').ownBlock = some x → x = b ∨ w.heap.size ≤ x) → K (a.put o.dst (.slice A' (k + m) c')) w') :
    if Region.wanted o (yielded ops a.tmps) = true then Oper.wp P o a w K Q else Z := by
  obtain ⟨ad, rfl⟩ := hao
  obtain ⟨A', c', w', hr, h1, h2, h3, h4, h5, h6⟩ := run_cut_l (P := P) (ty := o.type) ht hi hz hsize hby b off k m c ad ga gm fa fm hA hF hk hm
  rw [if_pos (by simp [Region.wanted, hgd])]
  unfold Oper.wp execOp
  simp only [ho, resolve, invoke, builtin, Sem.run_bind, Sem.run_pure, Result.andThen_ok, List.map_toArray, List.map_cons, List.map_nil, hs, hx, hr]
  exact h A' c' w' h1 h2 h3 h4 h5 h6
theorem step_cut_l {P : Program} {ops : Array Oper} {o : Oper} {a : Act} {K : Act → World → Prop} {Q : Exit → Act → World → Prop} {Z : Prop} {T E : TypeId} {i : TypeInfo} {w : World} (hgd : o.guard = none) (s x : Operand)
    (ho : o.op = .call { callee := .builtin .append, args := #[s, x], argTypes := #[T, T] }) (ht : P.underlying T = some (.slice E)) (hi : P.info? E = some i) (hz : i.zero = some (.agg #[.int .i64 0, .int .i64 0])) (hsize : i.size = 2) (hby : i.bytes = 16)
    (b off k m c : Nat) (ao : Option Addr) (hao : ∃ ad, ao = some ad) (ga gm fa fm : Nat → Int) (hs : a.eval s = .slice (some ⟨b, off, none⟩) k k) (hx : a.eval x = .slice ao m c) (hA : AtL w (some ⟨b, off, none⟩) k ga gm) (hF : AtL w ao m fa fm) (hk : k ≤ 1000000) (hm : m ≤ 1000000)
    (h : ∀ A' c' w', k + m ≤ c' → c' ≤ maxLen → (A' = none → k + m = 0 ∧ c' = 0) → AtL w' A' (k + m) (cat k ga fa) (cat k gm fm) → Below w.heap.size w w' → K (a.put o.dst (.slice A' (k + m) c')) w') :
    if Region.wanted o (yielded ops a.tmps) = true then Oper.wp P o a w K Q else Z :=
  step_cut_f hgd s x ho ht hi hz hsize hby b off k m c ao hao ga gm fa fm hs hx hA hF hk hm fun A' c' w' h1 h2 h3 h4 h5 _ => h A' c' w' h1 h2 h3 h4 h5
/-- one line more, at a step of a region that draws its order -/
theorem step_push_l {P : Program} {ops : Array Oper} {o : Oper} {a : Act} {K : Act → World → Prop} {Q : Exit → Act → World → Prop} {Z : Prop} {i : TypeInfo} {T E : TypeId} {w : World}
    (hgd : o.guard = none) (s x : Operand) (ho : o.op = .call { callee := .builtin .append, args := #[s, x], argTypes := #[T, T] })
    (ht : P.underlying T = some (.slice E)) (hi : P.info? E = some i) (hz : i.zero = some (.agg #[.int .i64 0, .int .i64 0])) (hsize : i.size = 2) (hby : i.bytes = 16)
    (W : World) (base n X : Nat) (v : Value) (ga gm : Nat → Int) (za zm : Int) (hs : a.eval s = v) (hx : a.eval x = .slice (some ⟨X, 0, none⟩) 1 1) (hc : w.cell? ⟨X, 0, none⟩ = some (.int .i64 za)) (hc' : w.cell? ⟨X, 1, none⟩ = some (.int .i64 zm))
    (hown : OwnL w E base v n ga gm) (hn : n ≤ 1000000) (hW : Below base W w) (hb : base ≤ w.heap.size) (H : Nat) (hH : w.heap.size = H)
    (h : ∀ b c w', OwnL w' E base (.slice (some ⟨b, 0, none⟩) (n + 1) c) (n + 1) (fun j => if j = n then za else ga j) (fun j => if j = n then zm else gm j) → Below base W w' → K (a.put o.dst (.slice (some ⟨b, 0, none⟩) (n + 1) c)) w') :
    if Region.wanted o (yielded ops a.tmps) = true then Oper.wp P o a w K Q else Z := by
  refine step_append_lies _ hgd s x T ho base E i _ 2 16 ht hi hz hsize hby rfl (by decide) v n _ hs hown ⟨X, 0, none⟩ 1 1 [.int .i64 za, .int .i64 zm] hx rfl ?_ (ints_oneCell .i64 [za, zm]) (by decide) (by unfold maxLen; omega) (by omega) hb H hH ?_
  · intro j u hu
    match j, hu with
    | 0, hu => simp at hu; subst hu; rw [show (⟨X, 0, none⟩ : Addr).add 0 = ⟨X, 0, none⟩ by unfold Addr.add; split <;> simp_all]; exact hc
    | 1, hu => simp at hu; subst hu; rw [show (⟨X, 0, none⟩ : Addr).add 1 = ⟨X, 1, none⟩ by unfold Addr.add; split <;> simp_all]; exact hc'
  intro b c w' ho' hg hat _
  refine h b c w' ?_ (hW.grown hg hb (fun k hk => (World.ownsRow.lt hown k hk).1))
  have e := lc_cat ga gm (fun _ => za) (fun _ => zm) n 1
  have e1 : (List.range (1 * 2)).map (lc (fun _ => za) (fun _ => zm)) = [.int .i64 za, .int .i64 zm] := rfl
  rw [e1] at e
  rw [e] at ho'
  exact OwnL.ext ho' fun j hj => by
    by_cases q : j = n
    · rw [cat_ge (by omega), cat_ge (by omega), if_pos q, if_pos q]; exact ⟨rfl, rfl⟩
    · rw [cat_lt (by omega), cat_lt (by omega), if_neg q, if_neg q]; exact ⟨rfl, rfl⟩
/-- lines behind an own slice, under a guard that holds -/
theorem wpList_app_g {P : Program} {ops : Array Oper} {rest : List Oper} {o : Oper} {a : Act} {Q : Exit → Act → World → Prop} {i : TypeInfo} {T E : TypeId} {w : World}
    (hw : Region.wanted o (yielded ops a.tmps) = true) (s x : Operand) (ho : o.op = .call { callee := .builtin .append, args := #[s, x], argTypes := #[T, T] })
    (ht : P.underlying T = some (.slice E)) (hi : P.info? E = some i) (hz : i.zero = some (.agg #[.int .i64 0, .int .i64 0])) (hsize : i.size = 2) (hby : i.bytes = 16)
    (W : World) (base n m c : Nat) (v : Value) (A : Option Addr) (ga gm fa fm : Nat → Int) (hs : a.eval s = v) (hx : a.eval x = .slice A m c) (hown : OwnL w E base v n ga gm) (hA : AtL w A m fa fm) (hnone : A = none → m = 0 ∧ c = 0) (hn : n ≤ 1000000) (hm : m ≤ 1000000)
    (hW : Below base W w) (hb : base ≤ w.heap.size)
    (h : ∀ v' w', OwnL w' E base v' (n + m) (cat n ga fa) (cat n gm fm) → Below base W w' → w.grownBy w' v.ownBlock → wpList P ops Q rest (a.put o.dst v') w') :
    wpList P ops Q (o :: rest) a w := by
  obtain ⟨v', w', hr, h2, h3⟩ := run_app_l (P := P) (ty := o.type) ht hi hz hsize hby base n m c v A ga gm fa fm hown hA hnone hn hm hb
  refine wpList_step fun K hK => ?_
  rw [if_pos hw]
  unfold Oper.wp execOp
  simp only [ho, resolve, invoke, builtin, Sem.run_bind, Sem.run_pure, Result.andThen_ok, List.map_toArray, List.map_cons, List.map_nil, hs, hx, hr]
  exact hK _ _ (h v' w' h2 (hW.grown h3 hb (fun k hk => (World.ownsRow.lt hown k hk).1)) h3)
/-- lines behind an own slice, at a step of a region that draws its order -/
theorem step_app_l {P : Program} {ops : Array Oper} {o : Oper} {a : Act} {K : Act → World → Prop} {Q : Exit → Act → World → Prop} {Z : Prop} {i : TypeInfo} {T E : TypeId} {w : World}
    (hgd : o.guard = none) (s x : Operand) (ho : o.op = .call { callee := .builtin .append, args := #[s, x], argTypes := #[T, T] })
    (ht : P.underlying T = some (.slice E)) (hi : P.info? E = some i) (hz : i.zero = some (.agg #[.int .i64 0, .int .i64 0])) (hsize : i.size = 2) (hby : i.bytes = 16)
    (base n m c : Nat) (v : Value) (A : Option Addr) (ga gm fa fm : Nat → Int) (hs : a.eval s = v) (hx : a.eval x = .slice A m c) (hown : OwnL w E base v n ga gm) (hA : AtL w A m fa fm) (hnone : A = none → m = 0 ∧ c = 0) (hn : n ≤ 1000000) (hm : m ≤ 1000000) (hb : base ≤ w.heap.size)
    (h : ∀ v' w', OwnL w' E base v' (n + m) (cat n ga fa) (cat n gm fm) → w.grownBy w' v.ownBlock → K (a.put o.dst v') w') :
    if Region.wanted o (yielded ops a.tmps) = true then Oper.wp P o a w K Q else Z := by
  obtain ⟨v', w', hr, h2, h3⟩ := run_app_l (P := P) (ty := o.type) ht hi hz hsize hby base n m c v A ga gm fa fm hown hA hnone hn hm hb
  rw [if_pos (by simp [Region.wanted, hgd])]
  unfold Oper.wp execOp
  simp only [ho, resolve, invoke, builtin, Sem.run_bind, Sem.run_pure, Result.andThen_ok, List.map_toArray, List.map_cons, List.map_nil, hs, hx, hr]
  exact h v' w' h2 h3
/-- a row less its line k -/
def less (k : Nat) (g : Nat → Int) : Nat → Int := cat k g (fun j => g (k + 1 + j))
theorem tot_less (g : Nat → Int) (k m : Nat) : tot (less k g) (k + m) = tot g (k + 1 + m) - g k := by
  have shift : ∀ m, tot g (k + 1 + m) = tot g (k + 1) + tot (fun j => g (k + 1 + j)) m := by
    intro m
    induction m with
    | zero => simp [tot]
    | succ m ih => rw [show k + 1 + (m + 1) = k + 1 + m + 1 by omega, tot, ih]; show _ = _ + (tot (fun j => g (k + 1 + j)) m + g (k + 1 + m)); omega
  unfold less
  rw [tot_cat, shift, tot]; omega
end Go.Proofs.Ytpbpflhoeidpnaa
