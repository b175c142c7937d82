/- Several texts of mine in one: Ord Ord2 Rec CopyR BkMath BkMath2 Ref9. -/
import Derived.OrdersHeld
import Derived.Deep.RegionHeld3
import Derived.Test.YtmlafdehhbhbiaaM1
import Derived.Laws.CopyOwn
import Derived.Lib.AppendZerosOnto
import Derived.Lib.Overlaps
import Derived.Deep.RegionLaw
import Derived.Test.YtmlafdehhbhbiaaRows
import Derived.WalkKit
import Derived.WalkSpells
import Derived.WalkLawsBesides
import Derived.Lib.Hide
/- A region that draws its order, all of whose operations come ahead of one, q (a store, say): what loads read need hold only till q comes up. Built on the library's laws of orders. -/
namespace Go.Proofs.Ytmlafdehhbhbiaa
open Go

section
variable {P : Program} {ops : Array Oper} {Q : Exit → Act → World → Prop} {md : Region.Mode} {C : World → Prop} {q : Nat}
/-- whatever order is picked: behind each operation but q the condition holds -/
def AnyTill (P : Program) (md : Region.Mode) (ops : Array Oper) (Q : Exit → Act → World → Prop) (C : World → Prop) (q : Nat) : Nat → Array Bool → Act → World → Prop
  | 0, listed, a, w => Region.ready md ops listed = [] ∧ Q .normal a w
  | fuel + 1, listed, a, w => (Region.ready md ops listed = [] → Q .normal a w) ∧
    ∀ i ∈ Region.ready md ops listed, wpOp P ops Q i (fun a' w' => (i = q ∨ C w') ∧ AnyTill P md ops Q C q fuel (listed.setIfInBounds i true) a' w') a w
theorem AnyTill.any : ∀ (fuel : Nat) (listed : Array Bool) (a : Act) (w : World), AnyTill P md ops Q C q fuel listed a w → wpAny P md ops Q fuel listed a w
  | 0, _, _, _, h => h
  | fuel + 1, _, _, _, h => ⟨h.1, fun i hi => wpOp_mono (fun a' w' h' => AnyTill.any fuel _ a' w' h'.2) (h.2 i hi)⟩
/-- q waits for i -/
def waits (ops : Array Oper) (md : Region.Mode) (q i : Nat) : Bool := ((ops[q]?).map fun o => o.after.any fun e => Region.binds md e && e.on == i).getD true
theorem waits_not {i : Nat} (hw : waits ops md q i = true) {oq : Oper} (ho : ops[q]? = some oq) (h : ∀ e ∈ oq.after, Region.binds md e = true → e.on ≠ i) : False := by
  unfold waits at hw
  rw [ho] at hw
  simp only [Option.map_some, Option.getD_some, Array.any_eq_true] at hw
  obtain ⟨k, hk, hb⟩ := hw
  simp only [Bool.and_eq_true, beq_iff_eq] at hb
  exact h _ (Array.getElem_mem hk) hb.1 hb.2
theorem AnyTill.first {i : Nat} {oi : Oper} {v : Value} (hi : ops[i]? = some oi) (hsel : ∀ (j : Nat) (o : Oper) cs b, ops[j]? = some o → o.op ≠ .select cs b)
    (hw : waits ops md q i = true) (hQ : ∀ c a w, Q (.panic c) (a.put oi.dst v) w → Q (.panic c) a w) :
    ∀ (fuel : Nat) (listed : Array Bool) (a : Act) (w : World),
      (∀ j oj, ops[j]? = some oj → j ≠ i → listed.getD j true = false → (∀ e ∈ oj.after, Region.binds md e = true → e.on ≠ i) → oi.apart ops oj = true) →
      i ∈ Region.ready md ops listed → YieldsIf P ops C oi v a → C w →
      AnyTill P md ops Q C q fuel (listed.setIfInBounds i true) (a.put oi.dst v) w → AnyTill P md ops Q C q (fuel + 1) listed a w := by
  intro fuel
  induction fuel with
  | zero =>
    intro listed a w _ hr hy hS H
    refine ⟨fun h => (by rw [h] at hr; cases hr), fun j hj => ?_⟩
    by_cases hji : j = i
    · subst hji; exact hy.wpOp hi hS ⟨.inr hS, H⟩
    · have := ready_mono hj hji
      rw [H.1] at this
      cases this
  | succ fuel ih =>
    intro listed a w hfree hr hy hS H
    refine ⟨fun h => (by rw [h] at hr; cases hr), fun j hj => ?_⟩
    by_cases hji : j = i
    · subst hji; exact hy.wpOp hi hS ⟨.inr hS, H⟩
    · have h1 := H.2 j (ready_mono hj hji)
      obtain ⟨hjun, oj, hoj, hall⟩ := mem_ready.1 hj
      have hnot : ∀ e ∈ oj.after, Region.binds md e = true → e.on ≠ i := fun e he hb heq => by
        have a1 := hall e he hb
        have a0 := (mem_ready.1 hr).1
        rw [heq] at a1
        rcases Nat.lt_or_ge i listed.size with h' | h'
        · simp [h'] at a0 a1; rw [a0] at a1; cases a1
        · simp [Array.getElem?_eq_none h'] at a1
      have hjq : j ≠ q := fun e => waits_not hw (by rw [← e]; exact hoj) hnot
      have h2 := wpOp_putIf hoj (hfree j oj hoj hji hjun hnot) (fun cs b => hsel i oi cs b hi) (fun cs b => hsel j oj cs b hoj) hQ hy h1
      have hfree' : ∀ k ok, ops[k]? = some ok → k ≠ i → (listed.setIfInBounds j true).getD k true = false →
          (∀ e ∈ ok.after, Region.binds md e = true → e.on ≠ i) → oi.apart ops ok = true := fun k ok hk hki hun hno => by
        refine hfree k ok hk hki ?_ hno
        by_cases hjk : j = k
        · subst hjk; exact hjun
        · rw [getD_set_ne true hjk] at hun; exact hun
      refine wpOp_mono (fun a' w' h3 => ?_) h2
      have hC : C w' := h3.2.1.resolve_left hjq
      refine ⟨.inr hC, ih (listed.setIfInBounds j true) a' w' hfree' (ready_mono hr (Ne.symm hji)) h3.1 hC ?_⟩
      rw [Array.setIfInBounds_comm _ _ hji]
      exact h3.2.2
/-- take number i first -/
theorem AnyTill.take {i : Nat} {oi : Oper} {v : Value} {fuel : Nat} {listed : Array Bool} {a : Act} {w : World} (hi : ops[i]? = some oi)
    (hs : Region.noSelect ops = true) (hf : Region.free md ops listed i = true) (hr : (Region.ready md ops listed).contains i = true) (hw : waits ops md q i = true)
    (hQ : ∀ c a w, Q (.panic c) (a.put oi.dst v) w → Q (.panic c) a w) (hy : YieldsIf P ops C oi v a) (hC : C w)
    (h : AnyTill P md ops Q C q fuel (listed.setIfInBounds i true) (a.put oi.dst v) w) : AnyTill P md ops Q C q (fuel + 1) listed a w :=
  AnyTill.first hi (Region.noSelect_spec hs) hw hQ fuel listed a w (Region.free_spec hi hf) (by simpa using hr) hy hC h
/-- only number i may come up -/
theorem AnyTill.one {i : Nat} {o : Oper} {fuel : Nat} {listed : Array Bool} {a : Act} {w : World} (hr : Region.ready md ops listed = [i]) (ho : ops[i]? = some o)
    (h : ∀ K' : Act → World → Prop, Shut (∀ a w, (i = q ∨ C w) → AnyTill P md ops Q C q fuel (listed.setIfInBounds i true) a w → K' a w) → if Region.wanted o (yielded ops a.tmps) = true then Oper.wp P o a w K' Q else K' (a.put o.dst undef) w) :
    AnyTill P md ops Q C q (fuel + 1) listed a w :=
  ⟨fun h0 => (by rw [hr] at h0; cases h0), fun j hj => by
    rw [hr] at hj
    have : j = i := by simpa using hj
    subst this
    exact wpOp_step ho fun K' hK => h K' fun a w h1 h2 => hK a w ⟨h1, h2⟩⟩
theorem AnyTill.done {listed : Array Bool} {a : Act} {w : World} (hr : Region.ready md ops listed = []) (h : Q .normal a w) : ∀ fuel, AnyTill P md ops Q C q fuel listed a w
  | 0 => ⟨hr, h⟩
  | _ + 1 => ⟨fun _ => h, by rw [hr]; simp⟩
theorem AnyTill.begin {id : Nat} {a : Act} {w : World} (hm : P.follows .mixedOrders = true)
    (h : AnyTill P .any ops Q C q ops.size (Array.replicate ops.size false) a w.drew) : (Code.region id ops true).wp P Q a w :=
  wp_region_any hm (AnyTill.any _ _ _ _ h)
end
end Go.Proofs.Ytmlafdehhbhbiaa

/- Regions that draw their order (Ord): quiet calls taken first; two operations of which either may come up. -/
namespace Go.Proofs.Ytmlafdehhbhbiaa
open Go

section
variable {P : Program} {ops : Array Oper} {Q : Exit → Act → World → Prop} {md : Region.Mode} {C : World → Prop} {q : Nat}
/-- what an operation doesn't touch of the frame stays said of it -/
theorem wpOp_and {Y : Act → Prop} {j : Nat} {oj : Oper} (hj : ops[j]? = some oj) (hput : ∀ a u, Y a → Y (a.put oj.dst u)) (hdef : ∀ (a : Act) d, Y a → Y { a with defers := d :: a.defers })
    {K : Act → World → Prop} {a : Act} {w : World} (hy : Y a) (h : wpOp P ops Q j K a w) : wpOp P ops Q j (fun a' w' => Y a' ∧ K a' w') a w := by
  unfold wpOp at *
  simp only [hj] at *
  by_cases hw : Region.wanted oj (yielded ops a.tmps) = true
  · simp only [hw, if_true] at h ⊢
    refine h.imp (fun h => ?_) id
    unfold Oper.wp at *
    generalize (execOp a.eval oj).run P w = r at *
    match r, h with
    | .ok (.value u) w', h => exact ⟨hput a u hy, h⟩
    | .ok .skip w', h => exact ⟨hput a undef hy, h⟩
    | .ok (.defer d) w', h => exact ⟨hput _ _ (hdef a d hy), h⟩
    | .ok (.enter f args) w', h =>
      exact Calls.mono h fun e w'' he => by
        cases e with
        | returned u => exact ⟨hput a u hy, he⟩
        | panicked c => exact he
        | outgrown => exact he
    | .ok (.row row args) w', h => exact Rows.mono h fun u w'' he => ⟨hput a u hy, he⟩
    | .halt (.panic v) w', h => exact h
  · simp only [hw] at h ⊢
    exact ⟨hput a undef hy, h⟩
/-- a call that hands back v, and leaves the world, wherever the condition holds -/
def YieldsC (P : Program) (ops : Array Oper) (C : World → Prop) (o : Oper) (v : Value) (a : Act) : Prop :=
  Region.wanted o (yielded ops a.tmps) = true ∧ ∃ f args, (∀ w, C w → (execOp a.eval o).run P w = .ok (.enter f args) w) ∧ ∀ w, C w → Calls P f args w fun e w' => e = .returned v ∧ w = w'
theorem YieldsC.wpOp {i : Nat} {o : Oper} {v : Value} {a : Act} (hi : ops[i]? = some o) (hy : YieldsC P ops C o v a) {K : Act → World → Prop} {w : World} (hC : C w) (h : K (a.put o.dst v) w) : wpOp P ops Q i K a w := by
  obtain ⟨hw, f, args, h1, h2⟩ := hy
  unfold Go.wpOp
  simp only [hi, hw, if_true, Oper.wp, h1 w hC, Oper.upon]
  refine .inl (Calls.mono (h2 w hC) fun e w' he => ?_)
  obtain ⟨rfl, rfl⟩ := he
  exact h
theorem AnyTill.firstC {i : Nat} {oi : Oper} {v : Value} (hi : ops[i]? = some oi) (hsel : ∀ (j : Nat) (o : Oper) cs b, ops[j]? = some o → o.op ≠ .select cs b)
    (hw : waits ops md q i = true) (hQ : ∀ c a w, Q (.panic c) (a.put oi.dst v) w → Q (.panic c) a w) :
    ∀ (fuel : Nat) (listed : Array Bool) (a : Act) (w : World),
      (∀ j oj, ops[j]? = some oj → j ≠ i → listed.getD j true = false → (∀ e ∈ oj.after, Region.binds md e = true → e.on ≠ i) → oi.apart ops oj = true) →
      i ∈ Region.ready md ops listed → YieldsC P ops C oi v a → C w →
      AnyTill P md ops Q C q fuel (listed.setIfInBounds i true) (a.put oi.dst v) w → AnyTill P md ops Q C q (fuel + 1) listed a w := by
  intro fuel
  induction fuel with
  | zero =>
    intro listed a w _ hr hy hS H
    refine ⟨fun h => (by rw [h] at hr; cases hr), fun j hj => ?_⟩
    by_cases hji : j = i
    · subst hji; exact hy.wpOp hi hS ⟨.inr hS, H⟩
    · have := ready_mono hj hji
      rw [H.1] at this
      cases this
  | succ fuel ih =>
    intro listed a w hfree hr hy hS H
    refine ⟨fun h => (by rw [h] at hr; cases hr), fun j hj => ?_⟩
    by_cases hji : j = i
    · subst hji; exact hy.wpOp hi hS ⟨.inr hS, H⟩
    · have h1 := H.2 j (ready_mono hj hji)
      obtain ⟨hjun, oj, hoj, hall⟩ := mem_ready.1 hj
      have hnot : ∀ e ∈ oj.after, Region.binds md e = true → e.on ≠ i := fun e he hb heq => by
        have a1 := hall e he hb
        have a0 := (mem_ready.1 hr).1
        rw [heq] at a1
        rcases Nat.lt_or_ge i listed.size with h' | h'
        · simp [h'] at a0 a1; rw [a0] at a1; cases a1
        · simp [Array.getElem?_eq_none h'] at a1
      have hjq : j ≠ q := fun e => waits_not hw (by rw [← e]; exact hoj) hnot
      have hap := hfree j oj hoj hji hjun hnot
      obtain ⟨_, _, p3⟩ := Oper.apart_spec hap
      have hs := fun cs b => hsel i oi cs b hi
      have h2 := wpOp_putIf (S := fun _ => False) hoj hap hs (fun cs b => hsel j oj cs b hoj) hQ (.inl ⟨hy.1, fun _ hF => hF.elim⟩) h1
      have h3 := wpOp_and (Y := YieldsC P ops C oi v) hoj (fun a u hY => by
        obtain ⟨y1, f, args, y2, y3⟩ := hY
        exact ⟨(wanted_put oi a oj.dst u p3).trans y1, f, args, fun w hC => by rw [execOp_put oi hs a oj.dst u p3]; exact y2 w hC, y3⟩) (fun a d hY => hY) hy h2
      have hfree' : ∀ k ok, ops[k]? = some ok → k ≠ i → (listed.setIfInBounds j true).getD k true = false →
          (∀ e ∈ ok.after, Region.binds md e = true → e.on ≠ i) → oi.apart ops ok = true := fun k ok hk hki hun hno => by
        refine hfree k ok hk hki ?_ hno
        by_cases hjk : j = k
        · subst hjk; exact hjun
        · rw [getD_set_ne true hjk] at hun; exact hun
      refine wpOp_mono (fun a' w' h4 => ?_) h3
      have hC : C w' := h4.2.2.1.resolve_left hjq
      refine ⟨.inr hC, ih (listed.setIfInBounds j true) a' w' hfree' (ready_mono hr (Ne.symm hji)) h4.1 hC ?_⟩
      rw [Array.setIfInBounds_comm _ _ hji]
      exact h4.2.2.2
/-- take the quiet call number i first -/
theorem AnyTill.takeC {i : Nat} {oi : Oper} {v : Value} {fuel : Nat} {listed : Array Bool} {a : Act} {w : World} (hi : ops[i]? = some oi)
    (hs : Region.noSelect ops = true) (hf : Region.free md ops listed i = true) (hr : (Region.ready md ops listed).contains i = true) (hw : waits ops md q i = true)
    (hQ : ∀ c a w, Q (.panic c) (a.put oi.dst v) w → Q (.panic c) a w) (hy : YieldsC P ops C oi v a) (hC : C w)
    (h : AnyTill P md ops Q C q fuel (listed.setIfInBounds i true) (a.put oi.dst v) w) : AnyTill P md ops Q C q (fuel + 1) listed a w :=
  AnyTill.firstC hi (Region.noSelect_spec hs) hw hQ fuel listed a w (Region.free_spec hi hf) (by simpa using hr) hy hC h
/-- either of two may come up -/
theorem AnyTill.two {i k : Nat} {o o' : Oper} {fuel : Nat} {listed : Array Bool} {a : Act} {w : World} (hr : Region.ready md ops listed = [i, k]) (ho : ops[i]? = some o) (ho' : ops[k]? = some o')
    (h : ∀ K' : Act → World → Prop, Shut (∀ a w, (i = q ∨ C w) → AnyTill P md ops Q C q fuel (listed.setIfInBounds i true) a w → K' a w) → if Region.wanted o (yielded ops a.tmps) = true then Oper.wp P o a w K' Q else K' (a.put o.dst undef) w)
    (h' : ∀ K' : Act → World → Prop, Shut (∀ a w, (k = q ∨ C w) → AnyTill P md ops Q C q fuel (listed.setIfInBounds k true) a w → K' a w) → if Region.wanted o' (yielded ops a.tmps) = true then Oper.wp P o' a w K' Q else K' (a.put o'.dst undef) w) :
    AnyTill P md ops Q C q (fuel + 1) listed a w :=
  ⟨fun h0 => (by rw [hr] at h0; cases h0), fun j hj => by
    rw [hr] at hj
    have : j = i ∨ j = k := by simpa using hj
    rcases this with rfl | rfl
    · exact wpOp_step ho fun K' hK => h K' fun a w h1 h2 => hK a w ⟨h1, h2⟩
    · exact wpOp_step ho' fun K' hK => h' K' fun a w h1 h2 => hK a w ⟨h1, h2⟩⟩
end
end Go.Proofs.Ytmlafdehhbhbiaa

/- Rows of records of k cells each, whatever they are: 'enc' tells a record's cells. Rows that can be read, rows of the call's own; one record appended, put in place of another, cut off. -/
namespace Go.Proofs.Ytmlafdehhbhbiaa
open Go.RowKit

/-- the cells of n records, one behind the other -/
def rl {α : Type} (enc : α → List Value) (g : Nat → α) (n : Nat) : List Value := (List.range n).flatMap fun j => enc (g j)
section
variable {α : Type} {enc : α → List Value} {k : Nat} {g h : Nat → α} {n m : Nat}
theorem rl_zero : rl enc g 0 = [] := rfl
theorem rl_succ (enc : α → List Value) (g : Nat → α) (n : Nat) : rl enc g (n + 1) = rl enc g n ++ enc (g n) := by
  unfold rl; rw [List.range_succ, List.flatMap_append]; simp
theorem rl_ext (e : ∀ j, j < n → g j = h j) : rl enc g n = rl enc h n := by
  induction n with
  | zero => rfl
  | succ n ih => rw [rl_succ, rl_succ, ih fun j hj => e j (by omega), e n (by omega)]
theorem rl_length (hk : ∀ x, (enc x).length = k) (g : Nat → α) (n : Nat) : (rl enc g n).length = n * k := by
  induction n with
  | zero => simp [rl]
  | succ n ih => rw [rl_succ, List.length_append, ih, hk, Nat.succ_mul]
theorem rl_get (hk : ∀ x, (enc x).length = k) {j i : Nat} (hj : j < n) (hi : i < k) : (rl enc g n)[j * k + i]? = (enc (g j))[i]? := by
  induction n with
  | zero => omega
  | succ n ih =>
    have hl := rl_length hk g n
    rw [rl_succ]
    by_cases q : j < n
    · rw [List.getElem?_append_left (by
        rw [hl]
        have := Nat.mul_le_mul_right k (show j + 1 ≤ n by omega)
        rw [Nat.succ_mul] at this; omega)]
      exact ih q
    · obtain rfl : j = n := by omega
      rw [List.getElem?_append_right (by omega), hl, Nat.add_sub_cancel_left]
/-- one record behind the others -/
theorem rl_push (enc : α → List Value) (g : Nat → α) (n : Nat) (x : α) : rl enc (fun j => if j = n then x else g j) (n + 1) = rl enc g n ++ enc x := by
  rw [rl_succ, if_pos rfl, rl_ext (h := g) fun j hj => if_neg (by omega)]
/-- records behind others -/
theorem rl_cat (enc : α → List Value) (g h : Nat → α) (n m : Nat) : rl enc (fun j => if j < n then g j else h (j - n)) (n + m) = rl enc g n ++ rl enc h m := by
  induction m with
  | zero => rw [Nat.add_zero, rl_zero, List.append_nil]; exact rl_ext fun j hj => if_pos hj
  | succ m ih => rw [Nat.add_succ, rl_succ, ih, rl_succ, if_neg (by omega), List.append_assoc, Nat.add_sub_cancel_left]
theorem rl_take (hk : ∀ x, (enc x).length = k) (g : Nat → α) (h : m ≤ n) : (rl enc g n).take (m * k) = rl enc g m := by
  obtain ⟨d, rfl⟩ := Nat.exists_eq_add_of_le h
  have e : rl enc g (m + d) = rl enc g m ++ rl enc (fun i => g (m + i)) d := by
    rw [← rl_cat]
    refine rl_ext fun j hj => ?_
    by_cases q : j < m
    · rw [if_pos q]
    · rw [if_neg q, show m + (j - m) = j by omega]
  rw [e, List.take_left' (rl_length hk g m)]
theorem rl_mem {u : Value} (hu : u ∈ rl enc g n) : ∃ j, j < n ∧ u ∈ enc (g j) := by
  obtain ⟨j, hj, h⟩ := List.mem_flatMap.1 hu
  exact ⟨j, by simpa using hj, h⟩
theorem rl_one (h1 : ∀ x, ∀ u ∈ enc x, u.oneCell' = true) : ∀ u ∈ rl enc g n, u.oneCell' = true := fun u hu => by
  obtain ⟨j, _, h⟩ := rl_mem hu
  exact h1 _ u h
/-- record i is put in place of another, cell by cell: what the row of cells is then -/
theorem rl_set (hk : ∀ x, (enc x).length = k) {i c : Nat} {x : α} {u : Value} (hi : i < n) (hc : c < k) (hx : ∀ d, d ≠ c → (enc x)[d]? = (enc (g i))[d]?) (hu : (enc x)[c]? = some u) :
    (rl enc g n).set (i * k + c) u = rl enc (fun j => if j = i then x else g j) n := by
  have hlt : ∀ j, j < n → ∀ d, d < k → j * k + d < n * k := fun j hj d hd => by
    have := Nat.mul_le_mul_right k (show j + 1 ≤ n by omega)
    rw [Nat.succ_mul] at this; omega
  apply List.ext_getElem? fun p => ?_
  by_cases hp : p < n * k
  · have hk0 : 0 < k := by omega
    obtain ⟨j, d, hd, rfl⟩ : ∃ j d, d < k ∧ p = j * k + d := ⟨p / k, p % k, Nat.mod_lt _ hk0, by rw [Nat.mul_comm]; exact (Nat.div_add_mod p k).symm⟩
    have hj : j < n := by
      rcases Nat.lt_or_ge j n with q | q
      · exact q
      · have := Nat.mul_le_mul_right k q; omega
    rw [rl_get hk hj hd, List.getElem?_set, rl_get hk hj hd]
    by_cases e : i * k + c = j * k + d
    · have eji : i = j := by
        rcases Nat.lt_trichotomy i j with q | q | q
        · have := Nat.mul_le_mul_right k (show i + 1 ≤ j by omega); rw [Nat.succ_mul] at this; omega
        · exact q
        · have := Nat.mul_le_mul_right k (show j + 1 ≤ i by omega); rw [Nat.succ_mul] at this; omega
      subst eji
      obtain rfl : c = d := by omega
      rw [if_pos rfl, if_pos (by rw [rl_length hk]; exact hp), if_pos rfl, hu]
    · rw [if_neg e]
      by_cases q : j = i
      · subst q
        rw [if_pos rfl]; exact (hx d (by omega)).symm
      · rw [if_neg q]
  · rw [List.getElem?_eq_none (by rw [List.length_set, rl_length hk]; omega), List.getElem?_eq_none (by rw [rl_length hk]; omega)]
end
/-- n records can be read from A on -/
def AtR {α : Type} (enc : α → List Value) (k : Nat) (w : World) (A : Option Addr) (n : Nat) (g : Nat → α) : Prop :=
  n = 0 ∨ ∃ b off, A = some ⟨b, off, none⟩ ∧ b < w.heap.size ∧ ∀ j, j < n → ∀ i u, (enc (g j))[i]? = some u → w.cell? ⟨b, off + j * k + i, none⟩ = some u
/-- a slice of the call's own (from block base on): n records -/
def OwnR {α : Type} (enc : α → List Value) (k : Nat) (w : World) (E : TypeId) (base : Nat) (v : Value) (n : Nat) (g : Nat → α) : Prop := w.ownsRow base E k v n (rl enc g n)
section
variable {α : Type} {enc : α → List Value} {k : Nat} {w w1 : World} {A : Option Addr} {E : TypeId} {base n m : Nat} {v : Value} {g h : Nat → α}
theorem AtR.below (r : AtR enc k w A n g) (kb : Below w.heap.size w w1) : AtR enc k w1 A n g := by
  rcases r with h | ⟨b, off, e, hb, hc⟩
  · exact .inl h
  · exact .inr ⟨b, off, e, Nat.lt_of_lt_of_le hb kb.size, fun j hj i u hu => (kb.cell (p := ⟨b, off + j * k + i, none⟩) hb).trans (hc j hj i u hu)⟩
theorem AtR.ext (r : AtR enc k w A n g) (e : ∀ j, j < n → g j = h j) : AtR enc k w A n h := by
  rcases r with h | ⟨b, off, ea, hb, hc⟩
  · exact .inl h
  · exact .inr ⟨b, off, ea, hb, fun j hj => by rw [← e j hj]; exact hc j hj⟩
theorem AtR.some (r : AtR enc k w A n g) (hn : 0 < n) : ∃ b off, A = some ⟨b, off, none⟩ ∧ b < w.heap.size ∧ ∀ j, j < n → ∀ i u, (enc (g j))[i]? = some u → w.cell? ⟨b, off + j * k + i, none⟩ = some u := by
  rcases r with h | h
  · omega
  · exact h
theorem OwnR.nil (enc : α → List Value) (k : Nat) (w : World) (E : TypeId) (base : Nat) (g : Nat → α) : OwnR enc k w E base (.slice none 0 0) 0 g := World.ownsRow_nil _ _ _ _
theorem OwnR.ext (o : OwnR enc k w E base v n g) (e : ∀ j, j < n → g j = h j) : OwnR enc k w E base v n h := by unfold OwnR; rw [← rl_ext e]; exact o
theorem OwnR.kept {row : Option Nat} (o : OwnR enc k w E base v n g) (hg : w.grownBy w1 row) (hne : v.ownBlock = none ∨ v.ownBlock ≠ row) : OwnR enc k w1 E base v n g := World.ownsRow.kept o hg hne
theorem OwnR.alloc (o : OwnR enc k w E base v n g) (x : Obj) : OwnR enc k (w.alloc x) E base v n g := World.ownsRow.alloc o x
theorem OwnR.drew (o : OwnR enc k w E base v n g) : OwnR enc k w.drew E base v n g := o
theorem OwnR.below (o : OwnR enc k w E base v n g) (kb : Below w.heap.size w w1) : OwnR enc k w1 E base v n g := own_blocks o fun b hb => kb.block b (World.ownsRow.lt o b hb).2
theorem OwnR.blocks (o : OwnR enc k w E base v n g) (kb : ∀ b, v.ownBlock = Option.some b → w1.heap[b]? = w.heap[b]?) : OwnR enc k w1 E base v n g := own_blocks o kb
theorem OwnR.mono {base' : Nat} (o : OwnR enc k w E base v n g) (hb : base' ≤ base) : OwnR enc k w E base' v n g := own_mono o hb
theorem OwnR.lt (o : OwnR enc k w E base v n g) : ∀ b, v.ownBlock = Option.some b → base ≤ b ∧ b < w.heap.size := World.ownsRow.lt o
theorem OwnR.form (o : OwnR enc k w E base v n g) : ∃ A c, v = .slice A n c ∧ n ≤ c ∧ c ≤ maxLen ∧ (A = none → n = 0 ∧ c = 0) := own_form o
/-- its block, its cells: none is frozen -/
theorem OwnR.some (hk : ∀ x, (enc x).length = k) (o : OwnR enc k w E base v n g) (hp : 0 < n) :
    ∃ b c, v = .slice (.some ⟨b, 0, none⟩) n c ∧ n ≤ c ∧ c ≤ maxLen ∧ base ≤ b ∧ b < w.heap.size ∧ (∀ j, j < n → ∀ i u, (enc (g j))[i]? = Option.some u → w.cell? ⟨b, j * k + i, none⟩ = Option.some u) ∧ ∀ j, w.frozen? ⟨b, j, none⟩ = false := by
  obtain ⟨b, c, rfl, h1, h2⟩ := own_some o hp
  obtain ⟨h3, h4⟩ := World.ownsRow.lt o b rfl
  refine ⟨b, c, rfl, h1, h2, h3, h4, fun j hj i u hu => ?_, fun j => World.ownsRow.frozenAt o j⟩
  have hi : i < k := by
    have := (List.getElem?_eq_some_iff.1 hu).1
    rw [hk] at this; exact this
  have hlt : j * k + i < n * k := by
    have := Nat.mul_le_mul_right k (show j + 1 ≤ n by omega)
    rw [Nat.succ_mul] at this; omega
  rw [World.ownsRow.cellAt o _ hlt, rl_get hk hj hi]; exact hu
theorem OwnR.at (hk : ∀ x, (enc x).length = k) (o : OwnR enc k w E base v n g) : ∃ A c, v = .slice A n c ∧ n ≤ c ∧ c ≤ maxLen ∧ (A = none → n = 0 ∧ c = 0) ∧ AtR enc k w A n g := by
  obtain ⟨A, c, rfl, h1, h2, h3⟩ := o.form
  refine ⟨A, c, rfl, h1, h2, h3, ?_⟩
  rcases Nat.eq_zero_or_pos n with e | e
  · exact .inl e
  · obtain ⟨b, c', e', _, _, _, hb, hc, _⟩ := o.some hk e
    injection e' with e1 _ _
    subst e1
    exact .inr ⟨b, 0, rfl, hb, fun j hj i u hu => by rw [Nat.zero_add]; exact hc j hj i u hu⟩
/-- the first m of them -/
theorem OwnR.less (hk : ∀ x, (enc x).length = k) {c : Nat} (o : OwnR enc k w E base (.slice A n c) n g) (hm : m ≤ n) : OwnR enc k w E base (.slice A m c) m g := by
  have r := own_less o hm
  rw [rl_take hk g hm] at r
  exact r
/-- one cell of record i is written -/
theorem OwnR.setc (hk : ∀ x, (enc x).length = k) {b c : Nat} (o : OwnR enc k w E base (.slice (Option.some ⟨b, 0, none⟩) n c) n g) (i d : Nat) (x : α) (u : Value) (hi : i < n) (hd : d < k) (hx : ∀ d', d' ≠ d → (enc x)[d']? = (enc (g i))[d']?) (hu : (enc x)[d]? = Option.some u) :
    OwnR enc k (w.setCell ⟨b, i * k + d, none⟩ u) E base (.slice (Option.some ⟨b, 0, none⟩) n c) n (fun j => if j = i then x else g j) := by
  have h := (World.ownsRow.stored o (i * k + d) u).1
  rw [rl_set hk hi hd hx hu] at h
  exact h
end
section
variable {α : Type} {enc : α → List Value} {k : Nat} {P : Program} {ops : Array Oper} {o : Oper} {a : Act} {i : TypeInfo} {T E : TypeId} {w : World} {z : Value} {bytes : Nat}
/-- one record more at the end of an own row -/
theorem wpList_push_r {rest : List Oper} {Q : Exit → Act → World → Prop} (hgd : o.guard = none) (s x : Operand) (ho : o.op = .call { callee := .builtin .append, args := #[s, x], argTypes := #[T, T] })
    (ht : P.underlying T = some (.slice E)) (hi : P.info? E = some i) (hz : i.zero = some z) (hsize : i.size = k) (hby : i.bytes = bytes) (hbb : bytes ≤ 128) (hzs : z.cells.size = k) (hk0 : 0 < k) (hk : ∀ y, (enc y).length = k) (h1 : ∀ y, ∀ u ∈ enc y, u.oneCell' = true)
    (W : World) (base n X : Nat) (v : Value) (g : Nat → α) (y : α) (hs : a.eval s = v) (hx : a.eval x = .slice (some ⟨X, 0, none⟩) 1 1) (hc : ∀ j u, (enc y)[j]? = some u → w.cell? ⟨X, j, none⟩ = some u)
    (hown : OwnR enc k w E base v n g) (hn : n ≤ 1000000) (hW : Below base W w) (hb : base ≤ w.heap.size) (H : Nat) (hH : w.heap.size = H)
    (h : ∀ b c w', OwnR enc k w' E base (.slice (some ⟨b, 0, none⟩) (n + 1) c) (n + 1) (fun j => if j = n then y else g j) → Below base W w' → w.grownBy w' v.ownBlock → (v.ownBlock = some b ∨ b = H) → wpList P ops Q rest (a.put o.dst (.slice (some ⟨b, 0, none⟩) (n + 1) c)) w') :
    wpList P ops Q (o :: rest) a w := by
  refine wpList_append_lies _ hgd s x T ho base E i z k bytes ht hi hz hsize hby hzs hk0 v n _ hs hown ⟨X, 0, none⟩ 1 1 (enc y) hx (by rw [hk, Nat.one_mul]) ?_ (h1 y) (by decide) (by unfold maxLen; omega) ?_ hb H hH ?_
  · intro j u hu
    rw [show (⟨X, 0, none⟩ : Addr).add j = ⟨X, j, none⟩ by unfold Addr.add; split <;> simp_all]; exact hc j u hu
  · have := Nat.mul_le_mul (show n + 1 ≤ 1000001 by omega) hbb; omega
  intro b c w' ho' hg hat _
  refine h b c w' ?_ (hW.grown hg hb (fun q hq => (World.ownsRow.lt hown q hq).1)) hg hat
  unfold OwnR; rw [rl_push]; exact ho'
/-- one record more, at a step of a region that draws its order -/
theorem step_push_r {K : Act → World → Prop} {Q : Exit → Act → World → Prop} {Z : Prop} (hgd : o.guard = none) (s x : Operand) (ho : o.op = .call { callee := .builtin .append, args := #[s, x], argTypes := #[T, T] })
    (ht : P.underlying T = some (.slice E)) (hi : P.info? E = some i) (hz : i.zero = some z) (hsize : i.size = k) (hby : i.bytes = bytes) (hbb : bytes ≤ 128) (hzs : z.cells.size = k) (hk0 : 0 < k) (hk : ∀ y, (enc y).length = k) (h1 : ∀ y, ∀ u ∈ enc y, u.oneCell' = true)
    (W : World) (base n X : Nat) (v : Value) (g : Nat → α) (y : α) (hs : a.eval s = v) (hx : a.eval x = .slice (some ⟨X, 0, none⟩) 1 1) (hc : ∀ j u, (enc y)[j]? = some u → w.cell? ⟨X, j, none⟩ = some u)
    (hown : OwnR enc k w E base v n g) (hn : n ≤ 1000000) (hW : Below base W w) (hb : base ≤ w.heap.size) (H : Nat) (hH : w.heap.size = H)
    (h : ∀ b c w', OwnR enc k w' E base (.slice (some ⟨b, 0, none⟩) (n + 1) c) (n + 1) (fun j => if j = n then y else g j) → Below base W w' → w.grownBy w' v.ownBlock → (v.ownBlock = some b ∨ b = H) → K (a.put o.dst (.slice (some ⟨b, 0, none⟩) (n + 1) c)) w') :
    if Region.wanted o (yielded ops a.tmps) = true then Oper.wp P o a w K Q else Z := by
  refine step_append_lies _ hgd s x T ho base E i z k bytes ht hi hz hsize hby hzs hk0 v n _ hs hown ⟨X, 0, none⟩ 1 1 (enc y) hx (by rw [hk, Nat.one_mul]) ?_ (h1 y) (by decide) (by unfold maxLen; omega) ?_ hb H hH ?_
  · intro j u hu
    rw [show (⟨X, 0, none⟩ : Addr).add j = ⟨X, j, none⟩ by unfold Addr.add; split <;> simp_all]; exact hc j u hu
  · have := Nat.mul_le_mul (show n + 1 ≤ 1000001 by omega) hbb; omega
  intro b c w' ho' hg hat _
  refine h b c w' ?_ (hW.grown hg hb (fun q hq => (World.ownsRow.lt hown q hq).1)) hg hat
  unfold OwnR; rw [rl_push]; exact ho'
end
/-- one record in a new block, as a literal lays it -/
theorem rec_lit (w : World) (l : List Value) (T : TypeId) (b : Nat) (hb : w.heap.size = b) : ∀ j u, l[j]? = some u → (w.alloc (.cells l.toArray T)).cell? ⟨b, j, none⟩ = some u := by
  subst hb
  intro j u hu
  rw [cell_of_row _ w.heap.size j _ T (0, 0) (heap_alloc_new w _)]; simpa using hu
end Go.Proofs.Ytmlafdehhbhbiaa

/- Rows of records of k cells: copy, append with room, clear, over a block that is known whole; a record put in, one struck out. -/
namespace Go.Proofs.Ytmlafdehhbhbiaa
open Go.RowKit

section
variable {α : Type} {enc : α → List Value} {k : Nat} {g : Nat → α} {n p : Nat} {x : α}
/-- rows in two parts -/
theorem rl_split (enc : α → List Value) (g : Nat → α) (h : p ≤ n) : rl enc g n = rl enc g p ++ rl enc (fun j => g (p + j)) (n - p) := by
  obtain ⟨d, rfl⟩ := Nat.exists_eq_add_of_le h
  rw [Nat.add_sub_cancel_left, ← rl_cat]
  refine rl_ext fun j _ => ?_
  by_cases q : j < p
  · rw [if_pos q]
  · rw [if_neg q, show p + (j - p) = j by omega]
/-- a record put in -/
theorem rl_ins (enc : α → List Value) (g : Nat → α) (x : α) (h : p ≤ n) :
    rl enc (fun j => if j < p then g j else if j = p then x else g (j - 1)) (n + 1) = rl enc g p ++ (enc x ++ rl enc (fun j => g (p + j)) (n - p)) := by
  rw [rl_split enc _ (show p ≤ n + 1 by omega), rl_ext (h := g) fun j hj => if_pos hj, rl_split enc _ (show 1 ≤ n + 1 - p by omega)]
  congr 2
  · rw [rl_succ, rl_zero, List.nil_append, if_neg (by omega), if_pos (by omega)]
  · rw [show n + 1 - p - 1 = n - p by omega]
    refine rl_ext fun j _ => ?_
    rw [if_neg (by omega), if_neg (by omega), show p + (1 + j) - 1 = p + j by omega]
/-- a record struck out -/
theorem rl_del (enc : α → List Value) (g : Nat → α) (h : p < n) :
    rl enc (fun j => if j < p then g j else g (j + 1)) (n - 1) = rl enc g p ++ rl enc (fun j => g (p + 1 + j)) (n - 1 - p) := by
  rw [rl_split enc _ (show p ≤ n - 1 by omega), rl_ext (h := g) fun j hj => if_pos hj]
  congr 1
  refine rl_ext fun j _ => ?_
  rw [if_neg (by omega), show p + j + 1 = p + 1 + j by omega]
end
section
variable {α : Type}
theorem splice_ins (A B T X : List α) (h : X.length ≤ T.length) : splice (splice (A ++ (B ++ T)) (A.length + X.length) B) A.length X = A ++ (X ++ (B ++ T.drop X.length)) := by
  unfold splice
  have e1 : (A ++ (B ++ T)).drop (A.length + X.length + B.length) = T.drop X.length := by
    rw [show A.length + X.length + B.length = A.length + (B.length + X.length) by omega, List.drop_append, List.drop_append, List.drop_eq_nil_of_le (by omega), List.drop_eq_nil_of_le (by omega), List.nil_append, List.nil_append, show A.length + (B.length + X.length) - A.length - B.length = X.length by omega]
  have l1 : ((A ++ (B ++ T)).take (A.length + X.length)).length = A.length + X.length := by simp; omega
  rw [e1, List.drop_left' l1, List.take_append_of_le_length (by omega), List.take_take, Nat.min_eq_left (by omega), List.take_left]
theorem splice_put (A B X Z : List α) : splice (splice (A ++ Z) A.length X) (A.length + X.length) B = A ++ (X ++ (B ++ Z.drop (X.length + B.length))) := by
  have e : splice (A ++ Z) A.length X = (A ++ X) ++ Z.drop X.length := by
    unfold splice
    rw [List.take_left, List.drop_append, List.drop_eq_nil_of_le (by omega), List.nil_append, Nat.add_sub_cancel_left, List.append_assoc]
  have l : (A ++ X).length = A.length + X.length := by simp
  rw [e]
  unfold splice
  rw [← l, List.take_left, List.drop_append, List.drop_eq_nil_of_le (by omega), List.nil_append, Nat.add_sub_cancel_left, List.drop_drop, List.append_assoc]
theorem splice_end (A B T : List α) (X : List α) : ((splice (A ++ (B ++ T)) A.length X).take (A.length + X.length)) = A ++ X := by
  unfold splice
  rw [List.take_left, ← List.append_assoc, show A.length + X.length = (A ++ X).length by simp, List.take_left]
end
section
variable {P : Program} {w : World} {k : Nat} {i : TypeInfo} {elem : TypeId}
theorem run_copy_k (w : World) (dT sT ty : TypeId) (g o dLen dCap : Nat) (a : Addr) (sLen sCap : Nat) (cur : List Value) (t : TypeId) (cs : List Value)
    (hu : P.underlying dT = some (.slice elem)) (hi : P.info? elem = some i) (hk : i.size = k)
    (hg : w.heap[g]? = some (.cells cur.toArray t (0, 0))) (hn : cs.length = Nat.min sLen dLen * k)
    (hsrc : ∀ j v, cs[j]? = some v → w.cell? (a.add j) = some v) (hfit : o + cs.length ≤ cur.length) (h1 : ∀ v ∈ cs, v.oneCell' = true) :
    (Builtin.copy_ #[dT, sT] ty #[.slice (some ⟨g, o, none⟩) dLen dCap, .slice (some a) sLen sCap]).run P w = .ok (goInt (Nat.min sLen dLen)) (w.setRow g (splice cur o cs).toArray) := by
  have hl := run_loadCells_list (P := P) w a cs hsrc
  have hst := run_storeCells_at P g o t cs 0 cur.toArray w hg (by simpa using hfit) h1
  subst hk
  have e : w.setRow g (splice cur o cs).toArray = w.setRow g ((cur.take o ++ cs ++ cur.drop (o + cs.length)).toArray) := by unfold splice; rw [List.append_assoc]
  rw [e]
  simp only [Nat.add_zero] at hst
  simp [Builtin.copy_, run_underlying hu, Builtin.lenOf, Builtin.firstCells, sizeOf, typeInfo, hi, ← hn, hl, hst]
theorem setRow_has {g : Nat} {cur : List Value} {t : TypeId} (hg : w.heap[g]? = some (.cells cur.toArray t (0, 0))) (xs : List Value) : (w.setRow g xs.toArray).heap[g]? = some (.cells xs.toArray t (0, 0)) := setRow_heap w g cur.toArray xs.toArray t _ hg
variable {ops : Array Oper} {o : Oper} {a : Act}
/-- copy in a row that is known whole -/
theorem wpList_copy_k {rest : List Oper} {Q : Exit → Act → World → Prop} (hgd : o.guard = none) (d s : Operand) (dT sT : TypeId)
    (ho : o.op = .call { callee := .builtin .copy, args := #[d, s], argTypes := #[dT, sT] }) (hu : P.underlying dT = some (.slice elem)) (hi : P.info? elem = some i) (hk : i.size = k)
    (g off dLen dCap : Nat) (ad : Addr) (sLen sCap : Nat) (hd : a.eval d = .slice (some ⟨g, off, none⟩) dLen dCap) (hs : a.eval s = .slice (some ad) sLen sCap)
    (cur : List Value) (t : TypeId) (hg : w.heap[g]? = some (.cells cur.toArray t (0, 0))) (cs : List Value) (hn : cs.length = Nat.min sLen dLen * k)
    (hsrc : ∀ j v, cs[j]? = some v → w.cell? (ad.add j) = some v) (hfit : off + cs.length ≤ cur.length) (h1 : ∀ v ∈ cs, v.oneCell' = true) (B : Nat) (w0 : World) (hb : Below B w0 w) (hBg : B ≤ g)
    (h : ∀ w', Hid (w'.heap[g]? = some (.cells (splice cur off cs).toArray t (0, 0))) → Hid (∀ q, q ≠ g → w'.heap[q]? = w.heap[q]?) → Below B w0 w' → wpList P ops Q rest (a.put o.dst (goInt (Nat.min sLen dLen))) w') :
    wpList P ops Q (o :: rest) a w := by
  refine wpList_plain hgd fun K hK => ?_
  have hrun := run_copy_k (P := P) w dT sT o.type g off dLen dCap ad sLen sCap cur t cs hu hi hk hg hn hsrc hfit h1
  unfold Oper.wp
  simp only [execOp, ho, resolve, invoke, builtin, Sem.run_bind, Sem.run_pure, Result.andThen_ok, List.map_toArray, List.map_cons, List.map_nil, hd, hs, hrun]
  exact hK _ _ (h _ (Lib.hid (setRow_has hg _)) (Lib.hid fun q hq => setRow_other w g q _ hq) (below_setRow hb hBg _))
theorem step_copy_k {K : Act → World → Prop} {Q : Exit → Act → World → Prop} {Z : Prop} (hgd : o.guard = none) (d s : Operand) (dT sT : TypeId)
    (ho : o.op = .call { callee := .builtin .copy, args := #[d, s], argTypes := #[dT, sT] }) (hu : P.underlying dT = some (.slice elem)) (hi : P.info? elem = some i) (hk : i.size = k)
    (g off dLen dCap : Nat) (ad : Addr) (sLen sCap : Nat) (hd : a.eval d = .slice (some ⟨g, off, none⟩) dLen dCap) (hs : a.eval s = .slice (some ad) sLen sCap)
    (cur : List Value) (t : TypeId) (hg : w.heap[g]? = some (.cells cur.toArray t (0, 0))) (cs : List Value) (hn : cs.length = Nat.min sLen dLen * k)
    (hsrc : ∀ j v, cs[j]? = some v → w.cell? (ad.add j) = some v) (hfit : off + cs.length ≤ cur.length) (h1 : ∀ v ∈ cs, v.oneCell' = true) (B : Nat) (w0 : World) (hb : Below B w0 w) (hBg : B ≤ g)
    (h : ∀ w', Hid (w'.heap[g]? = some (.cells (splice cur off cs).toArray t (0, 0))) → Hid (∀ q, q ≠ g → w'.heap[q]? = w.heap[q]?) → Below B w0 w' → K (a.put o.dst (goInt (Nat.min sLen dLen))) w') :
    if Region.wanted o (yielded ops a.tmps) = true then Oper.wp P o a w K Q else Z := by
  have hw : Region.wanted o (yielded ops a.tmps) = true := by simp [Region.wanted, hgd]
  rw [if_pos hw]
  have hrun := run_copy_k (P := P) w dT sT o.type g off dLen dCap ad sLen sCap cur t cs hu hi hk hg hn hsrc hfit h1
  unfold Oper.wp
  simp [execOp, ho, resolve, invoke, builtin, hd, hs, hrun, Result.andThen]
  exact h _ (Lib.hid (setRow_has hg _)) (Lib.hid fun q hq => setRow_other w g q _ hq) (below_setRow hb hBg _)
/-- append with room, in a row that is known whole -/
theorem step_append_k {K : Act → World → Prop} {Q : Exit → Act → World → Prop} {Z : Prop} (hgd : o.guard = none) (d s : Operand) (T : TypeId)
    (ho : o.op = .call { callee := .builtin .append, args := #[d, s], argTypes := #[T, T] }) (hu : P.underlying T = some (.slice elem)) (hi : P.info? elem = some i) (hk : i.size = k)
    (g dLen dCap : Nat) (ad : Addr) (sLen sCap : Nat) (hd : a.eval d = .slice (some ⟨g, 0, none⟩) dLen dCap) (hs : a.eval s = .slice (some ad) sLen sCap)
    (cur : List Value) (hg : w.heap[g]? = some (.cells cur.toArray elem (0, 0))) (cs : List Value) (hn : cs.length = sLen * k) (hroom : dLen + sLen ≤ dCap)
    (hsrc : ∀ j v, cs[j]? = some v → w.cell? (ad.add j) = some v) (hfit : dLen * k + cs.length ≤ cur.length) (h1 : ∀ v ∈ cs, v.oneCell' = true) (B : Nat) (w0 : World) (hb : Below B w0 w) (hBg : B ≤ g)
    (h : ∀ w', Hid (w'.heap[g]? = some (.cells (splice cur (dLen * k) cs).toArray elem (0, 0))) → Hid (∀ q, q ≠ g → w'.heap[q]? = w.heap[q]?) → Below B w0 w' → K (a.put o.dst (.slice (some ⟨g, 0, none⟩) (dLen + sLen) dCap)) w') :
    if Region.wanted o (yielded ops a.tmps) = true then Oper.wp P o a w K Q else Z := by
  have hw : Region.wanted o (yielded ops a.tmps) = true := by simp [Region.wanted, hgd]
  rw [if_pos hw]
  subst hk
  have hrun := run_append_room (P := P) w T o.type elem i hu hi g dLen dCap cur.toArray hg ad sLen sCap cs hn hsrc h1 hroom (by simpa using hfit)
  have e : w.setRow g (splice cur (dLen * i.size) cs).toArray = w.setRow g ((cur.take (dLen * i.size) ++ cs ++ cur.drop (dLen * i.size + cs.length)).toArray) := by unfold splice; rw [List.append_assoc]
  unfold Oper.wp
  simp only [execOp, ho, resolve, invoke, builtin, Sem.run_bind, Sem.run_pure, Result.andThen_ok, List.map_toArray, List.map_cons, List.map_nil, hd, hs, hrun]
  rw [← e]
  exact h _ (Lib.hid (setRow_has hg _)) (Lib.hid fun q hq => setRow_other w g q _ hq) (below_setRow hb hBg _)
/-- clear, in a row that is known whole -/
theorem wpList_clear_k {rest : List Oper} {Q : Exit → Act → World → Prop} {z : Value} (hgd : o.guard = none) (d : Operand) (dT : TypeId)
    (ho : o.op = .call { callee := .builtin .clear, args := #[d], argTypes := #[dT] }) (hu : P.underlying dT = some (.slice elem)) (hv : ∀ w, (zeroValue elem).run P w = .ok z w) (zs : List Value)
    (g off m c : Nat) (hz : (Builtin.zeroCells z.cells (m + 1)).toList = zs) (hd : a.eval d = .slice (some ⟨g, off, none⟩) (m + 1) c)
    (cur : List Value) (t : TypeId) (hg : w.heap[g]? = some (.cells cur.toArray t (0, 0))) (hfit : off + zs.length ≤ cur.length) (h1 : ∀ v ∈ zs, v.oneCell' = true) (B : Nat) (w0 : World) (hb : Below B w0 w) (hBg : B ≤ g)
    (h : ∀ w', Hid (w'.heap[g]? = some (.cells (splice cur off zs).toArray t (0, 0))) → Below B w0 w' → wpList P ops Q rest (a.put o.dst (.tuple #[])) w') :
    wpList P ops Q (o :: rest) a w := by
  refine wpList_plain hgd fun K hK => ?_
  have hst := run_storeCells_at P g off t zs 0 cur.toArray w hg (by simpa using hfit) h1
  have e : w.setRow g (splice cur off zs).toArray = w.setRow g ((cur.take off ++ zs ++ cur.drop (off + zs.length)).toArray) := by unfold splice; rw [List.append_assoc]
  simp only [Nat.add_zero] at hst
  have hrun : ∀ ty, (Builtin.clear_ #[dT] ty #[.slice (some ⟨g, off, none⟩) (m + 1) c]).run P w = .ok (.tuple #[]) (w.setRow g (splice cur off zs).toArray) := fun ty => by
    rw [e]
    simp [Builtin.clear_, run_underlying hu, hv, hz, hst]
  unfold Oper.wp
  simp only [execOp, ho, resolve, invoke, builtin, Sem.run_bind, Sem.run_pure, Result.andThen_ok, List.map_toArray, List.map_cons, List.map_nil, hd, hrun]
  exact hK _ _ (h _ (Lib.hid (setRow_has hg _)) (below_setRow hb hBg _))
end
/-- an own row's block, whole -/
theorem OwnR.whole {α : Type} {enc : α → List Value} {k : Nat} {w : World} {E : TypeId} {base b n c : Nat} {g : Nat → α} (o : OwnR enc k w E base (Value.slice (Option.some ⟨b, 0, none⟩) n c) n g) :
    ∃ T, w.heap[b]? = Option.some (Obj.cells (rl enc g n ++ T).toArray E (0, 0)) ∧ base ≤ b ∧ n ≤ c ∧ c ≤ maxLen ∧ (rl enc g n ++ T).length = c * k := by
  rcases o.2 with ⟨h, _⟩ | ⟨g', cap, cur, hv, hb, hg, h1, h2, h3, h4⟩
  · cases h
  · injection hv with e1 _ e3
    injection e1 with e1
    injection e1 with e1
    subst e1 e3
    refine ⟨cur.toList.drop (n * k), ?_, hb, h1, h2, ?_⟩
    · rw [← h4, List.take_append_drop, Array.toArray_toList]; exact hg
    · rw [← h4, List.take_append_drop]; simpa using h3
/-- an own row out of its block -/
theorem OwnR.of_block {α : Type} {enc : α → List Value} {k : Nat} (hk : ∀ x, (enc x).length = k) {w : World} {E : TypeId} {base b n c : Nat} {g : Nat → α} {T : List Value} (hg : w.heap[b]? = Option.some (Obj.cells (rl enc g n ++ T).toArray E (0, 0))) (hb : base ≤ b) (h1 : n ≤ c) (h2 : c ≤ maxLen) (h3 : (rl enc g n ++ T).length = c * k) :
    OwnR enc k w E base (Value.slice (Option.some ⟨b, 0, none⟩) n c) n g :=
  ⟨rl_length hk g n, .inr ⟨b, c, _, rfl, hb, hg, h1, h2, by simpa using h3, by rw [List.take_left' (rl_length hk g n)]⟩⟩
end Go.Proofs.Ytmlafdehhbhbiaa

/- Buckets: rows of what is not 0, ascending, of a function of class and year; one of them set: mathematics alone. -/
namespace Go.Proofs.Ytmlafdehhbhbiaa

/-- a bucket -/
structure Bk where
  c : Int
  y : Int
  a : Int
/-- one place comes ahead of another -/
def Bl (c y c' y' : Int) : Prop := c < c' ∨ (c = c' ∧ y < y')
/-- a place that may be -/
def BOk (c y : Int) : Prop := 1 ≤ c ∧ c ≤ 9 ∧ 0 ≤ y ∧ y ≤ 99
/-- rows of buckets: none of them 0, ascending -/
structure BRow (n : Nat) (g : Nat → Bk) : Prop where
  ok : ∀ j, j < n → BOk (g j).c (g j).y
  nz : ∀ j, j < n → (g j).a ≠ 0
  asc : ∀ i j, i < j → j < n → Bl (g i).c (g i).y (g j).c (g j).y
/-- what a place has -/
def bval (x : Bk) (c y : Int) : Int := if x.c = c ∧ x.y = y then x.a else 0
def bget (g : Nat → Bk) (n : Nat) (c y : Int) : Int := tot (fun j => bval (g j) c y) n
def btot (g : Nat → Bk) (n : Nat) : Int := tot (fun j => (g j).a) n
/-- the rows are those of S -/
def BIs (S : Int → Int → Int) (n : Nat) (g : Nat → Bk) : Prop := BRow n g ∧ ∀ c y, bget g n c y = S c y
/-- another S -/
def upS (S : Int → Int → Int) (c y v : Int) : Int → Int → Int := fun c' y' => if c' = c ∧ y' = y then v else S c' y'
theorem upS_at (S : Int → Int → Int) (c y v : Int) : upS S c y v c y = v := if_pos ⟨rfl, rfl⟩
theorem upS_same (S : Int → Int → Int) (c y : Int) : upS S c y (S c y) = S := by
  funext c' y'
  unfold upS
  split
  · rename_i h; rw [h.1, h.2]
  · rfl
theorem tot_one (f : Nat → Int) (i : Nat) : ∀ n, i < n → (∀ j, j < n → j ≠ i → f j = 0) → tot f n = f i
  | n + 1, hi, h => by
    rw [tot]
    by_cases e : i = n
    · subst e
      rw [tot_zero i fun j hj => h j (by omega) (by omega)]; omega
    · rw [tot_one f i n (by omega) fun j hj => h j (by omega), h n (by omega) (by omega)]; omega
/-- one number more, in the midst -/
theorem tot_ins (f : Nat → Int) (p : Nat) (x : Int) : ∀ n, p ≤ n → tot (fun j => if j < p then f j else if j = p then x else f (j - 1)) (n + 1) = tot f n + x := by
  intro n
  induction n with
  | zero =>
    intro h
    obtain rfl : p = 0 := by omega
    simp [tot]
  | succ n ih =>
    intro h
    rw [tot]
    by_cases e : p = n + 1
    · subst e
      rw [if_neg (by omega), if_pos rfl, tot_ext (h := f) (n + 1) fun j hj => if_pos hj]
    · rw [ih (by omega), if_neg (by omega), if_neg (by omega), Nat.add_sub_cancel, tot]; omega
/-- one number less -/
theorem tot_del (f : Nat → Int) (p : Nat) : ∀ n, p ≤ n → tot (fun j => if j < p then f j else f (j + 1)) n + f p = tot f (n + 1) := by
  intro n
  induction n with
  | zero =>
    intro h
    obtain rfl : p = 0 := by omega
    simp [tot]
  | succ n ih =>
    intro h
    rw [tot, tot]
    by_cases e : p = n + 1
    · subst e
      rw [if_pos (by omega), tot_ext (h := f) n fun j hj => if_pos (by omega), tot]
    · have := ih (by omega)
      rw [if_neg (by omega)]; omega
section
variable {S : Int → Int → Int} {n m p : Nat} {g h : Nat → Bk} {c y v : Int}
theorem bl_irr (c y : Int) : ¬ Bl c y c y := by unfold Bl; omega
/-- no two rows are of one place -/
theorem BRow.inj (r : BRow n g) {i j : Nat} (hi : i < n) (hj : j < n) (h1 : (g i).c = (g j).c) (h2 : (g i).y = (g j).y) : i = j := by
  rcases Nat.lt_trichotomy i j with q | q | q
  · have := r.asc i j q hj; rw [h1, h2] at this; exact absurd this (bl_irr _ _)
  · exact q
  · have := r.asc j i q hi; rw [h1, h2] at this; exact absurd this (bl_irr _ _)
theorem bget_at (r : BRow n g) {i : Nat} (hi : i < n) : bget g n (g i).c (g i).y = (g i).a := by
  unfold bget
  rw [tot_one _ i n hi fun j hj hne => ?_]
  · exact if_pos ⟨rfl, rfl⟩
  · exact if_neg fun e => hne (r.inj hj hi e.1 e.2)
theorem bget_none (h : ∀ j, j < n → ¬ ((g j).c = c ∧ (g j).y = y)) : bget g n c y = 0 := tot_zero n fun j hj => if_neg (h j hj)
theorem bget_some (h : bget g n c y ≠ 0) : ∃ j, j < n ∧ (g j).c = c ∧ (g j).y = y :=
  Classical.byContradiction fun q => h (bget_none fun j hj e => q ⟨j, hj, e⟩)
theorem BIs.at (b : BIs S n g) {i : Nat} (hi : i < n) : S (g i).c (g i).y = (g i).a := (b.2 _ _).symm.trans (bget_at b.1 hi)
theorem BIs.has (b : BIs S n g) (h : S c y ≠ 0) : ∃ j, j < n ∧ (g j).c = c ∧ (g j).y = y := bget_some (by rw [b.2]; exact h)
theorem BIs.out (b : BIs S n g) (h : ¬ BOk c y) : S c y = 0 := by
  refine Classical.byContradiction fun q => ?_
  obtain ⟨j, hj, e1, e2⟩ := b.has q
  have := b.1.ok j hj
  rw [e1, e2] at this
  exact h this
theorem bis_zero (g : Nat → Bk) : BIs (fun _ _ => 0) 0 g := ⟨⟨fun j hj => by omega, fun j hj => by omega, fun i j _ hj => by omega⟩, fun _ _ => rfl⟩
/-- the rows of S are told by S -/
theorem bis_le (b : BIs S n g) (b' : BIs S m h) : ∀ j, j < n → j < m ∧ g j = h j := by
  intro j
  induction j using Nat.strongRecOn with
  | _ j ih =>
    intro hj
    have same : ∀ i k, i < n → k < m → (g i).c = (h k).c → (g i).y = (h k).y → (g i).a = (h k).a := fun i k hi hk e1 e2 => by
      rw [← b.at hi, ← b'.at hk, e1, e2]
    obtain ⟨k, hk, e1, e2⟩ := b'.has (c := (g j).c) (y := (g j).y) (by rw [b.at hj]; exact b.1.nz j hj)
    have hjk : j ≤ k := by
      rcases Nat.lt_or_ge k j with q | q
      · obtain ⟨_, e⟩ := ih k q (by omega)
        have := b.1.inj (i := k) (j := j) (by omega) hj (by rw [e]; exact e1) (by rw [e]; exact e2)
        omega
      · exact q
    refine ⟨by omega, ?_⟩
    rcases Nat.lt_or_ge j k with q | q
    · exfalso
      have lt := b'.1.asc j k q hk
      rw [e1, e2] at lt
      obtain ⟨i, hi, f1, f2⟩ := b.has (c := (h j).c) (y := (h j).y) (by rw [b'.at (show j < m by omega)]; exact b'.1.nz j (by omega))
      rcases Nat.lt_trichotomy i j with z | z | z
      · obtain ⟨_, e⟩ := ih i z hi
        have := b'.1.inj (i := i) (j := j) (by omega) (by omega) (by rw [← e]; exact f1) (by rw [← e]; exact f2)
        omega
      · subst z
        rw [f1, f2] at lt
        exact bl_irr _ _ lt
      · have l2 := b.1.asc j i z hi
        rw [f1, f2] at l2
        unfold Bl at lt l2; omega
    · obtain rfl : j = k := by omega
      have e3 := same j j hj hk e1.symm e2.symm
      cases hg : g j; cases hh : h j
      simp only [hg, hh] at e1 e2 e3
      subst e1 e2 e3; rfl
theorem BIs.uniq (b : BIs S n g) (b' : BIs S m h) : n = m ∧ ∀ j, j < n → g j = h j := by
  refine ⟨?_, fun j hj => (bis_le b b' j hj).2⟩
  rcases Nat.lt_trichotomy n m with q | q | q
  · have := (bis_le b' b n q).1; omega
  · exact q
  · have := (bis_le b b' m q).1; omega
theorem BIs.total (b : BIs S n g) (b' : BIs S m h) : btot g n = btot h m := by
  obtain ⟨rfl, e⟩ := b.uniq b'
  exact tot_ext n fun j hj => by show (g j).a = (h j).a; rw [e j hj]
/-- where a place belongs -/
theorem place (r : BRow n g) (c y : Int) : ∃ p, p ≤ n ∧ (∀ j, j < p → Bl (g j).c (g j).y c y) ∧ ∀ j, p ≤ j → j < n → ((g j).c = c ∧ (g j).y = y) ∨ Bl c y (g j).c (g j).y := by
  induction n with
  | zero => exact ⟨0, by omega, fun j hj => by omega, fun j _ hj => by omega⟩
  | succ n ih =>
    obtain ⟨p, h1, h2, h3⟩ := ih ⟨fun j hj => r.ok j (by omega), fun j hj => r.nz j (by omega), fun i j hi hj => r.asc i j hi (by omega)⟩
    by_cases q : p < n
    · refine ⟨p, by omega, h2, fun j hp hj => ?_⟩
      by_cases e : j = n
      · subst e
        have := r.asc p j q hj
        rcases h3 p (Nat.le_refl _) q with ⟨rfl, rfl⟩ | z
        · exact .inr this
        · right; unfold Bl at *; omega
      · exact h3 j hp (by omega)
    · obtain rfl : p = n := by omega
      by_cases z : Bl (g p).c (g p).y c y
      · refine ⟨p + 1, Nat.le_refl _, fun j hj => ?_, fun j hp hj => by omega⟩
        by_cases e : j = p
        · rw [e]; exact z
        · exact h2 j (by omega)
      · refine ⟨p, by omega, h2, fun j hp hj => ?_⟩
        obtain rfl : j = p := by omega
        unfold Bl at *; omega
/-- an amount put in place of another -/
def repB (g : Nat → Bk) (p : Nat) (x : Bk) : Nat → Bk := fun j => if j = p then x else g j
/-- a row struck out -/
def delB (g : Nat → Bk) (p : Nat) : Nat → Bk := fun j => if j < p then g j else g (j + 1)
/-- a row put in -/
def insB (g : Nat → Bk) (p : Nat) (x : Bk) : Nat → Bk := fun j => if j < p then g j else if j = p then x else g (j - 1)
theorem tot_rep (f : Nat → Int) (p : Nat) (x : Int) : ∀ n, p < n → tot (fun j => if j = p then x else f j) n = tot f n - f p + x := fun n hp => tot_upd f p x n hp
theorem bis_rep (b : BIs S n g) (hp : p < n) (hv : v ≠ 0) : BIs (upS S (g p).c (g p).y v) n (repB g p ⟨(g p).c, (g p).y, v⟩) ∧ btot (repB g p ⟨(g p).c, (g p).y, v⟩) n = btot g n - (g p).a + v := by
  have hc : ∀ j, (repB g p ⟨(g p).c, (g p).y, v⟩ j).c = (g j).c ∧ (repB g p ⟨(g p).c, (g p).y, v⟩ j).y = (g j).y := fun j => by
    unfold repB
    split
    · rename_i e; subst e; exact ⟨rfl, rfl⟩
    · exact ⟨rfl, rfl⟩
  refine ⟨⟨⟨fun j hj => ?_, fun j hj => ?_, fun i j hi hj => ?_⟩, fun c y => ?_⟩, ?_⟩
  · rw [(hc j).1, (hc j).2]; exact b.1.ok j hj
  · unfold repB
    split
    · exact hv
    · exact b.1.nz j hj
  · rw [(hc i).1, (hc i).2, (hc j).1, (hc j).2]; exact b.1.asc i j hi hj
  · have e : bget (repB g p ⟨(g p).c, (g p).y, v⟩) n c y = bget g n c y - bval (g p) c y + bval ⟨(g p).c, (g p).y, v⟩ c y := by
      unfold bget
      rw [← tot_rep (fun j => bval (g j) c y) p _ n hp]
      refine tot_ext n fun j _ => ?_
      unfold repB
      split <;> rfl
    rw [e, b.2]
    unfold upS bval
    by_cases q : (g p).c = c ∧ (g p).y = y
    · have q' : c = (g p).c ∧ y = (g p).y := ⟨q.1.symm, q.2.symm⟩
      rw [if_pos q, if_pos q, if_pos q', ← b.at hp, q.1, q.2]; dsimp only; omega
    · have q' : ¬ (c = (g p).c ∧ y = (g p).y) := fun z => q ⟨z.1.symm, z.2.symm⟩
      rw [if_neg q, if_neg q, if_neg q']; omega
  · unfold btot
    rw [← tot_rep (fun j => (g j).a) p v n hp]
    refine tot_ext n fun j _ => ?_
    unfold repB
    split <;> rfl
theorem bis_del (b : BIs S (n + 1) g) (hp : p < n + 1) : BIs (upS S (g p).c (g p).y 0) n (delB g p) ∧ btot (delB g p) n = btot g (n + 1) - (g p).a := by
  have hd : ∀ j, j < n → delB g p j = g (if j < p then j else j + 1) := fun j _ => by
    unfold delB
    split <;> rfl
  have hlt : ∀ j, j < n → (if j < p then j else j + 1) < n + 1 := fun j hj => by split <;> omega
  refine ⟨⟨⟨fun j hj => ?_, fun j hj => ?_, fun i j hi hj => ?_⟩, fun c y => ?_⟩, ?_⟩
  · rw [hd j hj]; exact b.1.ok _ (hlt j hj)
  · rw [hd j hj]; exact b.1.nz _ (hlt j hj)
  · rw [hd i (by omega), hd j hj]
    exact b.1.asc _ _ (by split <;> split <;> omega) (hlt j hj)
  · have e := tot_del (fun j => bval (g j) c y) p n (by omega)
    have e' : bget (delB g p) n c y = tot (fun j => if j < p then bval (g j) c y else bval (g (j + 1)) c y) n := by
      unfold bget
      refine tot_ext n fun j _ => ?_
      unfold delB
      split <;> rfl
    have e2 := b.2 c y
    unfold bget at e2
    rw [e']
    unfold upS
    by_cases q : (g p).c = c ∧ (g p).y = y
    · have q' : c = (g p).c ∧ y = (g p).y := ⟨q.1.symm, q.2.symm⟩
      have z : bval (g p) c y = (g p).a := if_pos q
      have za := b.at hp
      rw [q.1, q.2] at za
      rw [if_pos q']
      simp only [z] at e; omega
    · have q' : ¬ (c = (g p).c ∧ y = (g p).y) := fun z => q ⟨z.1.symm, z.2.symm⟩
      have z : bval (g p) c y = 0 := if_neg q
      rw [if_neg q']
      simp only [z] at e; omega
  · have e := tot_del (fun j => (g j).a) p n (by omega)
    have e' : btot (delB g p) n = tot (fun j => if j < p then (g j).a else (g (j + 1)).a) n := by
      unfold btot
      refine tot_ext n fun j _ => ?_
      unfold delB
      split <;> rfl
    rw [e']
    unfold btot
    omega
theorem bis_ins (b : BIs S n g) (hp : p ≤ n) (hok : BOk c y) (hv : v ≠ 0) (h1 : ∀ j, j < p → Bl (g j).c (g j).y c y) (h2 : ∀ j, p ≤ j → j < n → Bl c y (g j).c (g j).y) :
    BIs (upS S c y v) (n + 1) (insB g p ⟨c, y, v⟩) ∧ btot (insB g p ⟨c, y, v⟩) (n + 1) = btot g n + v ∧ S c y = 0 := by
  have hS : S c y = 0 := by
    rw [← b.2]
    refine bget_none fun j hj e => ?_
    by_cases q : j < p
    · have := h1 j q; rw [e.1, e.2] at this; exact bl_irr _ _ this
    · have := h2 j (by omega) hj; rw [e.1, e.2] at this; exact bl_irr _ _ this
  refine ⟨⟨⟨fun j hj => ?_, fun j hj => ?_, fun i j hi hj => ?_⟩, fun c' y' => ?_⟩, ?_, hS⟩
  · unfold insB
    split
    · exact b.1.ok j (by omega)
    · split
      · exact hok
      · exact b.1.ok _ (by omega)
  · unfold insB
    split
    · exact b.1.nz j (by omega)
    · split
      · exact hv
      · exact b.1.nz _ (by omega)
  · unfold insB
    by_cases q1 : i < p
    · rw [if_pos q1]
      by_cases q2 : j < p
      · rw [if_pos q2]; exact b.1.asc i j hi (by omega)
      · rw [if_neg q2]
        by_cases q3 : j = p
        · rw [if_pos q3]; exact h1 i q1
        · rw [if_neg q3]; exact b.1.asc i (j - 1) (by omega) (by omega)
    · rw [if_neg q1, if_neg (show ¬ j < p by omega), if_neg (show ¬ j = p by omega)]
      by_cases q3 : i = p
      · rw [if_pos q3]; exact h2 (j - 1) (by omega) (by omega)
      · rw [if_neg q3]; exact b.1.asc (i - 1) (j - 1) (by omega) (by omega)
  · have e := tot_ins (fun j => bval (g j) c' y') p (bval ⟨c, y, v⟩ c' y') n hp
    have e' : bget (insB g p ⟨c, y, v⟩) (n + 1) c' y' = tot (fun j => if j < p then bval (g j) c' y' else if j = p then bval ⟨c, y, v⟩ c' y' else bval (g (j - 1)) c' y') (n + 1) := by
      unfold bget
      refine tot_ext (n + 1) fun j _ => ?_
      unfold insB
      split
      · rfl
      · split <;> rfl
    have e2 := b.2 c' y'
    unfold bget at e2
    rw [e', e, e2]
    unfold upS bval
    by_cases q : c' = c ∧ y' = y
    · rw [if_pos q, if_pos ⟨q.1.symm, q.2.symm⟩, q.1, q.2, hS]; dsimp only; omega
    · rw [if_neg q, if_neg fun z => q ⟨z.1.symm, z.2.symm⟩]; omega
  · unfold btot
    rw [← tot_ins (fun j => (g j).a) p v n hp]
    refine tot_ext (n + 1) fun j _ => ?_
    unfold insB
    split
    · rfl
    · split <;> rfl
/-- a bucket is set: there are such rows -/
theorem bis_set (b : BIs S n g) (hok : BOk c y) (v : Int) : ∃ m h, BIs (upS S c y v) m h ∧ btot h m = btot g n - S c y + v ∧ (m : Int) = n - (if S c y = 0 then 0 else 1) + (if v = 0 then 0 else 1) := by
  by_cases q : S c y = 0
  · by_cases hv : v = 0
    · subst hv
      have e := upS_same S c y
      rw [q] at e
      exact ⟨n, g, by rw [e]; exact b, by omega, by rw [if_pos q, if_pos rfl]; omega⟩
    · obtain ⟨p, h1, h2, h3⟩ := place b.1 c y
      obtain ⟨k1, k2, _⟩ := bis_ins b h1 hok hv h2 fun j hp hj => (h3 j hp hj).resolve_left fun e => by
        have := b.at hj
        rw [e.1, e.2, q] at this
        exact b.1.nz j hj this.symm
      exact ⟨n + 1, _, k1, by omega, by rw [if_pos q, if_neg hv]; omega⟩
  · obtain ⟨p, hp, rfl, rfl⟩ := b.has q
    have ha := b.at hp
    by_cases hv : v = 0
    · subst hv
      obtain ⟨n', rfl⟩ : ∃ n', n = n' + 1 := ⟨n - 1, by omega⟩
      obtain ⟨k1, k2⟩ := bis_del b hp
      exact ⟨n', _, k1, by omega, by rw [if_neg q, if_pos rfl]; omega⟩
    · obtain ⟨k1, k2⟩ := bis_rep b hp hv
      exact ⟨n, _, k1, by omega, by rw [if_neg q, if_neg hv]; omega⟩
end
end Go.Proofs.Ytmlafdehhbhbiaa

/- Buckets: rows built anew, one behind the other, with one bucket set: mathematics alone; why a move, and a move from one into another, is refused. -/
namespace Go.Proofs.Ytmlafdehhbhbiaa

def pushB (h : Nat → Bk) (m : Nat) (x : Bk) : Nat → Bk := fun j => if j = m then x else h j
section
variable {S : Int → Int → Int} {n m k : Nat} {g h : Nat → Bk} {c y v : Int} {x : Bk} {ins : Bool}
theorem pushB_at (h : Nat → Bk) (m : Nat) (x : Bk) : pushB h m x m = x := if_pos rfl
theorem pushB_ne (h : Nat → Bk) {m j : Nat} (x : Bk) (e : j ≠ m) : pushB h m x j = h j := if_neg e
theorem BRow.push (r : BRow m h) (hok : BOk x.c x.y) (hnz : x.a ≠ 0) (hlt : ∀ i, i < m → Bl (h i).c (h i).y x.c x.y) : BRow (m + 1) (pushB h m x) := by
  refine ⟨fun j hj => ?_, fun j hj => ?_, fun i j hi hj => ?_⟩
  · by_cases e : j = m
    · rw [e, pushB_at]; exact hok
    · rw [pushB_ne h x e]; exact r.ok j (by omega)
  · by_cases e : j = m
    · rw [e, pushB_at]; exact hnz
    · rw [pushB_ne h x e]; exact r.nz j (by omega)
  · rw [pushB_ne h x (show i ≠ m by omega)]
    by_cases e : j = m
    · rw [e, pushB_at]; exact hlt i (by omega)
    · rw [pushB_ne h x e]; exact r.asc i j hi (by omega)
theorem bget_push (h : Nat → Bk) (m : Nat) (x : Bk) (c y : Int) : bget (pushB h m x) (m + 1) c y = bget h m c y + bval x c y := by
  unfold bget
  rw [tot, pushB_at, tot_ext (h := fun j => bval (h j) c y) m fun j hj => by rw [pushB_ne h x (by omega)]]
theorem bget_succ (g : Nat → Bk) (k : Nat) (c y : Int) : bget g (k + 1) c y = bget g k c y + bval (g k) c y := rfl
/-- k rows of g are gone through; v stands at its place, or not yet -/
structure SetInv (g : Nat → Bk) (n k : Nat) (c y v : Int) (ins : Bool) (m : Nat) (h : Nat → Bk) : Prop where
  row : BRow m h
  val : ∀ c' y', bget h m c' y' = if c' = c ∧ y' = y then (if ins = true then v else 0) else bget g k c' y'
  ahead : ∀ i j, i < m → k ≤ j → j < n → Bl (h i).c (h i).y (g j).c (g j).y
  low : v ≠ 0 → ins = false → ∀ i, i < m → Bl (h i).c (h i).y c y
  insv : ins = true → v ≠ 0
  size : m ≤ k + 1 ∧ (ins = false → m ≤ k)
theorem SetInv.zero (g : Nat → Bk) (n : Nat) (c y v : Int) (h : Nat → Bk) : SetInv g n 0 c y v false 0 h :=
  ⟨⟨fun j hj => by omega, fun j hj => by omega, fun i j _ hj => by omega⟩, fun c' y' => by
    rw [if_neg (show ¬ (false = true) by decide)]
    split <;> rfl, fun i j hi => by omega, fun _ _ i hi => by omega, fun e => (by cases e), by omega, fun _ => by omega⟩
/-- the row of the place itself is left out -/
theorem SetInv.skip (s : SetInv g n k c y v ins m h) (hx : (g k).c = c ∧ (g k).y = y) : SetInv g n (k + 1) c y v ins m h := by
  refine ⟨s.row, fun c' y' => ?_, fun i j hi hj => s.ahead i j hi (by omega), s.low, s.insv, by have := s.size.1; omega, fun e => by have := s.size.2 e; omega⟩
  rw [s.val]
  split
  · rfl
  · rename_i q
    rw [bget_succ, show bval (g k) c' y' = 0 from if_neg fun e => q ⟨e.1.symm.trans hx.1, e.2.symm.trans hx.2⟩]; omega
/-- a row as it is -/
theorem SetInv.keep (s : SetInv g n k c y v ins m h) (r : BRow n g) (hk : k < n) (hx : ¬ ((g k).c = c ∧ (g k).y = y)) (hd : v = 0 ∨ ins = true ∨ ¬ Bl c y (g k).c (g k).y) : SetInv g n (k + 1) c y v ins (m + 1) (pushB h m (g k)) := by
  refine ⟨s.row.push (r.ok k hk) (r.nz k hk) fun i hi => s.ahead i k hi (Nat.le_refl _) hk, fun c' y' => ?_, fun i j hi hj hn => ?_, fun hv hi0 i hi => ?_, s.insv, by have := s.size.1; omega, fun e => by have := s.size.2 e; omega⟩
  · rw [bget_push, s.val]
    split
    · rename_i q
      rw [show bval (g k) c' y' = 0 from if_neg fun e => hx ⟨e.1.trans q.1, e.2.trans q.2⟩]; omega
    · rw [bget_succ]
  · by_cases e : i = m
    · rw [e, pushB_at]; exact r.asc k j (by omega) hn
    · rw [pushB_ne h _ e]; exact s.ahead i j (by omega) (by omega) hn
  · by_cases e : i = m
    · rw [e, pushB_at]
      rcases hd with h0 | h1 | h2
      · exact absurd h0 hv
      · rw [hi0] at h1; cases h1
      · unfold Bl at *
        omega
    · rw [pushB_ne h _ e]; exact s.low hv hi0 i (by omega)
/-- the place itself, ahead of a row that comes behind it -/
theorem SetInv.put (s : SetInv g n k c y v false m h) (hok : BOk c y) (hv : v ≠ 0) (hlt : ∀ j, k ≤ j → j < n → Bl c y (g j).c (g j).y) : SetInv g n k c y v true (m + 1) (pushB h m ⟨c, y, v⟩) := by
  refine ⟨s.row.push hok hv fun i hi => s.low hv rfl i hi, fun c' y' => ?_, fun i j hi hj hn => ?_, fun _ e => (by cases e), fun _ => hv, by have := s.size.2 rfl; omega, fun e => by cases e⟩
  · rw [bget_push, s.val]
    by_cases q : c' = c ∧ y' = y
    · have z : bval ⟨c, y, v⟩ c' y' = v := if_pos ⟨q.1.symm, q.2.symm⟩
      rw [if_pos q, if_pos q, z, if_neg (show ¬ (false = true) by decide), if_pos rfl]; omega
    · have z : bval ⟨c, y, v⟩ c' y' = 0 := if_neg fun e => q ⟨e.1.symm, e.2.symm⟩
      rw [if_neg q, if_neg q, z]; omega
  · by_cases e : i = m
    · rw [e, pushB_at]; exact hlt j hj hn
    · rw [pushB_ne h _ e]; exact s.ahead i j (by omega) hj hn
/-- what comes behind a row that comes behind the place, does so too -/
theorem behind (r : BRow n g) (hx : Bl c y (g k).c (g k).y) : ∀ j, k ≤ j → j < n → Bl c y (g j).c (g j).y := fun j hj hn => by
  rcases Nat.lt_or_ge k j with q | q
  · have := r.asc k j q hn
    unfold Bl at *; omega
  · obtain rfl : j = k := by omega
    exact hx
/-- all rows are gone through -/
theorem SetInv.done (s : SetInv g n n c y v ins m h) (b : BIs S n g) (hd : v = 0 ∨ ins = true) : BIs (upS S c y v) m h := by
  refine ⟨s.row, fun c' y' => ?_⟩
  rw [s.val, b.2]
  unfold upS
  split
  · split
    · rfl
    · rename_i q
      exact (hd.resolve_right q).symm
  · rfl
end
theorem BIs.mon {S : Int → Int → Int} {n : Nat} {g : Nat → Bk} (b : BIs S n g) (hS : ∀ c y, Mon (S c y)) {j : Nat} (hj : j < n) : Mon (g j).a := by
  rw [← b.at hj]; exact hS _ _
/-- a register: its rows, that they are not too many, that no bucket is too great, and all of them together not -/
structure BInv (S : Int → Int → Int) (n : Nat) (g : Nat → Bk) : Prop where
  is : BIs S n g
  le : n ≤ 12
  mon : ∀ c y, Mon (S c y)
  all : Mon (btot g n)
theorem BInv.zero (g : Nat → Bk) : BInv (fun _ _ => 0) 0 g := ⟨bis_zero g, by omega, fun _ _ => by unfold Mon; omega, by unfold btot Mon; simp [tot]⟩
/-- how many rows there are, when one bucket becomes another -/
def cntB (n : Nat) (old new : Int) : Int := n - (if old = 0 then 0 else 1) + (if new = 0 then 0 else 1)
/-- .. when so much goes from one into another -/
def cntR (n : Nat) (V U a : Int) : Int := cntB n V (V - a) - (if U = 0 then 0 else 1) + (if U + a = 0 then 0 else 1)
/-- why a move is refused: 0: it is not -/
inductive MErr (S : Int → Int → Int) (n : Nat) (T : Int) (c y a : Int) : Int → Prop
  | arg : ¬ (BOk c y ∧ Mon a) → MErr S n T c y a 1
  | over : BOk c y ∧ Mon a → ¬ (Mon (S c y + a) ∧ Mon (T + a)) → MErr S n T c y a 6
  | limit : BOk c y ∧ Mon a → Mon (S c y + a) ∧ Mon (T + a) → 12 < cntB n (S c y) (S c y + a) → MErr S n T c y a 5
  | ok : BOk c y ∧ Mon a → Mon (S c y + a) ∧ Mon (T + a) → cntB n (S c y) (S c y + a) ≤ 12 → MErr S n T c y a 0
/-- .. from one bucket into another -/
inductive RErr (S : Int → Int → Int) (n : Nat) (c y c' y' a : Int) : Int → Prop
  | arg : ¬ (BOk c y ∧ BOk c' y' ∧ Mon a ∧ ¬ (c = c' ∧ y = y')) → RErr S n c y c' y' a 1
  | over : (BOk c y ∧ BOk c' y' ∧ Mon a ∧ ¬ (c = c' ∧ y = y')) → ¬ (Mon (S c y - a) ∧ Mon (S c' y' + a)) → RErr S n c y c' y' a 6
  | limit : (BOk c y ∧ BOk c' y' ∧ Mon a ∧ ¬ (c = c' ∧ y = y')) → Mon (S c y - a) ∧ Mon (S c' y' + a) → 12 < cntR n (S c y) (S c' y') a → RErr S n c y c' y' a 5
  | ok : (BOk c y ∧ BOk c' y' ∧ Mon a ∧ ¬ (c = c' ∧ y = y')) → Mon (S c y - a) ∧ Mon (S c' y' + a) → cntR n (S c y) (S c' y') a ≤ 12 → RErr S n c y c' y' a 0
theorem merr_any (S : Int → Int → Int) (n : Nat) (T c y a : Int) : ∃ e, MErr S n T c y a e := by
  by_cases h1 : BOk c y ∧ Mon a
  · by_cases h2 : Mon (S c y + a) ∧ Mon (T + a)
    · by_cases h3 : cntB n (S c y) (S c y + a) ≤ 12
      · exact ⟨_, .ok h1 h2 h3⟩
      · exact ⟨_, .limit h1 h2 (by omega)⟩
    · exact ⟨_, .over h1 h2⟩
  · exact ⟨_, .arg h1⟩
theorem rerr_any (S : Int → Int → Int) (n : Nat) (c y c' y' a : Int) : ∃ e, RErr S n c y c' y' a e := by
  by_cases h1 : BOk c y ∧ BOk c' y' ∧ Mon a ∧ ¬ (c = c' ∧ y = y')
  · by_cases h2 : Mon (S c y - a) ∧ Mon (S c' y' + a)
    · by_cases h3 : cntR n (S c y) (S c' y') a ≤ 12
      · exact ⟨_, .ok h1 h2 h3⟩
      · exact ⟨_, .limit h1 h2 (by omega)⟩
    · exact ⟨_, .over h1 h2⟩
  · exact ⟨_, .arg h1⟩
theorem MErr.uniq {S : Int → Int → Int} {n : Nat} {T c y a e e' : Int} (h : MErr S n T c y a e) (h' : MErr S n T c y a e') : e = e' := by
  cases h <;> cases h' <;> first | rfl | contradiction | omega
theorem RErr.uniq {S : Int → Int → Int} {n : Nat} {c y c' y' a e e' : Int} (h : RErr S n c y c' y' a e) (h' : RErr S n c y c' y' a e') : e = e' := by
  cases h <;> cases h' <;> first | rfl | contradiction | omega
/-- the rows behind a set bucket are as many as that -/
theorem bis_count {S : Int → Int → Int} {n m : Nat} {g h : Nat → Bk} {c y v : Int} (b : BIs S n g) (hok : BOk c y) (b' : BIs (upS S c y v) m h) : (m : Int) = cntB n (S c y) v ∧ btot h m = btot g n - S c y + v := by
  obtain ⟨m', h', k1, k2, k3⟩ := bis_set b hok v
  obtain ⟨rfl, _⟩ := b'.uniq k1
  exact ⟨k3, (b'.total k1).trans k2⟩
end Go.Proofs.Ytmlafdehhbhbiaa

/- The document's own: may a year, a rate, an amount, a bucket be? -/
namespace Go.Proofs.Ytmlafdehhbhbiaa
open Go.RowKit

end Go.Proofs.Ytmlafdehhbhbiaa
