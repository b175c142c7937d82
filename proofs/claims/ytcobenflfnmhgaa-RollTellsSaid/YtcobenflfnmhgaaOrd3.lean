/- A region that draws its order and stores into cells that its loads read: what loads read need hold only till the first store, q, comes up; what comes behind it may still be sums of numbers and the stores themselves. Built on the library's laws of orders. -/
import Derived.OrdersHeld
import Derived.Deep.RegionHeld3
import Derived.Test.YtcobenflfnmhgaaOrd
namespace Go.Proofs.Ytcobenflfnmhgaa
open Go

section
variable {P : Program} {ops : Array Oper} {Q : Exit → Act → World → Prop} {md : Region.Mode} {C E : World → Prop} {q : Nat}
/-- E holds, and the first store is listed, or C holds, too -/
def Yet (C E : World → Prop) (q : Nat) (listed : Array Bool) (w : World) : Prop := E w ∧ (listed.getD q false = true ∨ C w)
theorem Yet.less {i : Nat} {listed : Array Bool} {w : World} (h : Yet C E q (listed.setIfInBounds i true) w) (hi : i ≠ q) : Yet C E q listed w := by
  obtain ⟨e, h⟩ := h
  rcases h with h | h
  · rw [getD_set_ne false hi] at h; exact ⟨e, .inl h⟩
  · exact ⟨e, .inr h⟩
/-- whatever order is picked: behind each operation the condition holds, or the first store is listed -/
def AnyUp (P : Program) (md : Region.Mode) (ops : Array Oper) (Q : Exit → Act → World → Prop) (C E : World → Prop) (q : Nat) : Nat → Array Bool → Act → World → Prop
  | 0, listed, a, w => Region.ready md ops listed = [] ∧ Q .normal a w
  | fuel + 1, listed, a, w => (Region.ready md ops listed = [] → Q .normal a w) ∧
    ∀ i ∈ Region.ready md ops listed, wpOp P ops Q i (fun a' w' => Yet C E q (listed.setIfInBounds i true) w' ∧ AnyUp P md ops Q C E q fuel (listed.setIfInBounds i true) a' w') a w
theorem AnyUp.any : ∀ (fuel : Nat) (listed : Array Bool) (a : Act) (w : World), AnyUp P md ops Q C E q fuel listed a w → wpAny P md ops Q fuel listed a w
  | 0, _, _, _, h => h
  | fuel + 1, _, _, _, h => ⟨h.1, fun i hi => wpOp_mono (fun a' w' h' => AnyUp.any fuel _ a' w' h'.2) (h.2 i hi)⟩
/-- number i, taken first: it needs D, which holds as long as (a) nothing is asked (D is True), or (b) the first store waits for it -/
theorem AnyUp.first {D : World → Prop} {i : Nat} {oi : Oper} {v : Value} (hi : ops[i]? = some oi) (hsel : ∀ (j : Nat) (o : Oper) cs b, ops[j]? = some o → o.op ≠ .select cs b) (hiq : i ≠ q)
    (hD : (∀ w, E w → D w) ∨ (waits ops md q i = true ∧ ∀ w, E w → C w → D w)) (hQ : ∀ c a w, Q (.panic c) (a.put oi.dst v) w → Q (.panic c) a w) :
    ∀ (fuel : Nat) (listed : Array Bool) (a : Act) (w : World),
      (∀ j oj, ops[j]? = some oj → j ≠ i → listed.getD j true = false → (∀ e ∈ oj.after, Region.binds md e = true → e.on ≠ i) → oi.apart ops oj = true) →
      i ∈ Region.ready md ops listed → YieldsIf P ops D oi v a → Yet C E q listed w → (listed.getD q false = false ∨ ∀ w, E w → D w) →
      AnyUp P md ops Q C E q fuel (listed.setIfInBounds i true) (a.put oi.dst v) w → AnyUp P md ops Q C E q (fuel + 1) listed a w := by
  intro fuel
  have set_q : ∀ {listed : Array Bool} {w : World}, Yet C E q listed w → Yet C E q (listed.setIfInBounds i true) w := fun h => by
    obtain ⟨e, h⟩ := h
    rcases h with h | h
    · exact ⟨e, .inl (by rw [getD_set_ne false hiq]; exact h)⟩
    · exact ⟨e, .inr h⟩
  have dw : ∀ {listed : Array Bool} {w : World}, Yet C E q listed w → (listed.getD q false = false ∨ ∀ w, E w → D w) → D w := fun {listed w} h hl => by
    obtain ⟨e, h⟩ := h
    rcases hD with hd | ⟨_, hd⟩
    · exact hd w e
    · rcases hl with hl | hl
      · rcases h with h | h
        · rw [hl] at h; cases h
        · exact hd w e h
      · exact hl w e
  induction fuel with
  | zero =>
    intro listed a w _ hr hy hS hl H
    refine ⟨fun h => (by rw [h] at hr; cases hr), fun j hj => ?_⟩
    by_cases hji : j = i
    · subst hji; exact hy.wpOp hi (dw hS hl) ⟨set_q hS, H⟩
    · have := ready_mono hj hji
      rw [H.1] at this
      cases this
  | succ fuel ih =>
    intro listed a w hfree hr hy hS hl H
    refine ⟨fun h => (by rw [h] at hr; cases hr), fun j hj => ?_⟩
    by_cases hji : j = i
    · subst hji; exact hy.wpOp hi (dw hS hl) ⟨set_q hS, H⟩
    · have h1 := H.2 j (ready_mono hj hji)
      obtain ⟨hjun, oj, hoj, hall⟩ := mem_ready.1 hj
      have hnot : ∀ e ∈ oj.after, Region.binds md e = true → e.on ≠ i := fun e he hb heq => by
        have a1 := hall e he hb
        have a0 := (mem_ready.1 hr).1
        rw [heq] at a1
        rcases Nat.lt_or_ge i listed.size with h' | h'
        · simp [h'] at a0 a1; rw [a0] at a1; cases a1
        · simp [Array.getElem?_eq_none h'] at a1
      have h2 := wpOp_putIf hoj (hfree j oj hoj hji hjun hnot) (fun cs b => hsel i oi cs b hi) (fun cs b => hsel j oj cs b hoj) hQ hy h1
      have hfree' : ∀ k ok, ops[k]? = some ok → k ≠ i → (listed.setIfInBounds j true).getD k true = false →
          (∀ e ∈ ok.after, Region.binds md e = true → e.on ≠ i) → oi.apart ops ok = true := fun k ok hk hki hun hno => by
        refine hfree k ok hk hki ?_ hno
        by_cases hjk : j = k
        · subst hjk; exact hjun
        · rw [getD_set_ne true hjk] at hun; exact hun
      have hl' : (listed.setIfInBounds j true).getD q false = false ∨ ∀ w, E w → D w := by
        rcases hl with hl | hl
        · rcases hD with hd | ⟨hw, _⟩
          · exact .inr hd
          · have hjq : j ≠ q := fun e => waits_not hw (by rw [← e]; exact hoj) hnot
            exact .inl (by rw [getD_set_ne false hjq]; exact hl)
        · exact .inr hl
      refine wpOp_mono (fun a' w' h3 => ?_) h2
      have hc : ((listed.setIfInBounds i true).setIfInBounds j true) = ((listed.setIfInBounds j true).setIfInBounds i true) := Array.setIfInBounds_comm _ _ (Ne.symm hji)
      have hY : Yet C E q (listed.setIfInBounds j true) w' := Yet.less (by rw [← hc]; exact h3.2.1) hiq
      refine ⟨hY, ih (listed.setIfInBounds j true) a' w' hfree' (ready_mono hr (Ne.symm hji)) h3.1 hY hl' ?_⟩
      rw [← hc]
      exact h3.2.2
/-- take number i, which reads memory, first: the first store waits for it -/
theorem AnyUp.take {i : Nat} {oi : Oper} {v : Value} {fuel : Nat} {listed : Array Bool} {a : Act} {w : World} (hi : ops[i]? = some oi)
    (hs : Region.noSelect ops = true) (hf : Region.free md ops listed i = true) (hr : (Region.ready md ops listed).contains i = true) (hw : waits ops md q i = true) (hiq : (i != q && !(listed.getD q false)) = true)
    (hQ : ∀ c a w, Q (.panic c) (a.put oi.dst v) w → Q (.panic c) a w) (hy : YieldsIf P ops (fun w => E w ∧ C w) oi v a) (hC : E w ∧ C w)
    (h : AnyUp P md ops Q C E q fuel (listed.setIfInBounds i true) (a.put oi.dst v) w) : AnyUp P md ops Q C E q (fuel + 1) listed a w := by
  have := (Bool.and_eq_true _ _).mp hiq
  exact AnyUp.first hi (Region.noSelect_spec hs) (by simpa using this.1) (.inr ⟨hw, fun _ h h' => ⟨h, h'⟩⟩) hQ fuel listed a w (Region.free_spec hi hf) (by simpa using hr) hy ⟨hC.1, .inr hC.2⟩ (.inl (by simpa using this.2)) h
/-- take number i, which reads what no store hits, first -/
theorem AnyUp.takeQ {i : Nat} {oi : Oper} {v : Value} {fuel : Nat} {listed : Array Bool} {a : Act} {w : World} (hi : ops[i]? = some oi)
    (hs : Region.noSelect ops = true) (hf : Region.free md ops listed i = true) (hr : (Region.ready md ops listed).contains i = true) (hiq : (i != q) = true)
    (hQ : ∀ c a w, Q (.panic c) (a.put oi.dst v) w → Q (.panic c) a w) (hy : YieldsIf P ops E oi v a) (hC : Yet C E q listed w)
    (h : AnyUp P md ops Q C E q fuel (listed.setIfInBounds i true) (a.put oi.dst v) w) : AnyUp P md ops Q C E q (fuel + 1) listed a w :=
  AnyUp.first hi (Region.noSelect_spec hs) (by simpa using hiq) (.inl fun _ h => h) hQ fuel listed a w (Region.free_spec hi hf) (by simpa using hr) hy hC (.inr fun _ h => h) h
/-- only number i may come up -/
theorem AnyUp.one {i : Nat} {o : Oper} {fuel : Nat} {listed : Array Bool} {a : Act} {w : World} (hr : Region.ready md ops listed = [i]) (ho : ops[i]? = some o)
    (h : ∀ K' : Act → World → Prop, Shut (∀ a w, Yet C E q (listed.setIfInBounds i true) w → AnyUp P md ops Q C E q fuel (listed.setIfInBounds i true) a w → K' a w) → if Region.wanted o (yielded ops a.tmps) = true then Oper.wp P o a w K' Q else K' (a.put o.dst undef) w) :
    AnyUp P md ops Q C E q (fuel + 1) listed a w :=
  ⟨fun h0 => (by rw [hr] at h0; cases h0), fun j hj => by
    rw [hr] at hj
    have : j = i := by simpa using hj
    subst this
    exact wpOp_step ho fun K' hK => h K' fun a w h1 h2 => hK a w ⟨h1, h2⟩⟩
theorem AnyUp.done {listed : Array Bool} {a : Act} {w : World} (hr : Region.ready md ops listed = []) (h : Q .normal a w) : ∀ fuel, AnyUp P md ops Q C E q fuel listed a w
  | 0 => ⟨hr, h⟩
  | _ + 1 => ⟨fun _ => h, by rw [hr]; simp⟩
theorem AnyUp.begin {id : Nat} {a : Act} {w : World} (hm : P.follows .mixedOrders = true)
    (h : AnyUp P .any ops Q C E q ops.size (Array.replicate ops.size false) a w.drew) : (Code.region id ops true).wp P Q a w :=
  wp_region_any hm (AnyUp.any _ _ _ _ h)
end
end Go.Proofs.Ytcobenflfnmhgaa
