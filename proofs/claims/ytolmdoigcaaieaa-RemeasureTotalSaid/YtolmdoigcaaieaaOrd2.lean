/- Regions that draw their order (Ord): quiet calls taken first; two operations of which either may come up. -/
import Derived.Test.YtolmdoigcaaieaaOrd
namespace Go.Proofs.Ytolmdoigcaaieaa
open Go

section
variable {P : Program} {ops : Array Oper} {Q : Exit → Act → World → Prop} {md : Region.Mode} {C : World → Prop} {q : Nat}
/-- what an operation doesn't touch of the frame stays said of it -/
theorem wpOp_and {Y : Act → Prop} {j : Nat} {oj : Oper} (hj : ops[j]? = some oj) (hput : ∀ a u, Y a → Y (a.put oj.dst u)) (hdef : ∀ (a : Act) d, Y a → Y { a with defers := d :: a.defers })
    {K : Act → World → Prop} {a : Act} {w : World} (hy : Y a) (h : wpOp P ops Q j K a w) : wpOp P ops Q j (fun a' w' => Y a' ∧ K a' w') a w := by
  unfold wpOp at *
  simp only [hj] at *
  by_cases hw : Region.wanted oj (yielded ops a.tmps) = true
  · simp only [hw, if_true] at h ⊢
    refine h.imp (fun h => ?_) id
    unfold Oper.wp at *
    generalize (execOp a.eval oj).run P w = r at *
    match r, h with
    | .ok (.value u) w', h => exact ⟨hput a u hy, h⟩
    | .ok .skip w', h => exact ⟨hput a undef hy, h⟩
    | .ok (.defer d) w', h => exact ⟨hput _ _ (hdef a d hy), h⟩
    | .ok (.enter f args) w', h =>
      exact Calls.mono h fun e w'' he => by
        cases e with
        | returned u => exact ⟨hput a u hy, he⟩
        | panicked c => exact he
        | outgrown => exact he
    | .ok (.row row args) w', h => exact Rows.mono h fun u w'' he => ⟨hput a u hy, he⟩
    | .halt (.panic v) w', h => exact h
  · simp only [hw] at h ⊢
    exact ⟨hput a undef hy, h⟩
/-- a call that hands back v, and leaves the world, wherever the condition holds -/
def YieldsC (P : Program) (ops : Array Oper) (C : World → Prop) (o : Oper) (v : Value) (a : Act) : Prop :=
  Region.wanted o (yielded ops a.tmps) = true ∧ ∃ f args, (∀ w, C w → (execOp a.eval o).run P w = .ok (.enter f args) w) ∧ ∀ w, C w → Calls P f args w fun e w' => e = .returned v ∧ w = w'
theorem YieldsC.wpOp {i : Nat} {o : Oper} {v : Value} {a : Act} (hi : ops[i]? = some o) (hy : YieldsC P ops C o v a) {K : Act → World → Prop} {w : World} (hC : C w) (h : K (a.put o.dst v) w) : wpOp P ops Q i K a w := by
  obtain ⟨hw, f, args, h1, h2⟩ := hy
  unfold Go.wpOp
  simp only [hi, hw, if_true, Oper.wp, h1 w hC, Oper.upon]
  refine .inl (Calls.mono (h2 w hC) fun e w' he => ?_)
  obtain ⟨rfl, rfl⟩ := he
  exact h
theorem AnyTill.firstC {i : Nat} {oi : Oper} {v : Value} (hi : ops[i]? = some oi) (hsel : ∀ (j : Nat) (o : Oper) cs b, ops[j]? = some o → o.op ≠ .select cs b)
    (hw : waits ops md q i = true) (hQ : ∀ c a w, Q (.panic c) (a.put oi.dst v) w → Q (.panic c) a w) :
    ∀ (fuel : Nat) (listed : Array Bool) (a : Act) (w : World),
      (∀ j oj, ops[j]? = some oj → j ≠ i → listed.getD j true = false → (∀ e ∈ oj.after, Region.binds md e = true → e.on ≠ i) → oi.apart ops oj = true) →
      i ∈ Region.ready md ops listed → YieldsC P ops C oi v a → C w →
      AnyTill P md ops Q C q fuel (listed.setIfInBounds i true) (a.put oi.dst v) w → AnyTill P md ops Q C q (fuel + 1) listed a w := by
  intro fuel
  induction fuel with
  | zero =>
    intro listed a w _ hr hy hS H
    refine ⟨fun h => (by rw [h] at hr; cases hr), fun j hj => ?_⟩
    by_cases hji : j = i
    · subst hji; exact hy.wpOp hi hS ⟨.inr hS, H⟩
    · have := ready_mono hj hji
      rw [H.1] at this
      cases this
  | succ fuel ih =>
    intro listed a w hfree hr hy hS H
    refine ⟨fun h => (by rw [h] at hr; cases hr), fun j hj => ?_⟩
    by_cases hji : j = i
    · subst hji; exact hy.wpOp hi hS ⟨.inr hS, H⟩
    · have h1 := H.2 j (ready_mono hj hji)
      obtain ⟨hjun, oj, hoj, hall⟩ := mem_ready.1 hj
      have hnot : ∀ e ∈ oj.after, Region.binds md e = true → e.on ≠ i := fun e he hb heq => by
        have a1 := hall e he hb
        have a0 := (mem_ready.1 hr).1
        rw [heq] at a1
        rcases Nat.lt_or_ge i listed.size with h' | h'
        · simp [h'] at a0 a1; rw [a0] at a1; cases a1
        · simp [Array.getElem?_eq_none h'] at a1
      have hjq : j ≠ q := fun e => waits_not hw (by rw [← e]; exact hoj) hnot
      have hap := hfree j oj hoj hji hjun hnot
      obtain ⟨_, _, p3⟩ := Oper.apart_spec hap
      have hs := fun cs b => hsel i oi cs b hi
      have h2 := wpOp_putIf (S := fun _ => False) hoj hap hs (fun cs b => hsel j oj cs b hoj) hQ (.inl ⟨hy.1, fun _ hF => hF.elim⟩) h1
      have h3 := wpOp_and (Y := YieldsC P ops C oi v) hoj (fun a u hY => by
        obtain ⟨y1, f, args, y2, y3⟩ := hY
        exact ⟨(wanted_put oi a oj.dst u p3).trans y1, f, args, fun w hC => by rw [execOp_put oi hs a oj.dst u p3]; exact y2 w hC, y3⟩) (fun a d hY => hY) hy h2
      have hfree' : ∀ k ok, ops[k]? = some ok → k ≠ i → (listed.setIfInBounds j true).getD k true = false →
          (∀ e ∈ ok.after, Region.binds md e = true → e.on ≠ i) → oi.apart ops ok = true := fun k ok hk hki hun hno => by
        refine hfree k ok hk hki ?_ hno
        by_cases hjk : j = k
        · subst hjk; exact hjun
        · rw [getD_set_ne true hjk] at hun; exact hun
      refine wpOp_mono (fun a' w' h4 => ?_) h3
      have hC : C w' := h4.2.2.1.resolve_left hjq
      refine ⟨.inr hC, ih (listed.setIfInBounds j true) a' w' hfree' (ready_mono hr (Ne.symm hji)) h4.1 hC ?_⟩
      rw [Array.setIfInBounds_comm _ _ hji]
      exact h4.2.2.2
/-- take the quiet call number i first -/
theorem AnyTill.takeC {i : Nat} {oi : Oper} {v : Value} {fuel : Nat} {listed : Array Bool} {a : Act} {w : World} (hi : ops[i]? = some oi)
    (hs : Region.noSelect ops = true) (hf : Region.free md ops listed i = true) (hr : (Region.ready md ops listed).contains i = true) (hw : waits ops md q i = true)
    (hQ : ∀ c a w, Q (.panic c) (a.put oi.dst v) w → Q (.panic c) a w) (hy : YieldsC P ops C oi v a) (hC : C w)
    (h : AnyTill P md ops Q C q fuel (listed.setIfInBounds i true) (a.put oi.dst v) w) : AnyTill P md ops Q C q (fuel + 1) listed a w :=
  AnyTill.firstC hi (Region.noSelect_spec hs) hw hQ fuel listed a w (Region.free_spec hi hf) (by simpa using hr) hy hC h
/-- either of two may come up -/
theorem AnyTill.two {i k : Nat} {o o' : Oper} {fuel : Nat} {listed : Array Bool} {a : Act} {w : World} (hr : Region.ready md ops listed = [i, k]) (ho : ops[i]? = some o) (ho' : ops[k]? = some o')
    (h : ∀ K' : Act → World → Prop, Shut (∀ a w, (i = q ∨ C w) → AnyTill P md ops Q C q fuel (listed.setIfInBounds i true) a w → K' a w) → if Region.wanted o (yielded ops a.tmps) = true then Oper.wp P o a w K' Q else K' (a.put o.dst undef) w)
    (h' : ∀ K' : Act → World → Prop, Shut (∀ a w, (k = q ∨ C w) → AnyTill P md ops Q C q fuel (listed.setIfInBounds k true) a w → K' a w) → if Region.wanted o' (yielded ops a.tmps) = true then Oper.wp P o' a w K' Q else K' (a.put o'.dst undef) w) :
    AnyTill P md ops Q C q (fuel + 1) listed a w :=
  ⟨fun h0 => (by rw [hr] at h0; cases h0), fun j hj => by
    rw [hr] at hj
    have : j = i ∨ j = k := by simpa using hj
    rcases this with rfl | rfl
    · exact wpOp_step ho fun K' hK => h K' fun a w h1 h2 => hK a w ⟨h1, h2⟩
    · exact wpOp_step ho' fun K' hK => h' K' fun a w h1 h2 => hK a w ⟨h1, h2⟩⟩
end
end Go.Proofs.Ytolmdoigcaaieaa
