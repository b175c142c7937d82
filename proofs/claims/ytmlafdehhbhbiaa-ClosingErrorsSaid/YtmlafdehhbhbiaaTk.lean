/- Shorter words for regions that draw their order: an operation taken, its result put. -/
import Derived.Test.YtmlafdehhbhbiaaM2
import Derived.WalkKit
import Derived.WalkSpells
import Derived.WalkLawsBesides
import Derived.Lib.Hide
import Derived.IntWalk
namespace Go.Proofs.Ytmlafdehhbhbiaa
open Go
theorem pt : (∀ (a : Act) (d : Tmp) (v : Value), a.put (some d) v = { a with tmps := a.tmps.setIfInBounds d v }) ∧ (∀ (a : Act) (v : Value), a.put none v = a) ∧ (∀ (l : List Value) (i : Nat) (v : Value), l.toArray.setIfInBounds i v = (l.set i v).toArray) ∧ (∀ (x : Value) (l : List Value) (v : Value), (x :: l).set 0 v = v :: l) ∧ (∀ (x : Value) (l : List Value) (n : Nat) (v : Value), (x :: l).set (n + 1) v = x :: l.set n v) :=
  ⟨fun _ _ _ => rfl, fun _ _ => rfl, fun l i v => List.setIfInBounds_toArray l i v, fun _ _ _ => rfl, fun _ _ _ _ => rfl⟩
section
variable {P : Program} {ops : Array Oper} {Q : Exit → Act → World → Prop} {md : Region.Mode} {C : World → Prop} {q : Nat} {oi : Oper} {v : Value} {fuel : Nat} {listed : Array Bool} {a a' : Act} {w : World}
theorem AnyTill.tv (i : Nat) (v : Value) (hi : ops[i]? = some oi := by simp only [List.getElem?_toArray, List.getElem?_cons_succ, List.getElem?_cons_zero]; rfl)
    (hy : YieldsIf P ops C oi v a) (hC : C w) (h : AnyTill P md ops Q C q fuel (listed.setIfInBounds i true) a' w)
    (hs : Region.noSelect ops = true := by kernel_rfl) (hf : Region.free md ops listed i = true := by kernel_rfl) (hr : (Region.ready md ops listed).contains i = true := by kernel_rfl) (hw : waits ops md q i = true := by kernel_rfl)
    (hQ : ∀ c a w, Q (.panic c) (a.put oi.dst v) w → Q (.panic c) a w := by exact fun _ _ _ h => h)
    (hp : a.put oi.dst v = a' := by (try simp only [pt]); rfl) : AnyTill P md ops Q C q (fuel + 1) listed a w := by
  subst hp
  exact AnyTill.take hi hs hf hr hw hQ hy hC h
theorem AnyTill.tk (i : Nat) (hC : C w) (h : AnyTill P md ops Q C q fuel (listed.setIfInBounds i true) a' w)
    (hi : ops[i]? = some oi := by simp only [List.getElem?_toArray, List.getElem?_cons_succ, List.getElem?_cons_zero]; rfl)
    (hs : Region.noSelect ops = true := by kernel_rfl) (hf : Region.free md ops listed i = true := by kernel_rfl) (hr : (Region.ready md ops listed).contains i = true := by kernel_rfl) (hw : waits ops md q i = true := by kernel_rfl)
    (hQ : ∀ c a w, Q (.panic c) (a.put oi.dst v) w → Q (.panic c) a w := by exact fun _ _ _ h => h)
    (hwt : Region.wanted oi (yielded ops a.tmps) = true := by rfl)
    (hy : ∀ w', C w' → (execOp a.eval oi).run P w' = .ok (.value v) w' := by intro w' hw'; (try dsimp only at hw'); go_simp <;> with_reducible rfl)
    (hp : a.put oi.dst v = a' := by (try simp only [pt]); rfl) : AnyTill P md ops Q C q (fuel + 1) listed a w := by
  subst hp
  exact AnyTill.take hi hs hf hr hw hQ (.inl ⟨hwt, hy⟩) hC h
theorem AnyTill.tc (i : Nat) (v : Value) (f : FuncId) (args : Array Value) (hi : ops[i]? = some oi := by simp only [List.getElem?_toArray, List.getElem?_cons_succ, List.getElem?_cons_zero]; rfl)
    (hc : ∀ w', C w' → Calls P f args w' fun e w'' => e = .returned v ∧ w' = w'') (hC : C w) (h : AnyTill P md ops Q C q fuel (listed.setIfInBounds i true) a' w)
    (hs : Region.noSelect ops = true := by kernel_rfl) (hf : Region.free md ops listed i = true := by kernel_rfl) (hr : (Region.ready md ops listed).contains i = true := by kernel_rfl) (hw : waits ops md q i = true := by kernel_rfl)
    (hQ : ∀ c a w, Q (.panic c) (a.put oi.dst v) w → Q (.panic c) a w := by exact fun _ _ _ h => h)
    (hwt : Region.wanted oi (yielded ops a.tmps) = true := by rfl)
    (hy : ∀ w', C w' → (execOp a.eval oi).run P w' = .ok (.enter f args) w' := by intro w' hw'; (try dsimp only at hw'); go_simp <;> with_reducible rfl)
    (hp : a.put oi.dst v = a' := by (try simp only [pt]); rfl) : AnyTill P md ops Q C q (fuel + 1) listed a w := by
  subst hp
  exact AnyTill.takeC hi hs hf hr hw hQ ⟨hwt, f, args, hy, hc⟩ hC h
theorem AnyTill.on {o : Oper} (i : Nat) (h : ∀ K' : Act → World → Prop, Shut (∀ a w, (i = q ∨ C w) → AnyTill P md ops Q C q fuel (listed.setIfInBounds i true) a w → K' a w) → if Region.wanted o (yielded ops a.tmps) = true then Oper.wp P o a w K' Q else K' (a.put o.dst undef) w)
    (hr : Region.ready md ops listed = [i] := by kernel_rfl) (ho : ops[i]? = some o := by simp only [List.getElem?_toArray, List.getElem?_cons_succ, List.getElem?_cons_zero]; rfl) : AnyTill P md ops Q C q (fuel + 1) listed a w :=
  AnyTill.one hr ho h
end
end Go.Proofs.Ytmlafdehhbhbiaa
