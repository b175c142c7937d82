/- Regions that draw their order (Ord): the condition may be made stronger on the way (what a call has laid is told from there on). -/
import Derived.Test.YtmlafdehhbhbiaaM2
namespace Go.Proofs.Ytmlafdehhbhbiaa
open Go
theorem AnyTill.weaken {P : Program} {ops : Array Oper} {Q : Exit → Act → World → Prop} {md : Region.Mode} {C C' : World → Prop} {q : Nat} (h : ∀ w, C' w → C w) : ∀ (fuel : Nat) (listed : Array Bool) (a : Act) (w : World), AnyTill P md ops Q C' q fuel listed a w → AnyTill P md ops Q C q fuel listed a w
  | 0, _, _, _, k => k
  | fuel + 1, _, _, _, k => ⟨k.1, fun i hi => wpOp_mono (fun _ w' z => ⟨z.1.imp id (h w'), AnyTill.weaken h fuel _ _ _ z.2⟩) (k.2 i hi)⟩
end Go.Proofs.Ytmlafdehhbhbiaa
