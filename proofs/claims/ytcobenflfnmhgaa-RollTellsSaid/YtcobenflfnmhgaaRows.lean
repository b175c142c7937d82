/-
  No cell of these rows narrows 'for every input' (looked for: loops, veiled, ifaces, maps, wideKeys, modest, calm, conditions, laid).
  DERIVED. THE GIVEN ROWS OF THIS SEAT. 4 by the template 'for every input the law returns true; each argument reads behind the call as it read before'; 0 by the template 'total and deterministic' (their statements: YtcobenflfnmhgaaTotals.lean).
  GIVEN WITH THE SEED: the statements are not yours to turn. If you find one false, say at which input.
  Laid BY PROGRAM, IN A SANDBOX (cutbox-rows.mjs): the forced cells as the released guide's own fill.sh prints them over the translation 0f12e98c8608603c… (all of the seat's roots in one cut). By AI agents, Wed Nov 11 2026. No macro, syntax, notation, axiom, sorry.
-/
import Derived.Test.YtcobenflfnmhgaaChecked
import GoSem.Claim
import GoSem.ClaimJoined
import GoSem.ClaimMapViews
import Derived.JoinedTies
import Derived.KernelRfl
namespace Go.Proofs.Ytcobenflfnmhgaa
/- THE CELL 'sum', in the pinned program and in every row, IS THE sha256 OF THE DUMP (.gsa) THAT YtcobenflfnmhgaaProg.lean LOADS. Nothing in Lean hashes anything: it is a label: what it is worth is what the hold of that sum in a sandbox is worth. -/
noncomputable def Try.pinned : Pinned := { name := "ytcobenflfnmhgaa", sum := "0f12e98c8608603c9b2b5a48f109a5f866111a7f77be6c50f056e5626b7c8278", checked := Try.checked }
namespace Rows
def none {H : Type} : Left H := { results := [], args := [] }

/-- 'scutagelaw11.RollChains': WHATEVER THE INPUT: true; the input reads as it did. -/
def rollChainsSpec : ChangeSpec := { name := "rollChains", fn := fun _ => fun
  | [d1, d2, d3] => { results := [.lit (.bool true)], args := [d1, d2, d3] }
  | _ => none }
def rollChainsRow : OpenClaim := { program := "ytcobenflfnmhgaa", sum := "0f12e98c8608603c9b2b5a48f109a5f866111a7f77be6c50f056e5626b7c8278", func := "scutage/scutagelaw11.RollChains", spec := "rollChains", apart := false }
def RollChainsSaid : Prop := rollChainsRow.holds Try.pinned (OpenSpec.ofChange rollChainsSpec)

/-- ITS FALSE NEIGHBOUR: 'it returns false'. Refute it at one input. -/
def rollChainsWrong : ChangeSpec := { name := "rollChains", fn := fun _ => fun
  | [d1, d2, d3] => { results := [.lit (.bool false)], args := [d1, d2, d3] }
  | _ => none }
def RollChainsWrongFalsely : Prop := rollChainsRow.holds Try.pinned (OpenSpec.ofChange rollChainsWrong)

/-- 'scutagelaw11.RollClasses': WHATEVER THE INPUT: true; the input reads as it did. -/
def rollClassesSpec : ChangeSpec := { name := "rollClasses", fn := fun _ => fun
  | [d] => { results := [.lit (.bool true)], args := [d] }
  | _ => none }
def rollClassesRow : OpenClaim := { program := "ytcobenflfnmhgaa", sum := "0f12e98c8608603c9b2b5a48f109a5f866111a7f77be6c50f056e5626b7c8278", func := "scutage/scutagelaw11.RollClasses", spec := "rollClasses", unfollowed := true, recurses := true, apart := false }
def RollClassesSaid : Prop := rollClassesRow.holds Try.pinned (OpenSpec.ofChange rollClassesSpec)

/-- ITS FALSE NEIGHBOUR: 'it returns false'. Refute it at one input. -/
def rollClassesWrong : ChangeSpec := { name := "rollClasses", fn := fun _ => fun
  | [d] => { results := [.lit (.bool false)], args := [d] }
  | _ => none }
def RollClassesWrongFalsely : Prop := rollClassesRow.holds Try.pinned (OpenSpec.ofChange rollClassesWrong)

/-- 'scutagelaw11.RollTells': WHATEVER THE INPUT: true; the input reads as it did. -/
def rollTellsSpec : ChangeSpec := { name := "rollTells", fn := fun _ => fun
  | [d1, d2] => { results := [.lit (.bool true)], args := [d1, d2] }
  | _ => none }
def rollTellsRow : OpenClaim := { program := "ytcobenflfnmhgaa", sum := "0f12e98c8608603c9b2b5a48f109a5f866111a7f77be6c50f056e5626b7c8278", func := "scutage/scutagelaw11.RollTells", spec := "rollTells", unfollowed := true, recurses := true, apart := false }
def RollTellsSaid : Prop := rollTellsRow.holds Try.pinned (OpenSpec.ofChange rollTellsSpec)

/-- ITS FALSE NEIGHBOUR: 'it returns false'. Refute it at one input. -/
def rollTellsWrong : ChangeSpec := { name := "rollTells", fn := fun _ => fun
  | [d1, d2] => { results := [.lit (.bool false)], args := [d1, d2] }
  | _ => none }
def RollTellsWrongFalsely : Prop := rollTellsRow.holds Try.pinned (OpenSpec.ofChange rollTellsWrong)

/-- 'scutagelaw11.RollSums': WHATEVER THE INPUT: true; the input reads as it did. -/
def rollSumsSpec : ChangeSpec := { name := "rollSums", fn := fun _ => fun
  | [d1, d2] => { results := [.lit (.bool true)], args := [d1, d2] }
  | _ => none }
def rollSumsRow : OpenClaim := { program := "ytcobenflfnmhgaa", sum := "0f12e98c8608603c9b2b5a48f109a5f866111a7f77be6c50f056e5626b7c8278", func := "scutage/scutagelaw11.RollSums", spec := "rollSums", unfollowed := true, recurses := true, apart := false }
def RollSumsSaid : Prop := rollSumsRow.holds Try.pinned (OpenSpec.ofChange rollSumsSpec)

/-- ITS FALSE NEIGHBOUR: 'it returns false'. Refute it at one input. -/
def rollSumsWrong : ChangeSpec := { name := "rollSums", fn := fun _ => fun
  | [d1, d2] => { results := [.lit (.bool false)], args := [d1, d2] }
  | _ => none }
def RollSumsWrongFalsely : Prop := rollSumsRow.holds Try.pinned (OpenSpec.ofChange rollSumsWrong)

/- THE SECOND FORM. 'bulk': how many values and letters a reading holds, each counted each time it is reached (what is shared counts as often as it is met; a slice's spare places count too). A statement '..UptoSaid' is the law's where the arguments, and the package variables that the reading takes, are together of bulk at most 1048576: NARROWER than '..Said'. Prove '..Said' where nothing that the law and all that it calls make is longer than what came in: it says more and counts as full. Else prove '..UptoSaid'. A law counts once. -/
mutual
def uptoBulk {H : Type} : DataW H → Nat
  | .lit (.string bytes) => bytes.length + 1
  | .lit _ => 1
  | .nil => 1
  | .ptr d => uptoBulk d + 1
  | .slice elems spare => uptoBulkAll elems + uptoBulkAll spare + 1
  | .agg parts => uptoBulkAll parts + 1
  | .iface _ d => uptoBulk d + 1
  | .map entries => uptoBulkEntries entries + 1
  | .held _ => 1
def uptoBulkAll {H : Type} : List (DataW H) → Nat
  | [] => 0
  | d :: r => uptoBulk d + uptoBulkAll r
def uptoBulkEntries {H : Type} : List (Lit × DataW H) → Nat
  | [] => 0
  | x :: r => uptoBulkEntry x + uptoBulkEntries r
def uptoBulkEntry {H : Type} : Lit × DataW H → Nat
  | (.string bytes, d) => bytes.length + uptoBulk d + 1
  | (_, d) => uptoBulk d + 1
 end
def uptoSmall : (H : Type) → List (DataW H) → Bool := fun _ ds => decide (uptoBulkAll ds ≤ 1048576)
def OpenSpec.upto (s : _root_.Go.ChangeSpec) : _root_.Go.OpenSpec := { _root_.Go.OpenSpec.ofChange s with cond := some uptoSmall }

/-- 'scutagelaw11.RollChains', WHERE WHAT IT READS IS OF BULK AT MOST 1048576: true; the input reads as it did. -/
def rollChainsUptoRow : OpenClaim := { program := "ytcobenflfnmhgaa", sum := "0f12e98c8608603c9b2b5a48f109a5f866111a7f77be6c50f056e5626b7c8278", func := "scutage/scutagelaw11.RollChains", spec := "rollChains", apart := false, narrowed := true }
def RollChainsUptoSaid : Prop := rollChainsUptoRow.holds Try.pinned (OpenSpec.upto rollChainsSpec)

/-- 'scutagelaw11.RollClasses', WHERE WHAT IT READS IS OF BULK AT MOST 1048576: true; the input reads as it did. -/
def rollClassesUptoRow : OpenClaim := { program := "ytcobenflfnmhgaa", sum := "0f12e98c8608603c9b2b5a48f109a5f866111a7f77be6c50f056e5626b7c8278", func := "scutage/scutagelaw11.RollClasses", spec := "rollClasses", unfollowed := true, recurses := true, apart := false, narrowed := true }
def RollClassesUptoSaid : Prop := rollClassesUptoRow.holds Try.pinned (OpenSpec.upto rollClassesSpec)

/-- 'scutagelaw11.RollTells', WHERE WHAT IT READS IS OF BULK AT MOST 1048576: true; the input reads as it did. -/
def rollTellsUptoRow : OpenClaim := { program := "ytcobenflfnmhgaa", sum := "0f12e98c8608603c9b2b5a48f109a5f866111a7f77be6c50f056e5626b7c8278", func := "scutage/scutagelaw11.RollTells", spec := "rollTells", unfollowed := true, recurses := true, apart := false, narrowed := true }
def RollTellsUptoSaid : Prop := rollTellsUptoRow.holds Try.pinned (OpenSpec.upto rollTellsSpec)

/-- 'scutagelaw11.RollSums', WHERE WHAT IT READS IS OF BULK AT MOST 1048576: true; the input reads as it did. -/
def rollSumsUptoRow : OpenClaim := { program := "ytcobenflfnmhgaa", sum := "0f12e98c8608603c9b2b5a48f109a5f866111a7f77be6c50f056e5626b7c8278", func := "scutage/scutagelaw11.RollSums", spec := "rollSums", unfollowed := true, recurses := true, apart := false, narrowed := true }
def RollSumsUptoSaid : Prop := rollSumsUptoRow.holds Try.pinned (OpenSpec.upto rollSumsSpec)

end Rows
end Go.Proofs.Ytcobenflfnmhgaa
