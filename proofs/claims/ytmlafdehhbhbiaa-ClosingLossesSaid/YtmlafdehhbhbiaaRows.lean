/-
  No cell of these rows narrows 'for every input' (looked for: loops, veiled, ifaces, maps, wideKeys, modest, calm, conditions, laid).
  DERIVED. THE GIVEN ROWS OF THIS SEAT. 2 by the template 'for every input the law returns true; each argument reads behind the call as it read before'; 0 by the template 'total and deterministic' (their statements: YtmlafdehhbhbiaaTotals.lean).
  GIVEN WITH THE SEED: the statements are not yours to turn. If you find one false, say at which input.
  Laid BY PROGRAM, IN A SANDBOX (cutbox-rows.mjs): the forced cells as the released guide's own fill.sh prints them over the translation ce1a60bc07b97618… (all of the seat's roots in one cut). By AI agents, Wed Nov 11 2026. No macro, syntax, notation, axiom, sorry.
-/
import Derived.Test.YtmlafdehhbhbiaaChecked
import GoSem.Claim
import GoSem.ClaimJoined
import GoSem.ClaimMapViews
import Derived.JoinedTies
import Derived.KernelRfl
namespace Go.Proofs.Ytmlafdehhbhbiaa
/- THE CELL 'sum', in the pinned program and in every row, IS THE sha256 OF THE DUMP (.gsa) THAT YtmlafdehhbhbiaaProg.lean LOADS. Nothing in Lean hashes anything: it is a label: what it is worth is what the hold of that sum in a sandbox is worth. -/
noncomputable def Try.pinned : Pinned := { name := "ytmlafdehhbhbiaa", sum := "ce1a60bc07b9761881693966282a81cb3bbc094caf0eb506429209649f0edf2d", checked := Try.checked }
namespace Rows
def none {H : Type} : Left H := { results := [], args := [] }

/-- 'scutagelaw19.ClosingErrors': WHATEVER THE INPUT: true; the input reads as it did. -/
def closingErrorsSpec : ChangeSpec := { name := "closingErrors", fn := fun _ => fun
  | [d] => { results := [.lit (.bool true)], args := [d] }
  | _ => none }
def closingErrorsRow : OpenClaim := { program := "ytmlafdehhbhbiaa", sum := "ce1a60bc07b9761881693966282a81cb3bbc094caf0eb506429209649f0edf2d", func := "scutage/scutagelaw19.ClosingErrors", spec := "closingErrors", inPlace := ["math/bits.Add64", "slices.overlaps[scutage/api.Vintage]"], unfollowed := true, recurses := true, apart := false }
def ClosingErrorsSaid : Prop := closingErrorsRow.holds Try.pinned (OpenSpec.ofChange closingErrorsSpec)

/-- ITS FALSE NEIGHBOUR: 'it returns false'. Refute it at one input. -/
def closingErrorsWrong : ChangeSpec := { name := "closingErrors", fn := fun _ => fun
  | [d] => { results := [.lit (.bool false)], args := [d] }
  | _ => none }
def ClosingErrorsWrongFalsely : Prop := closingErrorsRow.holds Try.pinned (OpenSpec.ofChange closingErrorsWrong)

/-- 'scutagelaw19.ClosingLosses': WHATEVER THE INPUT: true; the input reads as it did. -/
def closingLossesSpec : ChangeSpec := { name := "closingLosses", fn := fun _ => fun
  | [d1, d2, d3] => { results := [.lit (.bool true)], args := [d1, d2, d3] }
  | _ => none }
def closingLossesRow : OpenClaim := { program := "ytmlafdehhbhbiaa", sum := "ce1a60bc07b9761881693966282a81cb3bbc094caf0eb506429209649f0edf2d", func := "scutage/scutagelaw19.ClosingLosses", spec := "closingLosses", inPlace := ["math/bits.Add64", "slices.overlaps[scutage/api.Vintage]"], unfollowed := true, recurses := true, apart := false }
def ClosingLossesSaid : Prop := closingLossesRow.holds Try.pinned (OpenSpec.ofChange closingLossesSpec)

/-- ITS FALSE NEIGHBOUR: 'it returns false'. Refute it at one input. -/
def closingLossesWrong : ChangeSpec := { name := "closingLosses", fn := fun _ => fun
  | [d1, d2, d3] => { results := [.lit (.bool false)], args := [d1, d2, d3] }
  | _ => none }
def ClosingLossesWrongFalsely : Prop := closingLossesRow.holds Try.pinned (OpenSpec.ofChange closingLossesWrong)

/- THE SECOND FORM. 'bulk': how many values and letters a reading holds, each counted each time it is reached (what is shared counts as often as it is met; a slice's spare places count too). A statement '..UptoSaid' is the law's where the arguments, and the package variables that the reading takes, are together of bulk at most 1048576: NARROWER than '..Said'. Prove '..Said' where nothing that the law and all that it calls make is longer than what came in: it says more and counts as full. Else prove '..UptoSaid'. A law counts once. -/
mutual
def uptoBulk {H : Type} : DataW H → Nat
  | .lit (.string bytes) => bytes.length + 1
  | .lit _ => 1
  | .nil => 1
  | .ptr d => uptoBulk d + 1
  | .slice elems spare => uptoBulkAll elems + uptoBulkAll spare + 1
  | .agg parts => uptoBulkAll parts + 1
  | .iface _ d => uptoBulk d + 1
  | .map entries => uptoBulkEntries entries + 1
  | .held _ => 1
def uptoBulkAll {H : Type} : List (DataW H) → Nat
  | [] => 0
  | d :: r => uptoBulk d + uptoBulkAll r
def uptoBulkEntries {H : Type} : List (Lit × DataW H) → Nat
  | [] => 0
  | x :: r => uptoBulkEntry x + uptoBulkEntries r
def uptoBulkEntry {H : Type} : Lit × DataW H → Nat
  | (.string bytes, d) => bytes.length + uptoBulk d + 1
  | (_, d) => uptoBulk d + 1
 end
def uptoSmall : (H : Type) → List (DataW H) → Bool := fun _ ds => decide (uptoBulkAll ds ≤ 1048576)
def OpenSpec.upto (s : _root_.Go.ChangeSpec) : _root_.Go.OpenSpec := { _root_.Go.OpenSpec.ofChange s with cond := some uptoSmall }

/-- 'scutagelaw19.ClosingErrors', WHERE WHAT IT READS IS OF BULK AT MOST 1048576: true; the input reads as it did. -/
def closingErrorsUptoRow : OpenClaim := { program := "ytmlafdehhbhbiaa", sum := "ce1a60bc07b9761881693966282a81cb3bbc094caf0eb506429209649f0edf2d", func := "scutage/scutagelaw19.ClosingErrors", spec := "closingErrors", inPlace := ["math/bits.Add64", "slices.overlaps[scutage/api.Vintage]"], unfollowed := true, recurses := true, apart := false, narrowed := true }
def ClosingErrorsUptoSaid : Prop := closingErrorsUptoRow.holds Try.pinned (OpenSpec.upto closingErrorsSpec)

/-- 'scutagelaw19.ClosingLosses', WHERE WHAT IT READS IS OF BULK AT MOST 1048576: true; the input reads as it did. -/
def closingLossesUptoRow : OpenClaim := { program := "ytmlafdehhbhbiaa", sum := "ce1a60bc07b9761881693966282a81cb3bbc094caf0eb506429209649f0edf2d", func := "scutage/scutagelaw19.ClosingLosses", spec := "closingLosses", inPlace := ["math/bits.Add64", "slices.overlaps[scutage/api.Vintage]"], unfollowed := true, recurses := true, apart := false, narrowed := true }
def ClosingLossesUptoSaid : Prop := closingLossesUptoRow.holds Try.pinned (OpenSpec.upto closingLossesSpec)

end Rows
end Go.Proofs.Ytmlafdehhbhbiaa
