/-
  No cell of these rows narrows 'for every input' (looked for: loops, veiled, ifaces, maps, wideKeys, modest, calm, conditions, laid).
  DERIVED. THE GIVEN ROWS OF THIS SEAT. 5 by the template 'for every input the law returns true; each argument reads behind the call as it read before'; 0 by the template 'total and deterministic' (their statements: YtolmdoigcaaieaaTotals.lean).
  GIVEN WITH THE SEED: the statements are not yours to turn. If you find one false, say at which input.
  Laid BY PROGRAM, IN A SANDBOX (cutbox-rows.mjs): the forced cells as the released guide's own fill.sh prints them over the translation d8d006d1fda8b103… (all of the seat's roots in one cut). By AI agents, Wed Nov 11 2026. No macro, syntax, notation, axiom, sorry.
-/
import Derived.Test.YtolmdoigcaaieaaChecked
import GoSem.Claim
import GoSem.ClaimJoined
import GoSem.ClaimMapViews
import Derived.JoinedTies
import Derived.KernelRfl
namespace Go.Proofs.Ytolmdoigcaaieaa
/- THE CELL 'sum', in the pinned program and in every row, IS THE sha256 OF THE DUMP (.gsa) THAT YtolmdoigcaaieaaProg.lean LOADS. Nothing in Lean hashes anything: it is a label: what it is worth is what the hold of that sum in a sandbox is worth. -/
noncomputable def Try.pinned : Pinned := { name := "ytolmdoigcaaieaa", sum := "d8d006d1fda8b10313807bd0e5fea2bbee458fd1a98ec026417610cb09550f30", checked := Try.checked }
namespace Rows
def none {H : Type} : Left H := { results := [], args := [] }

/-- 'scutagelaw17.RemeasureBack': WHATEVER THE INPUT: true; the input reads as it did. -/
def remeasureBackSpec : ChangeSpec := { name := "remeasureBack", fn := fun _ => fun
  | [d1, d2, d3, d4] => { results := [.lit (.bool true)], args := [d1, d2, d3, d4] }
  | _ => none }
def remeasureBackRow : OpenClaim := { program := "ytolmdoigcaaieaa", sum := "d8d006d1fda8b10313807bd0e5fea2bbee458fd1a98ec026417610cb09550f30", func := "scutage/scutagelaw17.RemeasureBack", spec := "remeasureBack", inPlace := ["math/bits.Add64"], apart := false }
def RemeasureBackSaid : Prop := remeasureBackRow.holds Try.pinned (OpenSpec.ofChange remeasureBackSpec)

/-- ITS FALSE NEIGHBOUR: 'it returns false'. Refute it at one input. -/
def remeasureBackWrong : ChangeSpec := { name := "remeasureBack", fn := fun _ => fun
  | [d1, d2, d3, d4] => { results := [.lit (.bool false)], args := [d1, d2, d3, d4] }
  | _ => none }
def RemeasureBackWrongFalsely : Prop := remeasureBackRow.holds Try.pinned (OpenSpec.ofChange remeasureBackWrong)

/-- 'scutagelaw17.RemeasureErrors': WHATEVER THE INPUT: true; the input reads as it did. -/
def remeasureErrorsSpec : ChangeSpec := { name := "remeasureErrors", fn := fun _ => fun
  | [d] => { results := [.lit (.bool true)], args := [d] }
  | _ => none }
def remeasureErrorsRow : OpenClaim := { program := "ytolmdoigcaaieaa", sum := "d8d006d1fda8b10313807bd0e5fea2bbee458fd1a98ec026417610cb09550f30", func := "scutage/scutagelaw17.RemeasureErrors", spec := "remeasureErrors", inPlace := ["math/bits.Add64"], apart := false }
def RemeasureErrorsSaid : Prop := remeasureErrorsRow.holds Try.pinned (OpenSpec.ofChange remeasureErrorsSpec)

/-- ITS FALSE NEIGHBOUR: 'it returns false'. Refute it at one input. -/
def remeasureErrorsWrong : ChangeSpec := { name := "remeasureErrors", fn := fun _ => fun
  | [d] => { results := [.lit (.bool false)], args := [d] }
  | _ => none }
def RemeasureErrorsWrongFalsely : Prop := remeasureErrorsRow.holds Try.pinned (OpenSpec.ofChange remeasureErrorsWrong)

/-- 'scutagelaw17.RemeasureTells': WHATEVER THE INPUT: true; the input reads as it did. -/
def remeasureTellsSpec : ChangeSpec := { name := "remeasureTells", fn := fun _ => fun
  | [d1, d2, d3, d4, d5, d6] => { results := [.lit (.bool true)], args := [d1, d2, d3, d4, d5, d6] }
  | _ => none }
def remeasureTellsRow : OpenClaim := { program := "ytolmdoigcaaieaa", sum := "d8d006d1fda8b10313807bd0e5fea2bbee458fd1a98ec026417610cb09550f30", func := "scutage/scutagelaw17.RemeasureTells", spec := "remeasureTells", inPlace := ["math/bits.Add64"], recurses := true, apart := false }
def RemeasureTellsSaid : Prop := remeasureTellsRow.holds Try.pinned (OpenSpec.ofChange remeasureTellsSpec)

/-- ITS FALSE NEIGHBOUR: 'it returns false'. Refute it at one input. -/
def remeasureTellsWrong : ChangeSpec := { name := "remeasureTells", fn := fun _ => fun
  | [d1, d2, d3, d4, d5, d6] => { results := [.lit (.bool false)], args := [d1, d2, d3, d4, d5, d6] }
  | _ => none }
def RemeasureTellsWrongFalsely : Prop := remeasureTellsRow.holds Try.pinned (OpenSpec.ofChange remeasureTellsWrong)

/-- 'scutagelaw17.RemeasureTotal': WHATEVER THE INPUT: true; the input reads as it did. -/
def remeasureTotalSpec : ChangeSpec := { name := "remeasureTotal", fn := fun _ => fun
  | [d1, d2, d3, d4] => { results := [.lit (.bool true)], args := [d1, d2, d3, d4] }
  | _ => none }
def remeasureTotalRow : OpenClaim := { program := "ytolmdoigcaaieaa", sum := "d8d006d1fda8b10313807bd0e5fea2bbee458fd1a98ec026417610cb09550f30", func := "scutage/scutagelaw17.RemeasureTotal", spec := "remeasureTotal", inPlace := ["math/bits.Add64"], apart := false }
def RemeasureTotalSaid : Prop := remeasureTotalRow.holds Try.pinned (OpenSpec.ofChange remeasureTotalSpec)

/-- ITS FALSE NEIGHBOUR: 'it returns false'. Refute it at one input. -/
def remeasureTotalWrong : ChangeSpec := { name := "remeasureTotal", fn := fun _ => fun
  | [d1, d2, d3, d4] => { results := [.lit (.bool false)], args := [d1, d2, d3, d4] }
  | _ => none }
def RemeasureTotalWrongFalsely : Prop := remeasureTotalRow.holds Try.pinned (OpenSpec.ofChange remeasureTotalWrong)

/-- 'scutagelaw17.RemeasureParts': WHATEVER THE INPUT: true; the input reads as it did. -/
def remeasurePartsSpec : ChangeSpec := { name := "remeasureParts", fn := fun _ => fun
  | [d1, d2, d3] => { results := [.lit (.bool true)], args := [d1, d2, d3] }
  | _ => none }
def remeasurePartsRow : OpenClaim := { program := "ytolmdoigcaaieaa", sum := "d8d006d1fda8b10313807bd0e5fea2bbee458fd1a98ec026417610cb09550f30", func := "scutage/scutagelaw17.RemeasureParts", spec := "remeasureParts", inPlace := ["math/bits.Add64"], apart := false }
def RemeasurePartsSaid : Prop := remeasurePartsRow.holds Try.pinned (OpenSpec.ofChange remeasurePartsSpec)

/-- ITS FALSE NEIGHBOUR: 'it returns false'. Refute it at one input. -/
def remeasurePartsWrong : ChangeSpec := { name := "remeasureParts", fn := fun _ => fun
  | [d1, d2, d3] => { results := [.lit (.bool false)], args := [d1, d2, d3] }
  | _ => none }
def RemeasurePartsWrongFalsely : Prop := remeasurePartsRow.holds Try.pinned (OpenSpec.ofChange remeasurePartsWrong)

/- THE SECOND FORM. 'bulk': how many values and letters a reading holds, each counted each time it is reached (what is shared counts as often as it is met; a slice's spare places count too). A statement '..UptoSaid' is the law's where the arguments, and the package variables that the reading takes, are together of bulk at most 1048576: NARROWER than '..Said'. Prove '..Said' where nothing that the law and all that it calls make is longer than what came in: it says more and counts as full. Else prove '..UptoSaid'. A law counts once. -/
mutual
def uptoBulk {H : Type} : DataW H → Nat
  | .lit (.string bytes) => bytes.length + 1
  | .lit _ => 1
  | .nil => 1
  | .ptr d => uptoBulk d + 1
  | .slice elems spare => uptoBulkAll elems + uptoBulkAll spare + 1
  | .agg parts => uptoBulkAll parts + 1
  | .iface _ d => uptoBulk d + 1
  | .map entries => uptoBulkEntries entries + 1
  | .held _ => 1
def uptoBulkAll {H : Type} : List (DataW H) → Nat
  | [] => 0
  | d :: r => uptoBulk d + uptoBulkAll r
def uptoBulkEntries {H : Type} : List (Lit × DataW H) → Nat
  | [] => 0
  | x :: r => uptoBulkEntry x + uptoBulkEntries r
def uptoBulkEntry {H : Type} : Lit × DataW H → Nat
  | (.string bytes, d) => bytes.length + uptoBulk d + 1
  | (_, d) => uptoBulk d + 1
 end
def uptoSmall : (H : Type) → List (DataW H) → Bool := fun _ ds => decide (uptoBulkAll ds ≤ 1048576)
def OpenSpec.upto (s : _root_.Go.ChangeSpec) : _root_.Go.OpenSpec := { _root_.Go.OpenSpec.ofChange s with cond := some uptoSmall }

/-- 'scutagelaw17.RemeasureBack', WHERE WHAT IT READS IS OF BULK AT MOST 1048576: true; the input reads as it did. -/
def remeasureBackUptoRow : OpenClaim := { program := "ytolmdoigcaaieaa", sum := "d8d006d1fda8b10313807bd0e5fea2bbee458fd1a98ec026417610cb09550f30", func := "scutage/scutagelaw17.RemeasureBack", spec := "remeasureBack", inPlace := ["math/bits.Add64"], apart := false, narrowed := true }
def RemeasureBackUptoSaid : Prop := remeasureBackUptoRow.holds Try.pinned (OpenSpec.upto remeasureBackSpec)

/-- 'scutagelaw17.RemeasureErrors', WHERE WHAT IT READS IS OF BULK AT MOST 1048576: true; the input reads as it did. -/
def remeasureErrorsUptoRow : OpenClaim := { program := "ytolmdoigcaaieaa", sum := "d8d006d1fda8b10313807bd0e5fea2bbee458fd1a98ec026417610cb09550f30", func := "scutage/scutagelaw17.RemeasureErrors", spec := "remeasureErrors", inPlace := ["math/bits.Add64"], apart := false, narrowed := true }
def RemeasureErrorsUptoSaid : Prop := remeasureErrorsUptoRow.holds Try.pinned (OpenSpec.upto remeasureErrorsSpec)

/-- 'scutagelaw17.RemeasureTells', WHERE WHAT IT READS IS OF BULK AT MOST 1048576: true; the input reads as it did. -/
def remeasureTellsUptoRow : OpenClaim := { program := "ytolmdoigcaaieaa", sum := "d8d006d1fda8b10313807bd0e5fea2bbee458fd1a98ec026417610cb09550f30", func := "scutage/scutagelaw17.RemeasureTells", spec := "remeasureTells", inPlace := ["math/bits.Add64"], recurses := true, apart := false, narrowed := true }
def RemeasureTellsUptoSaid : Prop := remeasureTellsUptoRow.holds Try.pinned (OpenSpec.upto remeasureTellsSpec)

/-- 'scutagelaw17.RemeasureTotal', WHERE WHAT IT READS IS OF BULK AT MOST 1048576: true; the input reads as it did. -/
def remeasureTotalUptoRow : OpenClaim := { program := "ytolmdoigcaaieaa", sum := "d8d006d1fda8b10313807bd0e5fea2bbee458fd1a98ec026417610cb09550f30", func := "scutage/scutagelaw17.RemeasureTotal", spec := "remeasureTotal", inPlace := ["math/bits.Add64"], apart := false, narrowed := true }
def RemeasureTotalUptoSaid : Prop := remeasureTotalUptoRow.holds Try.pinned (OpenSpec.upto remeasureTotalSpec)

/-- 'scutagelaw17.RemeasureParts', WHERE WHAT IT READS IS OF BULK AT MOST 1048576: true; the input reads as it did. -/
def remeasurePartsUptoRow : OpenClaim := { program := "ytolmdoigcaaieaa", sum := "d8d006d1fda8b10313807bd0e5fea2bbee458fd1a98ec026417610cb09550f30", func := "scutage/scutagelaw17.RemeasureParts", spec := "remeasureParts", inPlace := ["math/bits.Add64"], apart := false, narrowed := true }
def RemeasurePartsUptoSaid : Prop := remeasurePartsUptoRow.holds Try.pinned (OpenSpec.upto remeasurePartsSpec)

end Rows
end Go.Proofs.Ytolmdoigcaaieaa
