/-
  No cell of these rows narrows 'for every input' (looked for: loops, veiled, ifaces, maps, wideKeys, modest, calm, conditions, laid).
  DERIVED. THE GIVEN ROWS OF THIS SEAT. 5 by the template 'for every input the law returns true; each argument reads behind the call as it read before'; 0 by the template 'total and deterministic' (their statements: YtnhnimchjbhnfaaTotals.lean).
  GIVEN WITH THE SEED: the statements are not yours to turn. If you find one false, say at which input.
  Laid BY PROGRAM, IN A SANDBOX (cutbox-rows.mjs): the forced cells as the released guide's own fill.sh prints them over the translation b35be74335d7dbcf… (all of the seat's roots in one cut). By AI agents, Wed Nov 11 2026. No macro, syntax, notation, axiom, sorry.
-/
import Derived.Test.YtnhnimchjbhnfaaChecked
import GoSem.Claim
import GoSem.ClaimJoined
import GoSem.ClaimMapViews
import Derived.JoinedTies
import Derived.KernelRfl
namespace Go.Proofs.Ytnhnimchjbhnfaa
/- THE CELL 'sum', in the pinned program and in every row, IS THE sha256 OF THE DUMP (.gsa) THAT YtnhnimchjbhnfaaProg.lean LOADS. Nothing in Lean hashes anything: it is a label: what it is worth is what the hold of that sum in a sandbox is worth. -/
noncomputable def Try.pinned : Pinned := { name := "ytnhnimchjbhnfaa", sum := "b35be74335d7dbcf100070959005d8430432d2def281fc3b572eb4c4b7d9a0bd", checked := Try.checked }
namespace Rows
def none {H : Type} : Left H := { results := [], args := [] }

/-- 'scutagelaw16.MeasureErrors': WHATEVER THE INPUT: true; the input reads as it did. -/
def measureErrorsSpec : ChangeSpec := { name := "measureErrors", fn := fun _ => fun
  | [d] => { results := [.lit (.bool true)], args := [d] }
  | _ => none }
def measureErrorsRow : OpenClaim := { program := "ytnhnimchjbhnfaa", sum := "b35be74335d7dbcf100070959005d8430432d2def281fc3b572eb4c4b7d9a0bd", func := "scutage/scutagelaw16.MeasureErrors", spec := "measureErrors", inPlace := ["math/bits.Add64"], unfollowed := true, recurses := true, apart := false }
def MeasureErrorsSaid : Prop := measureErrorsRow.holds Try.pinned (OpenSpec.ofChange measureErrorsSpec)

/-- ITS FALSE NEIGHBOUR: 'it returns false'. Refute it at one input. -/
def measureErrorsWrong : ChangeSpec := { name := "measureErrors", fn := fun _ => fun
  | [d] => { results := [.lit (.bool false)], args := [d] }
  | _ => none }
def MeasureErrorsWrongFalsely : Prop := measureErrorsRow.holds Try.pinned (OpenSpec.ofChange measureErrorsWrong)

/-- 'scutagelaw16.MeasureTells': WHATEVER THE INPUT: true; the input reads as it did. -/
def measureTellsSpec : ChangeSpec := { name := "measureTells", fn := fun _ => fun
  | [d1, d2, d3, d4, d5, d6, d7] => { results := [.lit (.bool true)], args := [d1, d2, d3, d4, d5, d6, d7] }
  | _ => none }
def measureTellsRow : OpenClaim := { program := "ytnhnimchjbhnfaa", sum := "b35be74335d7dbcf100070959005d8430432d2def281fc3b572eb4c4b7d9a0bd", func := "scutage/scutagelaw16.MeasureTells", spec := "measureTells", inPlace := ["math/bits.Add64"], unfollowed := true, recurses := true, apart := false }
def MeasureTellsSaid : Prop := measureTellsRow.holds Try.pinned (OpenSpec.ofChange measureTellsSpec)

/-- ITS FALSE NEIGHBOUR: 'it returns false'. Refute it at one input. -/
def measureTellsWrong : ChangeSpec := { name := "measureTells", fn := fun _ => fun
  | [d1, d2, d3, d4, d5, d6, d7] => { results := [.lit (.bool false)], args := [d1, d2, d3, d4, d5, d6, d7] }
  | _ => none }
def MeasureTellsWrongFalsely : Prop := measureTellsRow.holds Try.pinned (OpenSpec.ofChange measureTellsWrong)

/-- 'scutagelaw16.MeasureSums': WHATEVER THE INPUT: true; the input reads as it did. -/
def measureSumsSpec : ChangeSpec := { name := "measureSums", fn := fun _ => fun
  | [d1, d2] => { results := [.lit (.bool true)], args := [d1, d2] }
  | _ => none }
def measureSumsRow : OpenClaim := { program := "ytnhnimchjbhnfaa", sum := "b35be74335d7dbcf100070959005d8430432d2def281fc3b572eb4c4b7d9a0bd", func := "scutage/scutagelaw16.MeasureSums", spec := "measureSums", inPlace := ["math/bits.Add64"], apart := false }
def MeasureSumsSaid : Prop := measureSumsRow.holds Try.pinned (OpenSpec.ofChange measureSumsSpec)

/-- ITS FALSE NEIGHBOUR: 'it returns false'. Refute it at one input. -/
def measureSumsWrong : ChangeSpec := { name := "measureSums", fn := fun _ => fun
  | [d1, d2] => { results := [.lit (.bool false)], args := [d1, d2] }
  | _ => none }
def MeasureSumsWrongFalsely : Prop := measureSumsRow.holds Try.pinned (OpenSpec.ofChange measureSumsWrong)

/-- 'scutagelaw16.MeasureKnown': WHATEVER THE INPUT: true; the input reads as it did. -/
def measureKnownSpec : ChangeSpec := { name := "measureKnown", fn := fun _ => fun
  | [d1, d2, d3] => { results := [.lit (.bool true)], args := [d1, d2, d3] }
  | _ => none }
def measureKnownRow : OpenClaim := { program := "ytnhnimchjbhnfaa", sum := "b35be74335d7dbcf100070959005d8430432d2def281fc3b572eb4c4b7d9a0bd", func := "scutage/scutagelaw16.MeasureKnown", spec := "measureKnown", inPlace := ["math/bits.Add64"], unfollowed := true, recurses := true, apart := false }
def MeasureKnownSaid : Prop := measureKnownRow.holds Try.pinned (OpenSpec.ofChange measureKnownSpec)

/-- ITS FALSE NEIGHBOUR: 'it returns false'. Refute it at one input. -/
def measureKnownWrong : ChangeSpec := { name := "measureKnown", fn := fun _ => fun
  | [d1, d2, d3] => { results := [.lit (.bool false)], args := [d1, d2, d3] }
  | _ => none }
def MeasureKnownWrongFalsely : Prop := measureKnownRow.holds Try.pinned (OpenSpec.ofChange measureKnownWrong)

/-- 'scutagelaw16.MeasureNear': WHATEVER THE INPUT: true; the input reads as it did. -/
def measureNearSpec : ChangeSpec := { name := "measureNear", fn := fun _ => fun
  | [d1, d2] => { results := [.lit (.bool true)], args := [d1, d2] }
  | _ => none }
def measureNearRow : OpenClaim := { program := "ytnhnimchjbhnfaa", sum := "b35be74335d7dbcf100070959005d8430432d2def281fc3b572eb4c4b7d9a0bd", func := "scutage/scutagelaw16.MeasureNear", spec := "measureNear", inPlace := ["math/bits.Add64"], apart := false }
def MeasureNearSaid : Prop := measureNearRow.holds Try.pinned (OpenSpec.ofChange measureNearSpec)

/-- ITS FALSE NEIGHBOUR: 'it returns false'. Refute it at one input. -/
def measureNearWrong : ChangeSpec := { name := "measureNear", fn := fun _ => fun
  | [d1, d2] => { results := [.lit (.bool false)], args := [d1, d2] }
  | _ => none }
def MeasureNearWrongFalsely : Prop := measureNearRow.holds Try.pinned (OpenSpec.ofChange measureNearWrong)

/- THE SECOND FORM. 'bulk': how many values and letters a reading holds, each counted each time it is reached (what is shared counts as often as it is met; a slice's spare places count too). A statement '..UptoSaid' is the law's where the arguments, and the package variables that the reading takes, are together of bulk at most 1048576: NARROWER than '..Said'. Prove '..Said' where nothing that the law and all that it calls make is longer than what came in: it says more and counts as full. Else prove '..UptoSaid'. A law counts once. -/
mutual
def uptoBulk {H : Type} : DataW H → Nat
  | .lit (.string bytes) => bytes.length + 1
  | .lit _ => 1
  | .nil => 1
  | .ptr d => uptoBulk d + 1
  | .slice elems spare => uptoBulkAll elems + uptoBulkAll spare + 1
  | .agg parts => uptoBulkAll parts + 1
  | .iface _ d => uptoBulk d + 1
  | .map entries => uptoBulkEntries entries + 1
  | .held _ => 1
def uptoBulkAll {H : Type} : List (DataW H) → Nat
  | [] => 0
  | d :: r => uptoBulk d + uptoBulkAll r
def uptoBulkEntries {H : Type} : List (Lit × DataW H) → Nat
  | [] => 0
  | x :: r => uptoBulkEntry x + uptoBulkEntries r
def uptoBulkEntry {H : Type} : Lit × DataW H → Nat
  | (.string bytes, d) => bytes.length + uptoBulk d + 1
  | (_, d) => uptoBulk d + 1
 end
def uptoSmall : (H : Type) → List (DataW H) → Bool := fun _ ds => decide (uptoBulkAll ds ≤ 1048576)
def OpenSpec.upto (s : _root_.Go.ChangeSpec) : _root_.Go.OpenSpec := { _root_.Go.OpenSpec.ofChange s with cond := some uptoSmall }

/-- 'scutagelaw16.MeasureErrors', WHERE WHAT IT READS IS OF BULK AT MOST 1048576: true; the input reads as it did. -/
def measureErrorsUptoRow : OpenClaim := { program := "ytnhnimchjbhnfaa", sum := "b35be74335d7dbcf100070959005d8430432d2def281fc3b572eb4c4b7d9a0bd", func := "scutage/scutagelaw16.MeasureErrors", spec := "measureErrors", inPlace := ["math/bits.Add64"], unfollowed := true, recurses := true, apart := false, narrowed := true }
def MeasureErrorsUptoSaid : Prop := measureErrorsUptoRow.holds Try.pinned (OpenSpec.upto measureErrorsSpec)

/-- 'scutagelaw16.MeasureTells', WHERE WHAT IT READS IS OF BULK AT MOST 1048576: true; the input reads as it did. -/
def measureTellsUptoRow : OpenClaim := { program := "ytnhnimchjbhnfaa", sum := "b35be74335d7dbcf100070959005d8430432d2def281fc3b572eb4c4b7d9a0bd", func := "scutage/scutagelaw16.MeasureTells", spec := "measureTells", inPlace := ["math/bits.Add64"], unfollowed := true, recurses := true, apart := false, narrowed := true }
def MeasureTellsUptoSaid : Prop := measureTellsUptoRow.holds Try.pinned (OpenSpec.upto measureTellsSpec)

/-- 'scutagelaw16.MeasureSums', WHERE WHAT IT READS IS OF BULK AT MOST 1048576: true; the input reads as it did. -/
def measureSumsUptoRow : OpenClaim := { program := "ytnhnimchjbhnfaa", sum := "b35be74335d7dbcf100070959005d8430432d2def281fc3b572eb4c4b7d9a0bd", func := "scutage/scutagelaw16.MeasureSums", spec := "measureSums", inPlace := ["math/bits.Add64"], apart := false, narrowed := true }
def MeasureSumsUptoSaid : Prop := measureSumsUptoRow.holds Try.pinned (OpenSpec.upto measureSumsSpec)

/-- 'scutagelaw16.MeasureKnown', WHERE WHAT IT READS IS OF BULK AT MOST 1048576: true; the input reads as it did. -/
def measureKnownUptoRow : OpenClaim := { program := "ytnhnimchjbhnfaa", sum := "b35be74335d7dbcf100070959005d8430432d2def281fc3b572eb4c4b7d9a0bd", func := "scutage/scutagelaw16.MeasureKnown", spec := "measureKnown", inPlace := ["math/bits.Add64"], unfollowed := true, recurses := true, apart := false, narrowed := true }
def MeasureKnownUptoSaid : Prop := measureKnownUptoRow.holds Try.pinned (OpenSpec.upto measureKnownSpec)

/-- 'scutagelaw16.MeasureNear', WHERE WHAT IT READS IS OF BULK AT MOST 1048576: true; the input reads as it did. -/
def measureNearUptoRow : OpenClaim := { program := "ytnhnimchjbhnfaa", sum := "b35be74335d7dbcf100070959005d8430432d2def281fc3b572eb4c4b7d9a0bd", func := "scutage/scutagelaw16.MeasureNear", spec := "measureNear", inPlace := ["math/bits.Add64"], apart := false, narrowed := true }
def MeasureNearUptoSaid : Prop := measureNearUptoRow.holds Try.pinned (OpenSpec.upto measureNearSpec)

end Rows
end Go.Proofs.Ytnhnimchjbhnfaa
