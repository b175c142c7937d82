/-
  No cell of these rows narrows 'for every input' (looked for: loops, veiled, ifaces, maps, wideKeys, modest, calm, conditions, laid).
  DERIVED. THE GIVEN ROWS OF THIS SEAT. 4 by the template 'for every input the law returns true; each argument reads behind the call as it read before'; 0 by the template 'total and deterministic' (their statements: YtmlafdehhbhbiaaGreatTotals.lean).
  GIVEN WITH THE SEED: the statements are not yours to turn. If you find one false, say at which input.
  Laid BY PROGRAM, IN A SANDBOX (cutbox-rows.mjs): the forced cells as the released guide's own fill.sh prints them over the translation 3e711ff701226a9c… (all of the seat's roots in one cut). By AI agents, Wed Nov 11 2026. No macro, syntax, notation, axiom, sorry.
-/
import Derived.Test.YtmlafdehhbhbiaaGreatChecked
import GoSem.Claim
import GoSem.ClaimJoined
import GoSem.ClaimMapViews
import Derived.JoinedTies
import Derived.KernelRfl
namespace Go.Proofs.YtmlafdehhbhbiaaGreat
/- THE CELL 'sum', in the pinned program and in every row, IS THE sha256 OF THE DUMP (.gsa) THAT YtmlafdehhbhbiaaGreatProg.lean LOADS. Nothing in Lean hashes anything: it is a label: what it is worth is what the hold of that sum in a sandbox is worth. -/
noncomputable def Tryz.pinned : Pinned := { name := "ytmlafdehhbhbiaagreat", sum := "3e711ff701226a9ca755b607b45bb24ebaa810376344c2c23518b22572954c0d", checked := Tryz.checked }
namespace Rows
def none {H : Type} : Left H := { results := [], args := [] }

/-- 'scutagelaw19.ClosingTurns': WHATEVER THE INPUT: true; the input reads as it did. -/
def closingTurnsSpec : ChangeSpec := { name := "closingTurns", fn := fun _ => fun
  | [d1, d2, d3] => { results := [.lit (.bool true)], args := [d1, d2, d3] }
  | _ => none }
def closingTurnsRow : OpenClaim := { program := "ytmlafdehhbhbiaagreat", sum := "3e711ff701226a9ca755b607b45bb24ebaa810376344c2c23518b22572954c0d", func := "scutage/scutagelaw19.ClosingTurns", spec := "closingTurns", inPlace := ["slices.overlaps[scutage/api.Bucket]", "math/bits.Add64", "slices.overlaps[scutage/api.Vintage]"], unfollowed := true, recurses := true, apart := false }
def ClosingTurnsSaid : Prop := closingTurnsRow.holds Tryz.pinned (OpenSpec.ofChange closingTurnsSpec)

/-- ITS FALSE NEIGHBOUR: 'it returns false'. Refute it at one input. -/
def closingTurnsWrong : ChangeSpec := { name := "closingTurns", fn := fun _ => fun
  | [d1, d2, d3] => { results := [.lit (.bool false)], args := [d1, d2, d3] }
  | _ => none }
def ClosingTurnsWrongFalsely : Prop := closingTurnsRow.holds Tryz.pinned (OpenSpec.ofChange closingTurnsWrong)

/-- 'scutagelaw19.ClosingMakes': WHATEVER THE INPUT: true; the input reads as it did. -/
def closingMakesSpec : ChangeSpec := { name := "closingMakes", fn := fun _ => fun
  | [d1, d2] => { results := [.lit (.bool true)], args := [d1, d2] }
  | _ => none }
def closingMakesRow : OpenClaim := { program := "ytmlafdehhbhbiaagreat", sum := "3e711ff701226a9ca755b607b45bb24ebaa810376344c2c23518b22572954c0d", func := "scutage/scutagelaw19.ClosingMakes", spec := "closingMakes", inPlace := ["math/bits.Add64", "slices.overlaps[scutage/api.Bucket]", "slices.overlaps[scutage/api.Vintage]"], unfollowed := true, recurses := true, apart := false }
def ClosingMakesSaid : Prop := closingMakesRow.holds Tryz.pinned (OpenSpec.ofChange closingMakesSpec)

/-- ITS FALSE NEIGHBOUR: 'it returns false'. Refute it at one input. -/
def closingMakesWrong : ChangeSpec := { name := "closingMakes", fn := fun _ => fun
  | [d1, d2] => { results := [.lit (.bool false)], args := [d1, d2] }
  | _ => none }
def ClosingMakesWrongFalsely : Prop := closingMakesRow.holds Tryz.pinned (OpenSpec.ofChange closingMakesWrong)

/-- 'scutagelaw19.ClosingTotals': WHATEVER THE INPUT: true; the input reads as it did. -/
def closingTotalsSpec : ChangeSpec := { name := "closingTotals", fn := fun _ => fun
  | [d] => { results := [.lit (.bool true)], args := [d] }
  | _ => none }
def closingTotalsRow : OpenClaim := { program := "ytmlafdehhbhbiaagreat", sum := "3e711ff701226a9ca755b607b45bb24ebaa810376344c2c23518b22572954c0d", func := "scutage/scutagelaw19.ClosingTotals", spec := "closingTotals", inPlace := ["math/bits.Add64", "slices.overlaps[scutage/api.Bucket]", "slices.overlaps[scutage/api.Vintage]"], unfollowed := true, recurses := true, apart := false }
def ClosingTotalsSaid : Prop := closingTotalsRow.holds Tryz.pinned (OpenSpec.ofChange closingTotalsSpec)

/-- ITS FALSE NEIGHBOUR: 'it returns false'. Refute it at one input. -/
def closingTotalsWrong : ChangeSpec := { name := "closingTotals", fn := fun _ => fun
  | [d] => { results := [.lit (.bool false)], args := [d] }
  | _ => none }
def ClosingTotalsWrongFalsely : Prop := closingTotalsRow.holds Tryz.pinned (OpenSpec.ofChange closingTotalsWrong)

/-- 'scutagelaw19.ClosingStays': WHATEVER THE INPUT: true; the input reads as it did. -/
def closingStaysSpec : ChangeSpec := { name := "closingStays", fn := fun _ => fun
  | [d1, d2] => { results := [.lit (.bool true)], args := [d1, d2] }
  | _ => none }
def closingStaysRow : OpenClaim := { program := "ytmlafdehhbhbiaagreat", sum := "3e711ff701226a9ca755b607b45bb24ebaa810376344c2c23518b22572954c0d", func := "scutage/scutagelaw19.ClosingStays", spec := "closingStays", inPlace := ["math/bits.Add64", "slices.overlaps[scutage/api.Vintage]", "slices.overlaps[scutage/api.Bucket]"], unfollowed := true, recurses := true, apart := false }
def ClosingStaysSaid : Prop := closingStaysRow.holds Tryz.pinned (OpenSpec.ofChange closingStaysSpec)

/-- ITS FALSE NEIGHBOUR: 'it returns false'. Refute it at one input. -/
def closingStaysWrong : ChangeSpec := { name := "closingStays", fn := fun _ => fun
  | [d1, d2] => { results := [.lit (.bool false)], args := [d1, d2] }
  | _ => none }
def ClosingStaysWrongFalsely : Prop := closingStaysRow.holds Tryz.pinned (OpenSpec.ofChange closingStaysWrong)

/- THE SECOND FORM. 'bulk': how many values and letters a reading holds, each counted each time it is reached (what is shared counts as often as it is met; a slice's spare places count too). A statement '..UptoSaid' is the law's where the arguments, and the package variables that the reading takes, are together of bulk at most 1048576: NARROWER than '..Said'. Prove '..Said' where nothing that the law and all that it calls make is longer than what came in: it says more and counts as full. Else prove '..UptoSaid'. A law counts once. -/
mutual
def uptoBulk {H : Type} : DataW H → Nat
  | .lit (.string bytes) => bytes.length + 1
  | .lit _ => 1
  | .nil => 1
  | .ptr d => uptoBulk d + 1
  | .slice elems spare => uptoBulkAll elems + uptoBulkAll spare + 1
  | .agg parts => uptoBulkAll parts + 1
  | .iface _ d => uptoBulk d + 1
  | .map entries => uptoBulkEntries entries + 1
  | .held _ => 1
def uptoBulkAll {H : Type} : List (DataW H) → Nat
  | [] => 0
  | d :: r => uptoBulk d + uptoBulkAll r
def uptoBulkEntries {H : Type} : List (Lit × DataW H) → Nat
  | [] => 0
  | x :: r => uptoBulkEntry x + uptoBulkEntries r
def uptoBulkEntry {H : Type} : Lit × DataW H → Nat
  | (.string bytes, d) => bytes.length + uptoBulk d + 1
  | (_, d) => uptoBulk d + 1
 end
def uptoSmall : (H : Type) → List (DataW H) → Bool := fun _ ds => decide (uptoBulkAll ds ≤ 1048576)
def OpenSpec.upto (s : _root_.Go.ChangeSpec) : _root_.Go.OpenSpec := { _root_.Go.OpenSpec.ofChange s with cond := some uptoSmall }

/-- 'scutagelaw19.ClosingTurns', WHERE WHAT IT READS IS OF BULK AT MOST 1048576: true; the input reads as it did. -/
def closingTurnsUptoRow : OpenClaim := { program := "ytmlafdehhbhbiaagreat", sum := "3e711ff701226a9ca755b607b45bb24ebaa810376344c2c23518b22572954c0d", func := "scutage/scutagelaw19.ClosingTurns", spec := "closingTurns", inPlace := ["slices.overlaps[scutage/api.Bucket]", "math/bits.Add64", "slices.overlaps[scutage/api.Vintage]"], unfollowed := true, recurses := true, apart := false, narrowed := true }
def ClosingTurnsUptoSaid : Prop := closingTurnsUptoRow.holds Tryz.pinned (OpenSpec.upto closingTurnsSpec)

/-- 'scutagelaw19.ClosingMakes', WHERE WHAT IT READS IS OF BULK AT MOST 1048576: true; the input reads as it did. -/
def closingMakesUptoRow : OpenClaim := { program := "ytmlafdehhbhbiaagreat", sum := "3e711ff701226a9ca755b607b45bb24ebaa810376344c2c23518b22572954c0d", func := "scutage/scutagelaw19.ClosingMakes", spec := "closingMakes", inPlace := ["math/bits.Add64", "slices.overlaps[scutage/api.Bucket]", "slices.overlaps[scutage/api.Vintage]"], unfollowed := true, recurses := true, apart := false, narrowed := true }
def ClosingMakesUptoSaid : Prop := closingMakesUptoRow.holds Tryz.pinned (OpenSpec.upto closingMakesSpec)

/-- 'scutagelaw19.ClosingTotals', WHERE WHAT IT READS IS OF BULK AT MOST 1048576: true; the input reads as it did. -/
def closingTotalsUptoRow : OpenClaim := { program := "ytmlafdehhbhbiaagreat", sum := "3e711ff701226a9ca755b607b45bb24ebaa810376344c2c23518b22572954c0d", func := "scutage/scutagelaw19.ClosingTotals", spec := "closingTotals", inPlace := ["math/bits.Add64", "slices.overlaps[scutage/api.Bucket]", "slices.overlaps[scutage/api.Vintage]"], unfollowed := true, recurses := true, apart := false, narrowed := true }
def ClosingTotalsUptoSaid : Prop := closingTotalsUptoRow.holds Tryz.pinned (OpenSpec.upto closingTotalsSpec)

/-- 'scutagelaw19.ClosingStays', WHERE WHAT IT READS IS OF BULK AT MOST 1048576: true; the input reads as it did. -/
def closingStaysUptoRow : OpenClaim := { program := "ytmlafdehhbhbiaagreat", sum := "3e711ff701226a9ca755b607b45bb24ebaa810376344c2c23518b22572954c0d", func := "scutage/scutagelaw19.ClosingStays", spec := "closingStays", inPlace := ["math/bits.Add64", "slices.overlaps[scutage/api.Vintage]", "slices.overlaps[scutage/api.Bucket]"], unfollowed := true, recurses := true, apart := false, narrowed := true }
def ClosingStaysUptoSaid : Prop := closingStaysUptoRow.holds Tryz.pinned (OpenSpec.upto closingStaysSpec)

end Rows
end Go.Proofs.YtmlafdehhbhbiaaGreat
