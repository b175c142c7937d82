/-
  No cell of these rows narrows 'for every input' (looked for: loops, veiled, ifaces, maps, wideKeys, modest, calm, conditions, laid).
  DERIVED. THE GIVEN ROWS OF THIS SEAT. 5 by the template 'for every input the law returns true; each argument reads behind the call as it read before'; 0 by the template 'total and deterministic' (their statements: YtdjepibgpgeifaaTotals.lean).
  GIVEN WITH THE SEED: the statements are not yours to turn. If you find one false, say at which input.
  Laid BY PROGRAM, IN A SANDBOX (cutbox-rows.mjs): the forced cells as the released guide's own fill.sh prints them over the translation cb1b1371cd86ed35… (all of the seat's roots in one cut). By AI agents, Wed Nov 11 2026. No macro, syntax, notation, axiom, sorry.
-/
import Derived.Test.YtdjepibgpgeifaaChecked
import GoSem.Claim
import GoSem.ClaimJoined
import GoSem.ClaimMapViews
import Derived.JoinedTies
import Derived.KernelRfl
namespace Go.Proofs.Ytdjepibgpgeifaa
/- THE CELL 'sum', in the pinned program and in every row, IS THE sha256 OF THE DUMP (.gsa) THAT YtdjepibgpgeifaaProg.lean LOADS. Nothing in Lean hashes anything: it is a label: what it is worth is what the hold of that sum in a sandbox is worth. -/
noncomputable def Try.pinned : Pinned := { name := "ytdjepibgpgeifaa", sum := "cb1b1371cd86ed35a26bc2971784bb5a5af77b9eaf49be88f2a13648143aefb7", checked := Try.checked }
namespace Rows
def none {H : Type} : Left H := { results := [], args := [] }

/-- 'scutagelaw13.VintageErrors': WHATEVER THE INPUT: true; the input reads as it did. -/
def vintageErrorsSpec : ChangeSpec := { name := "vintageErrors", fn := fun _ => fun
  | [d] => { results := [.lit (.bool true)], args := [d] }
  | _ => none }
def vintageErrorsRow : OpenClaim := { program := "ytdjepibgpgeifaa", sum := "cb1b1371cd86ed35a26bc2971784bb5a5af77b9eaf49be88f2a13648143aefb7", func := "scutage/scutagelaw13.VintageErrors", spec := "vintageErrors", inPlace := ["math/bits.Add64", "slices.overlaps[scutage/api.Vintage]"], unfollowed := true, recurses := true, apart := false }
def VintageErrorsSaid : Prop := vintageErrorsRow.holds Try.pinned (OpenSpec.ofChange vintageErrorsSpec)

/-- ITS FALSE NEIGHBOUR: 'it returns false'. Refute it at one input. -/
def vintageErrorsWrong : ChangeSpec := { name := "vintageErrors", fn := fun _ => fun
  | [d] => { results := [.lit (.bool false)], args := [d] }
  | _ => none }
def VintageErrorsWrongFalsely : Prop := vintageErrorsRow.holds Try.pinned (OpenSpec.ofChange vintageErrorsWrong)

/-- 'scutagelaw13.VintageYears': WHATEVER THE INPUT: true; the input reads as it did. -/
def vintageYearsSpec : ChangeSpec := { name := "vintageYears", fn := fun _ => fun
  | [d1, d2] => { results := [.lit (.bool true)], args := [d1, d2] }
  | _ => none }
def vintageYearsRow : OpenClaim := { program := "ytdjepibgpgeifaa", sum := "cb1b1371cd86ed35a26bc2971784bb5a5af77b9eaf49be88f2a13648143aefb7", func := "scutage/scutagelaw13.VintageYears", spec := "vintageYears", inPlace := ["math/bits.Add64", "slices.overlaps[scutage/api.Vintage]"], unfollowed := true, recurses := true, apart := false }
def VintageYearsSaid : Prop := vintageYearsRow.holds Try.pinned (OpenSpec.ofChange vintageYearsSpec)

/-- ITS FALSE NEIGHBOUR: 'it returns false'. Refute it at one input. -/
def vintageYearsWrong : ChangeSpec := { name := "vintageYears", fn := fun _ => fun
  | [d1, d2] => { results := [.lit (.bool false)], args := [d1, d2] }
  | _ => none }
def VintageYearsWrongFalsely : Prop := vintageYearsRow.holds Try.pinned (OpenSpec.ofChange vintageYearsWrong)

/-- 'scutagelaw13.VintagePlays': WHATEVER THE INPUT: true; the input reads as it did. -/
def vintagePlaysSpec : ChangeSpec := { name := "vintagePlays", fn := fun _ => fun
  | [d] => { results := [.lit (.bool true)], args := [d] }
  | _ => none }
def vintagePlaysRow : OpenClaim := { program := "ytdjepibgpgeifaa", sum := "cb1b1371cd86ed35a26bc2971784bb5a5af77b9eaf49be88f2a13648143aefb7", func := "scutage/scutagelaw13.VintagePlays", spec := "vintagePlays", inPlace := ["math/bits.Add64", "slices.overlaps[scutage/api.Vintage]"], unfollowed := true, recurses := true, apart := false }
def VintagePlaysSaid : Prop := vintagePlaysRow.holds Try.pinned (OpenSpec.ofChange vintagePlaysSpec)

/-- ITS FALSE NEIGHBOUR: 'it returns false'. Refute it at one input. -/
def vintagePlaysWrong : ChangeSpec := { name := "vintagePlays", fn := fun _ => fun
  | [d] => { results := [.lit (.bool false)], args := [d] }
  | _ => none }
def VintagePlaysWrongFalsely : Prop := vintagePlaysRow.holds Try.pinned (OpenSpec.ofChange vintagePlaysWrong)

/-- 'scutagelaw13.VintageKept': WHATEVER THE INPUT: true; the input reads as it did. -/
def vintageKeptSpec : ChangeSpec := { name := "vintageKept", fn := fun _ => fun
  | [d] => { results := [.lit (.bool true)], args := [d] }
  | _ => none }
def vintageKeptRow : OpenClaim := { program := "ytdjepibgpgeifaa", sum := "cb1b1371cd86ed35a26bc2971784bb5a5af77b9eaf49be88f2a13648143aefb7", func := "scutage/scutagelaw13.VintageKept", spec := "vintageKept", inPlace := ["math/bits.Add64", "slices.overlaps[scutage/api.Vintage]"], unfollowed := true, recurses := true, apart := false }
def VintageKeptSaid : Prop := vintageKeptRow.holds Try.pinned (OpenSpec.ofChange vintageKeptSpec)

/-- ITS FALSE NEIGHBOUR: 'it returns false'. Refute it at one input. -/
def vintageKeptWrong : ChangeSpec := { name := "vintageKept", fn := fun _ => fun
  | [d] => { results := [.lit (.bool false)], args := [d] }
  | _ => none }
def VintageKeptWrongFalsely : Prop := vintageKeptRow.holds Try.pinned (OpenSpec.ofChange vintageKeptWrong)

/-- 'scutagelaw13.VintageOrder': WHATEVER THE INPUT: true; the input reads as it did. -/
def vintageOrderSpec : ChangeSpec := { name := "vintageOrder", fn := fun _ => fun
  | [d] => { results := [.lit (.bool true)], args := [d] }
  | _ => none }
def vintageOrderRow : OpenClaim := { program := "ytdjepibgpgeifaa", sum := "cb1b1371cd86ed35a26bc2971784bb5a5af77b9eaf49be88f2a13648143aefb7", func := "scutage/scutagelaw13.VintageOrder", spec := "vintageOrder", inPlace := ["math/bits.Add64", "slices.overlaps[scutage/api.Vintage]"], unfollowed := true, recurses := true, apart := false }
def VintageOrderSaid : Prop := vintageOrderRow.holds Try.pinned (OpenSpec.ofChange vintageOrderSpec)

/-- ITS FALSE NEIGHBOUR: 'it returns false'. Refute it at one input. -/
def vintageOrderWrong : ChangeSpec := { name := "vintageOrder", fn := fun _ => fun
  | [d] => { results := [.lit (.bool false)], args := [d] }
  | _ => none }
def VintageOrderWrongFalsely : Prop := vintageOrderRow.holds Try.pinned (OpenSpec.ofChange vintageOrderWrong)

/- THE SECOND FORM. 'bulk': how many values and letters a reading holds, each counted each time it is reached (what is shared counts as often as it is met; a slice's spare places count too). A statement '..UptoSaid' is the law's where the arguments, and the package variables that the reading takes, are together of bulk at most 1048576: NARROWER than '..Said'. Prove '..Said' where nothing that the law and all that it calls make is longer than what came in: it says more and counts as full. Else prove '..UptoSaid'. A law counts once. -/
mutual
def uptoBulk {H : Type} : DataW H → Nat
  | .lit (.string bytes) => bytes.length + 1
  | .lit _ => 1
  | .nil => 1
  | .ptr d => uptoBulk d + 1
  | .slice elems spare => uptoBulkAll elems + uptoBulkAll spare + 1
  | .agg parts => uptoBulkAll parts + 1
  | .iface _ d => uptoBulk d + 1
  | .map entries => uptoBulkEntries entries + 1
  | .held _ => 1
def uptoBulkAll {H : Type} : List (DataW H) → Nat
  | [] => 0
  | d :: r => uptoBulk d + uptoBulkAll r
def uptoBulkEntries {H : Type} : List (Lit × DataW H) → Nat
  | [] => 0
  | x :: r => uptoBulkEntry x + uptoBulkEntries r
def uptoBulkEntry {H : Type} : Lit × DataW H → Nat
  | (.string bytes, d) => bytes.length + uptoBulk d + 1
  | (_, d) => uptoBulk d + 1
 end
def uptoSmall : (H : Type) → List (DataW H) → Bool := fun _ ds => decide (uptoBulkAll ds ≤ 1048576)
def OpenSpec.upto (s : _root_.Go.ChangeSpec) : _root_.Go.OpenSpec := { _root_.Go.OpenSpec.ofChange s with cond := some uptoSmall }

/-- 'scutagelaw13.VintageErrors', WHERE WHAT IT READS IS OF BULK AT MOST 1048576: true; the input reads as it did. -/
def vintageErrorsUptoRow : OpenClaim := { program := "ytdjepibgpgeifaa", sum := "cb1b1371cd86ed35a26bc2971784bb5a5af77b9eaf49be88f2a13648143aefb7", func := "scutage/scutagelaw13.VintageErrors", spec := "vintageErrors", inPlace := ["math/bits.Add64", "slices.overlaps[scutage/api.Vintage]"], unfollowed := true, recurses := true, apart := false, narrowed := true }
def VintageErrorsUptoSaid : Prop := vintageErrorsUptoRow.holds Try.pinned (OpenSpec.upto vintageErrorsSpec)

/-- 'scutagelaw13.VintageYears', WHERE WHAT IT READS IS OF BULK AT MOST 1048576: true; the input reads as it did. -/
def vintageYearsUptoRow : OpenClaim := { program := "ytdjepibgpgeifaa", sum := "cb1b1371cd86ed35a26bc2971784bb5a5af77b9eaf49be88f2a13648143aefb7", func := "scutage/scutagelaw13.VintageYears", spec := "vintageYears", inPlace := ["math/bits.Add64", "slices.overlaps[scutage/api.Vintage]"], unfollowed := true, recurses := true, apart := false, narrowed := true }
def VintageYearsUptoSaid : Prop := vintageYearsUptoRow.holds Try.pinned (OpenSpec.upto vintageYearsSpec)

/-- 'scutagelaw13.VintagePlays', WHERE WHAT IT READS IS OF BULK AT MOST 1048576: true; the input reads as it did. -/
def vintagePlaysUptoRow : OpenClaim := { program := "ytdjepibgpgeifaa", sum := "cb1b1371cd86ed35a26bc2971784bb5a5af77b9eaf49be88f2a13648143aefb7", func := "scutage/scutagelaw13.VintagePlays", spec := "vintagePlays", inPlace := ["math/bits.Add64", "slices.overlaps[scutage/api.Vintage]"], unfollowed := true, recurses := true, apart := false, narrowed := true }
def VintagePlaysUptoSaid : Prop := vintagePlaysUptoRow.holds Try.pinned (OpenSpec.upto vintagePlaysSpec)

/-- 'scutagelaw13.VintageKept', WHERE WHAT IT READS IS OF BULK AT MOST 1048576: true; the input reads as it did. -/
def vintageKeptUptoRow : OpenClaim := { program := "ytdjepibgpgeifaa", sum := "cb1b1371cd86ed35a26bc2971784bb5a5af77b9eaf49be88f2a13648143aefb7", func := "scutage/scutagelaw13.VintageKept", spec := "vintageKept", inPlace := ["math/bits.Add64", "slices.overlaps[scutage/api.Vintage]"], unfollowed := true, recurses := true, apart := false, narrowed := true }
def VintageKeptUptoSaid : Prop := vintageKeptUptoRow.holds Try.pinned (OpenSpec.upto vintageKeptSpec)

/-- 'scutagelaw13.VintageOrder', WHERE WHAT IT READS IS OF BULK AT MOST 1048576: true; the input reads as it did. -/
def vintageOrderUptoRow : OpenClaim := { program := "ytdjepibgpgeifaa", sum := "cb1b1371cd86ed35a26bc2971784bb5a5af77b9eaf49be88f2a13648143aefb7", func := "scutage/scutagelaw13.VintageOrder", spec := "vintageOrder", inPlace := ["math/bits.Add64", "slices.overlaps[scutage/api.Vintage]"], unfollowed := true, recurses := true, apart := false, narrowed := true }
def VintageOrderUptoSaid : Prop := vintageOrderUptoRow.holds Try.pinned (OpenSpec.upto vintageOrderSpec)

end Rows
end Go.Proofs.Ytdjepibgpgeifaa
