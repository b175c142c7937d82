/-
  No cell of these rows narrows 'for every input' (looked for: loops, veiled, ifaces, maps, wideKeys, modest, calm, conditions, laid).
  DERIVED. THE GIVEN ROWS OF THIS SEAT. 4 by the template 'for every input the law returns true; each argument reads behind the call as it read before'; 0 by the template 'total and deterministic' (their statements: YtdchihhekmbeiaaTotals.lean).
  GIVEN WITH THE SEED: the statements are not yours to turn. If you find one false, say at which input.
  Laid BY PROGRAM, IN A SANDBOX (cutbox-rows.mjs): the forced cells as the released guide's own fill.sh prints them over the translation 7cd713548d27dfca… (all of the seat's roots in one cut). By AI agents, Wed Nov 11 2026. No macro, syntax, notation, axiom, sorry.
-/
import Derived.Test.YtdchihhekmbeiaaChecked
import GoSem.Claim
import GoSem.ClaimJoined
import GoSem.ClaimMapViews
import Derived.JoinedTies
import Derived.KernelRfl
namespace Go.Proofs.Ytdchihhekmbeiaa
/- THE CELL 'sum', in the pinned program and in every row, IS THE sha256 OF THE DUMP (.gsa) THAT YtdchihhekmbeiaaProg.lean LOADS. Nothing in Lean hashes anything: it is a label: what it is worth is what the hold of that sum in a sandbox is worth. -/
noncomputable def Try.pinned : Pinned := { name := "ytdchihhekmbeiaa", sum := "7cd713548d27dfca6a91070d8a365567f76da9cd2ee790359b81259da7d8b963", checked := Try.checked }
namespace Rows
def none {H : Type} : Left H := { results := [], args := [] }

/-- 'scutagelaw18.AllowErrors': WHATEVER THE INPUT: true; the input reads as it did. -/
def allowErrorsSpec : ChangeSpec := { name := "allowErrors", fn := fun _ => fun
  | [d1, d2, d3, d4] => { results := [.lit (.bool true)], args := [d1, d2, d3, d4] }
  | _ => none }
def allowErrorsRow : OpenClaim := { program := "ytdchihhekmbeiaa", sum := "7cd713548d27dfca6a91070d8a365567f76da9cd2ee790359b81259da7d8b963", func := "scutage/scutagelaw18.AllowErrors", spec := "allowErrors", apart := false }
def AllowErrorsSaid : Prop := allowErrorsRow.holds Try.pinned (OpenSpec.ofChange allowErrorsSpec)

/-- ITS FALSE NEIGHBOUR: 'it returns false'. Refute it at one input. -/
def allowErrorsWrong : ChangeSpec := { name := "allowErrors", fn := fun _ => fun
  | [d1, d2, d3, d4] => { results := [.lit (.bool false)], args := [d1, d2, d3, d4] }
  | _ => none }
def AllowErrorsWrongFalsely : Prop := allowErrorsRow.holds Try.pinned (OpenSpec.ofChange allowErrorsWrong)

/-- 'scutagelaw18.AllowTells': WHATEVER THE INPUT: true; the input reads as it did. -/
def allowTellsSpec : ChangeSpec := { name := "allowTells", fn := fun _ => fun
  | [d1, d2, d3, d4] => { results := [.lit (.bool true)], args := [d1, d2, d3, d4] }
  | _ => none }
def allowTellsRow : OpenClaim := { program := "ytdchihhekmbeiaa", sum := "7cd713548d27dfca6a91070d8a365567f76da9cd2ee790359b81259da7d8b963", func := "scutage/scutagelaw18.AllowTells", spec := "allowTells", recurses := true, apart := false }
def AllowTellsSaid : Prop := allowTellsRow.holds Try.pinned (OpenSpec.ofChange allowTellsSpec)

/-- ITS FALSE NEIGHBOUR: 'it returns false'. Refute it at one input. -/
def allowTellsWrong : ChangeSpec := { name := "allowTells", fn := fun _ => fun
  | [d1, d2, d3, d4] => { results := [.lit (.bool false)], args := [d1, d2, d3, d4] }
  | _ => none }
def AllowTellsWrongFalsely : Prop := allowTellsRow.holds Try.pinned (OpenSpec.ofChange allowTellsWrong)

/-- 'scutagelaw18.AllowParts': WHATEVER THE INPUT: true; the input reads as it did. -/
def allowPartsSpec : ChangeSpec := { name := "allowParts", fn := fun _ => fun
  | [d1, d2] => { results := [.lit (.bool true)], args := [d1, d2] }
  | _ => none }
def allowPartsRow : OpenClaim := { program := "ytdchihhekmbeiaa", sum := "7cd713548d27dfca6a91070d8a365567f76da9cd2ee790359b81259da7d8b963", func := "scutage/scutagelaw18.AllowParts", spec := "allowParts", apart := false }
def AllowPartsSaid : Prop := allowPartsRow.holds Try.pinned (OpenSpec.ofChange allowPartsSpec)

/-- ITS FALSE NEIGHBOUR: 'it returns false'. Refute it at one input. -/
def allowPartsWrong : ChangeSpec := { name := "allowParts", fn := fun _ => fun
  | [d1, d2] => { results := [.lit (.bool false)], args := [d1, d2] }
  | _ => none }
def AllowPartsWrongFalsely : Prop := allowPartsRow.holds Try.pinned (OpenSpec.ofChange allowPartsWrong)

/-- 'scutagelaw18.AllowRises': WHATEVER THE INPUT: true; the input reads as it did. -/
def allowRisesSpec : ChangeSpec := { name := "allowRises", fn := fun _ => fun
  | [d1, d2, d3, d4] => { results := [.lit (.bool true)], args := [d1, d2, d3, d4] }
  | _ => none }
def allowRisesRow : OpenClaim := { program := "ytdchihhekmbeiaa", sum := "7cd713548d27dfca6a91070d8a365567f76da9cd2ee790359b81259da7d8b963", func := "scutage/scutagelaw18.AllowRises", spec := "allowRises", apart := false }
def AllowRisesSaid : Prop := allowRisesRow.holds Try.pinned (OpenSpec.ofChange allowRisesSpec)

/-- ITS FALSE NEIGHBOUR: 'it returns false'. Refute it at one input. -/
def allowRisesWrong : ChangeSpec := { name := "allowRises", fn := fun _ => fun
  | [d1, d2, d3, d4] => { results := [.lit (.bool false)], args := [d1, d2, d3, d4] }
  | _ => none }
def AllowRisesWrongFalsely : Prop := allowRisesRow.holds Try.pinned (OpenSpec.ofChange allowRisesWrong)

/- THE SECOND FORM. 'bulk': how many values and letters a reading holds, each counted each time it is reached (what is shared counts as often as it is met; a slice's spare places count too). A statement '..UptoSaid' is the law's where the arguments, and the package variables that the reading takes, are together of bulk at most 1048576: NARROWER than '..Said'. Prove '..Said' where nothing that the law and all that it calls make is longer than what came in: it says more and counts as full. Else prove '..UptoSaid'. A law counts once. -/
mutual
def uptoBulk {H : Type} : DataW H → Nat
  | .lit (.string bytes) => bytes.length + 1
  | .lit _ => 1
  | .nil => 1
  | .ptr d => uptoBulk d + 1
  | .slice elems spare => uptoBulkAll elems + uptoBulkAll spare + 1
  | .agg parts => uptoBulkAll parts + 1
  | .iface _ d => uptoBulk d + 1
  | .map entries => uptoBulkEntries entries + 1
  | .held _ => 1
def uptoBulkAll {H : Type} : List (DataW H) → Nat
  | [] => 0
  | d :: r => uptoBulk d + uptoBulkAll r
def uptoBulkEntries {H : Type} : List (Lit × DataW H) → Nat
  | [] => 0
  | x :: r => uptoBulkEntry x + uptoBulkEntries r
def uptoBulkEntry {H : Type} : Lit × DataW H → Nat
  | (.string bytes, d) => bytes.length + uptoBulk d + 1
  | (_, d) => uptoBulk d + 1
 end
def uptoSmall : (H : Type) → List (DataW H) → Bool := fun _ ds => decide (uptoBulkAll ds ≤ 1048576)
def OpenSpec.upto (s : _root_.Go.ChangeSpec) : _root_.Go.OpenSpec := { _root_.Go.OpenSpec.ofChange s with cond := some uptoSmall }

/-- 'scutagelaw18.AllowErrors', WHERE WHAT IT READS IS OF BULK AT MOST 1048576: true; the input reads as it did. -/
def allowErrorsUptoRow : OpenClaim := { program := "ytdchihhekmbeiaa", sum := "7cd713548d27dfca6a91070d8a365567f76da9cd2ee790359b81259da7d8b963", func := "scutage/scutagelaw18.AllowErrors", spec := "allowErrors", apart := false, narrowed := true }
def AllowErrorsUptoSaid : Prop := allowErrorsUptoRow.holds Try.pinned (OpenSpec.upto allowErrorsSpec)

/-- 'scutagelaw18.AllowTells', WHERE WHAT IT READS IS OF BULK AT MOST 1048576: true; the input reads as it did. -/
def allowTellsUptoRow : OpenClaim := { program := "ytdchihhekmbeiaa", sum := "7cd713548d27dfca6a91070d8a365567f76da9cd2ee790359b81259da7d8b963", func := "scutage/scutagelaw18.AllowTells", spec := "allowTells", recurses := true, apart := false, narrowed := true }
def AllowTellsUptoSaid : Prop := allowTellsUptoRow.holds Try.pinned (OpenSpec.upto allowTellsSpec)

/-- 'scutagelaw18.AllowParts', WHERE WHAT IT READS IS OF BULK AT MOST 1048576: true; the input reads as it did. -/
def allowPartsUptoRow : OpenClaim := { program := "ytdchihhekmbeiaa", sum := "7cd713548d27dfca6a91070d8a365567f76da9cd2ee790359b81259da7d8b963", func := "scutage/scutagelaw18.AllowParts", spec := "allowParts", apart := false, narrowed := true }
def AllowPartsUptoSaid : Prop := allowPartsUptoRow.holds Try.pinned (OpenSpec.upto allowPartsSpec)

/-- 'scutagelaw18.AllowRises', WHERE WHAT IT READS IS OF BULK AT MOST 1048576: true; the input reads as it did. -/
def allowRisesUptoRow : OpenClaim := { program := "ytdchihhekmbeiaa", sum := "7cd713548d27dfca6a91070d8a365567f76da9cd2ee790359b81259da7d8b963", func := "scutage/scutagelaw18.AllowRises", spec := "allowRises", apart := false, narrowed := true }
def AllowRisesUptoSaid : Prop := allowRisesUptoRow.holds Try.pinned (OpenSpec.upto allowRisesSpec)

end Rows
end Go.Proofs.Ytdchihhekmbeiaa
