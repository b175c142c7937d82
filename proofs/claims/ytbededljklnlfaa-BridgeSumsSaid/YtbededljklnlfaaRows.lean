/-
  No cell of these rows narrows 'for every input' (looked for: loops, veiled, ifaces, maps, wideKeys, modest, calm, conditions, laid).
  DERIVED. THE GIVEN ROWS OF THIS SEAT. 3 by the template 'for every input the law returns true; each argument reads behind the call as it read before'; 0 by the template 'total and deterministic' (their statements: YtbededljklnlfaaTotals.lean).
  GIVEN WITH THE SEED: the statements are not yours to turn. If you find one false, say at which input.
  Laid BY PROGRAM, IN A SANDBOX (cutbox-rows.mjs): the forced cells as the released guide's own fill.sh prints them over the translation 9a1fcd569143ef6e… (all of the seat's roots in one cut). By AI agents, Wed Nov 11 2026. No macro, syntax, notation, axiom, sorry.
-/
import Derived.Test.YtbededljklnlfaaChecked
import GoSem.Claim
import GoSem.ClaimJoined
import GoSem.ClaimMapViews
import Derived.JoinedTies
import Derived.KernelRfl
namespace Go.Proofs.Ytbededljklnlfaa
/- THE CELL 'sum', in the pinned program and in every row, IS THE sha256 OF THE DUMP (.gsa) THAT YtbededljklnlfaaProg.lean LOADS. Nothing in Lean hashes anything: it is a label: what it is worth is what the hold of that sum in a sandbox is worth. -/
noncomputable def Try.pinned : Pinned := { name := "ytbededljklnlfaa", sum := "9a1fcd569143ef6e7aaeade1e60d627c3ceb344620718356323604c32da696ef", checked := Try.checked }
namespace Rows
def none {H : Type} : Left H := { results := [], args := [] }

/-- 'scutagelaw12.BridgeSums': WHATEVER THE INPUT: true; the input reads as it did. -/
def bridgeSumsSpec : ChangeSpec := { name := "bridgeSums", fn := fun _ => fun
  | [d1, d2, d3, d4] => { results := [.lit (.bool true)], args := [d1, d2, d3, d4] }
  | _ => none }
def bridgeSumsRow : OpenClaim := { program := "ytbededljklnlfaa", sum := "9a1fcd569143ef6e7aaeade1e60d627c3ceb344620718356323604c32da696ef", func := "scutage/scutagelaw12.BridgeSums", spec := "bridgeSums", inPlace := ["math/bits.Add64"], apart := false }
def BridgeSumsSaid : Prop := bridgeSumsRow.holds Try.pinned (OpenSpec.ofChange bridgeSumsSpec)

/-- ITS FALSE NEIGHBOUR: 'it returns false'. Refute it at one input. -/
def bridgeSumsWrong : ChangeSpec := { name := "bridgeSums", fn := fun _ => fun
  | [d1, d2, d3, d4] => { results := [.lit (.bool false)], args := [d1, d2, d3, d4] }
  | _ => none }
def BridgeSumsWrongFalsely : Prop := bridgeSumsRow.holds Try.pinned (OpenSpec.ofChange bridgeSumsWrong)

/-- 'scutagelaw12.BridgeTells': WHATEVER THE INPUT: true; the input reads as it did. -/
def bridgeTellsSpec : ChangeSpec := { name := "bridgeTells", fn := fun _ => fun
  | [d1, d2, d3] => { results := [.lit (.bool true)], args := [d1, d2, d3] }
  | _ => none }
def bridgeTellsRow : OpenClaim := { program := "ytbededljklnlfaa", sum := "9a1fcd569143ef6e7aaeade1e60d627c3ceb344620718356323604c32da696ef", func := "scutage/scutagelaw12.BridgeTells", spec := "bridgeTells", inPlace := ["math/bits.Add64"], apart := false }
def BridgeTellsSaid : Prop := bridgeTellsRow.holds Try.pinned (OpenSpec.ofChange bridgeTellsSpec)

/-- ITS FALSE NEIGHBOUR: 'it returns false'. Refute it at one input. -/
def bridgeTellsWrong : ChangeSpec := { name := "bridgeTells", fn := fun _ => fun
  | [d1, d2, d3] => { results := [.lit (.bool false)], args := [d1, d2, d3] }
  | _ => none }
def BridgeTellsWrongFalsely : Prop := bridgeTellsRow.holds Try.pinned (OpenSpec.ofChange bridgeTellsWrong)

/-- 'scutagelaw12.BridgeEdges': WHATEVER THE INPUT: true; the input reads as it did. -/
def bridgeEdgesSpec : ChangeSpec := { name := "bridgeEdges", fn := fun _ => fun
  | [d] => { results := [.lit (.bool true)], args := [d] }
  | _ => none }
def bridgeEdgesRow : OpenClaim := { program := "ytbededljklnlfaa", sum := "9a1fcd569143ef6e7aaeade1e60d627c3ceb344620718356323604c32da696ef", func := "scutage/scutagelaw12.BridgeEdges", spec := "bridgeEdges", inPlace := ["math/bits.Add64"], apart := false }
def BridgeEdgesSaid : Prop := bridgeEdgesRow.holds Try.pinned (OpenSpec.ofChange bridgeEdgesSpec)

/-- ITS FALSE NEIGHBOUR: 'it returns false'. Refute it at one input. -/
def bridgeEdgesWrong : ChangeSpec := { name := "bridgeEdges", fn := fun _ => fun
  | [d] => { results := [.lit (.bool false)], args := [d] }
  | _ => none }
def BridgeEdgesWrongFalsely : Prop := bridgeEdgesRow.holds Try.pinned (OpenSpec.ofChange bridgeEdgesWrong)

/- THE SECOND FORM. 'bulk': how many values and letters a reading holds, each counted each time it is reached (what is shared counts as often as it is met; a slice's spare places count too). A statement '..UptoSaid' is the law's where the arguments, and the package variables that the reading takes, are together of bulk at most 1048576: NARROWER than '..Said'. Prove '..Said' where nothing that the law and all that it calls make is longer than what came in: it says more and counts as full. Else prove '..UptoSaid'. A law counts once. -/
mutual
def uptoBulk {H : Type} : DataW H → Nat
  | .lit (.string bytes) => bytes.length + 1
  | .lit _ => 1
  | .nil => 1
  | .ptr d => uptoBulk d + 1
  | .slice elems spare => uptoBulkAll elems + uptoBulkAll spare + 1
  | .agg parts => uptoBulkAll parts + 1
  | .iface _ d => uptoBulk d + 1
  | .map entries => uptoBulkEntries entries + 1
  | .held _ => 1
def uptoBulkAll {H : Type} : List (DataW H) → Nat
  | [] => 0
  | d :: r => uptoBulk d + uptoBulkAll r
def uptoBulkEntries {H : Type} : List (Lit × DataW H) → Nat
  | [] => 0
  | x :: r => uptoBulkEntry x + uptoBulkEntries r
def uptoBulkEntry {H : Type} : Lit × DataW H → Nat
  | (.string bytes, d) => bytes.length + uptoBulk d + 1
  | (_, d) => uptoBulk d + 1
 end
def uptoSmall : (H : Type) → List (DataW H) → Bool := fun _ ds => decide (uptoBulkAll ds ≤ 1048576)
def OpenSpec.upto (s : _root_.Go.ChangeSpec) : _root_.Go.OpenSpec := { _root_.Go.OpenSpec.ofChange s with cond := some uptoSmall }

/-- 'scutagelaw12.BridgeSums', WHERE WHAT IT READS IS OF BULK AT MOST 1048576: true; the input reads as it did. -/
def bridgeSumsUptoRow : OpenClaim := { program := "ytbededljklnlfaa", sum := "9a1fcd569143ef6e7aaeade1e60d627c3ceb344620718356323604c32da696ef", func := "scutage/scutagelaw12.BridgeSums", spec := "bridgeSums", inPlace := ["math/bits.Add64"], apart := false, narrowed := true }
def BridgeSumsUptoSaid : Prop := bridgeSumsUptoRow.holds Try.pinned (OpenSpec.upto bridgeSumsSpec)

/-- 'scutagelaw12.BridgeTells', WHERE WHAT IT READS IS OF BULK AT MOST 1048576: true; the input reads as it did. -/
def bridgeTellsUptoRow : OpenClaim := { program := "ytbededljklnlfaa", sum := "9a1fcd569143ef6e7aaeade1e60d627c3ceb344620718356323604c32da696ef", func := "scutage/scutagelaw12.BridgeTells", spec := "bridgeTells", inPlace := ["math/bits.Add64"], apart := false, narrowed := true }
def BridgeTellsUptoSaid : Prop := bridgeTellsUptoRow.holds Try.pinned (OpenSpec.upto bridgeTellsSpec)

/-- 'scutagelaw12.BridgeEdges', WHERE WHAT IT READS IS OF BULK AT MOST 1048576: true; the input reads as it did. -/
def bridgeEdgesUptoRow : OpenClaim := { program := "ytbededljklnlfaa", sum := "9a1fcd569143ef6e7aaeade1e60d627c3ceb344620718356323604c32da696ef", func := "scutage/scutagelaw12.BridgeEdges", spec := "bridgeEdges", inPlace := ["math/bits.Add64"], apart := false, narrowed := true }
def BridgeEdgesUptoSaid : Prop := bridgeEdgesUptoRow.holds Try.pinned (OpenSpec.upto bridgeEdgesSpec)

end Rows
end Go.Proofs.Ytbededljklnlfaa
