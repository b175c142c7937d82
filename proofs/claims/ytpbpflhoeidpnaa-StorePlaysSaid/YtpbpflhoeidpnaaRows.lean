/-
  No cell of these rows narrows 'for every input' (looked for: loops, veiled, ifaces, maps, wideKeys, modest, calm, conditions, laid).
  DERIVED. THE GIVEN ROWS OF THIS SEAT. 9 by the template 'for every input the law returns true; each argument reads behind the call as it read before'; 0 by the template 'total and deterministic' (their statements: YtpbpflhoeidpnaaTotals.lean).
  GIVEN WITH THE SEED: the statements are not yours to turn. If you find one false, say at which input.
  Laid BY PROGRAM, IN A SANDBOX (cutbox-rows.mjs): the forced cells as the released guide's own fill.sh prints them over the translation 7517d7c0e789d074… (all of the seat's roots in one cut). By AI agents, Wed Nov 11 2026. No macro, syntax, notation, axiom, sorry.
-/
import Derived.Test.YtpbpflhoeidpnaaChecked
import GoSem.Claim
import GoSem.ClaimJoined
import GoSem.ClaimMapViews
import Derived.JoinedTies
import Derived.KernelRfl
namespace Go.Proofs.Ytpbpflhoeidpnaa
/- THE CELL 'sum', in the pinned program and in every row, IS THE sha256 OF THE DUMP (.gsa) THAT YtpbpflhoeidpnaaProg.lean LOADS. Nothing in Lean hashes anything: it is a label: what it is worth is what the hold of that sum in a sandbox is worth. -/
noncomputable def Try.pinned : Pinned := { name := "ytpbpflhoeidpnaa", sum := "7517d7c0e789d074a27e3dbd3b9b8fa921eed3ced7ca64a48ad191a13859f289", checked := Try.checked }
namespace Rows
def none {H : Type} : Left H := { results := [], args := [] }

/-- 'scutagelaw07.StoreErrors': WHATEVER THE INPUT: true; the input reads as it did. -/
def storeErrorsSpec : ChangeSpec := { name := "storeErrors", fn := fun _ => fun
  | [d1, d2] => { results := [.lit (.bool true)], args := [d1, d2] }
  | _ => none }
def storeErrorsRow : OpenClaim := { program := "ytpbpflhoeidpnaa", sum := "7517d7c0e789d074a27e3dbd3b9b8fa921eed3ced7ca64a48ad191a13859f289", func := "scutage/scutagelaw07.StoreErrors", spec := "storeErrors", apart := false }
def StoreErrorsSaid : Prop := storeErrorsRow.holds Try.pinned (OpenSpec.ofChange storeErrorsSpec)

/-- ITS FALSE NEIGHBOUR: 'it returns false'. Refute it at one input. -/
def storeErrorsWrong : ChangeSpec := { name := "storeErrors", fn := fun _ => fun
  | [d1, d2] => { results := [.lit (.bool false)], args := [d1, d2] }
  | _ => none }
def StoreErrorsWrongFalsely : Prop := storeErrorsRow.holds Try.pinned (OpenSpec.ofChange storeErrorsWrong)

/-- 'scutagelaw07.StoreMany': WHATEVER THE INPUT: true; the input reads as it did. -/
def storeManySpec : ChangeSpec := { name := "storeMany", fn := fun _ => fun
  | [d] => { results := [.lit (.bool true)], args := [d] }
  | _ => none }
def storeManyRow : OpenClaim := { program := "ytpbpflhoeidpnaa", sum := "7517d7c0e789d074a27e3dbd3b9b8fa921eed3ced7ca64a48ad191a13859f289", func := "scutage/scutagelaw07.StoreMany", spec := "storeMany", apart := false }
def StoreManySaid : Prop := storeManyRow.holds Try.pinned (OpenSpec.ofChange storeManySpec)

/-- ITS FALSE NEIGHBOUR: 'it returns false'. Refute it at one input. -/
def storeManyWrong : ChangeSpec := { name := "storeMany", fn := fun _ => fun
  | [d] => { results := [.lit (.bool false)], args := [d] }
  | _ => none }
def StoreManyWrongFalsely : Prop := storeManyRow.holds Try.pinned (OpenSpec.ofChange storeManyWrong)

/-- 'scutagelaw07.StoreOwn': WHATEVER THE INPUT: true; the input reads as it did. -/
def storeOwnSpec : ChangeSpec := { name := "storeOwn", fn := fun _ => fun
  | [d1, d2, d3] => { results := [.lit (.bool true)], args := [d1, d2, d3] }
  | _ => none }
def storeOwnRow : OpenClaim := { program := "ytpbpflhoeidpnaa", sum := "7517d7c0e789d074a27e3dbd3b9b8fa921eed3ced7ca64a48ad191a13859f289", func := "scutage/scutagelaw07.StoreOwn", spec := "storeOwn", apart := false }
def StoreOwnSaid : Prop := storeOwnRow.holds Try.pinned (OpenSpec.ofChange storeOwnSpec)

/-- ITS FALSE NEIGHBOUR: 'it returns false'. Refute it at one input. -/
def storeOwnWrong : ChangeSpec := { name := "storeOwn", fn := fun _ => fun
  | [d1, d2, d3] => { results := [.lit (.bool false)], args := [d1, d2, d3] }
  | _ => none }
def StoreOwnWrongFalsely : Prop := storeOwnRow.holds Try.pinned (OpenSpec.ofChange storeOwnWrong)

/-- 'scutagelaw07.StorePlays': WHATEVER THE INPUT: true; the input reads as it did. -/
def storePlaysSpec : ChangeSpec := { name := "storePlays", fn := fun _ => fun
  | [d] => { results := [.lit (.bool true)], args := [d] }
  | _ => none }
def storePlaysRow : OpenClaim := { program := "ytpbpflhoeidpnaa", sum := "7517d7c0e789d074a27e3dbd3b9b8fa921eed3ced7ca64a48ad191a13859f289", func := "scutage/scutagelaw07.StorePlays", spec := "storePlays", apart := false }
def StorePlaysSaid : Prop := storePlaysRow.holds Try.pinned (OpenSpec.ofChange storePlaysSpec)

/-- ITS FALSE NEIGHBOUR: 'it returns false'. Refute it at one input. -/
def storePlaysWrong : ChangeSpec := { name := "storePlays", fn := fun _ => fun
  | [d] => { results := [.lit (.bool false)], args := [d] }
  | _ => none }
def StorePlaysWrongFalsely : Prop := storePlaysRow.holds Try.pinned (OpenSpec.ofChange storePlaysWrong)

/-- 'scutagelaw07.StoreTurns': WHATEVER THE INPUT: true; the input reads as it did. -/
def storeTurnsSpec : ChangeSpec := { name := "storeTurns", fn := fun _ => fun
  | [d1, d2, d3, d4] => { results := [.lit (.bool true)], args := [d1, d2, d3, d4] }
  | _ => none }
def storeTurnsRow : OpenClaim := { program := "ytpbpflhoeidpnaa", sum := "7517d7c0e789d074a27e3dbd3b9b8fa921eed3ced7ca64a48ad191a13859f289", func := "scutage/scutagelaw07.StoreTurns", spec := "storeTurns", apart := false }
def StoreTurnsSaid : Prop := storeTurnsRow.holds Try.pinned (OpenSpec.ofChange storeTurnsSpec)

/-- ITS FALSE NEIGHBOUR: 'it returns false'. Refute it at one input. -/
def storeTurnsWrong : ChangeSpec := { name := "storeTurns", fn := fun _ => fun
  | [d1, d2, d3, d4] => { results := [.lit (.bool false)], args := [d1, d2, d3, d4] }
  | _ => none }
def StoreTurnsWrongFalsely : Prop := storeTurnsRow.holds Try.pinned (OpenSpec.ofChange storeTurnsWrong)

/-- 'scutagelaw08.StatusEnd': WHATEVER THE INPUT: true; the input reads as it did. -/
def statusEndSpec : ChangeSpec := { name := "statusEnd", fn := fun _ => fun
  | [d] => { results := [.lit (.bool true)], args := [d] }
  | _ => none }
def statusEndRow : OpenClaim := { program := "ytpbpflhoeidpnaa", sum := "7517d7c0e789d074a27e3dbd3b9b8fa921eed3ced7ca64a48ad191a13859f289", func := "scutage/scutagelaw08.StatusEnd", spec := "statusEnd", apart := false }
def StatusEndSaid : Prop := statusEndRow.holds Try.pinned (OpenSpec.ofChange statusEndSpec)

/-- ITS FALSE NEIGHBOUR: 'it returns false'. Refute it at one input. -/
def statusEndWrong : ChangeSpec := { name := "statusEnd", fn := fun _ => fun
  | [d] => { results := [.lit (.bool false)], args := [d] }
  | _ => none }
def StatusEndWrongFalsely : Prop := statusEndRow.holds Try.pinned (OpenSpec.ofChange statusEndWrong)

/-- 'scutagelaw08.StatusRow': WHATEVER THE INPUT: true; the input reads as it did. -/
def statusRowSpec : ChangeSpec := { name := "statusRow", fn := fun _ => fun
  | [d1, d2] => { results := [.lit (.bool true)], args := [d1, d2] }
  | _ => none }
def statusRowRow : OpenClaim := { program := "ytpbpflhoeidpnaa", sum := "7517d7c0e789d074a27e3dbd3b9b8fa921eed3ced7ca64a48ad191a13859f289", func := "scutage/scutagelaw08.StatusRow", spec := "statusRow", apart := false }
def StatusRowSaid : Prop := statusRowRow.holds Try.pinned (OpenSpec.ofChange statusRowSpec)

/-- ITS FALSE NEIGHBOUR: 'it returns false'. Refute it at one input. -/
def statusRowWrong : ChangeSpec := { name := "statusRow", fn := fun _ => fun
  | [d1, d2] => { results := [.lit (.bool false)], args := [d1, d2] }
  | _ => none }
def StatusRowWrongFalsely : Prop := statusRowRow.holds Try.pinned (OpenSpec.ofChange statusRowWrong)

/-- 'scutagelaw08.StatusPlays': WHATEVER THE INPUT: true; the input reads as it did. -/
def statusPlaysSpec : ChangeSpec := { name := "statusPlays", fn := fun _ => fun
  | [d1, d2] => { results := [.lit (.bool true)], args := [d1, d2] }
  | _ => none }
def statusPlaysRow : OpenClaim := { program := "ytpbpflhoeidpnaa", sum := "7517d7c0e789d074a27e3dbd3b9b8fa921eed3ced7ca64a48ad191a13859f289", func := "scutage/scutagelaw08.StatusPlays", spec := "statusPlays", apart := false }
def StatusPlaysSaid : Prop := statusPlaysRow.holds Try.pinned (OpenSpec.ofChange statusPlaysSpec)

/-- ITS FALSE NEIGHBOUR: 'it returns false'. Refute it at one input. -/
def statusPlaysWrong : ChangeSpec := { name := "statusPlays", fn := fun _ => fun
  | [d1, d2] => { results := [.lit (.bool false)], args := [d1, d2] }
  | _ => none }
def StatusPlaysWrongFalsely : Prop := statusPlaysRow.holds Try.pinned (OpenSpec.ofChange statusPlaysWrong)

/-- 'scutagelaw08.StatusBack': WHATEVER THE INPUT: true; the input reads as it did. -/
def statusBackSpec : ChangeSpec := { name := "statusBack", fn := fun _ => fun
  | [d1, d2, d3] => { results := [.lit (.bool true)], args := [d1, d2, d3] }
  | _ => none }
def statusBackRow : OpenClaim := { program := "ytpbpflhoeidpnaa", sum := "7517d7c0e789d074a27e3dbd3b9b8fa921eed3ced7ca64a48ad191a13859f289", func := "scutage/scutagelaw08.StatusBack", spec := "statusBack", apart := false }
def StatusBackSaid : Prop := statusBackRow.holds Try.pinned (OpenSpec.ofChange statusBackSpec)

/-- ITS FALSE NEIGHBOUR: 'it returns false'. Refute it at one input. -/
def statusBackWrong : ChangeSpec := { name := "statusBack", fn := fun _ => fun
  | [d1, d2, d3] => { results := [.lit (.bool false)], args := [d1, d2, d3] }
  | _ => none }
def StatusBackWrongFalsely : Prop := statusBackRow.holds Try.pinned (OpenSpec.ofChange statusBackWrong)

/- THE SECOND FORM. 'bulk': how many values and letters a reading holds, each counted each time it is reached (what is shared counts as often as it is met; a slice's spare places count too). A statement '..UptoSaid' is the law's where the arguments, and the package variables that the reading takes, are together of bulk at most 1048576: NARROWER than '..Said'. Prove '..Said' where nothing that the law and all that it calls make is longer than what came in: it says more and counts as full. Else prove '..UptoSaid'. A law counts once. -/
mutual
def uptoBulk {H : Type} : DataW H → Nat
  | .lit (.string bytes) => bytes.length + 1
  | .lit _ => 1
  | .nil => 1
  | .ptr d => uptoBulk d + 1
  | .slice elems spare => uptoBulkAll elems + uptoBulkAll spare + 1
  | .agg parts => uptoBulkAll parts + 1
  | .iface _ d => uptoBulk d + 1
  | .map entries => uptoBulkEntries entries + 1
  | .held _ => 1
def uptoBulkAll {H : Type} : List (DataW H) → Nat
  | [] => 0
  | d :: r => uptoBulk d + uptoBulkAll r
def uptoBulkEntries {H : Type} : List (Lit × DataW H) → Nat
  | [] => 0
  | x :: r => uptoBulkEntry x + uptoBulkEntries r
def uptoBulkEntry {H : Type} : Lit × DataW H → Nat
  | (.string bytes, d) => bytes.length + uptoBulk d + 1
  | (_, d) => uptoBulk d + 1
 end
def uptoSmall : (H : Type) → List (DataW H) → Bool := fun _ ds => decide (uptoBulkAll ds ≤ 1048576)
def OpenSpec.upto (s : _root_.Go.ChangeSpec) : _root_.Go.OpenSpec := { _root_.Go.OpenSpec.ofChange s with cond := some uptoSmall }

/-- 'scutagelaw07.StoreErrors', WHERE WHAT IT READS IS OF BULK AT MOST 1048576: true; the input reads as it did. -/
def storeErrorsUptoRow : OpenClaim := { program := "ytpbpflhoeidpnaa", sum := "7517d7c0e789d074a27e3dbd3b9b8fa921eed3ced7ca64a48ad191a13859f289", func := "scutage/scutagelaw07.StoreErrors", spec := "storeErrors", apart := false, narrowed := true }
def StoreErrorsUptoSaid : Prop := storeErrorsUptoRow.holds Try.pinned (OpenSpec.upto storeErrorsSpec)

/-- 'scutagelaw07.StoreMany', WHERE WHAT IT READS IS OF BULK AT MOST 1048576: true; the input reads as it did. -/
def storeManyUptoRow : OpenClaim := { program := "ytpbpflhoeidpnaa", sum := "7517d7c0e789d074a27e3dbd3b9b8fa921eed3ced7ca64a48ad191a13859f289", func := "scutage/scutagelaw07.StoreMany", spec := "storeMany", apart := false, narrowed := true }
def StoreManyUptoSaid : Prop := storeManyUptoRow.holds Try.pinned (OpenSpec.upto storeManySpec)

/-- 'scutagelaw07.StoreOwn', WHERE WHAT IT READS IS OF BULK AT MOST 1048576: true; the input reads as it did. -/
def storeOwnUptoRow : OpenClaim := { program := "ytpbpflhoeidpnaa", sum := "7517d7c0e789d074a27e3dbd3b9b8fa921eed3ced7ca64a48ad191a13859f289", func := "scutage/scutagelaw07.StoreOwn", spec := "storeOwn", apart := false, narrowed := true }
def StoreOwnUptoSaid : Prop := storeOwnUptoRow.holds Try.pinned (OpenSpec.upto storeOwnSpec)

/-- 'scutagelaw07.StorePlays', WHERE WHAT IT READS IS OF BULK AT MOST 1048576: true; the input reads as it did. -/
def storePlaysUptoRow : OpenClaim := { program := "ytpbpflhoeidpnaa", sum := "7517d7c0e789d074a27e3dbd3b9b8fa921eed3ced7ca64a48ad191a13859f289", func := "scutage/scutagelaw07.StorePlays", spec := "storePlays", apart := false, narrowed := true }
def StorePlaysUptoSaid : Prop := storePlaysUptoRow.holds Try.pinned (OpenSpec.upto storePlaysSpec)

/-- 'scutagelaw07.StoreTurns', WHERE WHAT IT READS IS OF BULK AT MOST 1048576: true; the input reads as it did. -/
def storeTurnsUptoRow : OpenClaim := { program := "ytpbpflhoeidpnaa", sum := "7517d7c0e789d074a27e3dbd3b9b8fa921eed3ced7ca64a48ad191a13859f289", func := "scutage/scutagelaw07.StoreTurns", spec := "storeTurns", apart := false, narrowed := true }
def StoreTurnsUptoSaid : Prop := storeTurnsUptoRow.holds Try.pinned (OpenSpec.upto storeTurnsSpec)

/-- 'scutagelaw08.StatusEnd', WHERE WHAT IT READS IS OF BULK AT MOST 1048576: true; the input reads as it did. -/
def statusEndUptoRow : OpenClaim := { program := "ytpbpflhoeidpnaa", sum := "7517d7c0e789d074a27e3dbd3b9b8fa921eed3ced7ca64a48ad191a13859f289", func := "scutage/scutagelaw08.StatusEnd", spec := "statusEnd", apart := false, narrowed := true }
def StatusEndUptoSaid : Prop := statusEndUptoRow.holds Try.pinned (OpenSpec.upto statusEndSpec)

/-- 'scutagelaw08.StatusRow', WHERE WHAT IT READS IS OF BULK AT MOST 1048576: true; the input reads as it did. -/
def statusRowUptoRow : OpenClaim := { program := "ytpbpflhoeidpnaa", sum := "7517d7c0e789d074a27e3dbd3b9b8fa921eed3ced7ca64a48ad191a13859f289", func := "scutage/scutagelaw08.StatusRow", spec := "statusRow", apart := false, narrowed := true }
def StatusRowUptoSaid : Prop := statusRowUptoRow.holds Try.pinned (OpenSpec.upto statusRowSpec)

/-- 'scutagelaw08.StatusPlays', WHERE WHAT IT READS IS OF BULK AT MOST 1048576: true; the input reads as it did. -/
def statusPlaysUptoRow : OpenClaim := { program := "ytpbpflhoeidpnaa", sum := "7517d7c0e789d074a27e3dbd3b9b8fa921eed3ced7ca64a48ad191a13859f289", func := "scutage/scutagelaw08.StatusPlays", spec := "statusPlays", apart := false, narrowed := true }
def StatusPlaysUptoSaid : Prop := statusPlaysUptoRow.holds Try.pinned (OpenSpec.upto statusPlaysSpec)

/-- 'scutagelaw08.StatusBack', WHERE WHAT IT READS IS OF BULK AT MOST 1048576: true; the input reads as it did. -/
def statusBackUptoRow : OpenClaim := { program := "ytpbpflhoeidpnaa", sum := "7517d7c0e789d074a27e3dbd3b9b8fa921eed3ced7ca64a48ad191a13859f289", func := "scutage/scutagelaw08.StatusBack", spec := "statusBack", apart := false, narrowed := true }
def StatusBackUptoSaid : Prop := statusBackUptoRow.holds Try.pinned (OpenSpec.upto statusBackSpec)

end Rows
end Go.Proofs.Ytpbpflhoeidpnaa
