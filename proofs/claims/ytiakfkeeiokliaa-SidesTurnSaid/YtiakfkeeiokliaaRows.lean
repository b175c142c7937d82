/-
  No cell of these rows narrows 'for every input' (looked for: loops, veiled, ifaces, maps, wideKeys, modest, calm, conditions, laid).
  DERIVED. THE GIVEN ROWS OF THIS SEAT. 4 by the template 'for every input the law returns true; each argument reads behind the call as it read before'; 0 by the template 'total and deterministic' (their statements: YtiakfkeeiokliaaTotals.lean).
  GIVEN WITH THE SEED: the statements are not yours to turn. If you find one false, say at which input.
  Laid BY PROGRAM, IN A SANDBOX (cutbox-rows.mjs): the forced cells as the released guide's own fill.sh prints them over the translation 9d0bd0d7bb7bbef7… (all of the seat's roots in one cut). By AI agents, Wed Nov 11 2026. No macro, syntax, notation, axiom, sorry.
-/
import Derived.Test.YtiakfkeeiokliaaChecked
import GoSem.Claim
import GoSem.ClaimJoined
import GoSem.ClaimMapViews
import Derived.JoinedTies
import Derived.KernelRfl
namespace Go.Proofs.Ytiakfkeeiokliaa
/- THE CELL 'sum', in the pinned program and in every row, IS THE sha256 OF THE DUMP (.gsa) THAT YtiakfkeeiokliaaProg.lean LOADS. Nothing in Lean hashes anything: it is a label: what it is worth is what the hold of that sum in a sandbox is worth. -/
noncomputable def Try.pinned : Pinned := { name := "ytiakfkeeiokliaa", sum := "9d0bd0d7bb7bbef7789d5c9f2c96907ec897ced0fc1abadd2c65355a3316ce02", checked := Try.checked }
namespace Rows
def none {H : Type} : Left H := { results := [], args := [] }

/-- 'scutagelaw04.SidesGreat': WHATEVER THE INPUT: true; the input reads as it did. -/
def sidesGreatSpec : ChangeSpec := { name := "sidesGreat", fn := fun _ => fun
  | [d1, d2] => { results := [.lit (.bool true)], args := [d1, d2] }
  | _ => none }
def sidesGreatRow : OpenClaim := { program := "ytiakfkeeiokliaa", sum := "9d0bd0d7bb7bbef7789d5c9f2c96907ec897ced0fc1abadd2c65355a3316ce02", func := "scutage/scutagelaw04.SidesGreat", spec := "sidesGreat", apart := false }
def SidesGreatSaid : Prop := sidesGreatRow.holds Try.pinned (OpenSpec.ofChange sidesGreatSpec)

/-- ITS FALSE NEIGHBOUR: 'it returns false'. Refute it at one input. -/
def sidesGreatWrong : ChangeSpec := { name := "sidesGreat", fn := fun _ => fun
  | [d1, d2] => { results := [.lit (.bool false)], args := [d1, d2] }
  | _ => none }
def SidesGreatWrongFalsely : Prop := sidesGreatRow.holds Try.pinned (OpenSpec.ofChange sidesGreatWrong)

/-- 'scutagelaw04.SidesMeet': WHATEVER THE INPUT: true; the input reads as it did. -/
def sidesMeetSpec : ChangeSpec := { name := "sidesMeet", fn := fun _ => fun
  | [d] => { results := [.lit (.bool true)], args := [d] }
  | _ => none }
def sidesMeetRow : OpenClaim := { program := "ytiakfkeeiokliaa", sum := "9d0bd0d7bb7bbef7789d5c9f2c96907ec897ced0fc1abadd2c65355a3316ce02", func := "scutage/scutagelaw04.SidesMeet", spec := "sidesMeet", apart := false }
def SidesMeetSaid : Prop := sidesMeetRow.holds Try.pinned (OpenSpec.ofChange sidesMeetSpec)

/-- ITS FALSE NEIGHBOUR: 'it returns false'. Refute it at one input. -/
def sidesMeetWrong : ChangeSpec := { name := "sidesMeet", fn := fun _ => fun
  | [d] => { results := [.lit (.bool false)], args := [d] }
  | _ => none }
def SidesMeetWrongFalsely : Prop := sidesMeetRow.holds Try.pinned (OpenSpec.ofChange sidesMeetWrong)

/-- 'scutagelaw04.SidesTell': WHATEVER THE INPUT: true; the input reads as it did. -/
def sidesTellSpec : ChangeSpec := { name := "sidesTell", fn := fun _ => fun
  | [d] => { results := [.lit (.bool true)], args := [d] }
  | _ => none }
def sidesTellRow : OpenClaim := { program := "ytiakfkeeiokliaa", sum := "9d0bd0d7bb7bbef7789d5c9f2c96907ec897ced0fc1abadd2c65355a3316ce02", func := "scutage/scutagelaw04.SidesTell", spec := "sidesTell", apart := false }
def SidesTellSaid : Prop := sidesTellRow.holds Try.pinned (OpenSpec.ofChange sidesTellSpec)

/-- ITS FALSE NEIGHBOUR: 'it returns false'. Refute it at one input. -/
def sidesTellWrong : ChangeSpec := { name := "sidesTell", fn := fun _ => fun
  | [d] => { results := [.lit (.bool false)], args := [d] }
  | _ => none }
def SidesTellWrongFalsely : Prop := sidesTellRow.holds Try.pinned (OpenSpec.ofChange sidesTellWrong)

/-- 'scutagelaw04.SidesTurn': WHATEVER THE INPUT: true; the input reads as it did. -/
def sidesTurnSpec : ChangeSpec := { name := "sidesTurn", fn := fun _ => fun
  | [d] => { results := [.lit (.bool true)], args := [d] }
  | _ => none }
def sidesTurnRow : OpenClaim := { program := "ytiakfkeeiokliaa", sum := "9d0bd0d7bb7bbef7789d5c9f2c96907ec897ced0fc1abadd2c65355a3316ce02", func := "scutage/scutagelaw04.SidesTurn", spec := "sidesTurn", apart := false }
def SidesTurnSaid : Prop := sidesTurnRow.holds Try.pinned (OpenSpec.ofChange sidesTurnSpec)

/-- ITS FALSE NEIGHBOUR: 'it returns false'. Refute it at one input. -/
def sidesTurnWrong : ChangeSpec := { name := "sidesTurn", fn := fun _ => fun
  | [d] => { results := [.lit (.bool false)], args := [d] }
  | _ => none }
def SidesTurnWrongFalsely : Prop := sidesTurnRow.holds Try.pinned (OpenSpec.ofChange sidesTurnWrong)

/- THE SECOND FORM. 'bulk': how many values and letters a reading holds, each counted each time it is reached (what is shared counts as often as it is met; a slice's spare places count too). A statement '..UptoSaid' is the law's where the arguments, and the package variables that the reading takes, are together of bulk at most 1048576: NARROWER than '..Said'. Prove '..Said' where nothing that the law and all that it calls make is longer than what came in: it says more and counts as full. Else prove '..UptoSaid'. A law counts once. -/
mutual
def uptoBulk {H : Type} : DataW H → Nat
  | .lit (.string bytes) => bytes.length + 1
  | .lit _ => 1
  | .nil => 1
  | .ptr d => uptoBulk d + 1
  | .slice elems spare => uptoBulkAll elems + uptoBulkAll spare + 1
  | .agg parts => uptoBulkAll parts + 1
  | .iface _ d => uptoBulk d + 1
  | .map entries => uptoBulkEntries entries + 1
  | .held _ => 1
def uptoBulkAll {H : Type} : List (DataW H) → Nat
  | [] => 0
  | d :: r => uptoBulk d + uptoBulkAll r
def uptoBulkEntries {H : Type} : List (Lit × DataW H) → Nat
  | [] => 0
  | x :: r => uptoBulkEntry x + uptoBulkEntries r
def uptoBulkEntry {H : Type} : Lit × DataW H → Nat
  | (.string bytes, d) => bytes.length + uptoBulk d + 1
  | (_, d) => uptoBulk d + 1
 end
def uptoSmall : (H : Type) → List (DataW H) → Bool := fun _ ds => decide (uptoBulkAll ds ≤ 1048576)
def OpenSpec.upto (s : _root_.Go.ChangeSpec) : _root_.Go.OpenSpec := { _root_.Go.OpenSpec.ofChange s with cond := some uptoSmall }

/-- 'scutagelaw04.SidesGreat', WHERE WHAT IT READS IS OF BULK AT MOST 1048576: true; the input reads as it did. -/
def sidesGreatUptoRow : OpenClaim := { program := "ytiakfkeeiokliaa", sum := "9d0bd0d7bb7bbef7789d5c9f2c96907ec897ced0fc1abadd2c65355a3316ce02", func := "scutage/scutagelaw04.SidesGreat", spec := "sidesGreat", apart := false, narrowed := true }
def SidesGreatUptoSaid : Prop := sidesGreatUptoRow.holds Try.pinned (OpenSpec.upto sidesGreatSpec)

/-- 'scutagelaw04.SidesMeet', WHERE WHAT IT READS IS OF BULK AT MOST 1048576: true; the input reads as it did. -/
def sidesMeetUptoRow : OpenClaim := { program := "ytiakfkeeiokliaa", sum := "9d0bd0d7bb7bbef7789d5c9f2c96907ec897ced0fc1abadd2c65355a3316ce02", func := "scutage/scutagelaw04.SidesMeet", spec := "sidesMeet", apart := false, narrowed := true }
def SidesMeetUptoSaid : Prop := sidesMeetUptoRow.holds Try.pinned (OpenSpec.upto sidesMeetSpec)

/-- 'scutagelaw04.SidesTell', WHERE WHAT IT READS IS OF BULK AT MOST 1048576: true; the input reads as it did. -/
def sidesTellUptoRow : OpenClaim := { program := "ytiakfkeeiokliaa", sum := "9d0bd0d7bb7bbef7789d5c9f2c96907ec897ced0fc1abadd2c65355a3316ce02", func := "scutage/scutagelaw04.SidesTell", spec := "sidesTell", apart := false, narrowed := true }
def SidesTellUptoSaid : Prop := sidesTellUptoRow.holds Try.pinned (OpenSpec.upto sidesTellSpec)

/-- 'scutagelaw04.SidesTurn', WHERE WHAT IT READS IS OF BULK AT MOST 1048576: true; the input reads as it did. -/
def sidesTurnUptoRow : OpenClaim := { program := "ytiakfkeeiokliaa", sum := "9d0bd0d7bb7bbef7789d5c9f2c96907ec897ced0fc1abadd2c65355a3316ce02", func := "scutage/scutagelaw04.SidesTurn", spec := "sidesTurn", apart := false, narrowed := true }
def SidesTurnUptoSaid : Prop := sidesTurnUptoRow.holds Try.pinned (OpenSpec.upto sidesTurnSpec)

end Rows
end Go.Proofs.Ytiakfkeeiokliaa
