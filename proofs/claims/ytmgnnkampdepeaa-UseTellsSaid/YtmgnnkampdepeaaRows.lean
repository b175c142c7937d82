/-
  No cell of these rows narrows 'for every input' (looked for: loops, veiled, ifaces, maps, wideKeys, modest, calm, conditions, laid).
  DERIVED. THE GIVEN ROWS OF THIS SEAT. 5 by the template 'for every input the law returns true; each argument reads behind the call as it read before'; 0 by the template 'total and deterministic' (their statements: YtmgnnkampdepeaaTotals.lean).
  GIVEN WITH THE SEED: the statements are not yours to turn. If you find one false, say at which input.
  Laid BY PROGRAM, IN A SANDBOX (cutbox-rows.mjs): the forced cells as the released guide's own fill.sh prints them over the translation 090f1f4ba06f1164… (all of the seat's roots in one cut). By AI agents, Wed Nov 11 2026. No macro, syntax, notation, axiom, sorry.
-/
import Derived.Test.YtmgnnkampdepeaaChecked
import GoSem.Claim
import GoSem.ClaimJoined
import GoSem.ClaimMapViews
import Derived.JoinedTies
import Derived.KernelRfl
namespace Go.Proofs.Ytmgnnkampdepeaa
/- THE CELL 'sum', in the pinned program and in every row, IS THE sha256 OF THE DUMP (.gsa) THAT YtmgnnkampdepeaaProg.lean LOADS. Nothing in Lean hashes anything: it is a label: what it is worth is what the hold of that sum in a sandbox is worth. -/
noncomputable def Try.pinned : Pinned := { name := "ytmgnnkampdepeaa", sum := "090f1f4ba06f11649ddf11551bb9ab6bf1f0d7de90190051a4c2e6b4e903d185", checked := Try.checked }
namespace Rows
def none {H : Type} : Left H := { results := [], args := [] }

/-- 'scutagelaw14.UseMore': WHATEVER THE INPUT: true; the input reads as it did. -/
def useMoreSpec : ChangeSpec := { name := "useMore", fn := fun _ => fun
  | [d1, d2, d3, d4] => { results := [.lit (.bool true)], args := [d1, d2, d3, d4] }
  | _ => none }
def useMoreRow : OpenClaim := { program := "ytmgnnkampdepeaa", sum := "090f1f4ba06f11649ddf11551bb9ab6bf1f0d7de90190051a4c2e6b4e903d185", func := "scutage/scutagelaw14.UseMore", spec := "useMore", apart := false }
def UseMoreSaid : Prop := useMoreRow.holds Try.pinned (OpenSpec.ofChange useMoreSpec)

/-- ITS FALSE NEIGHBOUR: 'it returns false'. Refute it at one input. -/
def useMoreWrong : ChangeSpec := { name := "useMore", fn := fun _ => fun
  | [d1, d2, d3, d4] => { results := [.lit (.bool false)], args := [d1, d2, d3, d4] }
  | _ => none }
def UseMoreWrongFalsely : Prop := useMoreRow.holds Try.pinned (OpenSpec.ofChange useMoreWrong)

/-- 'scutagelaw14.UseTwice': WHATEVER THE INPUT: true; the input reads as it did. -/
def useTwiceSpec : ChangeSpec := { name := "useTwice", fn := fun _ => fun
  | [d1, d2, d3, d4] => { results := [.lit (.bool true)], args := [d1, d2, d3, d4] }
  | _ => none }
def useTwiceRow : OpenClaim := { program := "ytmgnnkampdepeaa", sum := "090f1f4ba06f11649ddf11551bb9ab6bf1f0d7de90190051a4c2e6b4e903d185", func := "scutage/scutagelaw14.UseTwice", spec := "useTwice", apart := false }
def UseTwiceSaid : Prop := useTwiceRow.holds Try.pinned (OpenSpec.ofChange useTwiceSpec)

/-- ITS FALSE NEIGHBOUR: 'it returns false'. Refute it at one input. -/
def useTwiceWrong : ChangeSpec := { name := "useTwice", fn := fun _ => fun
  | [d1, d2, d3, d4] => { results := [.lit (.bool false)], args := [d1, d2, d3, d4] }
  | _ => none }
def UseTwiceWrongFalsely : Prop := useTwiceRow.holds Try.pinned (OpenSpec.ofChange useTwiceWrong)

/-- 'scutagelaw14.UseTells': WHATEVER THE INPUT: true; the input reads as it did. -/
def useTellsSpec : ChangeSpec := { name := "useTells", fn := fun _ => fun
  | [d1, d2, d3, d4, d5, d6] => { results := [.lit (.bool true)], args := [d1, d2, d3, d4, d5, d6] }
  | _ => none }
def useTellsRow : OpenClaim := { program := "ytmgnnkampdepeaa", sum := "090f1f4ba06f11649ddf11551bb9ab6bf1f0d7de90190051a4c2e6b4e903d185", func := "scutage/scutagelaw14.UseTells", spec := "useTells", apart := false }
def UseTellsSaid : Prop := useTellsRow.holds Try.pinned (OpenSpec.ofChange useTellsSpec)

/-- ITS FALSE NEIGHBOUR: 'it returns false'. Refute it at one input. -/
def useTellsWrong : ChangeSpec := { name := "useTells", fn := fun _ => fun
  | [d1, d2, d3, d4, d5, d6] => { results := [.lit (.bool false)], args := [d1, d2, d3, d4, d5, d6] }
  | _ => none }
def UseTellsWrongFalsely : Prop := useTellsRow.holds Try.pinned (OpenSpec.ofChange useTellsWrong)

/-- 'scutagelaw14.UseOnly': WHATEVER THE INPUT: true; the input reads as it did. -/
def useOnlySpec : ChangeSpec := { name := "useOnly", fn := fun _ => fun
  | [d1, d2, d3, d4] => { results := [.lit (.bool true)], args := [d1, d2, d3, d4] }
  | _ => none }
def useOnlyRow : OpenClaim := { program := "ytmgnnkampdepeaa", sum := "090f1f4ba06f11649ddf11551bb9ab6bf1f0d7de90190051a4c2e6b4e903d185", func := "scutage/scutagelaw14.UseOnly", spec := "useOnly", apart := false }
def UseOnlySaid : Prop := useOnlyRow.holds Try.pinned (OpenSpec.ofChange useOnlySpec)

/-- ITS FALSE NEIGHBOUR: 'it returns false'. Refute it at one input. -/
def useOnlyWrong : ChangeSpec := { name := "useOnly", fn := fun _ => fun
  | [d1, d2, d3, d4] => { results := [.lit (.bool false)], args := [d1, d2, d3, d4] }
  | _ => none }
def UseOnlyWrongFalsely : Prop := useOnlyRow.holds Try.pinned (OpenSpec.ofChange useOnlyWrong)

/-- 'scutagelaw14.UseRoom': WHATEVER THE INPUT: true; the input reads as it did. -/
def useRoomSpec : ChangeSpec := { name := "useRoom", fn := fun _ => fun
  | [d1, d2] => { results := [.lit (.bool true)], args := [d1, d2] }
  | _ => none }
def useRoomRow : OpenClaim := { program := "ytmgnnkampdepeaa", sum := "090f1f4ba06f11649ddf11551bb9ab6bf1f0d7de90190051a4c2e6b4e903d185", func := "scutage/scutagelaw14.UseRoom", spec := "useRoom", apart := false }
def UseRoomSaid : Prop := useRoomRow.holds Try.pinned (OpenSpec.ofChange useRoomSpec)

/-- ITS FALSE NEIGHBOUR: 'it returns false'. Refute it at one input. -/
def useRoomWrong : ChangeSpec := { name := "useRoom", fn := fun _ => fun
  | [d1, d2] => { results := [.lit (.bool false)], args := [d1, d2] }
  | _ => none }
def UseRoomWrongFalsely : Prop := useRoomRow.holds Try.pinned (OpenSpec.ofChange useRoomWrong)

/- THE SECOND FORM. 'bulk': how many values and letters a reading holds, each counted each time it is reached (what is shared counts as often as it is met; a slice's spare places count too). A statement '..UptoSaid' is the law's where the arguments, and the package variables that the reading takes, are together of bulk at most 1048576: NARROWER than '..Said'. Prove '..Said' where nothing that the law and all that it calls make is longer than what came in: it says more and counts as full. Else prove '..UptoSaid'. A law counts once. -/
mutual
def uptoBulk {H : Type} : DataW H → Nat
  | .lit (.string bytes) => bytes.length + 1
  | .lit _ => 1
  | .nil => 1
  | .ptr d => uptoBulk d + 1
  | .slice elems spare => uptoBulkAll elems + uptoBulkAll spare + 1
  | .agg parts => uptoBulkAll parts + 1
  | .iface _ d => uptoBulk d + 1
  | .map entries => uptoBulkEntries entries + 1
  | .held _ => 1
def uptoBulkAll {H : Type} : List (DataW H) → Nat
  | [] => 0
  | d :: r => uptoBulk d + uptoBulkAll r
def uptoBulkEntries {H : Type} : List (Lit × DataW H) → Nat
  | [] => 0
  | x :: r => uptoBulkEntry x + uptoBulkEntries r
def uptoBulkEntry {H : Type} : Lit × DataW H → Nat
  | (.string bytes, d) => bytes.length + uptoBulk d + 1
  | (_, d) => uptoBulk d + 1
 end
def uptoSmall : (H : Type) → List (DataW H) → Bool := fun _ ds => decide (uptoBulkAll ds ≤ 1048576)
def OpenSpec.upto (s : _root_.Go.ChangeSpec) : _root_.Go.OpenSpec := { _root_.Go.OpenSpec.ofChange s with cond := some uptoSmall }

/-- 'scutagelaw14.UseMore', WHERE WHAT IT READS IS OF BULK AT MOST 1048576: true; the input reads as it did. -/
def useMoreUptoRow : OpenClaim := { program := "ytmgnnkampdepeaa", sum := "090f1f4ba06f11649ddf11551bb9ab6bf1f0d7de90190051a4c2e6b4e903d185", func := "scutage/scutagelaw14.UseMore", spec := "useMore", apart := false, narrowed := true }
def UseMoreUptoSaid : Prop := useMoreUptoRow.holds Try.pinned (OpenSpec.upto useMoreSpec)

/-- 'scutagelaw14.UseTwice', WHERE WHAT IT READS IS OF BULK AT MOST 1048576: true; the input reads as it did. -/
def useTwiceUptoRow : OpenClaim := { program := "ytmgnnkampdepeaa", sum := "090f1f4ba06f11649ddf11551bb9ab6bf1f0d7de90190051a4c2e6b4e903d185", func := "scutage/scutagelaw14.UseTwice", spec := "useTwice", apart := false, narrowed := true }
def UseTwiceUptoSaid : Prop := useTwiceUptoRow.holds Try.pinned (OpenSpec.upto useTwiceSpec)

/-- 'scutagelaw14.UseTells', WHERE WHAT IT READS IS OF BULK AT MOST 1048576: true; the input reads as it did. -/
def useTellsUptoRow : OpenClaim := { program := "ytmgnnkampdepeaa", sum := "090f1f4ba06f11649ddf11551bb9ab6bf1f0d7de90190051a4c2e6b4e903d185", func := "scutage/scutagelaw14.UseTells", spec := "useTells", apart := false, narrowed := true }
def UseTellsUptoSaid : Prop := useTellsUptoRow.holds Try.pinned (OpenSpec.upto useTellsSpec)

/-- 'scutagelaw14.UseOnly', WHERE WHAT IT READS IS OF BULK AT MOST 1048576: true; the input reads as it did. -/
def useOnlyUptoRow : OpenClaim := { program := "ytmgnnkampdepeaa", sum := "090f1f4ba06f11649ddf11551bb9ab6bf1f0d7de90190051a4c2e6b4e903d185", func := "scutage/scutagelaw14.UseOnly", spec := "useOnly", apart := false, narrowed := true }
def UseOnlyUptoSaid : Prop := useOnlyUptoRow.holds Try.pinned (OpenSpec.upto useOnlySpec)

/-- 'scutagelaw14.UseRoom', WHERE WHAT IT READS IS OF BULK AT MOST 1048576: true; the input reads as it did. -/
def useRoomUptoRow : OpenClaim := { program := "ytmgnnkampdepeaa", sum := "090f1f4ba06f11649ddf11551bb9ab6bf1f0d7de90190051a4c2e6b4e903d185", func := "scutage/scutagelaw14.UseRoom", spec := "useRoom", apart := false, narrowed := true }
def UseRoomUptoSaid : Prop := useRoomUptoRow.holds Try.pinned (OpenSpec.upto useRoomSpec)

end Rows
end Go.Proofs.Ytmgnnkampdepeaa
