/-
  No cell of these rows narrows 'for every input' (looked for: loops, veiled, ifaces, maps, wideKeys, modest, calm, conditions, laid).
  DERIVED. THE GIVEN ROWS OF THIS SEAT. 4 by the template 'for every input the law returns true; each argument reads behind the call as it read before'; 0 by the template 'total and deterministic' (their statements: YtecknkbjgleocaaTotals.lean).
  GIVEN WITH THE SEED: the statements are not yours to turn. If you find one false, say at which input.
  Laid BY PROGRAM, IN A SANDBOX (cutbox-rows.mjs): the forced cells as the released guide's own fill.sh prints them over the translation a4e6fefc6560da1b… (all of the seat's roots in one cut). By AI agents, Wed Nov 11 2026. No macro, syntax, notation, axiom, sorry.
-/
import Derived.Test.YtecknkbjgleocaaChecked
import GoSem.Claim
import GoSem.ClaimJoined
import GoSem.ClaimMapViews
import Derived.JoinedTies
import Derived.KernelRfl
namespace Go.Proofs.Ytecknkbjgleocaa
/- THE CELL 'sum', in the pinned program and in every row, IS THE sha256 OF THE DUMP (.gsa) THAT YtecknkbjgleocaaProg.lean LOADS. Nothing in Lean hashes anything: it is a label: what it is worth is what the hold of that sum in a sandbox is worth. -/
noncomputable def Try.pinned : Pinned := { name := "ytecknkbjgleocaa", sum := "a4e6fefc6560da1bb80c877b3c63ee4df7d79efca6d344a19086de645d7618ca", checked := Try.checked }
namespace Rows
def none {H : Type} : Left H := { results := [], args := [] }

/-- 'scutagelaw03.PeriodOrder': WHATEVER THE INPUT: true; the input reads as it did. -/
def periodOrderSpec : ChangeSpec := { name := "periodOrder", fn := fun _ => fun
  | [d1, d2] => { results := [.lit (.bool true)], args := [d1, d2] }
  | _ => none }
def periodOrderRow : OpenClaim := { program := "ytecknkbjgleocaa", sum := "a4e6fefc6560da1bb80c877b3c63ee4df7d79efca6d344a19086de645d7618ca", func := "scutage/scutagelaw03.PeriodOrder", spec := "periodOrder", apart := false }
def PeriodOrderSaid : Prop := periodOrderRow.holds Try.pinned (OpenSpec.ofChange periodOrderSpec)

/-- ITS FALSE NEIGHBOUR: 'it returns false'. Refute it at one input. -/
def periodOrderWrong : ChangeSpec := { name := "periodOrder", fn := fun _ => fun
  | [d1, d2] => { results := [.lit (.bool false)], args := [d1, d2] }
  | _ => none }
def PeriodOrderWrongFalsely : Prop := periodOrderRow.holds Try.pinned (OpenSpec.ofChange periodOrderWrong)

/-- 'scutagelaw03.PeriodTells': WHATEVER THE INPUT: true; the input reads as it did. -/
def periodTellsSpec : ChangeSpec := { name := "periodTells", fn := fun _ => fun
  | [d1, d2, d3, d4] => { results := [.lit (.bool true)], args := [d1, d2, d3, d4] }
  | _ => none }
def periodTellsRow : OpenClaim := { program := "ytecknkbjgleocaa", sum := "a4e6fefc6560da1bb80c877b3c63ee4df7d79efca6d344a19086de645d7618ca", func := "scutage/scutagelaw03.PeriodTells", spec := "periodTells", apart := false }
def PeriodTellsSaid : Prop := periodTellsRow.holds Try.pinned (OpenSpec.ofChange periodTellsSpec)

/-- ITS FALSE NEIGHBOUR: 'it returns false'. Refute it at one input. -/
def periodTellsWrong : ChangeSpec := { name := "periodTells", fn := fun _ => fun
  | [d1, d2, d3, d4] => { results := [.lit (.bool false)], args := [d1, d2, d3, d4] }
  | _ => none }
def PeriodTellsWrongFalsely : Prop := periodTellsRow.holds Try.pinned (OpenSpec.ofChange periodTellsWrong)

/-- 'scutagelaw03.PeriodBack': WHATEVER THE INPUT: true; the input reads as it did. -/
def periodBackSpec : ChangeSpec := { name := "periodBack", fn := fun _ => fun
  | [d1, d2, d3] => { results := [.lit (.bool true)], args := [d1, d2, d3] }
  | _ => none }
def periodBackRow : OpenClaim := { program := "ytecknkbjgleocaa", sum := "a4e6fefc6560da1bb80c877b3c63ee4df7d79efca6d344a19086de645d7618ca", func := "scutage/scutagelaw03.PeriodBack", spec := "periodBack", apart := false }
def PeriodBackSaid : Prop := periodBackRow.holds Try.pinned (OpenSpec.ofChange periodBackSpec)

/-- ITS FALSE NEIGHBOUR: 'it returns false'. Refute it at one input. -/
def periodBackWrong : ChangeSpec := { name := "periodBack", fn := fun _ => fun
  | [d1, d2, d3] => { results := [.lit (.bool false)], args := [d1, d2, d3] }
  | _ => none }
def PeriodBackWrongFalsely : Prop := periodBackRow.holds Try.pinned (OpenSpec.ofChange periodBackWrong)

/-- 'scutagelaw03.PeriodYears': WHATEVER THE INPUT: true; the input reads as it did. -/
def periodYearsSpec : ChangeSpec := { name := "periodYears", fn := fun _ => fun
  | [d] => { results := [.lit (.bool true)], args := [d] }
  | _ => none }
def periodYearsRow : OpenClaim := { program := "ytecknkbjgleocaa", sum := "a4e6fefc6560da1bb80c877b3c63ee4df7d79efca6d344a19086de645d7618ca", func := "scutage/scutagelaw03.PeriodYears", spec := "periodYears", apart := false }
def PeriodYearsSaid : Prop := periodYearsRow.holds Try.pinned (OpenSpec.ofChange periodYearsSpec)

/-- ITS FALSE NEIGHBOUR: 'it returns false'. Refute it at one input. -/
def periodYearsWrong : ChangeSpec := { name := "periodYears", fn := fun _ => fun
  | [d] => { results := [.lit (.bool false)], args := [d] }
  | _ => none }
def PeriodYearsWrongFalsely : Prop := periodYearsRow.holds Try.pinned (OpenSpec.ofChange periodYearsWrong)

/- THE SECOND FORM. 'bulk': how many values and letters a reading holds, each counted each time it is reached (what is shared counts as often as it is met; a slice's spare places count too). A statement '..UptoSaid' is the law's where the arguments, and the package variables that the reading takes, are together of bulk at most 1048576: NARROWER than '..Said'. Prove '..Said' where nothing that the law and all that it calls make is longer than what came in: it says more and counts as full. Else prove '..UptoSaid'. A law counts once. -/
mutual
def uptoBulk {H : Type} : DataW H → Nat
  | .lit (.string bytes) => bytes.length + 1
  | .lit _ => 1
  | .nil => 1
  | .ptr d => uptoBulk d + 1
  | .slice elems spare => uptoBulkAll elems + uptoBulkAll spare + 1
  | .agg parts => uptoBulkAll parts + 1
  | .iface _ d => uptoBulk d + 1
  | .map entries => uptoBulkEntries entries + 1
  | .held _ => 1
def uptoBulkAll {H : Type} : List (DataW H) → Nat
  | [] => 0
  | d :: r => uptoBulk d + uptoBulkAll r
def uptoBulkEntries {H : Type} : List (Lit × DataW H) → Nat
  | [] => 0
  | x :: r => uptoBulkEntry x + uptoBulkEntries r
def uptoBulkEntry {H : Type} : Lit × DataW H → Nat
  | (.string bytes, d) => bytes.length + uptoBulk d + 1
  | (_, d) => uptoBulk d + 1
 end
def uptoSmall : (H : Type) → List (DataW H) → Bool := fun _ ds => decide (uptoBulkAll ds ≤ 1048576)
def OpenSpec.upto (s : _root_.Go.ChangeSpec) : _root_.Go.OpenSpec := { _root_.Go.OpenSpec.ofChange s with cond := some uptoSmall }

/-- 'scutagelaw03.PeriodOrder', WHERE WHAT IT READS IS OF BULK AT MOST 1048576: true; the input reads as it did. -/
def periodOrderUptoRow : OpenClaim := { program := "ytecknkbjgleocaa", sum := "a4e6fefc6560da1bb80c877b3c63ee4df7d79efca6d344a19086de645d7618ca", func := "scutage/scutagelaw03.PeriodOrder", spec := "periodOrder", apart := false, narrowed := true }
def PeriodOrderUptoSaid : Prop := periodOrderUptoRow.holds Try.pinned (OpenSpec.upto periodOrderSpec)

/-- 'scutagelaw03.PeriodTells', WHERE WHAT IT READS IS OF BULK AT MOST 1048576: true; the input reads as it did. -/
def periodTellsUptoRow : OpenClaim := { program := "ytecknkbjgleocaa", sum := "a4e6fefc6560da1bb80c877b3c63ee4df7d79efca6d344a19086de645d7618ca", func := "scutage/scutagelaw03.PeriodTells", spec := "periodTells", apart := false, narrowed := true }
def PeriodTellsUptoSaid : Prop := periodTellsUptoRow.holds Try.pinned (OpenSpec.upto periodTellsSpec)

/-- 'scutagelaw03.PeriodBack', WHERE WHAT IT READS IS OF BULK AT MOST 1048576: true; the input reads as it did. -/
def periodBackUptoRow : OpenClaim := { program := "ytecknkbjgleocaa", sum := "a4e6fefc6560da1bb80c877b3c63ee4df7d79efca6d344a19086de645d7618ca", func := "scutage/scutagelaw03.PeriodBack", spec := "periodBack", apart := false, narrowed := true }
def PeriodBackUptoSaid : Prop := periodBackUptoRow.holds Try.pinned (OpenSpec.upto periodBackSpec)

/-- 'scutagelaw03.PeriodYears', WHERE WHAT IT READS IS OF BULK AT MOST 1048576: true; the input reads as it did. -/
def periodYearsUptoRow : OpenClaim := { program := "ytecknkbjgleocaa", sum := "a4e6fefc6560da1bb80c877b3c63ee4df7d79efca6d344a19086de645d7618ca", func := "scutage/scutagelaw03.PeriodYears", spec := "periodYears", apart := false, narrowed := true }
def PeriodYearsUptoSaid : Prop := periodYearsUptoRow.holds Try.pinned (OpenSpec.upto periodYearsSpec)

end Rows
end Go.Proofs.Ytecknkbjgleocaa
