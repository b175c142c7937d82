/-
  No cell of these rows narrows 'for every input' (looked for: loops, veiled, ifaces, maps, wideKeys, modest, calm, conditions, laid).
  DERIVED. THE GIVEN ROWS OF THIS SEAT. 5 by the template 'for every input the law returns true; each argument reads behind the call as it read before'; 0 by the template 'total and deterministic' (their statements: YthconfcpajnjgaaTotals.lean).
  GIVEN WITH THE SEED: the statements are not yours to turn. If you find one false, say at which input.
  Laid BY PROGRAM, IN A SANDBOX (cutbox-rows.mjs): the forced cells as the released guide's own fill.sh prints them over the translation 509f2e83edb4459d… (all of the seat's roots in one cut). By AI agents, Wed Nov 11 2026. No macro, syntax, notation, axiom, sorry.
-/
import Derived.Test.YthconfcpajnjgaaChecked
import GoSem.Claim
import GoSem.ClaimJoined
import GoSem.ClaimMapViews
import Derived.JoinedTies
import Derived.KernelRfl
namespace Go.Proofs.Ythconfcpajnjgaa
/- THE CELL 'sum', in the pinned program and in every row, IS THE sha256 OF THE DUMP (.gsa) THAT YthconfcpajnjgaaProg.lean LOADS. Nothing in Lean hashes anything: it is a label: what it is worth is what the hold of that sum in a sandbox is worth. -/
noncomputable def Try.pinned : Pinned := { name := "ythconfcpajnjgaa", sum := "509f2e83edb4459d2cb6b0ff0af639fc557fee9ab42232b373c5cb208729817c", checked := Try.checked }
namespace Rows
def none {H : Type} : Left H := { results := [], args := [] }

/-- 'scutagelaw10.BucketOver': WHATEVER THE INPUT: true; the input reads as it did. -/
def bucketOverSpec : ChangeSpec := { name := "bucketOver", fn := fun _ => fun
  | [d] => { results := [.lit (.bool true)], args := [d] }
  | _ => none }
def bucketOverRow : OpenClaim := { program := "ythconfcpajnjgaa", sum := "509f2e83edb4459d2cb6b0ff0af639fc557fee9ab42232b373c5cb208729817c", func := "scutage/scutagelaw10.BucketOver", spec := "bucketOver", inPlace := ["slices.overlaps[scutage/api.Bucket]", "math/bits.Add64"], unfollowed := true, recurses := true, apart := false }
def BucketOverSaid : Prop := bucketOverRow.holds Try.pinned (OpenSpec.ofChange bucketOverSpec)

/-- ITS FALSE NEIGHBOUR: 'it returns false'. Refute it at one input. -/
def bucketOverWrong : ChangeSpec := { name := "bucketOver", fn := fun _ => fun
  | [d] => { results := [.lit (.bool false)], args := [d] }
  | _ => none }
def BucketOverWrongFalsely : Prop := bucketOverRow.holds Try.pinned (OpenSpec.ofChange bucketOverWrong)

/-- 'scutagelaw10.BucketOwn': WHATEVER THE INPUT: true; the input reads as it did. -/
def bucketOwnSpec : ChangeSpec := { name := "bucketOwn", fn := fun _ => fun
  | [d] => { results := [.lit (.bool true)], args := [d] }
  | _ => none }
def bucketOwnRow : OpenClaim := { program := "ythconfcpajnjgaa", sum := "509f2e83edb4459d2cb6b0ff0af639fc557fee9ab42232b373c5cb208729817c", func := "scutage/scutagelaw10.BucketOwn", spec := "bucketOwn", inPlace := ["slices.overlaps[scutage/api.Bucket]", "math/bits.Add64"], unfollowed := true, recurses := true, apart := false }
def BucketOwnSaid : Prop := bucketOwnRow.holds Try.pinned (OpenSpec.ofChange bucketOwnSpec)

/-- ITS FALSE NEIGHBOUR: 'it returns false'. Refute it at one input. -/
def bucketOwnWrong : ChangeSpec := { name := "bucketOwn", fn := fun _ => fun
  | [d] => { results := [.lit (.bool false)], args := [d] }
  | _ => none }
def BucketOwnWrongFalsely : Prop := bucketOwnRow.holds Try.pinned (OpenSpec.ofChange bucketOwnWrong)

/-- 'scutagelaw10.BucketPlays': WHATEVER THE INPUT: true; the input reads as it did. -/
def bucketPlaysSpec : ChangeSpec := { name := "bucketPlays", fn := fun _ => fun
  | [d] => { results := [.lit (.bool true)], args := [d] }
  | _ => none }
def bucketPlaysRow : OpenClaim := { program := "ythconfcpajnjgaa", sum := "509f2e83edb4459d2cb6b0ff0af639fc557fee9ab42232b373c5cb208729817c", func := "scutage/scutagelaw10.BucketPlays", spec := "bucketPlays", inPlace := ["slices.overlaps[scutage/api.Bucket]", "math/bits.Add64"], unfollowed := true, recurses := true, apart := false }
def BucketPlaysSaid : Prop := bucketPlaysRow.holds Try.pinned (OpenSpec.ofChange bucketPlaysSpec)

/-- ITS FALSE NEIGHBOUR: 'it returns false'. Refute it at one input. -/
def bucketPlaysWrong : ChangeSpec := { name := "bucketPlays", fn := fun _ => fun
  | [d] => { results := [.lit (.bool false)], args := [d] }
  | _ => none }
def BucketPlaysWrongFalsely : Prop := bucketPlaysRow.holds Try.pinned (OpenSpec.ofChange bucketPlaysWrong)

/-- 'scutagelaw10.BucketSums': WHATEVER THE INPUT: true; the input reads as it did. -/
def bucketSumsSpec : ChangeSpec := { name := "bucketSums", fn := fun _ => fun
  | [d1, d2, d3, d4, d5, d6] => { results := [.lit (.bool true)], args := [d1, d2, d3, d4, d5, d6] }
  | _ => none }
def bucketSumsRow : OpenClaim := { program := "ythconfcpajnjgaa", sum := "509f2e83edb4459d2cb6b0ff0af639fc557fee9ab42232b373c5cb208729817c", func := "scutage/scutagelaw10.BucketSums", spec := "bucketSums", inPlace := ["math/bits.Add64", "slices.overlaps[scutage/api.Bucket]"], unfollowed := true, recurses := true, apart := false }
def BucketSumsSaid : Prop := bucketSumsRow.holds Try.pinned (OpenSpec.ofChange bucketSumsSpec)

/-- ITS FALSE NEIGHBOUR: 'it returns false'. Refute it at one input. -/
def bucketSumsWrong : ChangeSpec := { name := "bucketSums", fn := fun _ => fun
  | [d1, d2, d3, d4, d5, d6] => { results := [.lit (.bool false)], args := [d1, d2, d3, d4, d5, d6] }
  | _ => none }
def BucketSumsWrongFalsely : Prop := bucketSumsRow.holds Try.pinned (OpenSpec.ofChange bucketSumsWrong)

/-- 'scutagelaw10.BucketLimits': WHATEVER THE INPUT: true; the input reads as it did. -/
def bucketLimitsSpec : ChangeSpec := { name := "bucketLimits", fn := fun _ => fun
  | [d] => { results := [.lit (.bool true)], args := [d] }
  | _ => none }
def bucketLimitsRow : OpenClaim := { program := "ythconfcpajnjgaa", sum := "509f2e83edb4459d2cb6b0ff0af639fc557fee9ab42232b373c5cb208729817c", func := "scutage/scutagelaw10.BucketLimits", spec := "bucketLimits", inPlace := ["slices.overlaps[scutage/api.Bucket]", "math/bits.Add64"], unfollowed := true, recurses := true, apart := false }
def BucketLimitsSaid : Prop := bucketLimitsRow.holds Try.pinned (OpenSpec.ofChange bucketLimitsSpec)

/-- ITS FALSE NEIGHBOUR: 'it returns false'. Refute it at one input. -/
def bucketLimitsWrong : ChangeSpec := { name := "bucketLimits", fn := fun _ => fun
  | [d] => { results := [.lit (.bool false)], args := [d] }
  | _ => none }
def BucketLimitsWrongFalsely : Prop := bucketLimitsRow.holds Try.pinned (OpenSpec.ofChange bucketLimitsWrong)

/- THE SECOND FORM. 'bulk': how many values and letters a reading holds, each counted each time it is reached (what is shared counts as often as it is met; a slice's spare places count too). A statement '..UptoSaid' is the law's where the arguments, and the package variables that the reading takes, are together of bulk at most 1048576: NARROWER than '..Said'. Prove '..Said' where nothing that the law and all that it calls make is longer than what came in: it says more and counts as full. Else prove '..UptoSaid'. A law counts once. -/
mutual
def uptoBulk {H : Type} : DataW H → Nat
  | .lit (.string bytes) => bytes.length + 1
  | .lit _ => 1
  | .nil => 1
  | .ptr d => uptoBulk d + 1
  | .slice elems spare => uptoBulkAll elems + uptoBulkAll spare + 1
  | .agg parts => uptoBulkAll parts + 1
  | .iface _ d => uptoBulk d + 1
  | .map entries => uptoBulkEntries entries + 1
  | .held _ => 1
def uptoBulkAll {H : Type} : List (DataW H) → Nat
  | [] => 0
  | d :: r => uptoBulk d + uptoBulkAll r
def uptoBulkEntries {H : Type} : List (Lit × DataW H) → Nat
  | [] => 0
  | x :: r => uptoBulkEntry x + uptoBulkEntries r
def uptoBulkEntry {H : Type} : Lit × DataW H → Nat
  | (.string bytes, d) => bytes.length + uptoBulk d + 1
  | (_, d) => uptoBulk d + 1
 end
def uptoSmall : (H : Type) → List (DataW H) → Bool := fun _ ds => decide (uptoBulkAll ds ≤ 1048576)
def OpenSpec.upto (s : _root_.Go.ChangeSpec) : _root_.Go.OpenSpec := { _root_.Go.OpenSpec.ofChange s with cond := some uptoSmall }

/-- 'scutagelaw10.BucketOver', WHERE WHAT IT READS IS OF BULK AT MOST 1048576: true; the input reads as it did. -/
def bucketOverUptoRow : OpenClaim := { program := "ythconfcpajnjgaa", sum := "509f2e83edb4459d2cb6b0ff0af639fc557fee9ab42232b373c5cb208729817c", func := "scutage/scutagelaw10.BucketOver", spec := "bucketOver", inPlace := ["slices.overlaps[scutage/api.Bucket]", "math/bits.Add64"], unfollowed := true, recurses := true, apart := false, narrowed := true }
def BucketOverUptoSaid : Prop := bucketOverUptoRow.holds Try.pinned (OpenSpec.upto bucketOverSpec)

/-- 'scutagelaw10.BucketOwn', WHERE WHAT IT READS IS OF BULK AT MOST 1048576: true; the input reads as it did. -/
def bucketOwnUptoRow : OpenClaim := { program := "ythconfcpajnjgaa", sum := "509f2e83edb4459d2cb6b0ff0af639fc557fee9ab42232b373c5cb208729817c", func := "scutage/scutagelaw10.BucketOwn", spec := "bucketOwn", inPlace := ["slices.overlaps[scutage/api.Bucket]", "math/bits.Add64"], unfollowed := true, recurses := true, apart := false, narrowed := true }
def BucketOwnUptoSaid : Prop := bucketOwnUptoRow.holds Try.pinned (OpenSpec.upto bucketOwnSpec)

/-- 'scutagelaw10.BucketPlays', WHERE WHAT IT READS IS OF BULK AT MOST 1048576: true; the input reads as it did. -/
def bucketPlaysUptoRow : OpenClaim := { program := "ythconfcpajnjgaa", sum := "509f2e83edb4459d2cb6b0ff0af639fc557fee9ab42232b373c5cb208729817c", func := "scutage/scutagelaw10.BucketPlays", spec := "bucketPlays", inPlace := ["slices.overlaps[scutage/api.Bucket]", "math/bits.Add64"], unfollowed := true, recurses := true, apart := false, narrowed := true }
def BucketPlaysUptoSaid : Prop := bucketPlaysUptoRow.holds Try.pinned (OpenSpec.upto bucketPlaysSpec)

/-- 'scutagelaw10.BucketSums', WHERE WHAT IT READS IS OF BULK AT MOST 1048576: true; the input reads as it did. -/
def bucketSumsUptoRow : OpenClaim := { program := "ythconfcpajnjgaa", sum := "509f2e83edb4459d2cb6b0ff0af639fc557fee9ab42232b373c5cb208729817c", func := "scutage/scutagelaw10.BucketSums", spec := "bucketSums", inPlace := ["math/bits.Add64", "slices.overlaps[scutage/api.Bucket]"], unfollowed := true, recurses := true, apart := false, narrowed := true }
def BucketSumsUptoSaid : Prop := bucketSumsUptoRow.holds Try.pinned (OpenSpec.upto bucketSumsSpec)

/-- 'scutagelaw10.BucketLimits', WHERE WHAT IT READS IS OF BULK AT MOST 1048576: true; the input reads as it did. -/
def bucketLimitsUptoRow : OpenClaim := { program := "ythconfcpajnjgaa", sum := "509f2e83edb4459d2cb6b0ff0af639fc557fee9ab42232b373c5cb208729817c", func := "scutage/scutagelaw10.BucketLimits", spec := "bucketLimits", inPlace := ["slices.overlaps[scutage/api.Bucket]", "math/bits.Add64"], unfollowed := true, recurses := true, apart := false, narrowed := true }
def BucketLimitsUptoSaid : Prop := bucketLimitsUptoRow.holds Try.pinned (OpenSpec.upto bucketLimitsSpec)

end Rows
end Go.Proofs.Ythconfcpajnjgaa
