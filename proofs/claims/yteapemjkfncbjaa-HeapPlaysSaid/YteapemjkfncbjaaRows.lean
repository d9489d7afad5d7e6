/-
  No cell of these rows narrows 'for every input' (looked for: loops, veiled, ifaces, maps, wideKeys, modest, calm, conditions, laid).
  DERIVED. THE GIVEN ROWS OF THIS SEAT. 5 by the template 'for every input the law returns true; each argument reads behind the call as it read before'; 0 by the template 'total and deterministic' (their statements: YteapemjkfncbjaaTotals.lean).
  GIVEN WITH THE SEED: the statements are not yours to turn. If you find one false, say at which input.
  Laid BY PROGRAM, IN A SANDBOX (cutbox-rows.mjs): the forced cells as the released guide's own fill.sh prints them over the translation 34d093c0cf4a405a… (all of the seat's roots in one cut). By AI agents, Wed Nov 11 2026. No macro, syntax, notation, axiom, sorry.
-/
import Derived.Test.YteapemjkfncbjaaChecked
import GoSem.Claim
import GoSem.ClaimJoined
import GoSem.ClaimMapViews
import Derived.JoinedTies
import Derived.KernelRfl
namespace Go.Proofs.Yteapemjkfncbjaa
/- THE CELL 'sum', in the pinned program and in every row, IS THE sha256 OF THE DUMP (.gsa) THAT YteapemjkfncbjaaProg.lean LOADS. Nothing in Lean hashes anything: it is a label: what it is worth is what the hold of that sum in a sandbox is worth. -/
noncomputable def Try.pinned : Pinned := { name := "yteapemjkfncbjaa", sum := "34d093c0cf4a405ae0f31aae6617c5a9e0bbc804bd329c18c27b90d4a58fba3a", checked := Try.checked }
namespace Rows
def none {H : Type} : Left H := { results := [], args := [] }

/-- 'taciturnlaw8.HeapPlays': WHATEVER THE INPUT: true; the input reads as it did. -/
def heapPlaysSpec : ChangeSpec := { name := "heapPlays", fn := fun _ => fun
  | [d1, d2] => { results := [.lit (.bool true)], args := [d1, d2] }
  | _ => none }
def heapPlaysRow : OpenClaim := { program := "yteapemjkfncbjaa", sum := "34d093c0cf4a405ae0f31aae6617c5a9e0bbc804bd329c18c27b90d4a58fba3a", func := "taciturn/taciturnlaw8.HeapPlays", spec := "heapPlays", apart := false }
def HeapPlaysSaid : Prop := heapPlaysRow.holds Try.pinned (OpenSpec.ofChange heapPlaysSpec)

/-- ITS FALSE NEIGHBOUR: 'it returns false'. Refute it at one input. -/
def heapPlaysWrong : ChangeSpec := { name := "heapPlays", fn := fun _ => fun
  | [d1, d2] => { results := [.lit (.bool false)], args := [d1, d2] }
  | _ => none }
def HeapPlaysWrongFalsely : Prop := heapPlaysRow.holds Try.pinned (OpenSpec.ofChange heapPlaysWrong)

/-- 'taciturnlaw9.WallKnown': WHATEVER THE INPUT: true; the input reads as it did. -/
def wallKnownSpec : ChangeSpec := { name := "wallKnown", fn := fun _ => fun
  | [] => { results := [.lit (.bool true)], args := [] }
  | _ => none }
def wallKnownRow : OpenClaim := { program := "yteapemjkfncbjaa", sum := "34d093c0cf4a405ae0f31aae6617c5a9e0bbc804bd329c18c27b90d4a58fba3a", func := "taciturn/taciturnlaw9.WallKnown", spec := "wallKnown", apart := false }
def WallKnownSaid : Prop := wallKnownRow.holds Try.pinned (OpenSpec.ofChange wallKnownSpec)

/-- ITS FALSE NEIGHBOUR: 'it returns false'. Refute it at one input. -/
def wallKnownWrong : ChangeSpec := { name := "wallKnown", fn := fun _ => fun
  | [] => { results := [.lit (.bool false)], args := [] }
  | _ => none }
def WallKnownWrongFalsely : Prop := wallKnownRow.holds Try.pinned (OpenSpec.ofChange wallKnownWrong)

/-- 'taciturnlaw9.WallTells': WHATEVER THE INPUT: true; the input reads as it did. -/
def wallTellsSpec : ChangeSpec := { name := "wallTells", fn := fun _ => fun
  | [d1, d2, d3, d4, d5, d6, d7] => { results := [.lit (.bool true)], args := [d1, d2, d3, d4, d5, d6, d7] }
  | _ => none }
def wallTellsRow : OpenClaim := { program := "yteapemjkfncbjaa", sum := "34d093c0cf4a405ae0f31aae6617c5a9e0bbc804bd329c18c27b90d4a58fba3a", func := "taciturn/taciturnlaw9.WallTells", spec := "wallTells", apart := false }
def WallTellsSaid : Prop := wallTellsRow.holds Try.pinned (OpenSpec.ofChange wallTellsSpec)

/-- ITS FALSE NEIGHBOUR: 'it returns false'. Refute it at one input. -/
def wallTellsWrong : ChangeSpec := { name := "wallTells", fn := fun _ => fun
  | [d1, d2, d3, d4, d5, d6, d7] => { results := [.lit (.bool false)], args := [d1, d2, d3, d4, d5, d6, d7] }
  | _ => none }
def WallTellsWrongFalsely : Prop := wallTellsRow.holds Try.pinned (OpenSpec.ofChange wallTellsWrong)

/-- 'taciturnlaw9.WallHolds': WHATEVER THE INPUT: true; the input reads as it did. -/
def wallHoldsSpec : ChangeSpec := { name := "wallHolds", fn := fun _ => fun
  | [d1, d2, d3, d4, d5] => { results := [.lit (.bool true)], args := [d1, d2, d3, d4, d5] }
  | _ => none }
def wallHoldsRow : OpenClaim := { program := "yteapemjkfncbjaa", sum := "34d093c0cf4a405ae0f31aae6617c5a9e0bbc804bd329c18c27b90d4a58fba3a", func := "taciturn/taciturnlaw9.WallHolds", spec := "wallHolds", apart := false }
def WallHoldsSaid : Prop := wallHoldsRow.holds Try.pinned (OpenSpec.ofChange wallHoldsSpec)

/-- ITS FALSE NEIGHBOUR: 'it returns false'. Refute it at one input. -/
def wallHoldsWrong : ChangeSpec := { name := "wallHolds", fn := fun _ => fun
  | [d1, d2, d3, d4, d5] => { results := [.lit (.bool false)], args := [d1, d2, d3, d4, d5] }
  | _ => none }
def WallHoldsWrongFalsely : Prop := wallHoldsRow.holds Try.pinned (OpenSpec.ofChange wallHoldsWrong)

/-- 'taciturnlaw9.WallParts': WHATEVER THE INPUT: true; the input reads as it did. -/
def wallPartsSpec : ChangeSpec := { name := "wallParts", fn := fun _ => fun
  | [d1, d2, d3, d4, d5, d6, d7] => { results := [.lit (.bool true)], args := [d1, d2, d3, d4, d5, d6, d7] }
  | _ => none }
def wallPartsRow : OpenClaim := { program := "yteapemjkfncbjaa", sum := "34d093c0cf4a405ae0f31aae6617c5a9e0bbc804bd329c18c27b90d4a58fba3a", func := "taciturn/taciturnlaw9.WallParts", spec := "wallParts", apart := false }
def WallPartsSaid : Prop := wallPartsRow.holds Try.pinned (OpenSpec.ofChange wallPartsSpec)

/-- ITS FALSE NEIGHBOUR: 'it returns false'. Refute it at one input. -/
def wallPartsWrong : ChangeSpec := { name := "wallParts", fn := fun _ => fun
  | [d1, d2, d3, d4, d5, d6, d7] => { results := [.lit (.bool false)], args := [d1, d2, d3, d4, d5, d6, d7] }
  | _ => none }
def WallPartsWrongFalsely : Prop := wallPartsRow.holds Try.pinned (OpenSpec.ofChange wallPartsWrong)

/- THE SECOND FORM. 'bulk': how many values and letters a reading holds, each counted each time it is reached (what is shared counts as often as it is met; a slice's spare places count too). A statement '..UptoSaid' is the law's where the arguments, and the package variables that the reading takes, are together of bulk at most 1048576: NARROWER than '..Said'. Prove '..Said' where nothing that the law and all that it calls make is longer than what came in: it says more and counts as full. Else prove '..UptoSaid'. A law counts once. -/
mutual
def uptoBulk {H : Type} : DataW H → Nat
  | .lit (.string bytes) => bytes.length + 1
  | .lit _ => 1
  | .nil => 1
  | .ptr d => uptoBulk d + 1
  | .slice elems spare => uptoBulkAll elems + uptoBulkAll spare + 1
  | .agg parts => uptoBulkAll parts + 1
  | .iface _ d => uptoBulk d + 1
  | .map entries => uptoBulkEntries entries + 1
  | .held _ => 1
def uptoBulkAll {H : Type} : List (DataW H) → Nat
  | [] => 0
  | d :: r => uptoBulk d + uptoBulkAll r
def uptoBulkEntries {H : Type} : List (Lit × DataW H) → Nat
  | [] => 0
  | x :: r => uptoBulkEntry x + uptoBulkEntries r
def uptoBulkEntry {H : Type} : Lit × DataW H → Nat
  | (.string bytes, d) => bytes.length + uptoBulk d + 1
  | (_, d) => uptoBulk d + 1
 end
def uptoSmall : (H : Type) → List (DataW H) → Bool := fun _ ds => decide (uptoBulkAll ds ≤ 1048576)
def OpenSpec.upto (s : _root_.Go.ChangeSpec) : _root_.Go.OpenSpec := { _root_.Go.OpenSpec.ofChange s with cond := some uptoSmall }

/-- 'taciturnlaw8.HeapPlays', WHERE WHAT IT READS IS OF BULK AT MOST 1048576: true; the input reads as it did. -/
def heapPlaysUptoRow : OpenClaim := { program := "yteapemjkfncbjaa", sum := "34d093c0cf4a405ae0f31aae6617c5a9e0bbc804bd329c18c27b90d4a58fba3a", func := "taciturn/taciturnlaw8.HeapPlays", spec := "heapPlays", apart := false, narrowed := true }
def HeapPlaysUptoSaid : Prop := heapPlaysUptoRow.holds Try.pinned (OpenSpec.upto heapPlaysSpec)

/-- 'taciturnlaw9.WallKnown', WHERE WHAT IT READS IS OF BULK AT MOST 1048576: true; the input reads as it did. -/
def wallKnownUptoRow : OpenClaim := { program := "yteapemjkfncbjaa", sum := "34d093c0cf4a405ae0f31aae6617c5a9e0bbc804bd329c18c27b90d4a58fba3a", func := "taciturn/taciturnlaw9.WallKnown", spec := "wallKnown", apart := false, narrowed := true }
def WallKnownUptoSaid : Prop := wallKnownUptoRow.holds Try.pinned (OpenSpec.upto wallKnownSpec)

/-- 'taciturnlaw9.WallTells', WHERE WHAT IT READS IS OF BULK AT MOST 1048576: true; the input reads as it did. -/
def wallTellsUptoRow : OpenClaim := { program := "yteapemjkfncbjaa", sum := "34d093c0cf4a405ae0f31aae6617c5a9e0bbc804bd329c18c27b90d4a58fba3a", func := "taciturn/taciturnlaw9.WallTells", spec := "wallTells", apart := false, narrowed := true }
def WallTellsUptoSaid : Prop := wallTellsUptoRow.holds Try.pinned (OpenSpec.upto wallTellsSpec)

/-- 'taciturnlaw9.WallHolds', WHERE WHAT IT READS IS OF BULK AT MOST 1048576: true; the input reads as it did. -/
def wallHoldsUptoRow : OpenClaim := { program := "yteapemjkfncbjaa", sum := "34d093c0cf4a405ae0f31aae6617c5a9e0bbc804bd329c18c27b90d4a58fba3a", func := "taciturn/taciturnlaw9.WallHolds", spec := "wallHolds", apart := false, narrowed := true }
def WallHoldsUptoSaid : Prop := wallHoldsUptoRow.holds Try.pinned (OpenSpec.upto wallHoldsSpec)

/-- 'taciturnlaw9.WallParts', WHERE WHAT IT READS IS OF BULK AT MOST 1048576: true; the input reads as it did. -/
def wallPartsUptoRow : OpenClaim := { program := "yteapemjkfncbjaa", sum := "34d093c0cf4a405ae0f31aae6617c5a9e0bbc804bd329c18c27b90d4a58fba3a", func := "taciturn/taciturnlaw9.WallParts", spec := "wallParts", apart := false, narrowed := true }
def WallPartsUptoSaid : Prop := wallPartsUptoRow.holds Try.pinned (OpenSpec.upto wallPartsSpec)

end Rows
end Go.Proofs.Yteapemjkfncbjaa
