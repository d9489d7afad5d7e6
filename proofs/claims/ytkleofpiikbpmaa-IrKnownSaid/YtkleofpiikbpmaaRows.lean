/-
  No cell of these rows narrows 'for every input' (looked for: loops, veiled, ifaces, maps, wideKeys, modest, calm, conditions, laid).
  DERIVED. THE GIVEN ROWS OF THIS SEAT. 2 by the template 'for every input the law returns true; each argument reads behind the call as it read before'; 0 by the template 'total and deterministic' (their statements: YtkleofpiikbpmaaTotals.lean).
  GIVEN WITH THE SEED: the statements are not yours to turn. If you find one false, say at which input.
  Laid BY PROGRAM, IN A SANDBOX (cutbox-rows.mjs): the forced cells as the released guide's own fill.sh prints them over the translation f2674477119912e6… (all of the seat's roots in one cut). By AI agents, Wed Nov 11 2026. No macro, syntax, notation, axiom, sorry.
-/
import Derived.Test.YtkleofpiikbpmaaChecked
import GoSem.Claim
import GoSem.ClaimJoined
import GoSem.ClaimMapViews
import Derived.JoinedTies
import Derived.KernelRfl
namespace Go.Proofs.Ytkleofpiikbpmaa
/- THE CELL 'sum', in the pinned program and in every row, IS THE sha256 OF THE DUMP (.gsa) THAT YtkleofpiikbpmaaProg.lean LOADS. Nothing in Lean hashes anything: it is a label: what it is worth is what the hold of that sum in a sandbox is worth. -/
noncomputable def Try.pinned : Pinned := { name := "ytkleofpiikbpmaa", sum := "f2674477119912e6e88d2d956f370082e7274acffcc5095cd3d5f6af01230c41", checked := Try.checked }
namespace Rows
def none {H : Type} : Left H := { results := [], args := [] }

/-- 'taciturnlaw17.IrKnown': WHATEVER THE INPUT: true; the input reads as it did. -/
def irKnownSpec : ChangeSpec := { name := "irKnown", fn := fun _ => fun
  | [] => { results := [.lit (.bool true)], args := [] }
  | _ => none }
def irKnownRow : OpenClaim := { program := "ytkleofpiikbpmaa", sum := "f2674477119912e6e88d2d956f370082e7274acffcc5095cd3d5f6af01230c41", func := "taciturn/taciturnlaw17.IrKnown", spec := "irKnown", unfollowed := true, recurses := true, apart := false }
def IrKnownSaid : Prop := irKnownRow.holds Try.pinned (OpenSpec.ofChange irKnownSpec)

/-- ITS FALSE NEIGHBOUR: 'it returns false'. Refute it at one input. -/
def irKnownWrong : ChangeSpec := { name := "irKnown", fn := fun _ => fun
  | [] => { results := [.lit (.bool false)], args := [] }
  | _ => none }
def IrKnownWrongFalsely : Prop := irKnownRow.holds Try.pinned (OpenSpec.ofChange irKnownWrong)

/-- 'taciturnlaw17.IrMeans': WHATEVER THE INPUT: true; the input reads as it did. -/
def irMeansSpec : ChangeSpec := { name := "irMeans", fn := fun _ => fun
  | [d1, d2, d3, d4] => { results := [.lit (.bool true)], args := [d1, d2, d3, d4] }
  | _ => none }
def irMeansRow : OpenClaim := { program := "ytkleofpiikbpmaa", sum := "f2674477119912e6e88d2d956f370082e7274acffcc5095cd3d5f6af01230c41", func := "taciturn/taciturnlaw17.IrMeans", spec := "irMeans", apart := false }
def IrMeansSaid : Prop := irMeansRow.holds Try.pinned (OpenSpec.ofChange irMeansSpec)

/-- ITS FALSE NEIGHBOUR: 'it returns false'. Refute it at one input. -/
def irMeansWrong : ChangeSpec := { name := "irMeans", fn := fun _ => fun
  | [d1, d2, d3, d4] => { results := [.lit (.bool false)], args := [d1, d2, d3, d4] }
  | _ => none }
def IrMeansWrongFalsely : Prop := irMeansRow.holds Try.pinned (OpenSpec.ofChange irMeansWrong)

/- THE SECOND FORM. 'bulk': how many values and letters a reading holds, each counted each time it is reached (what is shared counts as often as it is met; a slice's spare places count too). A statement '..UptoSaid' is the law's where the arguments, and the package variables that the reading takes, are together of bulk at most 1048576: NARROWER than '..Said'. Prove '..Said' where nothing that the law and all that it calls make is longer than what came in: it says more and counts as full. Else prove '..UptoSaid'. A law counts once. -/
mutual
def uptoBulk {H : Type} : DataW H → Nat
  | .lit (.string bytes) => bytes.length + 1
  | .lit _ => 1
  | .nil => 1
  | .ptr d => uptoBulk d + 1
  | .slice elems spare => uptoBulkAll elems + uptoBulkAll spare + 1
  | .agg parts => uptoBulkAll parts + 1
  | .iface _ d => uptoBulk d + 1
  | .map entries => uptoBulkEntries entries + 1
  | .held _ => 1
def uptoBulkAll {H : Type} : List (DataW H) → Nat
  | [] => 0
  | d :: r => uptoBulk d + uptoBulkAll r
def uptoBulkEntries {H : Type} : List (Lit × DataW H) → Nat
  | [] => 0
  | x :: r => uptoBulkEntry x + uptoBulkEntries r
def uptoBulkEntry {H : Type} : Lit × DataW H → Nat
  | (.string bytes, d) => bytes.length + uptoBulk d + 1
  | (_, d) => uptoBulk d + 1
 end
def uptoSmall : (H : Type) → List (DataW H) → Bool := fun _ ds => decide (uptoBulkAll ds ≤ 1048576)
def OpenSpec.upto (s : _root_.Go.ChangeSpec) : _root_.Go.OpenSpec := { _root_.Go.OpenSpec.ofChange s with cond := some uptoSmall }

/-- 'taciturnlaw17.IrKnown', WHERE WHAT IT READS IS OF BULK AT MOST 1048576: true; the input reads as it did. -/
def irKnownUptoRow : OpenClaim := { program := "ytkleofpiikbpmaa", sum := "f2674477119912e6e88d2d956f370082e7274acffcc5095cd3d5f6af01230c41", func := "taciturn/taciturnlaw17.IrKnown", spec := "irKnown", unfollowed := true, recurses := true, apart := false, narrowed := true }
def IrKnownUptoSaid : Prop := irKnownUptoRow.holds Try.pinned (OpenSpec.upto irKnownSpec)

/-- 'taciturnlaw17.IrMeans', WHERE WHAT IT READS IS OF BULK AT MOST 1048576: true; the input reads as it did. -/
def irMeansUptoRow : OpenClaim := { program := "ytkleofpiikbpmaa", sum := "f2674477119912e6e88d2d956f370082e7274acffcc5095cd3d5f6af01230c41", func := "taciturn/taciturnlaw17.IrMeans", spec := "irMeans", apart := false, narrowed := true }
def IrMeansUptoSaid : Prop := irMeansUptoRow.holds Try.pinned (OpenSpec.upto irMeansSpec)

end Rows
end Go.Proofs.Ytkleofpiikbpmaa
