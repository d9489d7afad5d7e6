/-
  No cell of these rows narrows 'for every input' (looked for: loops, veiled, ifaces, maps, wideKeys, modest, calm, conditions, laid).
  DERIVED. THE GIVEN ROWS OF THIS SEAT. 3 by the template 'for every input the law returns true; each argument reads behind the call as it read before'; 0 by the template 'total and deterministic' (their statements: YtdmadfahgkikkaaGreatTotals.lean).
  GIVEN WITH THE SEED: the statements are not yours to turn. If you find one false, say at which input.
  Laid BY PROGRAM, IN A SANDBOX (cutbox-rows.mjs): the forced cells as the released guide's own fill.sh prints them over the translation 5bd5521aa5c27bb0… (all of the seat's roots in one cut). By AI agents, Wed Nov 11 2026. No macro, syntax, notation, axiom, sorry.
-/
import Derived.Test.YtdmadfahgkikkaaGreatChecked
import GoSem.Claim
import GoSem.ClaimJoined
import GoSem.ClaimMapViews
import Derived.JoinedTies
import Derived.KernelRfl
namespace Go.Proofs.YtdmadfahgkikkaaGreat
/- THE CELL 'sum', in the pinned program and in every row, IS THE sha256 OF THE DUMP (.gsa) THAT YtdmadfahgkikkaaGreatProg.lean LOADS. Nothing in Lean hashes anything: it is a label: what it is worth is what the hold of that sum in a sandbox is worth. -/
noncomputable def Tryz.pinned : Pinned := { name := "ytdmadfahgkikkaagreat", sum := "5bd5521aa5c27bb0f19ded6a1043dbef419c9dcfc71400fcba232d5ac21024d3", checked := Tryz.checked }
namespace Rows
def none {H : Type} : Left H := { results := [], args := [] }

/-- 'taciturnlaw13.InterpKnown': WHATEVER THE INPUT: true; the input reads as it did. -/
def interpKnownSpec : ChangeSpec := { name := "interpKnown", fn := fun _ => fun
  | [] => { results := [.lit (.bool true)], args := [] }
  | _ => none }
def interpKnownRow : OpenClaim := { program := "ytdmadfahgkikkaagreat", sum := "5bd5521aa5c27bb0f19ded6a1043dbef419c9dcfc71400fcba232d5ac21024d3", func := "taciturn/taciturnlaw13.InterpKnown", spec := "interpKnown", unfollowed := true, recurses := true, apart := false }
def InterpKnownSaid : Prop := interpKnownRow.holds Tryz.pinned (OpenSpec.ofChange interpKnownSpec)

/-- ITS FALSE NEIGHBOUR: 'it returns false'. Refute it at one input. -/
def interpKnownWrong : ChangeSpec := { name := "interpKnown", fn := fun _ => fun
  | [] => { results := [.lit (.bool false)], args := [] }
  | _ => none }
def InterpKnownWrongFalsely : Prop := interpKnownRow.holds Tryz.pinned (OpenSpec.ofChange interpKnownWrong)

/-- 'taciturnlaw13.InterpSums': WHATEVER THE INPUT: true; the input reads as it did. -/
def interpSumsSpec : ChangeSpec := { name := "interpSums", fn := fun _ => fun
  | [d1, d2] => { results := [.lit (.bool true)], args := [d1, d2] }
  | _ => none }
def interpSumsRow : OpenClaim := { program := "ytdmadfahgkikkaagreat", sum := "5bd5521aa5c27bb0f19ded6a1043dbef419c9dcfc71400fcba232d5ac21024d3", func := "taciturn/taciturnlaw13.InterpSums", spec := "interpSums", unfollowed := true, recurses := true, apart := false }
def InterpSumsSaid : Prop := interpSumsRow.holds Tryz.pinned (OpenSpec.ofChange interpSumsSpec)

/-- ITS FALSE NEIGHBOUR: 'it returns false'. Refute it at one input. -/
def interpSumsWrong : ChangeSpec := { name := "interpSums", fn := fun _ => fun
  | [d1, d2] => { results := [.lit (.bool false)], args := [d1, d2] }
  | _ => none }
def InterpSumsWrongFalsely : Prop := interpSumsRow.holds Tryz.pinned (OpenSpec.ofChange interpSumsWrong)

/-- 'taciturnlaw13.InterpCalls': WHATEVER THE INPUT: true; the input reads as it did. -/
def interpCallsSpec : ChangeSpec := { name := "interpCalls", fn := fun _ => fun
  | [d] => { results := [.lit (.bool true)], args := [d] }
  | _ => none }
def interpCallsRow : OpenClaim := { program := "ytdmadfahgkikkaagreat", sum := "5bd5521aa5c27bb0f19ded6a1043dbef419c9dcfc71400fcba232d5ac21024d3", func := "taciturn/taciturnlaw13.InterpCalls", spec := "interpCalls", unfollowed := true, recurses := true, apart := false }
def InterpCallsSaid : Prop := interpCallsRow.holds Tryz.pinned (OpenSpec.ofChange interpCallsSpec)

/-- ITS FALSE NEIGHBOUR: 'it returns false'. Refute it at one input. -/
def interpCallsWrong : ChangeSpec := { name := "interpCalls", fn := fun _ => fun
  | [d] => { results := [.lit (.bool false)], args := [d] }
  | _ => none }
def InterpCallsWrongFalsely : Prop := interpCallsRow.holds Tryz.pinned (OpenSpec.ofChange interpCallsWrong)

/- THE SECOND FORM. 'bulk': how many values and letters a reading holds, each counted each time it is reached (what is shared counts as often as it is met; a slice's spare places count too). A statement '..UptoSaid' is the law's where the arguments, and the package variables that the reading takes, are together of bulk at most 1048576: NARROWER than '..Said'. Prove '..Said' where nothing that the law and all that it calls make is longer than what came in: it says more and counts as full. Else prove '..UptoSaid'. A law counts once. -/
mutual
def uptoBulk {H : Type} : DataW H → Nat
  | .lit (.string bytes) => bytes.length + 1
  | .lit _ => 1
  | .nil => 1
  | .ptr d => uptoBulk d + 1
  | .slice elems spare => uptoBulkAll elems + uptoBulkAll spare + 1
  | .agg parts => uptoBulkAll parts + 1
  | .iface _ d => uptoBulk d + 1
  | .map entries => uptoBulkEntries entries + 1
  | .held _ => 1
def uptoBulkAll {H : Type} : List (DataW H) → Nat
  | [] => 0
  | d :: r => uptoBulk d + uptoBulkAll r
def uptoBulkEntries {H : Type} : List (Lit × DataW H) → Nat
  | [] => 0
  | x :: r => uptoBulkEntry x + uptoBulkEntries r
def uptoBulkEntry {H : Type} : Lit × DataW H → Nat
  | (.string bytes, d) => bytes.length + uptoBulk d + 1
  | (_, d) => uptoBulk d + 1
 end
def uptoSmall : (H : Type) → List (DataW H) → Bool := fun _ ds => decide (uptoBulkAll ds ≤ 1048576)
def OpenSpec.upto (s : _root_.Go.ChangeSpec) : _root_.Go.OpenSpec := { _root_.Go.OpenSpec.ofChange s with cond := some uptoSmall }

/-- 'taciturnlaw13.InterpKnown', WHERE WHAT IT READS IS OF BULK AT MOST 1048576: true; the input reads as it did. -/
def interpKnownUptoRow : OpenClaim := { program := "ytdmadfahgkikkaagreat", sum := "5bd5521aa5c27bb0f19ded6a1043dbef419c9dcfc71400fcba232d5ac21024d3", func := "taciturn/taciturnlaw13.InterpKnown", spec := "interpKnown", unfollowed := true, recurses := true, apart := false, narrowed := true }
def InterpKnownUptoSaid : Prop := interpKnownUptoRow.holds Tryz.pinned (OpenSpec.upto interpKnownSpec)

/-- 'taciturnlaw13.InterpSums', WHERE WHAT IT READS IS OF BULK AT MOST 1048576: true; the input reads as it did. -/
def interpSumsUptoRow : OpenClaim := { program := "ytdmadfahgkikkaagreat", sum := "5bd5521aa5c27bb0f19ded6a1043dbef419c9dcfc71400fcba232d5ac21024d3", func := "taciturn/taciturnlaw13.InterpSums", spec := "interpSums", unfollowed := true, recurses := true, apart := false, narrowed := true }
def InterpSumsUptoSaid : Prop := interpSumsUptoRow.holds Tryz.pinned (OpenSpec.upto interpSumsSpec)

/-- 'taciturnlaw13.InterpCalls', WHERE WHAT IT READS IS OF BULK AT MOST 1048576: true; the input reads as it did. -/
def interpCallsUptoRow : OpenClaim := { program := "ytdmadfahgkikkaagreat", sum := "5bd5521aa5c27bb0f19ded6a1043dbef419c9dcfc71400fcba232d5ac21024d3", func := "taciturn/taciturnlaw13.InterpCalls", spec := "interpCalls", unfollowed := true, recurses := true, apart := false, narrowed := true }
def InterpCallsUptoSaid : Prop := interpCallsUptoRow.holds Tryz.pinned (OpenSpec.upto interpCallsSpec)

end Rows
end Go.Proofs.YtdmadfahgkikkaaGreat
