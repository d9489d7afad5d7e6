/-
  DERIVED. GIVEN WITH THE SEED: THE CARDS: each row of YtdmadfahgkikkaaDoorRows.lean that lists a variable, with what it lists TIED to the program's text (the seventh form; the later family's looks); each row that meets fmt, with fmt's text TOLD by the authors' own Lean function (tested against real Go, not proved from fmt's source: count such statements apart). THE CARD IS WHAT COUNTS. Prove the row's statement (the work); the ties are given (YtdmadfahgkikkaaDoorTie.lean); close each card by the builder's one call (the guide's Derived/Test/ToyasCard.lean, 'card_holds'). Laid BY PROGRAM, IN A SANDBOX (cutbox-door.mjs). By AI agents, Wed Nov 11 2026. No macro, syntax, notation, axiom, sorry.
-/
import Derived.Test.YtdmadfahgkikkaaDoorRows
import GoSem.ClaimSeven
namespace Go.Proofs.YtdmadfahgkikkaaDoor
namespace Rows

/-- THE TIED CARD OF 'taciturnlaw12.RoomKnown'. -/
def roomKnownCard : Claim7 := { stood := { row := roomKnownRow, standIns := [], harness := (true, "3ca60a81c907570cf6cf615b9f81464729d7cd5cbe1d75c96617ee52f260dca7"), looks := false }, kinds := [], alts := [], laidByText := true, laidKinds := [.data], laidTests := true, laidLooks := .later }
def RoomKnownCardSaid : Prop := Claim7.holds Tryd.pinned (.plain (OpenSpec.ofChange roomKnownSpec)) roomKnownCard

/-- THE TIED CARD OF 'taciturnlaw12.RoomServes'. -/
def roomServesCard : Claim7 := { stood := { row := roomServesRow, standIns := [], harness := (true, "3ca60a81c907570cf6cf615b9f81464729d7cd5cbe1d75c96617ee52f260dca7"), looks := false }, kinds := [], alts := [], laidByText := true, laidKinds := [.data], laidTests := true, laidLooks := .later }
def RoomServesCardSaid : Prop := Claim7.holds Tryd.pinned (.plain (OpenSpec.ofChange roomServesSpec)) roomServesCard

/-- THE TIED CARD OF 'taciturnlaw12.RoomFields'. -/
def roomFieldsCard : Claim7 := { stood := { row := roomFieldsRow, standIns := [], harness := (true, "3ca60a81c907570cf6cf615b9f81464729d7cd5cbe1d75c96617ee52f260dca7"), looks := false }, kinds := [], alts := [], laidByText := true, laidKinds := [.data], laidTests := true, laidLooks := .later }
def RoomFieldsCardSaid : Prop := Claim7.holds Tryd.pinned (.plain (OpenSpec.ofChange roomFieldsSpec)) roomFieldsCard

/-- THE SECOND FORM's CARD OF 'taciturnlaw12.RoomKnown'. -/
def roomKnownUptoCard : Claim7 := { stood := { row := roomKnownUptoRow, standIns := [], harness := (true, "3ca60a81c907570cf6cf615b9f81464729d7cd5cbe1d75c96617ee52f260dca7"), looks := false }, kinds := [], alts := [], laidByText := true, laidKinds := [.data], laidTests := true, laidLooks := .later }
def RoomKnownUptoCardSaid : Prop := Claim7.holds Tryd.pinned (.plain (OpenSpec.upto roomKnownSpec)) roomKnownUptoCard

/-- THE SECOND FORM's CARD OF 'taciturnlaw12.RoomServes'. -/
def roomServesUptoCard : Claim7 := { stood := { row := roomServesUptoRow, standIns := [], harness := (true, "3ca60a81c907570cf6cf615b9f81464729d7cd5cbe1d75c96617ee52f260dca7"), looks := false }, kinds := [], alts := [], laidByText := true, laidKinds := [.data], laidTests := true, laidLooks := .later }
def RoomServesUptoCardSaid : Prop := Claim7.holds Tryd.pinned (.plain (OpenSpec.upto roomServesSpec)) roomServesUptoCard

/-- THE SECOND FORM's CARD OF 'taciturnlaw12.RoomFields'. -/
def roomFieldsUptoCard : Claim7 := { stood := { row := roomFieldsUptoRow, standIns := [], harness := (true, "3ca60a81c907570cf6cf615b9f81464729d7cd5cbe1d75c96617ee52f260dca7"), looks := false }, kinds := [], alts := [], laidByText := true, laidKinds := [.data], laidTests := true, laidLooks := .later }
def RoomFieldsUptoCardSaid : Prop := Claim7.holds Tryd.pinned (.plain (OpenSpec.upto roomFieldsSpec)) roomFieldsUptoCard
end Rows
end Go.Proofs.YtdmadfahgkikkaaDoor
