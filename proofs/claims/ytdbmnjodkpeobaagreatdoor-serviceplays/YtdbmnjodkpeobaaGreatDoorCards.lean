/-
  DERIVED. GIVEN WITH THE SEED: THE CARDS: each row of YtdbmnjodkpeobaaGreatDoorRows.lean that lists a variable, with what it lists TIED to the program's text (the seventh form; the later family's looks); each row that meets fmt, with fmt's text TOLD by the authors' own Lean function (tested against real Go, not proved from fmt's source: count such statements apart). THE CARD IS WHAT COUNTS. Prove the row's statement (the work); the ties are given (YtdbmnjodkpeobaaGreatDoorTie.lean); close each card by the builder's one call (the guide's Derived/Test/ToyasCard.lean, 'card_holds'). Laid BY PROGRAM, IN A SANDBOX (cutbox-door.mjs). By AI agents, Wed Nov 11 2026. No macro, syntax, notation, axiom, sorry.
-/
import Derived.Test.YtdbmnjodkpeobaaGreatDoorRows
import GoSem.ClaimSeven
namespace Go.Proofs.YtdbmnjodkpeobaaGreatDoor
namespace Rows

/-- THE TIED CARD OF 'wharfingerlaw19.ServicePlays'. -/
def servicePlaysCard : Claim7 := { stood := { row := servicePlaysRow, standIns := [], harness := (true, "3df55812f9af2283754b62ed82fbec3629c5316ad6784620285d315df21d6719"), looks := true }, kinds := [], alts := [], laidByText := true, laidKinds := [.data, .data, .data, .data, .sentinel, .sentinel, .pinned], laidTests := true, laidLooks := .later }
def ServicePlaysCardSaid : Prop := Claim7.holds Tryz.pinned (.plain (OpenSpec.ofChange servicePlaysSpec)) servicePlaysCard

/-- THE TIED CARD OF 'wharfingerlaw19.ServiceNil'. -/
def serviceNilCard : Claim7 := { stood := { row := serviceNilRow, standIns := [], harness := (true, "3df55812f9af2283754b62ed82fbec3629c5316ad6784620285d315df21d6719"), looks := true }, kinds := [], alts := [], laidByText := true, laidKinds := [.data, .data, .data, .data, .sentinel, .sentinel, .pinned], laidTests := true, laidLooks := .later }
def ServiceNilCardSaid : Prop := Claim7.holds Tryz.pinned (.plain (OpenSpec.ofChange serviceNilSpec)) serviceNilCard

/-- THE TIED CARD OF 'wharfingerlaw19.ServiceLasts'. -/
def serviceLastsCard : Claim7 := { stood := { row := serviceLastsRow, standIns := [], harness := (true, "3df55812f9af2283754b62ed82fbec3629c5316ad6784620285d315df21d6719"), looks := true }, kinds := [], alts := [], laidByText := true, laidKinds := [.data, .data, .data, .data, .sentinel, .sentinel, .pinned], laidTests := true, laidLooks := .later }
def ServiceLastsCardSaid : Prop := Claim7.holds Tryz.pinned (.plain (OpenSpec.ofChange serviceLastsSpec)) serviceLastsCard

/-- THE TIED CARD OF 'wharfingerlaw19.ServiceOrders'. -/
def serviceOrdersCard : Claim7 := { stood := { row := serviceOrdersRow, standIns := [], harness := (true, "3df55812f9af2283754b62ed82fbec3629c5316ad6784620285d315df21d6719"), looks := true }, kinds := [], alts := [], laidByText := true, laidKinds := [.data, .data, .data, .data, .sentinel, .sentinel, .pinned], laidTests := true, laidLooks := .later }
def ServiceOrdersCardSaid : Prop := Claim7.holds Tryz.pinned (.plain (OpenSpec.ofChange serviceOrdersSpec)) serviceOrdersCard

/-- THE SECOND FORM's CARD OF 'wharfingerlaw19.ServicePlays'. -/
def servicePlaysUptoCard : Claim7 := { stood := { row := servicePlaysUptoRow, standIns := [], harness := (true, "3df55812f9af2283754b62ed82fbec3629c5316ad6784620285d315df21d6719"), looks := true }, kinds := [], alts := [], laidByText := true, laidKinds := [.data, .data, .data, .data, .sentinel, .sentinel, .pinned], laidTests := true, laidLooks := .later }
def ServicePlaysUptoCardSaid : Prop := Claim7.holds Tryz.pinned (.plain (OpenSpec.upto servicePlaysSpec)) servicePlaysUptoCard

/-- THE SECOND FORM's CARD OF 'wharfingerlaw19.ServiceNil'. -/
def serviceNilUptoCard : Claim7 := { stood := { row := serviceNilUptoRow, standIns := [], harness := (true, "3df55812f9af2283754b62ed82fbec3629c5316ad6784620285d315df21d6719"), looks := true }, kinds := [], alts := [], laidByText := true, laidKinds := [.data, .data, .data, .data, .sentinel, .sentinel, .pinned], laidTests := true, laidLooks := .later }
def ServiceNilUptoCardSaid : Prop := Claim7.holds Tryz.pinned (.plain (OpenSpec.upto serviceNilSpec)) serviceNilUptoCard

/-- THE SECOND FORM's CARD OF 'wharfingerlaw19.ServiceLasts'. -/
def serviceLastsUptoCard : Claim7 := { stood := { row := serviceLastsUptoRow, standIns := [], harness := (true, "3df55812f9af2283754b62ed82fbec3629c5316ad6784620285d315df21d6719"), looks := true }, kinds := [], alts := [], laidByText := true, laidKinds := [.data, .data, .data, .data, .sentinel, .sentinel, .pinned], laidTests := true, laidLooks := .later }
def ServiceLastsUptoCardSaid : Prop := Claim7.holds Tryz.pinned (.plain (OpenSpec.upto serviceLastsSpec)) serviceLastsUptoCard

/-- THE SECOND FORM's CARD OF 'wharfingerlaw19.ServiceOrders'. -/
def serviceOrdersUptoCard : Claim7 := { stood := { row := serviceOrdersUptoRow, standIns := [], harness := (true, "3df55812f9af2283754b62ed82fbec3629c5316ad6784620285d315df21d6719"), looks := true }, kinds := [], alts := [], laidByText := true, laidKinds := [.data, .data, .data, .data, .sentinel, .sentinel, .pinned], laidTests := true, laidLooks := .later }
def ServiceOrdersUptoCardSaid : Prop := Claim7.holds Tryz.pinned (.plain (OpenSpec.upto serviceOrdersSpec)) serviceOrdersUptoCard
end Rows
end Go.Proofs.YtdbmnjodkpeobaaGreatDoor
