/-
  DERIVED. GIVEN WITH THE SEED: THE CARDS: each row of YtdnpgfdlmacfkabGreatDoorRows.lean that lists a variable, with what it lists TIED to the program's text (the seventh form; the later family's looks); each row that meets fmt, with fmt's text TOLD by the authors' own Lean function (tested against real Go, not proved from fmt's source: count such statements apart). THE CARD IS WHAT COUNTS. Prove the row's statement (the work); the ties are given (YtdnpgfdlmacfkabGreatDoorTie.lean); close each card by the builder's one call (the guide's Derived/Test/ToyasCard.lean, 'card_holds'). Laid BY PROGRAM, IN A SANDBOX (cutbox-door.mjs). By AI agents, Wed Nov 11 2026. No macro, syntax, notation, axiom, sorry.
-/
import Derived.Test.YtdnpgfdlmacfkabGreatDoorRows
import GoSem.ClaimSeven
namespace Go.Proofs.YtdnpgfdlmacfkabGreatDoor
namespace Rows

/-- THE TIED CARD OF 'wharfingerlaw22.ChiefCancels'. -/
def chiefCancelsCard : Claim7 := { stood := { row := chiefCancelsRow, standIns := [], harness := (true, "1def58fbd5886ca7dea1574750d0f3f3c20a5d17fe9a81b9b447c7fe517eab44"), looks := false }, kinds := [], alts := [], laidByText := true, laidKinds := [.data, .data, .data], laidTests := true, laidLooks := .later }
def ChiefCancelsCardSaid : Prop := Claim7.holds Tryz.pinned (.plain (OpenSpec.ofChange chiefCancelsSpec)) chiefCancelsCard

/-- THE TIED CARD OF 'wharfingerlaw22.ChiefRoom'. -/
def chiefRoomCard : Claim7 := { stood := { row := chiefRoomRow, standIns := [], harness := (true, "1def58fbd5886ca7dea1574750d0f3f3c20a5d17fe9a81b9b447c7fe517eab44"), looks := false }, kinds := [], alts := [], laidByText := true, laidKinds := [.data, .data, .data], laidTests := true, laidLooks := .later }
def ChiefRoomCardSaid : Prop := Claim7.holds Tryz.pinned (.plain (OpenSpec.ofChange chiefRoomSpec)) chiefRoomCard

/-- THE SECOND FORM's CARD OF 'wharfingerlaw22.ChiefCancels'. -/
def chiefCancelsUptoCard : Claim7 := { stood := { row := chiefCancelsUptoRow, standIns := [], harness := (true, "1def58fbd5886ca7dea1574750d0f3f3c20a5d17fe9a81b9b447c7fe517eab44"), looks := false }, kinds := [], alts := [], laidByText := true, laidKinds := [.data, .data, .data], laidTests := true, laidLooks := .later }
def ChiefCancelsUptoCardSaid : Prop := Claim7.holds Tryz.pinned (.plain (OpenSpec.upto chiefCancelsSpec)) chiefCancelsUptoCard

/-- THE SECOND FORM's CARD OF 'wharfingerlaw22.ChiefRoom'. -/
def chiefRoomUptoCard : Claim7 := { stood := { row := chiefRoomUptoRow, standIns := [], harness := (true, "1def58fbd5886ca7dea1574750d0f3f3c20a5d17fe9a81b9b447c7fe517eab44"), looks := false }, kinds := [], alts := [], laidByText := true, laidKinds := [.data, .data, .data], laidTests := true, laidLooks := .later }
def ChiefRoomUptoCardSaid : Prop := Claim7.holds Tryz.pinned (.plain (OpenSpec.upto chiefRoomSpec)) chiefRoomUptoCard
end Rows
end Go.Proofs.YtdnpgfdlmacfkabGreatDoor
