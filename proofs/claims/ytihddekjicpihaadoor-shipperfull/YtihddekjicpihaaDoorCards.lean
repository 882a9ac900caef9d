/-
  DERIVED. GIVEN WITH THE SEED: THE CARDS: each row of YtihddekjicpihaaDoorRows.lean that lists a variable, with what it lists TIED to the program's text (the seventh form; the later family's looks); each row that meets fmt, with fmt's text TOLD by the authors' own Lean function (tested against real Go, not proved from fmt's source: count such statements apart). THE CARD IS WHAT COUNTS. Prove the row's statement (the work); the ties are given (YtihddekjicpihaaDoorTie.lean); close each card by the builder's one call (the guide's Derived/Test/ToyasCard.lean, 'card_holds'). Laid BY PROGRAM, IN A SANDBOX (cutbox-door.mjs). By AI agents, Wed Nov 11 2026. No macro, syntax, notation, axiom, sorry.
-/
import Derived.Test.YtihddekjicpihaaDoorRows
import GoSem.ClaimSeven
namespace Go.Proofs.YtihddekjicpihaaDoor
namespace Rows

/-- THE TIED CARD OF 'wharfingerlaw21.ShipperOthers'. -/
def shipperOthersCard : Claim7 := { stood := { row := shipperOthersRow, standIns := [], harness := (true, "7f830860be00ec65ec9cf44250651648f94c32c9c0eddc5d2a6cde012bf66e06"), looks := false }, kinds := [], alts := [], laidByText := true, laidKinds := [.data, .data, .data], laidTests := true, laidLooks := .later }
def ShipperOthersCardSaid : Prop := Claim7.holds Tryd.pinned (.plain (OpenSpec.ofChange shipperOthersSpec)) shipperOthersCard

/-- THE TIED CARD OF 'wharfingerlaw21.ShipperFull'. -/
def shipperFullCard : Claim7 := { stood := { row := shipperFullRow, standIns := [], harness := (true, "7f830860be00ec65ec9cf44250651648f94c32c9c0eddc5d2a6cde012bf66e06"), looks := false }, kinds := [], alts := [], laidByText := true, laidKinds := [.data, .data, .data], laidTests := true, laidLooks := .later }
def ShipperFullCardSaid : Prop := Claim7.holds Tryd.pinned (.plain (OpenSpec.ofChange shipperFullSpec)) shipperFullCard

/-- THE SECOND FORM's CARD OF 'wharfingerlaw21.ShipperOthers'. -/
def shipperOthersUptoCard : Claim7 := { stood := { row := shipperOthersUptoRow, standIns := [], harness := (true, "7f830860be00ec65ec9cf44250651648f94c32c9c0eddc5d2a6cde012bf66e06"), looks := false }, kinds := [], alts := [], laidByText := true, laidKinds := [.data, .data, .data], laidTests := true, laidLooks := .later }
def ShipperOthersUptoCardSaid : Prop := Claim7.holds Tryd.pinned (.plain (OpenSpec.upto shipperOthersSpec)) shipperOthersUptoCard

/-- THE SECOND FORM's CARD OF 'wharfingerlaw21.ShipperFull'. -/
def shipperFullUptoCard : Claim7 := { stood := { row := shipperFullUptoRow, standIns := [], harness := (true, "7f830860be00ec65ec9cf44250651648f94c32c9c0eddc5d2a6cde012bf66e06"), looks := false }, kinds := [], alts := [], laidByText := true, laidKinds := [.data, .data, .data], laidTests := true, laidLooks := .later }
def ShipperFullUptoCardSaid : Prop := Claim7.holds Tryd.pinned (.plain (OpenSpec.upto shipperFullSpec)) shipperFullUptoCard
end Rows
end Go.Proofs.YtihddekjicpihaaDoor
