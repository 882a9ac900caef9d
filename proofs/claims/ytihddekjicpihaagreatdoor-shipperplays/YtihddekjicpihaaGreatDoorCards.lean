/-
  DERIVED. GIVEN WITH THE SEED: THE CARDS: each row of YtihddekjicpihaaGreatDoorRows.lean that lists a variable, with what it lists TIED to the program's text (the seventh form; the later family's looks); each row that meets fmt, with fmt's text TOLD by the authors' own Lean function (tested against real Go, not proved from fmt's source: count such statements apart). THE CARD IS WHAT COUNTS. Prove the row's statement (the work); the ties are given (YtihddekjicpihaaGreatDoorTie.lean); close each card by the builder's one call (the guide's Derived/Test/ToyasCard.lean, 'card_holds'). Laid BY PROGRAM, IN A SANDBOX (cutbox-door.mjs). By AI agents, Wed Nov 11 2026. No macro, syntax, notation, axiom, sorry.
-/
import Derived.Test.YtihddekjicpihaaGreatDoorRows
import GoSem.ClaimSeven
namespace Go.Proofs.YtihddekjicpihaaGreatDoor
namespace Rows

/-- THE TIED CARD OF 'wharfingerlaw20.KeeperPlays'. -/
def keeperPlaysCard : Claim7 := { stood := { row := keeperPlaysRow, standIns := [], harness := (true, "be1ac7187356af31fae33a3ee00c4aae4720234c2379033e46167f6feecdd2fa"), looks := true }, kinds := [], alts := [], laidByText := true, laidKinds := [.data, .data, .data, .data, .sentinel, .sentinel, .data, .pinned], laidTests := true, laidLooks := .later }
def KeeperPlaysCardSaid : Prop := Claim7.holds Tryz.pinned (.plain (OpenSpec.ofChange keeperPlaysSpec)) keeperPlaysCard

/-- THE TIED CARD OF 'wharfingerlaw21.ShipperPlays'. -/
def shipperPlaysCard : Claim7 := { stood := { row := shipperPlaysRow, standIns := [], harness := (true, "be1ac7187356af31fae33a3ee00c4aae4720234c2379033e46167f6feecdd2fa"), looks := true }, kinds := [], alts := [], laidByText := true, laidKinds := [.data, .data, .data, .data, .sentinel, .sentinel, .pinned], laidTests := true, laidLooks := .later }
def ShipperPlaysCardSaid : Prop := Claim7.holds Tryz.pinned (.plain (OpenSpec.ofChange shipperPlaysSpec)) shipperPlaysCard

/-- THE TIED CARD OF 'wharfingerlaw21.ShipperNil'. -/
def shipperNilCard : Claim7 := { stood := { row := shipperNilRow, standIns := [], harness := (true, "be1ac7187356af31fae33a3ee00c4aae4720234c2379033e46167f6feecdd2fa"), looks := true }, kinds := [], alts := [], laidByText := true, laidKinds := [.data, .data, .data, .data, .sentinel, .sentinel, .pinned], laidTests := true, laidLooks := .later }
def ShipperNilCardSaid : Prop := Claim7.holds Tryz.pinned (.plain (OpenSpec.ofChange shipperNilSpec)) shipperNilCard

/-- THE TIED CARD OF 'wharfingerlaw21.ShipperOnce'. -/
def shipperOnceCard : Claim7 := { stood := { row := shipperOnceRow, standIns := [], harness := (true, "be1ac7187356af31fae33a3ee00c4aae4720234c2379033e46167f6feecdd2fa"), looks := true }, kinds := [], alts := [], laidByText := true, laidKinds := [.data, .data, .data, .data, .sentinel, .sentinel, .pinned], laidTests := true, laidLooks := .later }
def ShipperOnceCardSaid : Prop := Claim7.holds Tryz.pinned (.plain (OpenSpec.ofChange shipperOnceSpec)) shipperOnceCard

/-- THE SECOND FORM's CARD OF 'wharfingerlaw20.KeeperPlays'. -/
def keeperPlaysUptoCard : Claim7 := { stood := { row := keeperPlaysUptoRow, standIns := [], harness := (true, "be1ac7187356af31fae33a3ee00c4aae4720234c2379033e46167f6feecdd2fa"), looks := true }, kinds := [], alts := [], laidByText := true, laidKinds := [.data, .data, .data, .data, .sentinel, .sentinel, .data, .pinned], laidTests := true, laidLooks := .later }
def KeeperPlaysUptoCardSaid : Prop := Claim7.holds Tryz.pinned (.plain (OpenSpec.upto keeperPlaysSpec)) keeperPlaysUptoCard

/-- THE SECOND FORM's CARD OF 'wharfingerlaw21.ShipperPlays'. -/
def shipperPlaysUptoCard : Claim7 := { stood := { row := shipperPlaysUptoRow, standIns := [], harness := (true, "be1ac7187356af31fae33a3ee00c4aae4720234c2379033e46167f6feecdd2fa"), looks := true }, kinds := [], alts := [], laidByText := true, laidKinds := [.data, .data, .data, .data, .sentinel, .sentinel, .pinned], laidTests := true, laidLooks := .later }
def ShipperPlaysUptoCardSaid : Prop := Claim7.holds Tryz.pinned (.plain (OpenSpec.upto shipperPlaysSpec)) shipperPlaysUptoCard

/-- THE SECOND FORM's CARD OF 'wharfingerlaw21.ShipperNil'. -/
def shipperNilUptoCard : Claim7 := { stood := { row := shipperNilUptoRow, standIns := [], harness := (true, "be1ac7187356af31fae33a3ee00c4aae4720234c2379033e46167f6feecdd2fa"), looks := true }, kinds := [], alts := [], laidByText := true, laidKinds := [.data, .data, .data, .data, .sentinel, .sentinel, .pinned], laidTests := true, laidLooks := .later }
def ShipperNilUptoCardSaid : Prop := Claim7.holds Tryz.pinned (.plain (OpenSpec.upto shipperNilSpec)) shipperNilUptoCard

/-- THE SECOND FORM's CARD OF 'wharfingerlaw21.ShipperOnce'. -/
def shipperOnceUptoCard : Claim7 := { stood := { row := shipperOnceUptoRow, standIns := [], harness := (true, "be1ac7187356af31fae33a3ee00c4aae4720234c2379033e46167f6feecdd2fa"), looks := true }, kinds := [], alts := [], laidByText := true, laidKinds := [.data, .data, .data, .data, .sentinel, .sentinel, .pinned], laidTests := true, laidLooks := .later }
def ShipperOnceUptoCardSaid : Prop := Claim7.holds Tryz.pinned (.plain (OpenSpec.upto shipperOnceSpec)) shipperOnceUptoCard
end Rows
end Go.Proofs.YtihddekjicpihaaGreatDoor
