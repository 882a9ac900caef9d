/-
  DERIVED. GIVEN WITH THE SEED: THE CARDS: each row of YthfgmpooehkhgaaGreatDoorRows.lean that lists a variable, with what it lists TIED to the program's text (the seventh form; the later family's looks); each row that meets fmt, with fmt's text TOLD by the authors' own Lean function (tested against real Go, not proved from fmt's source: count such statements apart). THE CARD IS WHAT COUNTS. Prove the row's statement (the work); the ties are given (YthfgmpooehkhgaaGreatDoorTie.lean); close each card by the builder's one call (the guide's Derived/Test/ToyasCard.lean, 'card_holds'). Laid BY PROGRAM, IN A SANDBOX (cutbox-door.mjs). By AI agents, Wed Nov 11 2026. No macro, syntax, notation, axiom, sorry.
-/
import Derived.Test.YthfgmpooehkhgaaGreatDoorRows
import GoSem.ClaimSeven
namespace Go.Proofs.YthfgmpooehkhgaaGreatDoor
namespace Rows

/-- THE TIED CARD OF 'wharfingerlaw22.ChiefPlays'. -/
def chiefPlaysCard : Claim7 := { stood := { row := chiefPlaysRow, standIns := [], harness := (true, "ccc3ee3735470dee909e4608abfb3191208327d564621f2a80a5af9bbc47033d"), looks := true }, kinds := [], alts := [], laidByText := true, laidKinds := [.data, .data, .data, .data, .sentinel, .sentinel, .pinned], laidTests := true, laidLooks := .later }
def ChiefPlaysCardSaid : Prop := Claim7.holds Tryz.pinned (.plain (OpenSpec.ofChange chiefPlaysSpec)) chiefPlaysCard

/-- THE TIED CARD OF 'wharfingerlaw22.ChiefLasts'. -/
def chiefLastsCard : Claim7 := { stood := { row := chiefLastsRow, standIns := [], harness := (true, "ccc3ee3735470dee909e4608abfb3191208327d564621f2a80a5af9bbc47033d"), looks := true }, kinds := [], alts := [], laidByText := true, laidKinds := [.data, .data, .data, .data, .sentinel, .sentinel, .pinned], laidTests := true, laidLooks := .later }
def ChiefLastsCardSaid : Prop := Claim7.holds Tryz.pinned (.plain (OpenSpec.ofChange chiefLastsSpec)) chiefLastsCard

/-- THE TIED CARD OF 'wharfingerlaw24.DeskPlays'. -/
def deskPlaysCard : Claim7 := { stood := { row := deskPlaysRow, standIns := [], harness := (true, "ccc3ee3735470dee909e4608abfb3191208327d564621f2a80a5af9bbc47033d"), looks := true }, kinds := [], alts := [], laidByText := true, laidKinds := [.data, .data, .data, .data, .sentinel, .sentinel, .pinned], laidTests := true, laidLooks := .later }
def DeskPlaysCardSaid : Prop := Claim7.holds Tryz.pinned (.plain (OpenSpec.ofChange deskPlaysSpec)) deskPlaysCard

/-- THE TIED CARD OF 'wharfingerlaw24.DeskDamage'. -/
def deskDamageCard : Claim7 := { stood := { row := deskDamageRow, standIns := [], harness := (true, "ccc3ee3735470dee909e4608abfb3191208327d564621f2a80a5af9bbc47033d"), looks := true }, kinds := [], alts := [], laidByText := true, laidKinds := [.data, .data, .data, .data, .sentinel, .sentinel, .pinned], laidTests := true, laidLooks := .later }
def DeskDamageCardSaid : Prop := Claim7.holds Tryz.pinned (.plain (OpenSpec.ofChange deskDamageSpec)) deskDamageCard

/-- THE SECOND FORM's CARD OF 'wharfingerlaw22.ChiefPlays'. -/
def chiefPlaysUptoCard : Claim7 := { stood := { row := chiefPlaysUptoRow, standIns := [], harness := (true, "ccc3ee3735470dee909e4608abfb3191208327d564621f2a80a5af9bbc47033d"), looks := true }, kinds := [], alts := [], laidByText := true, laidKinds := [.data, .data, .data, .data, .sentinel, .sentinel, .pinned], laidTests := true, laidLooks := .later }
def ChiefPlaysUptoCardSaid : Prop := Claim7.holds Tryz.pinned (.plain (OpenSpec.upto chiefPlaysSpec)) chiefPlaysUptoCard

/-- THE SECOND FORM's CARD OF 'wharfingerlaw22.ChiefLasts'. -/
def chiefLastsUptoCard : Claim7 := { stood := { row := chiefLastsUptoRow, standIns := [], harness := (true, "ccc3ee3735470dee909e4608abfb3191208327d564621f2a80a5af9bbc47033d"), looks := true }, kinds := [], alts := [], laidByText := true, laidKinds := [.data, .data, .data, .data, .sentinel, .sentinel, .pinned], laidTests := true, laidLooks := .later }
def ChiefLastsUptoCardSaid : Prop := Claim7.holds Tryz.pinned (.plain (OpenSpec.upto chiefLastsSpec)) chiefLastsUptoCard

/-- THE SECOND FORM's CARD OF 'wharfingerlaw24.DeskPlays'. -/
def deskPlaysUptoCard : Claim7 := { stood := { row := deskPlaysUptoRow, standIns := [], harness := (true, "ccc3ee3735470dee909e4608abfb3191208327d564621f2a80a5af9bbc47033d"), looks := true }, kinds := [], alts := [], laidByText := true, laidKinds := [.data, .data, .data, .data, .sentinel, .sentinel, .pinned], laidTests := true, laidLooks := .later }
def DeskPlaysUptoCardSaid : Prop := Claim7.holds Tryz.pinned (.plain (OpenSpec.upto deskPlaysSpec)) deskPlaysUptoCard

/-- THE SECOND FORM's CARD OF 'wharfingerlaw24.DeskDamage'. -/
def deskDamageUptoCard : Claim7 := { stood := { row := deskDamageUptoRow, standIns := [], harness := (true, "ccc3ee3735470dee909e4608abfb3191208327d564621f2a80a5af9bbc47033d"), looks := true }, kinds := [], alts := [], laidByText := true, laidKinds := [.data, .data, .data, .data, .sentinel, .sentinel, .pinned], laidTests := true, laidLooks := .later }
def DeskDamageUptoCardSaid : Prop := Claim7.holds Tryz.pinned (.plain (OpenSpec.upto deskDamageSpec)) deskDamageUptoCard
end Rows
end Go.Proofs.YthfgmpooehkhgaaGreatDoor
