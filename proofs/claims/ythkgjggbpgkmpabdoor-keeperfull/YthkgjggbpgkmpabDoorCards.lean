/-
  DERIVED. GIVEN WITH THE SEED: THE CARDS: each row of YthkgjggbpgkmpabDoorRows.lean that lists a variable, with what it lists TIED to the program's text (the seventh form; the later family's looks); each row that meets fmt, with fmt's text TOLD by the authors' own Lean function (tested against real Go, not proved from fmt's source: count such statements apart). THE CARD IS WHAT COUNTS. Prove the row's statement (the work); the ties are given (YthkgjggbpgkmpabDoorTie.lean); close each card by the builder's one call (the guide's Derived/Test/ToyasCard.lean, 'card_holds'). Laid BY PROGRAM, IN A SANDBOX (cutbox-door.mjs). By AI agents, Wed Nov 11 2026. No macro, syntax, notation, axiom, sorry.
-/
import Derived.Test.YthkgjggbpgkmpabDoorRows
import GoSem.ClaimSeven
namespace Go.Proofs.YthkgjggbpgkmpabDoor
namespace Rows

/-- THE TIED CARD OF 'wharfingerlaw20.KeeperFull'. -/
def keeperFullCard : Claim7 := { stood := { row := keeperFullRow, standIns := [], harness := (true, "efc2b59631b7a523a0fddbb154b2a0299ef0d240ef62fb653ffeb32751786e92"), looks := false }, kinds := [], alts := [], laidByText := true, laidKinds := [.data, .data, .data, .data], laidTests := true, laidLooks := .later }
def KeeperFullCardSaid : Prop := Claim7.holds Tryd.pinned (.plain (OpenSpec.ofChange keeperFullSpec)) keeperFullCard

/-- THE SECOND FORM's CARD OF 'wharfingerlaw20.KeeperFull'. -/
def keeperFullUptoCard : Claim7 := { stood := { row := keeperFullUptoRow, standIns := [], harness := (true, "efc2b59631b7a523a0fddbb154b2a0299ef0d240ef62fb653ffeb32751786e92"), looks := false }, kinds := [], alts := [], laidByText := true, laidKinds := [.data, .data, .data, .data], laidTests := true, laidLooks := .later }
def KeeperFullUptoCardSaid : Prop := Claim7.holds Tryd.pinned (.plain (OpenSpec.upto keeperFullSpec)) keeperFullUptoCard
end Rows
end Go.Proofs.YthkgjggbpgkmpabDoor
