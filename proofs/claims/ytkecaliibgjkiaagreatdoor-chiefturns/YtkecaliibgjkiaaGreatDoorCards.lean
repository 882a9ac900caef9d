/-
  DERIVED. GIVEN WITH THE SEED: THE CARDS: each row of YtkecaliibgjkiaaGreatDoorRows.lean that lists a variable, with what it lists TIED to the program's text (the seventh form; the later family's looks); each row that meets fmt, with fmt's text TOLD by the authors' own Lean function (tested against real Go, not proved from fmt's source: count such statements apart). THE CARD IS WHAT COUNTS. Prove the row's statement (the work); the ties are given (YtkecaliibgjkiaaGreatDoorTie.lean); close each card by the builder's one call (the guide's Derived/Test/ToyasCard.lean, 'card_holds'). Laid BY PROGRAM, IN A SANDBOX (cutbox-door.mjs). By AI agents, Wed Nov 11 2026. No macro, syntax, notation, axiom, sorry.
-/
import Derived.Test.YtkecaliibgjkiaaGreatDoorRows
import GoSem.ClaimSeven
namespace Go.Proofs.YtkecaliibgjkiaaGreatDoor
namespace Rows

/-- THE TIED CARD OF 'wharfingerlaw22.ChiefTurns'. -/
def chiefTurnsCard : Claim7 := { stood := { row := chiefTurnsRow, standIns := [], harness := (true, "eb150c4189d083d684278a1bd248d624e96fb6d0378abf34ce653502d8873692"), looks := false }, kinds := [], alts := [], laidByText := true, laidKinds := [.data, .data, .data], laidTests := true, laidLooks := .later }
def ChiefTurnsCardSaid : Prop := Claim7.holds Tryz.pinned (.plain (OpenSpec.ofChange chiefTurnsSpec)) chiefTurnsCard

/-- THE SECOND FORM's CARD OF 'wharfingerlaw22.ChiefTurns'. -/
def chiefTurnsUptoCard : Claim7 := { stood := { row := chiefTurnsUptoRow, standIns := [], harness := (true, "eb150c4189d083d684278a1bd248d624e96fb6d0378abf34ce653502d8873692"), looks := false }, kinds := [], alts := [], laidByText := true, laidKinds := [.data, .data, .data], laidTests := true, laidLooks := .later }
def ChiefTurnsUptoCardSaid : Prop := Claim7.holds Tryz.pinned (.plain (OpenSpec.upto chiefTurnsSpec)) chiefTurnsUptoCard
end Rows
end Go.Proofs.YtkecaliibgjkiaaGreatDoor
