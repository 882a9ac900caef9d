/-
  DERIVED. GIVEN WITH THE SEED: THE CARDS: each row of YthkgjggbpgkmpaaDoorRows.lean that lists a variable, with what it lists TIED to the program's text (the seventh form; the later family's looks); each row that meets fmt, with fmt's text TOLD by the authors' own Lean function (tested against real Go, not proved from fmt's source: count such statements apart). THE CARD IS WHAT COUNTS. Prove the row's statement (the work); the ties are given (YthkgjggbpgkmpaaDoorTie.lean); close each card by the builder's one call (the guide's Derived/Test/ToyasCard.lean, 'card_holds'). Laid BY PROGRAM, IN A SANDBOX (cutbox-door.mjs). By AI agents, Wed Nov 11 2026. No macro, syntax, notation, axiom, sorry.
-/
import Derived.Test.YthkgjggbpgkmpaaDoorRows
import GoSem.ClaimSeven
namespace Go.Proofs.YthkgjggbpgkmpaaDoor
namespace Rows

/-- THE TIED CARD OF 'wharfingerlaw20.KeeperAsks'. -/
def keeperAsksCard : Claim7 := { stood := { row := keeperAsksRow, standIns := [], harness := (true, "3c8432a9db9d4a9264e66e95a45229d63f8d22d9e8e71acd0c6a6a8748dd87d6"), looks := false }, kinds := [], alts := [], laidByText := true, laidKinds := [.data, .data, .data, .data], laidTests := true, laidLooks := .later }
def KeeperAsksCardSaid : Prop := Claim7.holds Tryd.pinned (.plain (OpenSpec.ofChange keeperAsksSpec)) keeperAsksCard

/-- THE SECOND FORM's CARD OF 'wharfingerlaw20.KeeperAsks'. -/
def keeperAsksUptoCard : Claim7 := { stood := { row := keeperAsksUptoRow, standIns := [], harness := (true, "3c8432a9db9d4a9264e66e95a45229d63f8d22d9e8e71acd0c6a6a8748dd87d6"), looks := false }, kinds := [], alts := [], laidByText := true, laidKinds := [.data, .data, .data, .data], laidTests := true, laidLooks := .later }
def KeeperAsksUptoCardSaid : Prop := Claim7.holds Tryd.pinned (.plain (OpenSpec.upto keeperAsksSpec)) keeperAsksUptoCard
end Rows
end Go.Proofs.YthkgjggbpgkmpaaDoor
