/-
  DERIVED. GIVEN WITH THE SEED: THE CARDS: each row of YtnffgamekhedkaaGreatDoorRows.lean that lists a variable, with what it lists TIED to the program's text (the seventh form; the later family's looks); each row that meets fmt, with fmt's text TOLD by the authors' own Lean function (tested against real Go, not proved from fmt's source: count such statements apart). THE CARD IS WHAT COUNTS. Prove the row's statement (the work); the ties are given (YtnffgamekhedkaaGreatDoorTie.lean); close each card by the builder's one call (the guide's Derived/Test/ToyasCard.lean, 'card_holds'). Laid BY PROGRAM, IN A SANDBOX (cutbox-door.mjs). By AI agents, Wed Nov 11 2026. No macro, syntax, notation, axiom, sorry.
-/
import Derived.Test.YtnffgamekhedkaaGreatDoorRows
import GoSem.ClaimSeven
namespace Go.Proofs.YtnffgamekhedkaaGreatDoor
namespace Rows

/-- THE TIED CARD OF 'wharfingerlaw24.DeskNil'. -/
def deskNilCard : Claim7 := { stood := { row := deskNilRow, standIns := [], harness := (true, "8ee797e9d77a893e55e9ba0941b7db7780d06cf4f3559bad3af7773b2ab8d710"), looks := false }, kinds := [], alts := [], laidByText := true, laidKinds := [.data, .data, .data], laidTests := true, laidLooks := .later }
def DeskNilCardSaid : Prop := Claim7.holds Tryz.pinned (.plain (OpenSpec.ofChange deskNilSpec)) deskNilCard

/-- THE TIED CARD OF 'wharfingerlaw24.DeskLets'. -/
def deskLetsCard : Claim7 := { stood := { row := deskLetsRow, standIns := [], harness := (true, "8ee797e9d77a893e55e9ba0941b7db7780d06cf4f3559bad3af7773b2ab8d710"), looks := false }, kinds := [], alts := [], laidByText := true, laidKinds := [.data, .data, .data], laidTests := true, laidLooks := .later }
def DeskLetsCardSaid : Prop := Claim7.holds Tryz.pinned (.plain (OpenSpec.ofChange deskLetsSpec)) deskLetsCard

/-- THE TIED CARD OF 'wharfingerlaw24.DeskWords'. -/
def deskWordsCard : Claim7 := { stood := { row := deskWordsRow, standIns := [], harness := (true, "8ee797e9d77a893e55e9ba0941b7db7780d06cf4f3559bad3af7773b2ab8d710"), looks := false }, kinds := [], alts := [], laidByText := true, laidKinds := [.data, .data, .data], laidTests := true, laidLooks := .later }
def DeskWordsCardSaid : Prop := Claim7.holds Tryz.pinned (.plain (OpenSpec.ofChange deskWordsSpec)) deskWordsCard

/-- THE TIED CARD OF 'wharfingerlaw24.DeskRefuses'. -/
def deskRefusesCard : Claim7 := { stood := { row := deskRefusesRow, standIns := [], harness := (true, "8ee797e9d77a893e55e9ba0941b7db7780d06cf4f3559bad3af7773b2ab8d710"), looks := false }, kinds := [], alts := [], laidByText := true, laidKinds := [.data, .data, .data], laidTests := true, laidLooks := .later }
def DeskRefusesCardSaid : Prop := Claim7.holds Tryz.pinned (.plain (OpenSpec.ofChange deskRefusesSpec)) deskRefusesCard

/-- THE SECOND FORM's CARD OF 'wharfingerlaw24.DeskNil'. -/
def deskNilUptoCard : Claim7 := { stood := { row := deskNilUptoRow, standIns := [], harness := (true, "8ee797e9d77a893e55e9ba0941b7db7780d06cf4f3559bad3af7773b2ab8d710"), looks := false }, kinds := [], alts := [], laidByText := true, laidKinds := [.data, .data, .data], laidTests := true, laidLooks := .later }
def DeskNilUptoCardSaid : Prop := Claim7.holds Tryz.pinned (.plain (OpenSpec.upto deskNilSpec)) deskNilUptoCard

/-- THE SECOND FORM's CARD OF 'wharfingerlaw24.DeskLets'. -/
def deskLetsUptoCard : Claim7 := { stood := { row := deskLetsUptoRow, standIns := [], harness := (true, "8ee797e9d77a893e55e9ba0941b7db7780d06cf4f3559bad3af7773b2ab8d710"), looks := false }, kinds := [], alts := [], laidByText := true, laidKinds := [.data, .data, .data], laidTests := true, laidLooks := .later }
def DeskLetsUptoCardSaid : Prop := Claim7.holds Tryz.pinned (.plain (OpenSpec.upto deskLetsSpec)) deskLetsUptoCard

/-- THE SECOND FORM's CARD OF 'wharfingerlaw24.DeskWords'. -/
def deskWordsUptoCard : Claim7 := { stood := { row := deskWordsUptoRow, standIns := [], harness := (true, "8ee797e9d77a893e55e9ba0941b7db7780d06cf4f3559bad3af7773b2ab8d710"), looks := false }, kinds := [], alts := [], laidByText := true, laidKinds := [.data, .data, .data], laidTests := true, laidLooks := .later }
def DeskWordsUptoCardSaid : Prop := Claim7.holds Tryz.pinned (.plain (OpenSpec.upto deskWordsSpec)) deskWordsUptoCard

/-- THE SECOND FORM's CARD OF 'wharfingerlaw24.DeskRefuses'. -/
def deskRefusesUptoCard : Claim7 := { stood := { row := deskRefusesUptoRow, standIns := [], harness := (true, "8ee797e9d77a893e55e9ba0941b7db7780d06cf4f3559bad3af7773b2ab8d710"), looks := false }, kinds := [], alts := [], laidByText := true, laidKinds := [.data, .data, .data], laidTests := true, laidLooks := .later }
def DeskRefusesUptoCardSaid : Prop := Claim7.holds Tryz.pinned (.plain (OpenSpec.upto deskRefusesSpec)) deskRefusesUptoCard
end Rows
end Go.Proofs.YtnffgamekhedkaaGreatDoor
