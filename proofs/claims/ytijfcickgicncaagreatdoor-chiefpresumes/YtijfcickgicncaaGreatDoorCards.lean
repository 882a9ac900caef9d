/-
  DERIVED. GIVEN WITH THE SEED: THE CARDS: each row of YtijfcickgicncaaGreatDoorRows.lean that lists a variable, with what it lists TIED to the program's text (the seventh form; the later family's looks); each row that meets fmt, with fmt's text TOLD by the authors' own Lean function (tested against real Go, not proved from fmt's source: count such statements apart). THE CARD IS WHAT COUNTS. Prove the row's statement (the work); the ties are given (YtijfcickgicncaaGreatDoorTie.lean); close each card by the builder's one call (the guide's Derived/Test/ToyasCard.lean, 'card_holds'). Laid BY PROGRAM, IN A SANDBOX (cutbox-door.mjs). By AI agents, Wed Nov 11 2026. No macro, syntax, notation, axiom, sorry.
-/
import Derived.Test.YtijfcickgicncaaGreatDoorRows
import GoSem.ClaimSeven
namespace Go.Proofs.YtijfcickgicncaaGreatDoor
namespace Rows

/-- THE TIED CARD OF 'wharfingerlaw22.ChiefPlays'. -/
def chiefPlaysCard : Claim7 := { stood := { row := chiefPlaysRow, standIns := [], harness := (true, "e8184bed2148aacc1ea25c188543230876635b7a0e9f559dba4133e8950f92fe"), looks := true }, kinds := [], alts := [], laidByText := true, laidKinds := [.data, .data, .data, .data, .sentinel, .sentinel, .pinned], laidTests := true, laidLooks := .later }
def ChiefPlaysCardSaid : Prop := Claim7.holds Tryz.pinned (.plain (OpenSpec.ofChange chiefPlaysSpec)) chiefPlaysCard

/-- THE TIED CARD OF 'wharfingerlaw22.ChiefLasts'. -/
def chiefLastsCard : Claim7 := { stood := { row := chiefLastsRow, standIns := [], harness := (true, "e8184bed2148aacc1ea25c188543230876635b7a0e9f559dba4133e8950f92fe"), looks := true }, kinds := [], alts := [], laidByText := true, laidKinds := [.data, .data, .data, .data, .sentinel, .sentinel, .pinned], laidTests := true, laidLooks := .later }
def ChiefLastsCardSaid : Prop := Claim7.holds Tryz.pinned (.plain (OpenSpec.ofChange chiefLastsSpec)) chiefLastsCard

/-- THE TIED CARD OF 'wharfingerlaw22.ChiefAnswers'. -/
def chiefAnswersCard : Claim7 := { stood := { row := chiefAnswersRow, standIns := [], harness := (true, "e8184bed2148aacc1ea25c188543230876635b7a0e9f559dba4133e8950f92fe"), looks := true }, kinds := [], alts := [], laidByText := true, laidKinds := [.data, .data, .data, .data, .sentinel, .sentinel, .pinned], laidTests := true, laidLooks := .later }
def ChiefAnswersCardSaid : Prop := Claim7.holds Tryz.pinned (.plain (OpenSpec.ofChange chiefAnswersSpec)) chiefAnswersCard

/-- THE TIED CARD OF 'wharfingerlaw22.ChiefPresumes'. -/
def chiefPresumesCard : Claim7 := { stood := { row := chiefPresumesRow, standIns := [], harness := (true, "e8184bed2148aacc1ea25c188543230876635b7a0e9f559dba4133e8950f92fe"), looks := true }, kinds := [], alts := [], laidByText := true, laidKinds := [.data, .data, .data, .data, .sentinel, .sentinel, .pinned], laidTests := true, laidLooks := .later }
def ChiefPresumesCardSaid : Prop := Claim7.holds Tryz.pinned (.plain (OpenSpec.ofChange chiefPresumesSpec)) chiefPresumesCard

/-- THE SECOND FORM's CARD OF 'wharfingerlaw22.ChiefPlays'. -/
def chiefPlaysUptoCard : Claim7 := { stood := { row := chiefPlaysUptoRow, standIns := [], harness := (true, "e8184bed2148aacc1ea25c188543230876635b7a0e9f559dba4133e8950f92fe"), looks := true }, kinds := [], alts := [], laidByText := true, laidKinds := [.data, .data, .data, .data, .sentinel, .sentinel, .pinned], laidTests := true, laidLooks := .later }
def ChiefPlaysUptoCardSaid : Prop := Claim7.holds Tryz.pinned (.plain (OpenSpec.upto chiefPlaysSpec)) chiefPlaysUptoCard

/-- THE SECOND FORM's CARD OF 'wharfingerlaw22.ChiefLasts'. -/
def chiefLastsUptoCard : Claim7 := { stood := { row := chiefLastsUptoRow, standIns := [], harness := (true, "e8184bed2148aacc1ea25c188543230876635b7a0e9f559dba4133e8950f92fe"), looks := true }, kinds := [], alts := [], laidByText := true, laidKinds := [.data, .data, .data, .data, .sentinel, .sentinel, .pinned], laidTests := true, laidLooks := .later }
def ChiefLastsUptoCardSaid : Prop := Claim7.holds Tryz.pinned (.plain (OpenSpec.upto chiefLastsSpec)) chiefLastsUptoCard

/-- THE SECOND FORM's CARD OF 'wharfingerlaw22.ChiefAnswers'. -/
def chiefAnswersUptoCard : Claim7 := { stood := { row := chiefAnswersUptoRow, standIns := [], harness := (true, "e8184bed2148aacc1ea25c188543230876635b7a0e9f559dba4133e8950f92fe"), looks := true }, kinds := [], alts := [], laidByText := true, laidKinds := [.data, .data, .data, .data, .sentinel, .sentinel, .pinned], laidTests := true, laidLooks := .later }
def ChiefAnswersUptoCardSaid : Prop := Claim7.holds Tryz.pinned (.plain (OpenSpec.upto chiefAnswersSpec)) chiefAnswersUptoCard

/-- THE SECOND FORM's CARD OF 'wharfingerlaw22.ChiefPresumes'. -/
def chiefPresumesUptoCard : Claim7 := { stood := { row := chiefPresumesUptoRow, standIns := [], harness := (true, "e8184bed2148aacc1ea25c188543230876635b7a0e9f559dba4133e8950f92fe"), looks := true }, kinds := [], alts := [], laidByText := true, laidKinds := [.data, .data, .data, .data, .sentinel, .sentinel, .pinned], laidTests := true, laidLooks := .later }
def ChiefPresumesUptoCardSaid : Prop := Claim7.holds Tryz.pinned (.plain (OpenSpec.upto chiefPresumesSpec)) chiefPresumesUptoCard
end Rows
end Go.Proofs.YtijfcickgicncaaGreatDoor
