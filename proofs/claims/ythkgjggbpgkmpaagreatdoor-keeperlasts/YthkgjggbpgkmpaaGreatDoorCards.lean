/-
  DERIVED. GIVEN WITH THE SEED: THE CARDS: each row of YthkgjggbpgkmpaaGreatDoorRows.lean that lists a variable, with what it lists TIED to the program's text (the seventh form; the later family's looks); each row that meets fmt, with fmt's text TOLD by the authors' own Lean function (tested against real Go, not proved from fmt's source: count such statements apart). THE CARD IS WHAT COUNTS. Prove the row's statement (the work); the ties are given (YthkgjggbpgkmpaaGreatDoorTie.lean); close each card by the builder's one call (the guide's Derived/Test/ToyasCard.lean, 'card_holds'). Laid BY PROGRAM, IN A SANDBOX (cutbox-door.mjs). By AI agents, Wed Nov 11 2026. No macro, syntax, notation, axiom, sorry.
-/
import Derived.Test.YthkgjggbpgkmpaaGreatDoorRows
import GoSem.ClaimSeven
namespace Go.Proofs.YthkgjggbpgkmpaaGreatDoor
namespace Rows

/-- THE TIED CARD OF 'wharfingerlaw20.KeeperPlays'. -/
def keeperPlaysCard : Claim7 := { stood := { row := keeperPlaysRow, standIns := [], harness := (true, "09128d5e1b1e142c5013e35676c3bb4b83e5357d003b123ae739dfa7de5832e0"), looks := true }, kinds := [], alts := [], laidByText := true, laidKinds := [.data, .data, .data, .data, .sentinel, .sentinel, .data, .pinned], laidTests := true, laidLooks := .later }
def KeeperPlaysCardSaid : Prop := Claim7.holds Tryz.pinned (.plain (OpenSpec.ofChange keeperPlaysSpec)) keeperPlaysCard

/-- THE TIED CARD OF 'wharfingerlaw20.KeeperNil'. -/
def keeperNilCard : Claim7 := { stood := { row := keeperNilRow, standIns := [], harness := (true, "09128d5e1b1e142c5013e35676c3bb4b83e5357d003b123ae739dfa7de5832e0"), looks := true }, kinds := [], alts := [], laidByText := true, laidKinds := [.data, .data, .data, .data, .sentinel, .sentinel, .data, .pinned], laidTests := true, laidLooks := .later }
def KeeperNilCardSaid : Prop := Claim7.holds Tryz.pinned (.plain (OpenSpec.ofChange keeperNilSpec)) keeperNilCard

/-- THE TIED CARD OF 'wharfingerlaw20.KeeperLasts'. -/
def keeperLastsCard : Claim7 := { stood := { row := keeperLastsRow, standIns := [], harness := (true, "09128d5e1b1e142c5013e35676c3bb4b83e5357d003b123ae739dfa7de5832e0"), looks := true }, kinds := [], alts := [], laidByText := true, laidKinds := [.data, .data, .data, .data, .sentinel, .sentinel, .data, .pinned], laidTests := true, laidLooks := .later }
def KeeperLastsCardSaid : Prop := Claim7.holds Tryz.pinned (.plain (OpenSpec.ofChange keeperLastsSpec)) keeperLastsCard

/-- THE TIED CARD OF 'wharfingerlaw20.KeeperForced'. -/
def keeperForcedCard : Claim7 := { stood := { row := keeperForcedRow, standIns := [], harness := (true, "09128d5e1b1e142c5013e35676c3bb4b83e5357d003b123ae739dfa7de5832e0"), looks := true }, kinds := [], alts := [], laidByText := true, laidKinds := [.data, .data, .data, .data, .sentinel, .sentinel, .data, .pinned], laidTests := true, laidLooks := .later }
def KeeperForcedCardSaid : Prop := Claim7.holds Tryz.pinned (.plain (OpenSpec.ofChange keeperForcedSpec)) keeperForcedCard

/-- THE TIED CARD OF 'wharfingerlaw20.KeeperNone'. -/
def keeperNoneCard : Claim7 := { stood := { row := keeperNoneRow, standIns := [], harness := (true, "09128d5e1b1e142c5013e35676c3bb4b83e5357d003b123ae739dfa7de5832e0"), looks := true }, kinds := [], alts := [], laidByText := true, laidKinds := [.data, .data, .data, .data, .sentinel, .sentinel, .data, .pinned], laidTests := true, laidLooks := .later }
def KeeperNoneCardSaid : Prop := Claim7.holds Tryz.pinned (.plain (OpenSpec.ofChange keeperNoneSpec)) keeperNoneCard

/-- THE SECOND FORM's CARD OF 'wharfingerlaw20.KeeperPlays'. -/
def keeperPlaysUptoCard : Claim7 := { stood := { row := keeperPlaysUptoRow, standIns := [], harness := (true, "09128d5e1b1e142c5013e35676c3bb4b83e5357d003b123ae739dfa7de5832e0"), looks := true }, kinds := [], alts := [], laidByText := true, laidKinds := [.data, .data, .data, .data, .sentinel, .sentinel, .data, .pinned], laidTests := true, laidLooks := .later }
def KeeperPlaysUptoCardSaid : Prop := Claim7.holds Tryz.pinned (.plain (OpenSpec.upto keeperPlaysSpec)) keeperPlaysUptoCard

/-- THE SECOND FORM's CARD OF 'wharfingerlaw20.KeeperNil'. -/
def keeperNilUptoCard : Claim7 := { stood := { row := keeperNilUptoRow, standIns := [], harness := (true, "09128d5e1b1e142c5013e35676c3bb4b83e5357d003b123ae739dfa7de5832e0"), looks := true }, kinds := [], alts := [], laidByText := true, laidKinds := [.data, .data, .data, .data, .sentinel, .sentinel, .data, .pinned], laidTests := true, laidLooks := .later }
def KeeperNilUptoCardSaid : Prop := Claim7.holds Tryz.pinned (.plain (OpenSpec.upto keeperNilSpec)) keeperNilUptoCard

/-- THE SECOND FORM's CARD OF 'wharfingerlaw20.KeeperLasts'. -/
def keeperLastsUptoCard : Claim7 := { stood := { row := keeperLastsUptoRow, standIns := [], harness := (true, "09128d5e1b1e142c5013e35676c3bb4b83e5357d003b123ae739dfa7de5832e0"), looks := true }, kinds := [], alts := [], laidByText := true, laidKinds := [.data, .data, .data, .data, .sentinel, .sentinel, .data, .pinned], laidTests := true, laidLooks := .later }
def KeeperLastsUptoCardSaid : Prop := Claim7.holds Tryz.pinned (.plain (OpenSpec.upto keeperLastsSpec)) keeperLastsUptoCard

/-- THE SECOND FORM's CARD OF 'wharfingerlaw20.KeeperForced'. -/
def keeperForcedUptoCard : Claim7 := { stood := { row := keeperForcedUptoRow, standIns := [], harness := (true, "09128d5e1b1e142c5013e35676c3bb4b83e5357d003b123ae739dfa7de5832e0"), looks := true }, kinds := [], alts := [], laidByText := true, laidKinds := [.data, .data, .data, .data, .sentinel, .sentinel, .data, .pinned], laidTests := true, laidLooks := .later }
def KeeperForcedUptoCardSaid : Prop := Claim7.holds Tryz.pinned (.plain (OpenSpec.upto keeperForcedSpec)) keeperForcedUptoCard

/-- THE SECOND FORM's CARD OF 'wharfingerlaw20.KeeperNone'. -/
def keeperNoneUptoCard : Claim7 := { stood := { row := keeperNoneUptoRow, standIns := [], harness := (true, "09128d5e1b1e142c5013e35676c3bb4b83e5357d003b123ae739dfa7de5832e0"), looks := true }, kinds := [], alts := [], laidByText := true, laidKinds := [.data, .data, .data, .data, .sentinel, .sentinel, .data, .pinned], laidTests := true, laidLooks := .later }
def KeeperNoneUptoCardSaid : Prop := Claim7.holds Tryz.pinned (.plain (OpenSpec.upto keeperNoneSpec)) keeperNoneUptoCard
end Rows
end Go.Proofs.YthkgjggbpgkmpaaGreatDoor
