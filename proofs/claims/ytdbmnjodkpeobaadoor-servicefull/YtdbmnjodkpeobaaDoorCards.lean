/-
  DERIVED. GIVEN WITH THE SEED: THE CARDS: each row of YtdbmnjodkpeobaaDoorRows.lean that lists a variable, with what it lists TIED to the program's text (the seventh form; the later family's looks); each row that meets fmt, with fmt's text TOLD by the authors' own Lean function (tested against real Go, not proved from fmt's source: count such statements apart). THE CARD IS WHAT COUNTS. Prove the row's statement (the work); the ties are given (YtdbmnjodkpeobaaDoorTie.lean); close each card by the builder's one call (the guide's Derived/Test/ToyasCard.lean, 'card_holds'). Laid BY PROGRAM, IN A SANDBOX (cutbox-door.mjs). By AI agents, Wed Nov 11 2026. No macro, syntax, notation, axiom, sorry.
-/
import Derived.Test.YtdbmnjodkpeobaaDoorRows
import GoSem.ClaimSeven
namespace Go.Proofs.YtdbmnjodkpeobaaDoor
namespace Rows

/-- THE TIED CARD OF 'wharfingerlaw19.ServiceFull'. -/
def serviceFullCard : Claim7 := { stood := { row := serviceFullRow, standIns := [], harness := (true, "e1f4fc25fa7ecabb487c7fe3327fcd7371f866e1a922218c321d6a7346f4cf98"), looks := false }, kinds := [], alts := [], laidByText := true, laidKinds := [.data, .data, .data], laidTests := true, laidLooks := .later }
def ServiceFullCardSaid : Prop := Claim7.holds Tryd.pinned (.plain (OpenSpec.ofChange serviceFullSpec)) serviceFullCard

/-- THE TIED CARD OF 'wharfingerlaw19.ServiceOthers'. -/
def serviceOthersCard : Claim7 := { stood := { row := serviceOthersRow, standIns := [], harness := (true, "e1f4fc25fa7ecabb487c7fe3327fcd7371f866e1a922218c321d6a7346f4cf98"), looks := false }, kinds := [], alts := [], laidByText := true, laidKinds := [.data, .data, .data], laidTests := true, laidLooks := .later }
def ServiceOthersCardSaid : Prop := Claim7.holds Tryd.pinned (.plain (OpenSpec.ofChange serviceOthersSpec)) serviceOthersCard

/-- THE SECOND FORM's CARD OF 'wharfingerlaw19.ServiceFull'. -/
def serviceFullUptoCard : Claim7 := { stood := { row := serviceFullUptoRow, standIns := [], harness := (true, "e1f4fc25fa7ecabb487c7fe3327fcd7371f866e1a922218c321d6a7346f4cf98"), looks := false }, kinds := [], alts := [], laidByText := true, laidKinds := [.data, .data, .data], laidTests := true, laidLooks := .later }
def ServiceFullUptoCardSaid : Prop := Claim7.holds Tryd.pinned (.plain (OpenSpec.upto serviceFullSpec)) serviceFullUptoCard

/-- THE SECOND FORM's CARD OF 'wharfingerlaw19.ServiceOthers'. -/
def serviceOthersUptoCard : Claim7 := { stood := { row := serviceOthersUptoRow, standIns := [], harness := (true, "e1f4fc25fa7ecabb487c7fe3327fcd7371f866e1a922218c321d6a7346f4cf98"), looks := false }, kinds := [], alts := [], laidByText := true, laidKinds := [.data, .data, .data], laidTests := true, laidLooks := .later }
def ServiceOthersUptoCardSaid : Prop := Claim7.holds Tryd.pinned (.plain (OpenSpec.upto serviceOthersSpec)) serviceOthersUptoCard
end Rows
end Go.Proofs.YtdbmnjodkpeobaaDoor
