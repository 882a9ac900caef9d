/-
  No cell of these rows narrows 'for every input' (looked for: loops, veiled, ifaces, maps, wideKeys, modest, calm, conditions, laid).
  DERIVED. THE GIVEN ROWS OF THIS SEAT. 6 by the template 'for every input the law returns true; each argument reads behind the call as it read before'; 0 by the template 'total and deterministic' (their statements: YtpnegdcfccnocaaTotals.lean).
  GIVEN WITH THE SEED: the statements are not yours to turn. If you find one false, say at which input.
  Laid BY PROGRAM, IN A SANDBOX (cutbox-rows.mjs): the forced cells as the released guide's own fill.sh prints them over the translation 0de01fa79579e149… (all of the seat's roots in one cut). By AI agents, Wed Nov 11 2026. No macro, syntax, notation, axiom, sorry.
-/
import Derived.Test.YtpnegdcfccnocaaChecked
import GoSem.Claim
import GoSem.ClaimJoined
import GoSem.ClaimMapViews
import Derived.JoinedTies
import Derived.KernelRfl
namespace Go.Proofs.Ytpnegdcfccnocaa
/- THE CELL 'sum', in the pinned program and in every row, IS THE sha256 OF THE DUMP (.gsa) THAT YtpnegdcfccnocaaProg.lean LOADS. Nothing in Lean hashes anything: it is a label: what it is worth is what the hold of that sum in a sandbox is worth. -/
noncomputable def Try.pinned : Pinned := { name := "ytpnegdcfccnocaa", sum := "0de01fa79579e1494bc53711fd0909a0c93b9ceff36f5666844e9c76fcce33a7", checked := Try.checked }
namespace Rows
def none {H : Type} : Left H := { results := [], args := [] }

/-- 'wharfingerlaw1.AmountForms': WHATEVER THE INPUT: true; the input reads as it did. -/
def amountFormsSpec : ChangeSpec := { name := "amountForms", fn := fun _ => fun
  | [d1, d2, d3, d4] => { results := [.lit (.bool true)], args := [d1, d2, d3, d4] }
  | _ => none }
def amountFormsRow : OpenClaim := { program := "ytpnegdcfccnocaa", sum := "0de01fa79579e1494bc53711fd0909a0c93b9ceff36f5666844e9c76fcce33a7", func := "wharfinger/wharfingerlaw1.AmountForms", spec := "amountForms", apart := false }
def AmountFormsSaid : Prop := amountFormsRow.holds Try.pinned (OpenSpec.ofChange amountFormsSpec)

/-- ITS FALSE NEIGHBOUR: 'it returns false'. Refute it at one input. -/
def amountFormsWrong : ChangeSpec := { name := "amountForms", fn := fun _ => fun
  | [d1, d2, d3, d4] => { results := [.lit (.bool false)], args := [d1, d2, d3, d4] }
  | _ => none }
def AmountFormsWrongFalsely : Prop := amountFormsRow.holds Try.pinned (OpenSpec.ofChange amountFormsWrong)

/-- 'wharfingerlaw1.AmountRows': WHATEVER THE INPUT: true; the input reads as it did. -/
def amountRowsSpec : ChangeSpec := { name := "amountRows", fn := fun _ => fun
  | [d1, d2, d3] => { results := [.lit (.bool true)], args := [d1, d2, d3] }
  | _ => none }
def amountRowsRow : OpenClaim := { program := "ytpnegdcfccnocaa", sum := "0de01fa79579e1494bc53711fd0909a0c93b9ceff36f5666844e9c76fcce33a7", func := "wharfinger/wharfingerlaw1.AmountRows", spec := "amountRows", apart := false }
def AmountRowsSaid : Prop := amountRowsRow.holds Try.pinned (OpenSpec.ofChange amountRowsSpec)

/-- ITS FALSE NEIGHBOUR: 'it returns false'. Refute it at one input. -/
def amountRowsWrong : ChangeSpec := { name := "amountRows", fn := fun _ => fun
  | [d1, d2, d3] => { results := [.lit (.bool false)], args := [d1, d2, d3] }
  | _ => none }
def AmountRowsWrongFalsely : Prop := amountRowsRow.holds Try.pinned (OpenSpec.ofChange amountRowsWrong)

/-- 'wharfingerlaw1.AmountUndone': WHATEVER THE INPUT: true; the input reads as it did. -/
def amountUndoneSpec : ChangeSpec := { name := "amountUndone", fn := fun _ => fun
  | [d1, d2, d3] => { results := [.lit (.bool true)], args := [d1, d2, d3] }
  | _ => none }
def amountUndoneRow : OpenClaim := { program := "ytpnegdcfccnocaa", sum := "0de01fa79579e1494bc53711fd0909a0c93b9ceff36f5666844e9c76fcce33a7", func := "wharfinger/wharfingerlaw1.AmountUndone", spec := "amountUndone", apart := false }
def AmountUndoneSaid : Prop := amountUndoneRow.holds Try.pinned (OpenSpec.ofChange amountUndoneSpec)

/-- ITS FALSE NEIGHBOUR: 'it returns false'. Refute it at one input. -/
def amountUndoneWrong : ChangeSpec := { name := "amountUndone", fn := fun _ => fun
  | [d1, d2, d3] => { results := [.lit (.bool false)], args := [d1, d2, d3] }
  | _ => none }
def AmountUndoneWrongFalsely : Prop := amountUndoneRow.holds Try.pinned (OpenSpec.ofChange amountUndoneWrong)

/-- 'wharfingerlaw1.AmountSplits': WHATEVER THE INPUT: true; the input reads as it did. -/
def amountSplitsSpec : ChangeSpec := { name := "amountSplits", fn := fun _ => fun
  | [d1, d2] => { results := [.lit (.bool true)], args := [d1, d2] }
  | _ => none }
def amountSplitsRow : OpenClaim := { program := "ytpnegdcfccnocaa", sum := "0de01fa79579e1494bc53711fd0909a0c93b9ceff36f5666844e9c76fcce33a7", func := "wharfinger/wharfingerlaw1.AmountSplits", spec := "amountSplits", apart := false }
def AmountSplitsSaid : Prop := amountSplitsRow.holds Try.pinned (OpenSpec.ofChange amountSplitsSpec)

/-- ITS FALSE NEIGHBOUR: 'it returns false'. Refute it at one input. -/
def amountSplitsWrong : ChangeSpec := { name := "amountSplits", fn := fun _ => fun
  | [d1, d2] => { results := [.lit (.bool false)], args := [d1, d2] }
  | _ => none }
def AmountSplitsWrongFalsely : Prop := amountSplitsRow.holds Try.pinned (OpenSpec.ofChange amountSplitsWrong)

/-- 'wharfingerlaw1.AmountProducts': WHATEVER THE INPUT: true; the input reads as it did. -/
def amountProductsSpec : ChangeSpec := { name := "amountProducts", fn := fun _ => fun
  | [d1, d2] => { results := [.lit (.bool true)], args := [d1, d2] }
  | _ => none }
def amountProductsRow : OpenClaim := { program := "ytpnegdcfccnocaa", sum := "0de01fa79579e1494bc53711fd0909a0c93b9ceff36f5666844e9c76fcce33a7", func := "wharfinger/wharfingerlaw1.AmountProducts", spec := "amountProducts", apart := false }
def AmountProductsSaid : Prop := amountProductsRow.holds Try.pinned (OpenSpec.ofChange amountProductsSpec)

/-- ITS FALSE NEIGHBOUR: 'it returns false'. Refute it at one input. -/
def amountProductsWrong : ChangeSpec := { name := "amountProducts", fn := fun _ => fun
  | [d1, d2] => { results := [.lit (.bool false)], args := [d1, d2] }
  | _ => none }
def AmountProductsWrongFalsely : Prop := amountProductsRow.holds Try.pinned (OpenSpec.ofChange amountProductsWrong)

/-- 'wharfingerlaw1.AmountOrders': WHATEVER THE INPUT: true; the input reads as it did. -/
def amountOrdersSpec : ChangeSpec := { name := "amountOrders", fn := fun _ => fun
  | [d1, d2] => { results := [.lit (.bool true)], args := [d1, d2] }
  | _ => none }
def amountOrdersRow : OpenClaim := { program := "ytpnegdcfccnocaa", sum := "0de01fa79579e1494bc53711fd0909a0c93b9ceff36f5666844e9c76fcce33a7", func := "wharfinger/wharfingerlaw1.AmountOrders", spec := "amountOrders", apart := false }
def AmountOrdersSaid : Prop := amountOrdersRow.holds Try.pinned (OpenSpec.ofChange amountOrdersSpec)

/-- ITS FALSE NEIGHBOUR: 'it returns false'. Refute it at one input. -/
def amountOrdersWrong : ChangeSpec := { name := "amountOrders", fn := fun _ => fun
  | [d1, d2] => { results := [.lit (.bool false)], args := [d1, d2] }
  | _ => none }
def AmountOrdersWrongFalsely : Prop := amountOrdersRow.holds Try.pinned (OpenSpec.ofChange amountOrdersWrong)

/- THE SECOND FORM. 'bulk': how many values and letters a reading holds, each counted each time it is reached (what is shared counts as often as it is met; a slice's spare places count too). A statement '..UptoSaid' is the law's where the arguments, and the package variables that the reading takes, are together of bulk at most 1048576: NARROWER than '..Said'. Prove '..Said' where nothing that the law and all that it calls make is longer than what came in: it says more and counts as full. Else prove '..UptoSaid'. A law counts once. -/
mutual
def uptoBulk {H : Type} : DataW H → Nat
  | .lit (.string bytes) => bytes.length + 1
  | .lit _ => 1
  | .nil => 1
  | .ptr d => uptoBulk d + 1
  | .slice elems spare => uptoBulkAll elems + uptoBulkAll spare + 1
  | .agg parts => uptoBulkAll parts + 1
  | .iface _ d => uptoBulk d + 1
  | .map entries => uptoBulkEntries entries + 1
  | .held _ => 1
def uptoBulkAll {H : Type} : List (DataW H) → Nat
  | [] => 0
  | d :: r => uptoBulk d + uptoBulkAll r
def uptoBulkEntries {H : Type} : List (Lit × DataW H) → Nat
  | [] => 0
  | x :: r => uptoBulkEntry x + uptoBulkEntries r
def uptoBulkEntry {H : Type} : Lit × DataW H → Nat
  | (.string bytes, d) => bytes.length + uptoBulk d + 1
  | (_, d) => uptoBulk d + 1
 end
def uptoSmall : (H : Type) → List (DataW H) → Bool := fun _ ds => decide (uptoBulkAll ds ≤ 1048576)
def OpenSpec.upto (s : _root_.Go.ChangeSpec) : _root_.Go.OpenSpec := { _root_.Go.OpenSpec.ofChange s with cond := some uptoSmall }

/-- 'wharfingerlaw1.AmountForms', WHERE WHAT IT READS IS OF BULK AT MOST 1048576: true; the input reads as it did. -/
def amountFormsUptoRow : OpenClaim := { program := "ytpnegdcfccnocaa", sum := "0de01fa79579e1494bc53711fd0909a0c93b9ceff36f5666844e9c76fcce33a7", func := "wharfinger/wharfingerlaw1.AmountForms", spec := "amountForms", apart := false, narrowed := true }
def AmountFormsUptoSaid : Prop := amountFormsUptoRow.holds Try.pinned (OpenSpec.upto amountFormsSpec)

/-- 'wharfingerlaw1.AmountRows', WHERE WHAT IT READS IS OF BULK AT MOST 1048576: true; the input reads as it did. -/
def amountRowsUptoRow : OpenClaim := { program := "ytpnegdcfccnocaa", sum := "0de01fa79579e1494bc53711fd0909a0c93b9ceff36f5666844e9c76fcce33a7", func := "wharfinger/wharfingerlaw1.AmountRows", spec := "amountRows", apart := false, narrowed := true }
def AmountRowsUptoSaid : Prop := amountRowsUptoRow.holds Try.pinned (OpenSpec.upto amountRowsSpec)

/-- 'wharfingerlaw1.AmountUndone', WHERE WHAT IT READS IS OF BULK AT MOST 1048576: true; the input reads as it did. -/
def amountUndoneUptoRow : OpenClaim := { program := "ytpnegdcfccnocaa", sum := "0de01fa79579e1494bc53711fd0909a0c93b9ceff36f5666844e9c76fcce33a7", func := "wharfinger/wharfingerlaw1.AmountUndone", spec := "amountUndone", apart := false, narrowed := true }
def AmountUndoneUptoSaid : Prop := amountUndoneUptoRow.holds Try.pinned (OpenSpec.upto amountUndoneSpec)

/-- 'wharfingerlaw1.AmountSplits', WHERE WHAT IT READS IS OF BULK AT MOST 1048576: true; the input reads as it did. -/
def amountSplitsUptoRow : OpenClaim := { program := "ytpnegdcfccnocaa", sum := "0de01fa79579e1494bc53711fd0909a0c93b9ceff36f5666844e9c76fcce33a7", func := "wharfinger/wharfingerlaw1.AmountSplits", spec := "amountSplits", apart := false, narrowed := true }
def AmountSplitsUptoSaid : Prop := amountSplitsUptoRow.holds Try.pinned (OpenSpec.upto amountSplitsSpec)

/-- 'wharfingerlaw1.AmountProducts', WHERE WHAT IT READS IS OF BULK AT MOST 1048576: true; the input reads as it did. -/
def amountProductsUptoRow : OpenClaim := { program := "ytpnegdcfccnocaa", sum := "0de01fa79579e1494bc53711fd0909a0c93b9ceff36f5666844e9c76fcce33a7", func := "wharfinger/wharfingerlaw1.AmountProducts", spec := "amountProducts", apart := false, narrowed := true }
def AmountProductsUptoSaid : Prop := amountProductsUptoRow.holds Try.pinned (OpenSpec.upto amountProductsSpec)

/-- 'wharfingerlaw1.AmountOrders', WHERE WHAT IT READS IS OF BULK AT MOST 1048576: true; the input reads as it did. -/
def amountOrdersUptoRow : OpenClaim := { program := "ytpnegdcfccnocaa", sum := "0de01fa79579e1494bc53711fd0909a0c93b9ceff36f5666844e9c76fcce33a7", func := "wharfinger/wharfingerlaw1.AmountOrders", spec := "amountOrders", apart := false, narrowed := true }
def AmountOrdersUptoSaid : Prop := amountOrdersUptoRow.holds Try.pinned (OpenSpec.upto amountOrdersSpec)

end Rows
end Go.Proofs.Ytpnegdcfccnocaa
