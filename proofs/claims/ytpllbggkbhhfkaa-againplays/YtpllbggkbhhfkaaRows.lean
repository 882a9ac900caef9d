/-
  No cell of these rows narrows 'for every input' (looked for: loops, veiled, ifaces, maps, wideKeys, modest, calm, conditions, laid).
  DERIVED. THE GIVEN ROWS OF THIS SEAT. 4 by the template 'for every input the law returns true; each argument reads behind the call as it read before'; 0 by the template 'total and deterministic' (their statements: YtpllbggkbhhfkaaTotals.lean).
  GIVEN WITH THE SEED: the statements are not yours to turn. If you find one false, say at which input.
  Laid BY PROGRAM, IN A SANDBOX (cutbox-rows.mjs): the forced cells as the released guide's own fill.sh prints them over the translation c741f22e40774637… (all of the seat's roots in one cut). By AI agents, Wed Nov 11 2026. No macro, syntax, notation, axiom, sorry.
-/
import Derived.Test.YtpllbggkbhhfkaaChecked
import GoSem.Claim
import GoSem.ClaimJoined
import GoSem.ClaimMapViews
import Derived.JoinedTies
import Derived.KernelRfl
namespace Go.Proofs.Ytpllbggkbhhfkaa
/- THE CELL 'sum', in the pinned program and in every row, IS THE sha256 OF THE DUMP (.gsa) THAT YtpllbggkbhhfkaaProg.lean LOADS. Nothing in Lean hashes anything: it is a label: what it is worth is what the hold of that sum in a sandbox is worth. -/
noncomputable def Try.pinned : Pinned := { name := "ytpllbggkbhhfkaa", sum := "c741f22e407746378fc3e5ed76bfaf9416a6a726fd233aa94ae063a9d792ebd5", checked := Try.checked }
namespace Rows
def none {H : Type} : Left H := { results := [], args := [] }

/-- 'wharfingerlaw11.AgainPlays': WHATEVER THE INPUT: true; the input reads as it did. -/
def againPlaysSpec : ChangeSpec := { name := "againPlays", fn := fun _ => fun
  | [d1, d2] => { results := [.lit (.bool true)], args := [d1, d2] }
  | _ => none }
def againPlaysRow : OpenClaim := { program := "ytpllbggkbhhfkaa", sum := "c741f22e407746378fc3e5ed76bfaf9416a6a726fd233aa94ae063a9d792ebd5", func := "wharfinger/wharfingerlaw11.AgainPlays", spec := "againPlays", apart := false }
def AgainPlaysSaid : Prop := againPlaysRow.holds Try.pinned (OpenSpec.ofChange againPlaysSpec)

/-- ITS FALSE NEIGHBOUR: 'it returns false'. Refute it at one input. -/
def againPlaysWrong : ChangeSpec := { name := "againPlays", fn := fun _ => fun
  | [d1, d2] => { results := [.lit (.bool false)], args := [d1, d2] }
  | _ => none }
def AgainPlaysWrongFalsely : Prop := againPlaysRow.holds Try.pinned (OpenSpec.ofChange againPlaysWrong)

/-- 'wharfingerlaw11.AgainNil': WHATEVER THE INPUT: true; the input reads as it did. -/
def againNilSpec : ChangeSpec := { name := "againNil", fn := fun _ => fun
  | [d] => { results := [.lit (.bool true)], args := [d] }
  | _ => none }
def againNilRow : OpenClaim := { program := "ytpllbggkbhhfkaa", sum := "c741f22e407746378fc3e5ed76bfaf9416a6a726fd233aa94ae063a9d792ebd5", func := "wharfinger/wharfingerlaw11.AgainNil", spec := "againNil", apart := false }
def AgainNilSaid : Prop := againNilRow.holds Try.pinned (OpenSpec.ofChange againNilSpec)

/-- ITS FALSE NEIGHBOUR: 'it returns false'. Refute it at one input. -/
def againNilWrong : ChangeSpec := { name := "againNil", fn := fun _ => fun
  | [d] => { results := [.lit (.bool false)], args := [d] }
  | _ => none }
def AgainNilWrongFalsely : Prop := againNilRow.holds Try.pinned (OpenSpec.ofChange againNilWrong)

/-- 'wharfingerlaw11.AgainEnds': WHATEVER THE INPUT: true; the input reads as it did. -/
def againEndsSpec : ChangeSpec := { name := "againEnds", fn := fun _ => fun
  | [d] => { results := [.lit (.bool true)], args := [d] }
  | _ => none }
def againEndsRow : OpenClaim := { program := "ytpllbggkbhhfkaa", sum := "c741f22e407746378fc3e5ed76bfaf9416a6a726fd233aa94ae063a9d792ebd5", func := "wharfinger/wharfingerlaw11.AgainEnds", spec := "againEnds", apart := false }
def AgainEndsSaid : Prop := againEndsRow.holds Try.pinned (OpenSpec.ofChange againEndsSpec)

/-- ITS FALSE NEIGHBOUR: 'it returns false'. Refute it at one input. -/
def againEndsWrong : ChangeSpec := { name := "againEnds", fn := fun _ => fun
  | [d] => { results := [.lit (.bool false)], args := [d] }
  | _ => none }
def AgainEndsWrongFalsely : Prop := againEndsRow.holds Try.pinned (OpenSpec.ofChange againEndsWrong)

/-- 'wharfingerlaw11.AgainWaits': WHATEVER THE INPUT: true; the input reads as it did. -/
def againWaitsSpec : ChangeSpec := { name := "againWaits", fn := fun _ => fun
  | [d1, d2, d3] => { results := [.lit (.bool true)], args := [d1, d2, d3] }
  | _ => none }
def againWaitsRow : OpenClaim := { program := "ytpllbggkbhhfkaa", sum := "c741f22e407746378fc3e5ed76bfaf9416a6a726fd233aa94ae063a9d792ebd5", func := "wharfinger/wharfingerlaw11.AgainWaits", spec := "againWaits", apart := false }
def AgainWaitsSaid : Prop := againWaitsRow.holds Try.pinned (OpenSpec.ofChange againWaitsSpec)

/-- ITS FALSE NEIGHBOUR: 'it returns false'. Refute it at one input. -/
def againWaitsWrong : ChangeSpec := { name := "againWaits", fn := fun _ => fun
  | [d1, d2, d3] => { results := [.lit (.bool false)], args := [d1, d2, d3] }
  | _ => none }
def AgainWaitsWrongFalsely : Prop := againWaitsRow.holds Try.pinned (OpenSpec.ofChange againWaitsWrong)

/- THE SECOND FORM. 'bulk': how many values and letters a reading holds, each counted each time it is reached (what is shared counts as often as it is met; a slice's spare places count too). A statement '..UptoSaid' is the law's where the arguments, and the package variables that the reading takes, are together of bulk at most 1048576: NARROWER than '..Said'. Prove '..Said' where nothing that the law and all that it calls make is longer than what came in: it says more and counts as full. Else prove '..UptoSaid'. A law counts once. -/
mutual
def uptoBulk {H : Type} : DataW H → Nat
  | .lit (.string bytes) => bytes.length + 1
  | .lit _ => 1
  | .nil => 1
  | .ptr d => uptoBulk d + 1
  | .slice elems spare => uptoBulkAll elems + uptoBulkAll spare + 1
  | .agg parts => uptoBulkAll parts + 1
  | .iface _ d => uptoBulk d + 1
  | .map entries => uptoBulkEntries entries + 1
  | .held _ => 1
def uptoBulkAll {H : Type} : List (DataW H) → Nat
  | [] => 0
  | d :: r => uptoBulk d + uptoBulkAll r
def uptoBulkEntries {H : Type} : List (Lit × DataW H) → Nat
  | [] => 0
  | x :: r => uptoBulkEntry x + uptoBulkEntries r
def uptoBulkEntry {H : Type} : Lit × DataW H → Nat
  | (.string bytes, d) => bytes.length + uptoBulk d + 1
  | (_, d) => uptoBulk d + 1
 end
def uptoSmall : (H : Type) → List (DataW H) → Bool := fun _ ds => decide (uptoBulkAll ds ≤ 1048576)
def OpenSpec.upto (s : _root_.Go.ChangeSpec) : _root_.Go.OpenSpec := { _root_.Go.OpenSpec.ofChange s with cond := some uptoSmall }

/-- 'wharfingerlaw11.AgainPlays', WHERE WHAT IT READS IS OF BULK AT MOST 1048576: true; the input reads as it did. -/
def againPlaysUptoRow : OpenClaim := { program := "ytpllbggkbhhfkaa", sum := "c741f22e407746378fc3e5ed76bfaf9416a6a726fd233aa94ae063a9d792ebd5", func := "wharfinger/wharfingerlaw11.AgainPlays", spec := "againPlays", apart := false, narrowed := true }
def AgainPlaysUptoSaid : Prop := againPlaysUptoRow.holds Try.pinned (OpenSpec.upto againPlaysSpec)

/-- 'wharfingerlaw11.AgainNil', WHERE WHAT IT READS IS OF BULK AT MOST 1048576: true; the input reads as it did. -/
def againNilUptoRow : OpenClaim := { program := "ytpllbggkbhhfkaa", sum := "c741f22e407746378fc3e5ed76bfaf9416a6a726fd233aa94ae063a9d792ebd5", func := "wharfinger/wharfingerlaw11.AgainNil", spec := "againNil", apart := false, narrowed := true }
def AgainNilUptoSaid : Prop := againNilUptoRow.holds Try.pinned (OpenSpec.upto againNilSpec)

/-- 'wharfingerlaw11.AgainEnds', WHERE WHAT IT READS IS OF BULK AT MOST 1048576: true; the input reads as it did. -/
def againEndsUptoRow : OpenClaim := { program := "ytpllbggkbhhfkaa", sum := "c741f22e407746378fc3e5ed76bfaf9416a6a726fd233aa94ae063a9d792ebd5", func := "wharfinger/wharfingerlaw11.AgainEnds", spec := "againEnds", apart := false, narrowed := true }
def AgainEndsUptoSaid : Prop := againEndsUptoRow.holds Try.pinned (OpenSpec.upto againEndsSpec)

/-- 'wharfingerlaw11.AgainWaits', WHERE WHAT IT READS IS OF BULK AT MOST 1048576: true; the input reads as it did. -/
def againWaitsUptoRow : OpenClaim := { program := "ytpllbggkbhhfkaa", sum := "c741f22e407746378fc3e5ed76bfaf9416a6a726fd233aa94ae063a9d792ebd5", func := "wharfinger/wharfingerlaw11.AgainWaits", spec := "againWaits", apart := false, narrowed := true }
def AgainWaitsUptoSaid : Prop := againWaitsUptoRow.holds Try.pinned (OpenSpec.upto againWaitsSpec)

end Rows
end Go.Proofs.Ytpllbggkbhhfkaa
