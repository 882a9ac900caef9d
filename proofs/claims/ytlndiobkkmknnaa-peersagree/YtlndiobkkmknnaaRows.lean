/-
  No cell of these rows narrows 'for every input' (looked for: loops, veiled, ifaces, maps, wideKeys, modest, calm, conditions, laid).
  DERIVED. THE GIVEN ROWS OF THIS SEAT. 4 by the template 'for every input the law returns true; each argument reads behind the call as it read before'; 0 by the template 'total and deterministic' (their statements: YtlndiobkkmknnaaTotals.lean).
  GIVEN WITH THE SEED: the statements are not yours to turn. If you find one false, say at which input.
  Laid BY PROGRAM, IN A SANDBOX (cutbox-rows.mjs): the forced cells as the released guide's own fill.sh prints them over the translation 7a7927e9df681a62… (all of the seat's roots in one cut). By AI agents, Wed Nov 11 2026. No macro, syntax, notation, axiom, sorry.
-/
import Derived.Test.YtlndiobkkmknnaaChecked
import GoSem.Claim
import GoSem.ClaimJoined
import GoSem.ClaimMapViews
import Derived.JoinedTies
import Derived.KernelRfl
namespace Go.Proofs.Ytlndiobkkmknnaa
/- THE CELL 'sum', in the pinned program and in every row, IS THE sha256 OF THE DUMP (.gsa) THAT YtlndiobkkmknnaaProg.lean LOADS. Nothing in Lean hashes anything: it is a label: what it is worth is what the hold of that sum in a sandbox is worth. -/
noncomputable def Try.pinned : Pinned := { name := "ytlndiobkkmknnaa", sum := "7a7927e9df681a62d601bce9f1bdb91fed339e96a524298f11a7b56067ea07d8", checked := Try.checked }
namespace Rows
def none {H : Type} : Left H := { results := [], args := [] }

/-- 'wharfingerlaw14.PeersForms': WHATEVER THE INPUT: true; the input reads as it did. -/
def peersFormsSpec : ChangeSpec := { name := "peersForms", fn := fun _ => fun
  | [d1, d2] => { results := [.lit (.bool true)], args := [d1, d2] }
  | _ => none }
def peersFormsRow : OpenClaim := { program := "ytlndiobkkmknnaa", sum := "7a7927e9df681a62d601bce9f1bdb91fed339e96a524298f11a7b56067ea07d8", func := "wharfinger/wharfingerlaw14.PeersForms", spec := "peersForms", apart := false }
def PeersFormsSaid : Prop := peersFormsRow.holds Try.pinned (OpenSpec.ofChange peersFormsSpec)

/-- ITS FALSE NEIGHBOUR: 'it returns false'. Refute it at one input. -/
def peersFormsWrong : ChangeSpec := { name := "peersForms", fn := fun _ => fun
  | [d1, d2] => { results := [.lit (.bool false)], args := [d1, d2] }
  | _ => none }
def PeersFormsWrongFalsely : Prop := peersFormsRow.holds Try.pinned (OpenSpec.ofChange peersFormsWrong)

/-- 'wharfingerlaw14.PeersAgree': WHATEVER THE INPUT: true; the input reads as it did. -/
def peersAgreeSpec : ChangeSpec := { name := "peersAgree", fn := fun _ => fun
  | [d1, d2] => { results := [.lit (.bool true)], args := [d1, d2] }
  | _ => none }
def peersAgreeRow : OpenClaim := { program := "ytlndiobkkmknnaa", sum := "7a7927e9df681a62d601bce9f1bdb91fed339e96a524298f11a7b56067ea07d8", func := "wharfinger/wharfingerlaw14.PeersAgree", spec := "peersAgree", apart := false }
def PeersAgreeSaid : Prop := peersAgreeRow.holds Try.pinned (OpenSpec.ofChange peersAgreeSpec)

/-- ITS FALSE NEIGHBOUR: 'it returns false'. Refute it at one input. -/
def peersAgreeWrong : ChangeSpec := { name := "peersAgree", fn := fun _ => fun
  | [d1, d2] => { results := [.lit (.bool false)], args := [d1, d2] }
  | _ => none }
def PeersAgreeWrongFalsely : Prop := peersAgreeRow.holds Try.pinned (OpenSpec.ofChange peersAgreeWrong)

/-- 'wharfingerlaw14.PeersFewer': WHATEVER THE INPUT: true; the input reads as it did. -/
def peersFewerSpec : ChangeSpec := { name := "peersFewer", fn := fun _ => fun
  | [d1, d2] => { results := [.lit (.bool true)], args := [d1, d2] }
  | _ => none }
def peersFewerRow : OpenClaim := { program := "ytlndiobkkmknnaa", sum := "7a7927e9df681a62d601bce9f1bdb91fed339e96a524298f11a7b56067ea07d8", func := "wharfinger/wharfingerlaw14.PeersFewer", spec := "peersFewer", apart := false }
def PeersFewerSaid : Prop := peersFewerRow.holds Try.pinned (OpenSpec.ofChange peersFewerSpec)

/-- ITS FALSE NEIGHBOUR: 'it returns false'. Refute it at one input. -/
def peersFewerWrong : ChangeSpec := { name := "peersFewer", fn := fun _ => fun
  | [d1, d2] => { results := [.lit (.bool false)], args := [d1, d2] }
  | _ => none }
def PeersFewerWrongFalsely : Prop := peersFewerRow.holds Try.pinned (OpenSpec.ofChange peersFewerWrong)

/-- 'wharfingerlaw14.PeersOne': WHATEVER THE INPUT: true; the input reads as it did. -/
def peersOneSpec : ChangeSpec := { name := "peersOne", fn := fun _ => fun
  | [d1, d2] => { results := [.lit (.bool true)], args := [d1, d2] }
  | _ => none }
def peersOneRow : OpenClaim := { program := "ytlndiobkkmknnaa", sum := "7a7927e9df681a62d601bce9f1bdb91fed339e96a524298f11a7b56067ea07d8", func := "wharfinger/wharfingerlaw14.PeersOne", spec := "peersOne", apart := false }
def PeersOneSaid : Prop := peersOneRow.holds Try.pinned (OpenSpec.ofChange peersOneSpec)

/-- ITS FALSE NEIGHBOUR: 'it returns false'. Refute it at one input. -/
def peersOneWrong : ChangeSpec := { name := "peersOne", fn := fun _ => fun
  | [d1, d2] => { results := [.lit (.bool false)], args := [d1, d2] }
  | _ => none }
def PeersOneWrongFalsely : Prop := peersOneRow.holds Try.pinned (OpenSpec.ofChange peersOneWrong)

/- THE SECOND FORM. 'bulk': how many values and letters a reading holds, each counted each time it is reached (what is shared counts as often as it is met; a slice's spare places count too). A statement '..UptoSaid' is the law's where the arguments, and the package variables that the reading takes, are together of bulk at most 1048576: NARROWER than '..Said'. Prove '..Said' where nothing that the law and all that it calls make is longer than what came in: it says more and counts as full. Else prove '..UptoSaid'. A law counts once. -/
mutual
def uptoBulk {H : Type} : DataW H → Nat
  | .lit (.string bytes) => bytes.length + 1
  | .lit _ => 1
  | .nil => 1
  | .ptr d => uptoBulk d + 1
  | .slice elems spare => uptoBulkAll elems + uptoBulkAll spare + 1
  | .agg parts => uptoBulkAll parts + 1
  | .iface _ d => uptoBulk d + 1
  | .map entries => uptoBulkEntries entries + 1
  | .held _ => 1
def uptoBulkAll {H : Type} : List (DataW H) → Nat
  | [] => 0
  | d :: r => uptoBulk d + uptoBulkAll r
def uptoBulkEntries {H : Type} : List (Lit × DataW H) → Nat
  | [] => 0
  | x :: r => uptoBulkEntry x + uptoBulkEntries r
def uptoBulkEntry {H : Type} : Lit × DataW H → Nat
  | (.string bytes, d) => bytes.length + uptoBulk d + 1
  | (_, d) => uptoBulk d + 1
 end
def uptoSmall : (H : Type) → List (DataW H) → Bool := fun _ ds => decide (uptoBulkAll ds ≤ 1048576)
def OpenSpec.upto (s : _root_.Go.ChangeSpec) : _root_.Go.OpenSpec := { _root_.Go.OpenSpec.ofChange s with cond := some uptoSmall }

/-- 'wharfingerlaw14.PeersForms', WHERE WHAT IT READS IS OF BULK AT MOST 1048576: true; the input reads as it did. -/
def peersFormsUptoRow : OpenClaim := { program := "ytlndiobkkmknnaa", sum := "7a7927e9df681a62d601bce9f1bdb91fed339e96a524298f11a7b56067ea07d8", func := "wharfinger/wharfingerlaw14.PeersForms", spec := "peersForms", apart := false, narrowed := true }
def PeersFormsUptoSaid : Prop := peersFormsUptoRow.holds Try.pinned (OpenSpec.upto peersFormsSpec)

/-- 'wharfingerlaw14.PeersAgree', WHERE WHAT IT READS IS OF BULK AT MOST 1048576: true; the input reads as it did. -/
def peersAgreeUptoRow : OpenClaim := { program := "ytlndiobkkmknnaa", sum := "7a7927e9df681a62d601bce9f1bdb91fed339e96a524298f11a7b56067ea07d8", func := "wharfinger/wharfingerlaw14.PeersAgree", spec := "peersAgree", apart := false, narrowed := true }
def PeersAgreeUptoSaid : Prop := peersAgreeUptoRow.holds Try.pinned (OpenSpec.upto peersAgreeSpec)

/-- 'wharfingerlaw14.PeersFewer', WHERE WHAT IT READS IS OF BULK AT MOST 1048576: true; the input reads as it did. -/
def peersFewerUptoRow : OpenClaim := { program := "ytlndiobkkmknnaa", sum := "7a7927e9df681a62d601bce9f1bdb91fed339e96a524298f11a7b56067ea07d8", func := "wharfinger/wharfingerlaw14.PeersFewer", spec := "peersFewer", apart := false, narrowed := true }
def PeersFewerUptoSaid : Prop := peersFewerUptoRow.holds Try.pinned (OpenSpec.upto peersFewerSpec)

/-- 'wharfingerlaw14.PeersOne', WHERE WHAT IT READS IS OF BULK AT MOST 1048576: true; the input reads as it did. -/
def peersOneUptoRow : OpenClaim := { program := "ytlndiobkkmknnaa", sum := "7a7927e9df681a62d601bce9f1bdb91fed339e96a524298f11a7b56067ea07d8", func := "wharfinger/wharfingerlaw14.PeersOne", spec := "peersOne", apart := false, narrowed := true }
def PeersOneUptoSaid : Prop := peersOneUptoRow.holds Try.pinned (OpenSpec.upto peersOneSpec)

end Rows
end Go.Proofs.Ytlndiobkkmknnaa
