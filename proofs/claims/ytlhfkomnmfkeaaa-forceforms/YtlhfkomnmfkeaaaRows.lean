/-
  No cell of these rows narrows 'for every input' (looked for: loops, veiled, ifaces, maps, wideKeys, modest, calm, conditions, laid).
  DERIVED. THE GIVEN ROWS OF THIS SEAT. 4 by the template 'for every input the law returns true; each argument reads behind the call as it read before'; 0 by the template 'total and deterministic' (their statements: YtlhfkomnmfkeaaaTotals.lean).
  GIVEN WITH THE SEED: the statements are not yours to turn. If you find one false, say at which input.
  Laid BY PROGRAM, IN A SANDBOX (cutbox-rows.mjs): the forced cells as the released guide's own fill.sh prints them over the translation a270ff8dd6e391bb… (all of the seat's roots in one cut). By AI agents, Wed Nov 11 2026. No macro, syntax, notation, axiom, sorry.
-/
import Derived.Test.YtlhfkomnmfkeaaaChecked
import GoSem.Claim
import GoSem.ClaimJoined
import GoSem.ClaimMapViews
import Derived.JoinedTies
import Derived.KernelRfl
namespace Go.Proofs.Ytlhfkomnmfkeaaa
/- THE CELL 'sum', in the pinned program and in every row, IS THE sha256 OF THE DUMP (.gsa) THAT YtlhfkomnmfkeaaaProg.lean LOADS. Nothing in Lean hashes anything: it is a label: what it is worth is what the hold of that sum in a sandbox is worth. -/
noncomputable def Try.pinned : Pinned := { name := "ytlhfkomnmfkeaaa", sum := "a270ff8dd6e391bba5ff8e406cdb86df6959d038dbdfea9a9402b79e9de817ed", checked := Try.checked }
namespace Rows
def none {H : Type} : Left H := { results := [], args := [] }

/-- 'wharfingerlaw15.ForceForms': WHATEVER THE INPUT: true; the input reads as it did. -/
def forceFormsSpec : ChangeSpec := { name := "forceForms", fn := fun _ => fun
  | [d1, d2, d3] => { results := [.lit (.bool true)], args := [d1, d2, d3] }
  | _ => none }
def forceFormsRow : OpenClaim := { program := "ytlhfkomnmfkeaaa", sum := "a270ff8dd6e391bba5ff8e406cdb86df6959d038dbdfea9a9402b79e9de817ed", func := "wharfinger/wharfingerlaw15.ForceForms", spec := "forceForms", apart := false }
def ForceFormsSaid : Prop := forceFormsRow.holds Try.pinned (OpenSpec.ofChange forceFormsSpec)

/-- ITS FALSE NEIGHBOUR: 'it returns false'. Refute it at one input. -/
def forceFormsWrong : ChangeSpec := { name := "forceForms", fn := fun _ => fun
  | [d1, d2, d3] => { results := [.lit (.bool false)], args := [d1, d2, d3] }
  | _ => none }
def ForceFormsWrongFalsely : Prop := forceFormsRow.holds Try.pinned (OpenSpec.ofChange forceFormsWrong)

/-- 'wharfingerlaw15.ForceBlame': WHATEVER THE INPUT: true; the input reads as it did. -/
def forceBlameSpec : ChangeSpec := { name := "forceBlame", fn := fun _ => fun
  | [d1, d2] => { results := [.lit (.bool true)], args := [d1, d2] }
  | _ => none }
def forceBlameRow : OpenClaim := { program := "ytlhfkomnmfkeaaa", sum := "a270ff8dd6e391bba5ff8e406cdb86df6959d038dbdfea9a9402b79e9de817ed", func := "wharfinger/wharfingerlaw15.ForceBlame", spec := "forceBlame", apart := false }
def ForceBlameSaid : Prop := forceBlameRow.holds Try.pinned (OpenSpec.ofChange forceBlameSpec)

/-- ITS FALSE NEIGHBOUR: 'it returns false'. Refute it at one input. -/
def forceBlameWrong : ChangeSpec := { name := "forceBlame", fn := fun _ => fun
  | [d1, d2] => { results := [.lit (.bool false)], args := [d1, d2] }
  | _ => none }
def ForceBlameWrongFalsely : Prop := forceBlameRow.holds Try.pinned (OpenSpec.ofChange forceBlameWrong)

/-- 'wharfingerlaw15.ForceOnly': WHATEVER THE INPUT: true; the input reads as it did. -/
def forceOnlySpec : ChangeSpec := { name := "forceOnly", fn := fun _ => fun
  | [d1, d2] => { results := [.lit (.bool true)], args := [d1, d2] }
  | _ => none }
def forceOnlyRow : OpenClaim := { program := "ytlhfkomnmfkeaaa", sum := "a270ff8dd6e391bba5ff8e406cdb86df6959d038dbdfea9a9402b79e9de817ed", func := "wharfinger/wharfingerlaw15.ForceOnly", spec := "forceOnly", apart := false }
def ForceOnlySaid : Prop := forceOnlyRow.holds Try.pinned (OpenSpec.ofChange forceOnlySpec)

/-- ITS FALSE NEIGHBOUR: 'it returns false'. Refute it at one input. -/
def forceOnlyWrong : ChangeSpec := { name := "forceOnly", fn := fun _ => fun
  | [d1, d2] => { results := [.lit (.bool false)], args := [d1, d2] }
  | _ => none }
def ForceOnlyWrongFalsely : Prop := forceOnlyRow.holds Try.pinned (OpenSpec.ofChange forceOnlyWrong)

/-- 'wharfingerlaw15.ForceWhich': WHATEVER THE INPUT: true; the input reads as it did. -/
def forceWhichSpec : ChangeSpec := { name := "forceWhich", fn := fun _ => fun
  | [d1, d2] => { results := [.lit (.bool true)], args := [d1, d2] }
  | _ => none }
def forceWhichRow : OpenClaim := { program := "ytlhfkomnmfkeaaa", sum := "a270ff8dd6e391bba5ff8e406cdb86df6959d038dbdfea9a9402b79e9de817ed", func := "wharfinger/wharfingerlaw15.ForceWhich", spec := "forceWhich", apart := false }
def ForceWhichSaid : Prop := forceWhichRow.holds Try.pinned (OpenSpec.ofChange forceWhichSpec)

/-- ITS FALSE NEIGHBOUR: 'it returns false'. Refute it at one input. -/
def forceWhichWrong : ChangeSpec := { name := "forceWhich", fn := fun _ => fun
  | [d1, d2] => { results := [.lit (.bool false)], args := [d1, d2] }
  | _ => none }
def ForceWhichWrongFalsely : Prop := forceWhichRow.holds Try.pinned (OpenSpec.ofChange forceWhichWrong)

/- THE SECOND FORM. 'bulk': how many values and letters a reading holds, each counted each time it is reached (what is shared counts as often as it is met; a slice's spare places count too). A statement '..UptoSaid' is the law's where the arguments, and the package variables that the reading takes, are together of bulk at most 1048576: NARROWER than '..Said'. Prove '..Said' where nothing that the law and all that it calls make is longer than what came in: it says more and counts as full. Else prove '..UptoSaid'. A law counts once. -/
mutual
def uptoBulk {H : Type} : DataW H → Nat
  | .lit (.string bytes) => bytes.length + 1
  | .lit _ => 1
  | .nil => 1
  | .ptr d => uptoBulk d + 1
  | .slice elems spare => uptoBulkAll elems + uptoBulkAll spare + 1
  | .agg parts => uptoBulkAll parts + 1
  | .iface _ d => uptoBulk d + 1
  | .map entries => uptoBulkEntries entries + 1
  | .held _ => 1
def uptoBulkAll {H : Type} : List (DataW H) → Nat
  | [] => 0
  | d :: r => uptoBulk d + uptoBulkAll r
def uptoBulkEntries {H : Type} : List (Lit × DataW H) → Nat
  | [] => 0
  | x :: r => uptoBulkEntry x + uptoBulkEntries r
def uptoBulkEntry {H : Type} : Lit × DataW H → Nat
  | (.string bytes, d) => bytes.length + uptoBulk d + 1
  | (_, d) => uptoBulk d + 1
 end
def uptoSmall : (H : Type) → List (DataW H) → Bool := fun _ ds => decide (uptoBulkAll ds ≤ 1048576)
def OpenSpec.upto (s : _root_.Go.ChangeSpec) : _root_.Go.OpenSpec := { _root_.Go.OpenSpec.ofChange s with cond := some uptoSmall }

/-- 'wharfingerlaw15.ForceForms', WHERE WHAT IT READS IS OF BULK AT MOST 1048576: true; the input reads as it did. -/
def forceFormsUptoRow : OpenClaim := { program := "ytlhfkomnmfkeaaa", sum := "a270ff8dd6e391bba5ff8e406cdb86df6959d038dbdfea9a9402b79e9de817ed", func := "wharfinger/wharfingerlaw15.ForceForms", spec := "forceForms", apart := false, narrowed := true }
def ForceFormsUptoSaid : Prop := forceFormsUptoRow.holds Try.pinned (OpenSpec.upto forceFormsSpec)

/-- 'wharfingerlaw15.ForceBlame', WHERE WHAT IT READS IS OF BULK AT MOST 1048576: true; the input reads as it did. -/
def forceBlameUptoRow : OpenClaim := { program := "ytlhfkomnmfkeaaa", sum := "a270ff8dd6e391bba5ff8e406cdb86df6959d038dbdfea9a9402b79e9de817ed", func := "wharfinger/wharfingerlaw15.ForceBlame", spec := "forceBlame", apart := false, narrowed := true }
def ForceBlameUptoSaid : Prop := forceBlameUptoRow.holds Try.pinned (OpenSpec.upto forceBlameSpec)

/-- 'wharfingerlaw15.ForceOnly', WHERE WHAT IT READS IS OF BULK AT MOST 1048576: true; the input reads as it did. -/
def forceOnlyUptoRow : OpenClaim := { program := "ytlhfkomnmfkeaaa", sum := "a270ff8dd6e391bba5ff8e406cdb86df6959d038dbdfea9a9402b79e9de817ed", func := "wharfinger/wharfingerlaw15.ForceOnly", spec := "forceOnly", apart := false, narrowed := true }
def ForceOnlyUptoSaid : Prop := forceOnlyUptoRow.holds Try.pinned (OpenSpec.upto forceOnlySpec)

/-- 'wharfingerlaw15.ForceWhich', WHERE WHAT IT READS IS OF BULK AT MOST 1048576: true; the input reads as it did. -/
def forceWhichUptoRow : OpenClaim := { program := "ytlhfkomnmfkeaaa", sum := "a270ff8dd6e391bba5ff8e406cdb86df6959d038dbdfea9a9402b79e9de817ed", func := "wharfinger/wharfingerlaw15.ForceWhich", spec := "forceWhich", apart := false, narrowed := true }
def ForceWhichUptoSaid : Prop := forceWhichUptoRow.holds Try.pinned (OpenSpec.upto forceWhichSpec)

end Rows
end Go.Proofs.Ytlhfkomnmfkeaaa
