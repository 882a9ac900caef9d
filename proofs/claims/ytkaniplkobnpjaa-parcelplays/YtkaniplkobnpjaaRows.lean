/-
  No cell of these rows narrows 'for every input' (looked for: loops, veiled, ifaces, maps, wideKeys, modest, calm, conditions, laid).
  DERIVED. THE GIVEN ROWS OF THIS SEAT. 4 by the template 'for every input the law returns true; each argument reads behind the call as it read before'; 0 by the template 'total and deterministic' (their statements: YtkaniplkobnpjaaTotals.lean).
  GIVEN WITH THE SEED: the statements are not yours to turn. If you find one false, say at which input.
  Laid BY PROGRAM, IN A SANDBOX (cutbox-rows.mjs): the forced cells as the released guide's own fill.sh prints them over the translation 917a8d2d971f4e9e… (all of the seat's roots in one cut). By AI agents, Wed Nov 11 2026. No macro, syntax, notation, axiom, sorry.
-/
import Derived.Test.YtkaniplkobnpjaaChecked
import GoSem.Claim
import GoSem.ClaimJoined
import GoSem.ClaimMapViews
import Derived.JoinedTies
import Derived.KernelRfl
namespace Go.Proofs.Ytkaniplkobnpjaa
/- THE CELL 'sum', in the pinned program and in every row, IS THE sha256 OF THE DUMP (.gsa) THAT YtkaniplkobnpjaaProg.lean LOADS. Nothing in Lean hashes anything: it is a label: what it is worth is what the hold of that sum in a sandbox is worth. -/
noncomputable def Try.pinned : Pinned := { name := "ytkaniplkobnpjaa", sum := "917a8d2d971f4e9e3c4d2749bce0a0b181117be30f821c4698acb45a171c4a81", checked := Try.checked }
namespace Rows
def none {H : Type} : Left H := { results := [], args := [] }

/-- 'wharfingerlaw10.ParcelPlays': WHATEVER THE INPUT: true; the input reads as it did. -/
def parcelPlaysSpec : ChangeSpec := { name := "parcelPlays", fn := fun _ => fun
  | [d] => { results := [.lit (.bool true)], args := [d] }
  | _ => none }
def parcelPlaysRow : OpenClaim := { program := "ytkaniplkobnpjaa", sum := "917a8d2d971f4e9e3c4d2749bce0a0b181117be30f821c4698acb45a171c4a81", func := "wharfinger/wharfingerlaw10.ParcelPlays", spec := "parcelPlays", unfollowed := true, recurses := true, apart := false }
def ParcelPlaysSaid : Prop := parcelPlaysRow.holds Try.pinned (OpenSpec.ofChange parcelPlaysSpec)

/-- ITS FALSE NEIGHBOUR: 'it returns false'. Refute it at one input. -/
def parcelPlaysWrong : ChangeSpec := { name := "parcelPlays", fn := fun _ => fun
  | [d] => { results := [.lit (.bool false)], args := [d] }
  | _ => none }
def ParcelPlaysWrongFalsely : Prop := parcelPlaysRow.holds Try.pinned (OpenSpec.ofChange parcelPlaysWrong)

/-- 'wharfingerlaw10.ParcelNil': WHATEVER THE INPUT: true; the input reads as it did. -/
def parcelNilSpec : ChangeSpec := { name := "parcelNil", fn := fun _ => fun
  | [d] => { results := [.lit (.bool true)], args := [d] }
  | _ => none }
def parcelNilRow : OpenClaim := { program := "ytkaniplkobnpjaa", sum := "917a8d2d971f4e9e3c4d2749bce0a0b181117be30f821c4698acb45a171c4a81", func := "wharfinger/wharfingerlaw10.ParcelNil", spec := "parcelNil", unfollowed := true, recurses := true, apart := false }
def ParcelNilSaid : Prop := parcelNilRow.holds Try.pinned (OpenSpec.ofChange parcelNilSpec)

/-- ITS FALSE NEIGHBOUR: 'it returns false'. Refute it at one input. -/
def parcelNilWrong : ChangeSpec := { name := "parcelNil", fn := fun _ => fun
  | [d] => { results := [.lit (.bool false)], args := [d] }
  | _ => none }
def ParcelNilWrongFalsely : Prop := parcelNilRow.holds Try.pinned (OpenSpec.ofChange parcelNilWrong)

/-- 'wharfingerlaw10.ParcelOnce': WHATEVER THE INPUT: true; the input reads as it did. -/
def parcelOnceSpec : ChangeSpec := { name := "parcelOnce", fn := fun _ => fun
  | [d] => { results := [.lit (.bool true)], args := [d] }
  | _ => none }
def parcelOnceRow : OpenClaim := { program := "ytkaniplkobnpjaa", sum := "917a8d2d971f4e9e3c4d2749bce0a0b181117be30f821c4698acb45a171c4a81", func := "wharfinger/wharfingerlaw10.ParcelOnce", spec := "parcelOnce", unfollowed := true, recurses := true, apart := false }
def ParcelOnceSaid : Prop := parcelOnceRow.holds Try.pinned (OpenSpec.ofChange parcelOnceSpec)

/-- ITS FALSE NEIGHBOUR: 'it returns false'. Refute it at one input. -/
def parcelOnceWrong : ChangeSpec := { name := "parcelOnce", fn := fun _ => fun
  | [d] => { results := [.lit (.bool false)], args := [d] }
  | _ => none }
def ParcelOnceWrongFalsely : Prop := parcelOnceRow.holds Try.pinned (OpenSpec.ofChange parcelOnceWrong)

/-- 'wharfingerlaw10.ParcelOrder': WHATEVER THE INPUT: true; the input reads as it did. -/
def parcelOrderSpec : ChangeSpec := { name := "parcelOrder", fn := fun _ => fun
  | [d] => { results := [.lit (.bool true)], args := [d] }
  | _ => none }
def parcelOrderRow : OpenClaim := { program := "ytkaniplkobnpjaa", sum := "917a8d2d971f4e9e3c4d2749bce0a0b181117be30f821c4698acb45a171c4a81", func := "wharfinger/wharfingerlaw10.ParcelOrder", spec := "parcelOrder", unfollowed := true, recurses := true, apart := false }
def ParcelOrderSaid : Prop := parcelOrderRow.holds Try.pinned (OpenSpec.ofChange parcelOrderSpec)

/-- ITS FALSE NEIGHBOUR: 'it returns false'. Refute it at one input. -/
def parcelOrderWrong : ChangeSpec := { name := "parcelOrder", fn := fun _ => fun
  | [d] => { results := [.lit (.bool false)], args := [d] }
  | _ => none }
def ParcelOrderWrongFalsely : Prop := parcelOrderRow.holds Try.pinned (OpenSpec.ofChange parcelOrderWrong)

/- THE SECOND FORM. 'bulk': how many values and letters a reading holds, each counted each time it is reached (what is shared counts as often as it is met; a slice's spare places count too). A statement '..UptoSaid' is the law's where the arguments, and the package variables that the reading takes, are together of bulk at most 1048576: NARROWER than '..Said'. Prove '..Said' where nothing that the law and all that it calls make is longer than what came in: it says more and counts as full. Else prove '..UptoSaid'. A law counts once. -/
mutual
def uptoBulk {H : Type} : DataW H → Nat
  | .lit (.string bytes) => bytes.length + 1
  | .lit _ => 1
  | .nil => 1
  | .ptr d => uptoBulk d + 1
  | .slice elems spare => uptoBulkAll elems + uptoBulkAll spare + 1
  | .agg parts => uptoBulkAll parts + 1
  | .iface _ d => uptoBulk d + 1
  | .map entries => uptoBulkEntries entries + 1
  | .held _ => 1
def uptoBulkAll {H : Type} : List (DataW H) → Nat
  | [] => 0
  | d :: r => uptoBulk d + uptoBulkAll r
def uptoBulkEntries {H : Type} : List (Lit × DataW H) → Nat
  | [] => 0
  | x :: r => uptoBulkEntry x + uptoBulkEntries r
def uptoBulkEntry {H : Type} : Lit × DataW H → Nat
  | (.string bytes, d) => bytes.length + uptoBulk d + 1
  | (_, d) => uptoBulk d + 1
 end
def uptoSmall : (H : Type) → List (DataW H) → Bool := fun _ ds => decide (uptoBulkAll ds ≤ 1048576)
def OpenSpec.upto (s : _root_.Go.ChangeSpec) : _root_.Go.OpenSpec := { _root_.Go.OpenSpec.ofChange s with cond := some uptoSmall }

/-- 'wharfingerlaw10.ParcelPlays', WHERE WHAT IT READS IS OF BULK AT MOST 1048576: true; the input reads as it did. -/
def parcelPlaysUptoRow : OpenClaim := { program := "ytkaniplkobnpjaa", sum := "917a8d2d971f4e9e3c4d2749bce0a0b181117be30f821c4698acb45a171c4a81", func := "wharfinger/wharfingerlaw10.ParcelPlays", spec := "parcelPlays", unfollowed := true, recurses := true, apart := false, narrowed := true }
def ParcelPlaysUptoSaid : Prop := parcelPlaysUptoRow.holds Try.pinned (OpenSpec.upto parcelPlaysSpec)

/-- 'wharfingerlaw10.ParcelNil', WHERE WHAT IT READS IS OF BULK AT MOST 1048576: true; the input reads as it did. -/
def parcelNilUptoRow : OpenClaim := { program := "ytkaniplkobnpjaa", sum := "917a8d2d971f4e9e3c4d2749bce0a0b181117be30f821c4698acb45a171c4a81", func := "wharfinger/wharfingerlaw10.ParcelNil", spec := "parcelNil", unfollowed := true, recurses := true, apart := false, narrowed := true }
def ParcelNilUptoSaid : Prop := parcelNilUptoRow.holds Try.pinned (OpenSpec.upto parcelNilSpec)

/-- 'wharfingerlaw10.ParcelOnce', WHERE WHAT IT READS IS OF BULK AT MOST 1048576: true; the input reads as it did. -/
def parcelOnceUptoRow : OpenClaim := { program := "ytkaniplkobnpjaa", sum := "917a8d2d971f4e9e3c4d2749bce0a0b181117be30f821c4698acb45a171c4a81", func := "wharfinger/wharfingerlaw10.ParcelOnce", spec := "parcelOnce", unfollowed := true, recurses := true, apart := false, narrowed := true }
def ParcelOnceUptoSaid : Prop := parcelOnceUptoRow.holds Try.pinned (OpenSpec.upto parcelOnceSpec)

/-- 'wharfingerlaw10.ParcelOrder', WHERE WHAT IT READS IS OF BULK AT MOST 1048576: true; the input reads as it did. -/
def parcelOrderUptoRow : OpenClaim := { program := "ytkaniplkobnpjaa", sum := "917a8d2d971f4e9e3c4d2749bce0a0b181117be30f821c4698acb45a171c4a81", func := "wharfinger/wharfingerlaw10.ParcelOrder", spec := "parcelOrder", unfollowed := true, recurses := true, apart := false, narrowed := true }
def ParcelOrderUptoSaid : Prop := parcelOrderUptoRow.holds Try.pinned (OpenSpec.upto parcelOrderSpec)

end Rows
end Go.Proofs.Ytkaniplkobnpjaa
