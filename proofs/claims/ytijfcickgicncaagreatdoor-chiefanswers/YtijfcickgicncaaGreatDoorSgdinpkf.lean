/-
  An order that came in: its cells, its row of steps.
-/
import Derived.Test.YtijfcickgicncaaGreatDoorSgffgmme
import Derived.ProofKit
import Derived.OpenShut
import Derived.Lib.SmallJoins
namespace Go.Proofs.YtijfcickgicncaaGreatDoor.Sg
open Go.ChangeShapes Go.WideShapes Go.ChangeAt Go.RowKit Go.Joins

/-- How an order's row of steps lies. -/
def OdIn (w : World) (o : Od) (a : Option Addr) (cap : Nat) : Prop := o.steps.length ≤ 9223372036854775807 ∧ Sts w a o.steps ∧ (a = none → o.steps = [] ∧ cap = 0) ∧ o.steps.length ≤ cap
theorem OdIn.below {w w' : World} {o : Od} {a : Option Addr} {cap : Nat} (h : OdIn w o a cap) (hb : Below w.heap.size w w') : OdIn w' o a cap := ⟨h.1, h.2.1.below hb, h.2.2⟩

end Go.Proofs.YtijfcickgicncaaGreatDoor.Sg
