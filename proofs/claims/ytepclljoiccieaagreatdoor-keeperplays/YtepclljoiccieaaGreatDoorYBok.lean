/-
  KeeperPlays: the law's books.
-/
import Derived.Test.YtepclljoiccieaaGreatDoorYBoG
import Derived.Test.YtepclljoiccieaaGreatDoorYBoM
namespace Go.Proofs.YtepclljoiccieaaGreatDoor
open Go.ChangeShapes Go.WideShapes Go.ChangeAt Go.RowKit Go.Maps

section
variable {B B' : Nat} {E F : Nat → Prop} {w : World} {p p' : Nat} {v : Kv} {n n' q q' : Nat} {r r' : Value} {pb mb mc sb pb' mb' mc' : Nat} {a : Option Addr} {l : List Int} {lc : Nat}
theorem books_any (k1 : KdV B E w p v n q r pb mb mc sb) (k2 : RkV B' F w p' v n' a l lc q' r' pb' mb' mc') :
    Calls Tryz.prog 22 #[.pointer (some ⟨p, 0, none⟩), .pointer (some ⟨p', 0, none⟩)] w fun e w' => e = .returned (.bool true) ∧ Below w.heap.size w w' := by
  rcases k2.nd with h | h
  · exact books_goods k1 k2 h
  · exact books_money k1 k2 h
end
end Go.Proofs.YtepclljoiccieaaGreatDoor
