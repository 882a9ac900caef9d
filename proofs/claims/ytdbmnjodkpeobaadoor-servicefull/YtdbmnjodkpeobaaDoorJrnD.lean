/-
  Contract: journal.Crash.
-/
import Derived.Test.YtdbmnjodkpeobaaDoorJrnC
namespace Go.Proofs.YtdbmnjodkpeobaaDoor
open Go.ChangeShapes Go.WideShapes Go.ChangeAt Go.RowKit

/-- So many lines a crash leaves whole. -/
def keptN (L : List ByteArray) (sure : Nat) (stay : Int) : Nat := sure + min stay.toNat (L.length - sure)
/-- What a crash leaves. -/
def crashL (L : List ByteArray) (sure : Nat) (stay torn : Int) : List ByteArray :=
  if keptN L sure stay = L.length then L else
    L.take (keptN L sure stay) ++ (if tearN (L.getD (keptN L sure stay) ByteArray.empty) torn = 0 then [] else [(L.getD (keptN L sure stay) ByteArray.empty).extract 0 (tearN (L.getD (keptN L sure stay) ByteArray.empty) torn)])

end Go.Proofs.YtdbmnjodkpeobaaDoor
