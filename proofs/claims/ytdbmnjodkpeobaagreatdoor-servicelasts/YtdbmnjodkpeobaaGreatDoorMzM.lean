/-
  A message.
-/
import Derived.Test.YtdbmnjodkpeobaaGreatDoorMzR
namespace Go.Proofs.YtdbmnjodkpeobaaGreatDoor.Ms
open Go

/-- A message. -/
structure Mg where
  k : Int
  fr : Int
  to : Int
  id : Int
  st : Int
  a : Int
  b : Int
end Go.Proofs.YtdbmnjodkpeobaaGreatDoor.Ms
