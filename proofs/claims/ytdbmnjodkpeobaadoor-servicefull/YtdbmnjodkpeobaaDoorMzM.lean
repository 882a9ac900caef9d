/-
  A message.
-/
import Derived.Test.YtdbmnjodkpeobaaDoorMzR
namespace Go.Proofs.YtdbmnjodkpeobaaDoor.Ms
open Go

/-- A message. -/
structure Mg where
  k : Int
  fr : Int
  to : Int
  id : Int
  st : Int
  a : Int
  b : Int
end Go.Proofs.YtdbmnjodkpeobaaDoor.Ms
