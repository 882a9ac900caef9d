/-
  A message.
-/
import Derived.Test.YtmndemjjfhdfdaaRowS
namespace Go.Proofs.Ytmndemjjfhdfdaa
open Go

/-- A message. -/
structure Mg where
  k : Int
  fr : Int
  to : Int
  id : Int
  st : Int
  a : Int
  b : Int
end Go.Proofs.Ytmndemjjfhdfdaa
