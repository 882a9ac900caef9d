/-
  joined: one iterator behind the other.
-/
import Derived.Test.YtdoejppnifoebaaFlwI
namespace Go.Proofs.Ytdoejppnifoebaa
open Go.ChangeShapes Go.WideShapes Go.ChangeAt Go.RowKit Go.Shelf

attribute [local go_sem] Oper.semAt_some

/-- A part: its function, what it has captured, what it tells. -/
structure Pt where
  gf : Nat
  lb : Array Value
  L : List (Int × Int)
theorem flat_take {Ps : List Pt} {i : Nat} {p : Pt} (h : Ps[i]? = some p) : (Ps.take (i + 1)).flatMap Pt.L = (Ps.take i).flatMap Pt.L ++ p.L := by
  obtain ⟨hi, rfl⟩ := List.getElem?_eq_some_iff.1 h
  rw [List.take_succ_eq_append_getElem hi, List.flatMap_append]
  simp
theorem flat_pre {Ps : List Pt} {i : Nat} {p : Pt} (h : Ps[i]? = some p) {q : List (Int × Int)} (hq : q <+: p.L) : (Ps.take i).flatMap Pt.L ++ q <+: Ps.flatMap Pt.L := by
  have e : Ps.flatMap Pt.L = (Ps.take (i + 1)).flatMap Pt.L ++ (Ps.drop (i + 1)).flatMap Pt.L := by rw [← List.flatMap_append, List.take_append_drop]
  rw [e, flat_take h]
  obtain ⟨r, hr⟩ := hq
  exact ⟨r ++ (Ps.drop (i + 1)).flatMap Pt.L, by rw [← hr]; simp⟩

end Go.Proofs.Ytdoejppnifoebaa
