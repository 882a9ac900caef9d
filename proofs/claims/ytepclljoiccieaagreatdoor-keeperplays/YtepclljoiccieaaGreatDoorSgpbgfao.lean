/-
  A book in memory: its block, its map. Contracts of hold's New, Has, Left, Take, Back.
-/
import Derived.Test.YtepclljoiccieaaGreatDoorSgmbjnld
import Derived.Test.YtepclljoiccieaaGreatDoorSgmjlbfb
import Derived.Maps.OwnSet
import Derived.Deep.CutBlock
namespace Go.Proofs.YtepclljoiccieaaGreatDoor.Hd
open Go.ChangeShapes Go.WideShapes Go.ChangeAt Go.RowKit Go.Maps

theorem lawI : Keyed Tryz.prog 3 := int_keyed Tryz.underlying3
theorem zeroI (w : World) : (zeroValue 3).run Tryz.prog w = .ok (.int .i64 0) w := by kernel_rfl

/-- The map reads as h. -/
def Fits (D : DataW Unit) (h : Int → Int) : Prop := IsMap D ∧ ∀ x : Int, D.atKey (.int .i64 x) (.lit (.int .i64 0)) = .lit (.int .i64 (h x)) ∧ Maps.has D (.int .i64 x) = decide (h x ≠ 0)
theorem Fits.new : Fits (.map []) (fun _ => 0) := ⟨isMap_empty, fun _ => ⟨rfl, rfl⟩⟩
theorem Fits.put {D : DataW Unit} {h : Int → Int} (f : Fits D h) (id n : Int) (hn : n ≠ 0) : Fits (D.put (.int .i64 id) (.lit (.int .i64 n))) (upd h id n) := by
  refine ⟨f.1.put _ _, fun x => ?_⟩
  by_cases e : x = id
  · subst e
    have hk : WideAt.IsKeyLit (Lit.int .i64 x) := trivial
    rw [upd_same, atKey_put_same f.1 hk, has_put_same f.1 hk]
    exact ⟨rfl, by simp [hn]⟩
  · rw [upd_other h n e, atKey_put_other (by simpa using e), has_put_other (by simpa using e)]
    exact f.2 x
theorem Fits.del {D : DataW Unit} {h : Int → Int} (f : Fits D h) (id : Int) : Fits (D.del (.int .i64 id)) (upd h id 0) := by
  refine ⟨f.1.del _, fun x => ?_⟩
  by_cases e : x = id
  · subst e
    rw [upd_same, atKey_del_same, has_del_same]
    exact ⟨rfl, by simp⟩
  · rw [upd_other h 0 e, atKey_del_other (by simpa using e), has_del_other (by simpa using e)]
    exact f.2 x

/-- The blocks that a step on it may turn. -/
def Own2 (p b : Nat) (k : Nat) (_ : Obj) : Prop := k = p ∨ k = b
theorem own_kept {w w' : World} {E : Nat → Obj → Prop} {b n : Nat} {D : DataW Unit} (h : w.ownsMap Tryz.prog 3 (plainElem Tryz.prog 3) b n D) (k : Rg.Kept E w w') (hb : ∀ es c, ¬ E b (.map es c)) : w'.ownsMap Tryz.prog 3 (plainElem Tryz.prog 3) b n D := by
  obtain ⟨es, c, h1, h2⟩ := h
  exact ⟨es, c, k.block _ _ h1 (hb _ _), h2⟩
end Go.Proofs.YtepclljoiccieaaGreatDoor.Hd
