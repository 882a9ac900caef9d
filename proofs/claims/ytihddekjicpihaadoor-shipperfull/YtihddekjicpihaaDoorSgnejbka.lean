/-
  Rows of eight numbers in memory; the reference's row; small facts on blocks.
-/
import Derived.Test.YtihddekjicpihaaDoorSghhflai
import Derived.Test.YtihddekjicpihaaDoorSgaofemp
import Derived.Test.YtihddekjicpihaaDoorSghffmmk
import Derived.Test.YtihddekjicpihaaDoorSggdlica
import Derived.Maps.OwnSet
import Derived.Deep.CutBlock
namespace Go.Proofs.YtihddekjicpihaaDoor.Gd.Pu
open Go.ChangeShapes Go.WideShapes Go.ChangeAt Go.RowKit Go.Maps

theorem lawI : Keyed Tryd.prog 3 := int_keyed Tryd.underlying3
theorem wf_of {a : Int} (h1 : -9223372036854775808 ≤ a) (h2 : a ≤ 9223372036854775807) : (Lit.int .i64 a).wf = true := WalkArith.wf_i64 ⟨h1, h2⟩
/-- A row of eight numbers. -/
def rowc (h : Int → Int) : List Value := (List.range 8).map (fun k : Nat => .int .i64 (h k))
theorem rowc_len (h : Int → Int) : (rowc h).length = 8 := by simp [rowc]
theorem rowc_at (h : Int → Int) {i : Nat} (hi : i < 8) : (rowc h)[i]? = some (.int .i64 (h i)) := by simp [rowc, hi]
theorem rowc_put (h : Int → Int) {i : Nat} (hi : i < 8) (v : Int) : (rowc h).set i (.int .i64 v) = rowc (upd h i v) := by
  unfold rowc
  apply List.ext_getElem?
  intro k
  rw [List.getElem?_set]
  by_cases e : i = k
  · subst e
    simp [hi, upd]
  · rw [if_neg e]
    by_cases hk : k < 8
    · simp [hk, upd]
      intro e2
      omega
    · simp [hk]
theorem own_keptG {w w' : World} {b n : Nat} {E : Nat → Obj → Prop} {P : Program} {t : TypeId} {el : Value → Option (DataW Unit × List MemPlace)} {D : DataW Unit} (h : w.ownsMap P t el b n D) (k : Rg.Kept E w w') (hb : ∀ es c, ¬ E b (.map es c)) : w'.ownsMap P t el b n D := by
  obtain ⟨es, c, h1, h2⟩ := h
  exact ⟨es, c, k.block _ _ h1 (hb _ _), h2⟩
theorem bel_al {a w : World} (h : Below a.heap.size a w) (o : Obj) : Below a.heap.size a (w.alloc o) := h.alloc h.size o
/-- What is turned behind all that lay there is no matter. -/
theorem kept_new {E : Nat → Obj → Prop} {a w1 w2 : World} (h : Rg.Kept E a w1) (k : Rg.Kept (fun i _ => i = a.heap.size) w1 w2) : Rg.Kept E a w2 :=
  ⟨k.os.trans h.os, k.tape.trans h.tape, k.output.trans h.output, Nat.le_trans h.size k.size, fun i o hi hx => k.block i o (h.block i o hi hx) (fun e => by have := (Array.getElem?_eq_some_iff.1 hi).1; omega)⟩
theorem rowc_congr {h g : Int → Int} (e : ∀ k : Nat, k < 8 → h k = g k) : rowc h = rowc g := by
  unfold rowc
  apply List.map_congr_left
  intro k hk
  rw [e k (by simpa using hk)]
/-- What is on hand behind j rounds. -/
def onJ (l : List Int) (j : Nat) (k : Int) : Int := if k < j then clampA (l.getD k.toNat 0) else 0
theorem onJ_step (l : List Int) (j : Nat) : upd (onJ l j) j (clampA (l.getD j 0)) = onJ l (j + 1) := by
  funext k
  unfold onJ
  rw [upd_at]
  by_cases e : k = j
  · subst e
    rw [if_pos rfl, if_pos (by omega)]
    simp
  · rw [if_neg e]
    by_cases h : k < j
    · rw [if_pos h, if_pos (by omega)]
    · rw [if_neg h, if_neg (by omega)]
theorem rowc_lit (h : Int → Int) : (rowc h).toArray = #[.int .i64 (h 0), .int .i64 (h 1), .int .i64 (h 2), .int .i64 (h 3), .int .i64 (h 4), .int .i64 (h 5), .int .i64 (h 6), .int .i64 (h 7)] := rfl
theorem onJ_over {l : List Int} {j : Nat} (h : l.length ≤ j) : onJ l (j + 1) = onJ l j := by
  rw [← onJ_step, List.getD_eq_getElem?_getD, List.getElem?_eq_none h]
  refine upd_id ?_
  unfold onJ
  rw [if_neg (by omega)]
  rfl
theorem onJ_8 (l : List Int) {k : Nat} (hk : k < 8) : onJ l 8 k = (newS l).on k := by
  show onJ l 8 k = clampA (l.getD (k : Int).toNat 0)
  unfold onJ
  rw [if_pos (by omega)]
end Go.Proofs.YtihddekjicpihaaDoor.Gd.Pu
