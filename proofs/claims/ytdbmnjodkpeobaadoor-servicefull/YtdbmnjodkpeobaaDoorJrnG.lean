/-
  Contract: journal.Recover.
-/
import Derived.Test.YtdbmnjodkpeobaaDoorJrnF
namespace Go.Proofs.YtdbmnjodkpeobaaDoor
open Go.ChangeShapes Go.WideShapes Go.ChangeAt Go.RowKit Go.Shelf

attribute [local go_sem] Oper.semAt_some

theorem Jr.putObj {B : Nat} {w : World} {p : Nat} {v : Value} {room : Int} {L : List ByteArray} {sure : Nat} {down : Bool} (h : Jr B w p v room L sure down) {D : Nat} {o : Obj} (ho : w.heap[D]? = some o) (hc : o.isCells = false) (o' : Obj) : Jr B (w.putObj D o') p v room L sure down := by
  obtain ⟨h1, h2, h3, h4⟩ := h
  refine ⟨?_, h2, ownsRow_putObj h3 _ ho hc, h4⟩
  rw [World.putObj_heap_other (fun e => by subst e; rw [h1] at ho; cases ho; cases hc)]
  exact h1
theorem Off.putObj {p : Nat} {v v' : Value} {w W : World} (h : Off p v v' w W) {D : Nat} (hD : w.heap.size ≤ D) (o' : Obj) : Off p v v' w (W.putObj D o') :=
  ⟨⟨h.1.1, h.1.2.1, h.1.2.2.1, by simpa using h.size⟩, fun k hk hp hv => ⟨(World.putObj_heap_other (by omega)).trans (h.2 k hk hp hv).1, (h.2 k hk hp hv).2⟩⟩
theorem keep_putObj {B n₀ n₁ X : Nat} {W : World} {l : Nat} {o o' : Obj} (hB : B ≤ X) (hX : X ≤ n₁) (hl : n₁ ≤ l) (_ho : W.heap[l]? = some o) (_hc : o.isCells = false) (_hw : o.isWalk = false) : Keep B n₀ n₁ W (W.putObj l o') :=
  ⟨⟨rfl, rfl, rfl, by simp, fun k hk => World.putObj_heap_other (by omega)⟩, fun k _ hk => World.putObj_heap_other (by omega)⟩
theorem keep_setCell {B X n₀ n₁ : Nat} {W : World} (hB : B ≤ X) (h0 : n₀ = X + 1) (v : Value) : Keep B n₀ n₁ W (W.setCell ⟨X, 0, none⟩ v) :=
  ⟨(Below.refl B W).setCell (p := ⟨X, 0, none⟩) hB _, fun k hk _ => Below.heap_setCell _ _ _ _ (show k ≠ (⟨X, 0, none⟩ : Addr).block from by show k ≠ X; omega)⟩

end Go.Proofs.YtdbmnjodkpeobaaDoor
