/-
  ShipperNil: the walk.
-/
import Derived.Test.YtihddekjicpihaaGreatDoorSgiaigfg
import Derived.Test.YtihddekjicpihaaGreatDoorSgnddbcf
namespace Go.Proofs.YtihddekjicpihaaGreatDoor
open Go.ChangeShapes Go.WideShapes Go.ChangeAt Go.RowKit Go.Maps Gd.Pu

set_option maxHeartbeats 2000000 in
theorem shipperNil_walk (c : C21.Cl) (w : World) (_hc : C21.one_ok c) (hg : Gl w) :
    Calls Tryz.prog 5 #[.agg #[.int .i64 c.d, .int .i64 c.sy, .int .i64 c.tn, .int .i64 c.m.k, .int .i64 c.m.fr, .int .i64 c.m.to, .int .i64 c.m.id, .int .i64 c.m.st, .int .i64 c.m.a, .int .i64 c.m.b]] w fun e w' => e = .returned (.bool true) ∧ Below w.heap.size w w' := by
  have hb0 : Below w.heap.size w (w.alloc (.cells #[.int .i64 c.d, .int .i64 c.sy, .int .i64 c.tn, .int .i64 c.m.k, .int .i64 c.m.fr, .int .i64 c.m.to, .int .i64 c.m.id, .int .i64 c.m.st, .int .i64 c.m.a, .int .i64 c.m.b] 62)) := (Below.refl _ _).alloc (Nat.le_refl _) _
  have hx0 := World.alloc_heap_new w (.cells #[.int .i64 c.d, .int .i64 c.sy, .int .i64 c.tn, .int .i64 c.m.k, .int .i64 c.m.fr, .int .i64 c.m.to, .int .i64 c.m.id, .int .i64 c.m.st, .int .i64 c.m.a, .int .i64 c.m.b] 62)
  have HB0 := hide hb0
  have HX0 := hide hx0
  clear hb0 hx0
  go_enter Tryz.func5, Tryz.ntmps5
  go_wp2_with fail
  refine (shcrash_nil _ _ _).mono ?_
  rintro e w' ⟨⟨x, rfl⟩, rfl⟩
  go_wp2_with fail
  refine (shstart_nil _).mono ?_
  rintro e u1 ⟨⟨x1, rfl⟩, hb1⟩
  have hx1 := (hb1.block _ (Array.getElem?_eq_some_iff.1 HX0.out).1).trans HX0.out
  have a3 : u1.cell? ⟨w.heap.size, 3, none⟩ = some (.int .i64 c.m.k) := by rw [cell_of hx1]; rfl
  have a4 : u1.cell? ⟨w.heap.size, 4, none⟩ = some (.int .i64 c.m.fr) := by rw [cell_of hx1]; rfl
  have a5 : u1.cell? ⟨w.heap.size, 5, none⟩ = some (.int .i64 c.m.to) := by rw [cell_of hx1]; rfl
  have a6 : u1.cell? ⟨w.heap.size, 6, none⟩ = some (.int .i64 c.m.id) := by rw [cell_of hx1]; rfl
  have a7 : u1.cell? ⟨w.heap.size, 7, none⟩ = some (.int .i64 c.m.st) := by rw [cell_of hx1]; rfl
  have a8 : u1.cell? ⟨w.heap.size, 8, none⟩ = some (.int .i64 c.m.a) := by rw [cell_of hx1]; rfl
  have a9 : u1.cell? ⟨w.heap.size, 9, none⟩ = some (.int .i64 c.m.b) := by rw [cell_of hx1]; rfl
  have HB1 := hide (bel_on' HB0.out hb1)
  clear hb1 HX0 HB0 hx1
  go_wp2_with (first
    | (go_at_call 34; refine (shhandle_nil c.m _).mono ?_; rintro e u2 ⟨rfl, hb2⟩; have HB2 := hide (bel_on' HB1.out hb2); clear a3 a4 a5 a6 a7 a8 a9 hb2)
    | (go_at_call 36; refine (shparcels_nil _).mono ?_; rintro e w' ⟨rfl, rfl⟩)
    | (go_at_call 41; refine (shdown_nil _).mono ?_; rintro e w' ⟨rfl, rfl⟩)
    | (go_at_call 42; refine (shwake_any _ (hg.on HB2.out)).mono ?_; rintro e u3 ⟨rfl, hb3⟩; have HB3 := hide (bel_on' HB2.out hb3); clear hb3))
  go_ret
  exact ⟨rfl, HB3.out⟩
end Go.Proofs.YtihddekjicpihaaGreatDoor
