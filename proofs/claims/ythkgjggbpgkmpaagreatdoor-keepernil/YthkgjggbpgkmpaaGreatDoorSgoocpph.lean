/-
  KeeperNil: the walk.
-/
import Derived.Test.YthkgjggbpgkmpaaGreatDoorSgeokopn
import Derived.Test.YthkgjggbpgkmpaaGreatDoorSgfihjge
import Derived.Test.YthkgjggbpgkmpaaGreatDoorSgigalom
namespace Go.Proofs.YthkgjggbpgkmpaaGreatDoor
open Go.ChangeShapes Go.WideShapes Go.ChangeAt Go.RowKit Go.Maps

theorem ids_nil (w : World) : Calls Tryz.prog 28 #[.pointer none, .int .i64 3] w fun e w' => ∃ a c, e = .returned (.slice a 0 c) ∧ Below w.heap.size w w' := by
  refine (Hd.lids_any none [] (by simp) w 3 (by omega) (fun U _ => Hd.idsnil_any U)).mono ?_
  rintro e w' ⟨a, c, h1, _, _, h4⟩
  exact ⟨a, c, h1, h4⟩
set_option maxHeartbeats 2000000 in
theorem keeperNil_walk (c : C20.Cl) (w : World) (_hc : C20.one_ok c) (hg : Gl w) :
    Calls Tryz.prog 4 #[.agg #[.int .i64 c.d, .int .i64 c.sy, .int .i64 c.tn, .bool c.y, .int .i64 c.m.k, .int .i64 c.m.fr, .int .i64 c.m.to, .int .i64 c.m.id, .int .i64 c.m.st, .int .i64 c.m.a, .int .i64 c.m.b]] w fun e w' => e = .returned (.bool true) ∧ Below w.heap.size w w' := by
  have hb0 : Below w.heap.size w (w.alloc (.cells #[.int .i64 c.d, .int .i64 c.sy, .int .i64 c.tn, .bool c.y, .int .i64 c.m.k, .int .i64 c.m.fr, .int .i64 c.m.to, .int .i64 c.m.id, .int .i64 c.m.st, .int .i64 c.m.a, .int .i64 c.m.b] 33)) := (Below.refl _ _).alloc (Nat.le_refl _) _
  have hx0 := World.alloc_heap_new w (.cells #[.int .i64 c.d, .int .i64 c.sy, .int .i64 c.tn, .bool c.y, .int .i64 c.m.k, .int .i64 c.m.fr, .int .i64 c.m.to, .int .i64 c.m.id, .int .i64 c.m.st, .int .i64 c.m.a, .int .i64 c.m.b] 33)
  have HB0 := hide hb0
  have HX0 := hide hx0
  clear hb0 hx0
  go_enter Tryz.func4, Tryz.ntmps4
  go_wp2_with fail
  refine (kcrash_nil _ _ _).mono ?_
  rintro e w' ⟨⟨x, rfl⟩, rfl⟩
  go_wp2_with fail
  refine (kstart_nil _).mono ?_
  rintro e u1 ⟨⟨x1, rfl⟩, hb1⟩
  have hx1 := (hb1.block _ (Array.getElem?_eq_some_iff.1 HX0.out).1).trans HX0.out
  have a3 : u1.cell? ⟨w.heap.size, 3, none⟩ = some (.bool c.y) := by rw [cell_of hx1]; rfl
  have a4 : u1.cell? ⟨w.heap.size, 4, none⟩ = some (.int .i64 c.m.k) := by rw [cell_of hx1]; rfl
  have a5 : u1.cell? ⟨w.heap.size, 5, none⟩ = some (.int .i64 c.m.fr) := by rw [cell_of hx1]; rfl
  have a6 : u1.cell? ⟨w.heap.size, 6, none⟩ = some (.int .i64 c.m.to) := by rw [cell_of hx1]; rfl
  have a7 : u1.cell? ⟨w.heap.size, 7, none⟩ = some (.int .i64 c.m.id) := by rw [cell_of hx1]; rfl
  have a8 : u1.cell? ⟨w.heap.size, 8, none⟩ = some (.int .i64 c.m.st) := by rw [cell_of hx1]; rfl
  have a9 : u1.cell? ⟨w.heap.size, 9, none⟩ = some (.int .i64 c.m.a) := by rw [cell_of hx1]; rfl
  have a10 : u1.cell? ⟨w.heap.size, 10, none⟩ = some (.int .i64 c.m.b) := by rw [cell_of hx1]; rfl
  have HB1 := hide (bel_on' HB0.out hb1)
  clear hb1 HX0 HB0
  clear hx1
  go_wp2_with (first
    | (go_at_call 20; refine (khandle_nil c.m _).mono ?_; rintro e u2 ⟨rfl, hb2⟩; have b7 := cellL a7 hb2; have b3 := cellL a3 hb2; have HB2 := hide (bel_on' HB1.out hb2); clear a3 a4 a5 a6 a7 a8 a9 a10 hb2)
    | (go_at_call 16; refine (kring_nil _ _).mono ?_; rintro e w' ⟨rfl, rfl⟩)
    | (go_at_call 18; refine (kforce_nil _ _ _).mono ?_; rintro e w' ⟨rfl, rfl⟩)
    | (go_at_call 23; refine (kstate_nil _ _).mono ?_; rintro e w' ⟨rfl, rfl⟩)
    | (go_at_call 28; refine (ids_nil _).mono ?_; rintro e u4 ⟨a5, c5, rfl, hb4⟩; have HB4 := hide (bel_on' HB2.out hb4); clear hb4 b3 b7)
    | (go_at_call 29; refine (kgoods_nil _).mono ?_; rintro e w' ⟨rfl, rfl⟩)
    | (go_at_call 30; refine (kmoney_nil _).mono ?_; rintro e w' ⟨rfl, rfl⟩)
    | (go_at_call 25; refine (kdown_nil _).mono ?_; rintro e w' ⟨rfl, rfl⟩)
    | (go_at_call 8; refine (kwake_any _ (hg.on HB4.out)).mono ?_; rintro e u3 ⟨rfl, hb3⟩; have HB3 := hide (bel_on' HB4.out hb3); clear hb3))
  go_ret
  exact ⟨rfl, HB3.out⟩
end Go.Proofs.YthkgjggbpgkmpaaGreatDoor
