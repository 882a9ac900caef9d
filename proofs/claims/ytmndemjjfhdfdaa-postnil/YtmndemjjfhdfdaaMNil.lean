/-
  PostNil: the walk.
-/
import Derived.Test.YtmndemjjfhdfdaaPstL
import Derived.Test.YtmndemjjfhdfdaaPstC
namespace Go.Proofs.Ytmndemjjfhdfdaa
open Go.ChangeShapes Go.WideShapes Go.ChangeAt Go.RowKit Go.Shelf

set_option maxHeartbeats 4000000 in
set_option maxRecDepth 100000 in
theorem postNil_walk (c0 : Cm) (w : World) (_w0 : CmIn w c0) :
    Calls Try.prog 4 #[.agg #[.int .i64 c0.d, .int .i64 c0.i, .slice c0.av c0.l.length c0.cv]] w fun e w' => e = .returned (.bool true) ∧ Below w.heap.size w w' := by
  obtain ⟨d, i, l, av, cv⟩ := c0
  dsimp only
  clear _w0
  obtain ⟨W, hW⟩ : ∃ W, W = w.alloc (.cells #[.int .i64 d, .int .i64 i, .slice av l.length cv] 32) := ⟨_, rfl⟩
  have HWE := hide hW
  have HBW : Hid (Below w.heap.size w W) := by show Below _ _ _; rw [hW]; exact bel_al (Below.refl _ _) _
  have hx : W.heap[w.heap.size]? = some (.cells #[.int .i64 d, .int .i64 i, .slice av l.length cv] 32 (0, 0)) := by rw [hW]; exact World.alloc_heap_new _ _
  have HX := hide hx
  clear hW hx
  have HT := hide ttakenil_any
  have HD := hide tdblnil_any
  have HA := hide (fun u => tlallnil_any u 3 (by omega))
  have HW := hide tawake_any
  go_enter Try.func4, Try.ntmps4
  go_wp2_with (first
    | (go_at_call 12; rw [← HWE.out]; refine (tputnil_any _ _ _ _).mono ?_; rintro e u ⟨rfl, rfl⟩; have d1 : W.cell? ⟨w.heap.size, 1, none⟩ = some (.int .i64 i) := (by rw [cell_of HX.out]; rfl))
    | (go_at_call 14; refine (HT.out _ _).mono ?_; rintro e u1 ⟨rfl, b1⟩; have HB1 := hide (bel_on' HBW.out b1); have HX1 := hide ((b1.block _ (Array.getElem?_eq_some_iff.1 HX.out).1).trans HX.out); clear b1 d1; have d1 : u1.cell? ⟨w.heap.size, 1, none⟩ = some (.int .i64 i) := (by rw [cell_of HX1.out]; rfl); have hlt1 : w.heap.size < u1.heap.size := (Array.getElem?_eq_some_iff.1 HX1.out).1)
    | (go_at_call 16; refine (HD.out _ _).mono ?_; rintro e u2 ⟨rfl, b2⟩; have HB2 := hide b2; clear b2)
    | (go_at_call 19; refine (HA.out _).mono ?_; rintro e u3 ⟨a2, c2, rfl, -, -, -, b3⟩; have HB3 := hide b3; clear b3)
    | (go_at_call 20; refine (tlennil_any _).mono ?_; rintro e u ⟨rfl, rfl⟩)
    | (go_at_call 21; refine (tlostnil_any _).mono ?_; rintro e u ⟨rfl, rfl⟩)
    | (go_at_call 9; refine (HW.out _).mono ?_; rintro e u4 ⟨rfl, b4⟩; have HB4 := hide b4; clear b4))
  go_ret
  exact ⟨rfl, bel_on' (bel_on' (bel_on' (by first | exact HB1.out | exact bel_al HB1.out _ | exact bel_al (bel_al HB1.out _) _) HB2.out) HB3.out) HB4.out⟩
end Go.Proofs.Ytmndemjjfhdfdaa
