/-
  PurseNil's walk.
-/
import Derived.Test.YtpahgoehpkohiaaPrsA
import Derived.Test.YtpahgoehpkohiaaPrsD
namespace Go.Proofs.Ytpahgoehpkohiaa
open Go.ChangeShapes Go.WideShapes Go.ChangeAt Go.RowKit Go.Maps

set_option maxHeartbeats 1000000 in
theorem purseNil_walk (c0 : Cl) (w : World) (_w0 : c0.ok) :
    Calls Try.prog 4 #[.agg #[.int .i64 c0.d, .int .i64 c0.id, .int .i64 c0.it, .int .i64 c0.q]] w fun e w' => e = .returned (.bool true) ∧ Below w.heap.size w w' := by
  obtain ⟨d, id, it, q⟩ := c0
  clear _w0
  dsimp only
  have HC : Hid (∀ u, Below (w.alloc (.cells #[.int .i64 d, .int .i64 id, .int .i64 it, .int .i64 q] 30)).heap.size (w.alloc (.cells #[.int .i64 d, .int .i64 id, .int .i64 it, .int .i64 q] 30)) u → u.cell? ⟨w.heap.size, 1, none⟩ = some (.int .i64 id) ∧ u.cell? ⟨w.heap.size, 2, none⟩ = some (.int .i64 it)) := fun u hu => ⟨cellL (by simp) hu, cellL (by simp) hu⟩
  go_enter Try.func4, Try.ntmps4
  go_wp2_with (first
    | (go_at_call 18; refine (ppaidnil_any _ _).mono ?_; rintro e u1 ⟨rfl, rfl⟩)
    | (go_at_call 16; refine (pallownil_any _ _ _ _).mono ?_; rintro e u1 ⟨rfl, rfl⟩)
    | (go_at_call 12; refine (pcapnil_any _ _).mono ?_; rintro e u1 ⟨rfl, b1⟩; obtain ⟨k1, k2⟩ := HC.out u1 b1; have HB1 := hide b1; clear b1)
    | (go_at_call 14; refine (pvoidnil_any _ _).mono ?_; rintro e u2 ⟨rfl, b2⟩; clear k1 k2; obtain ⟨k1, k2⟩ := HC.out u2 (bel_on' HB1.out b2); have HB2 := hide b2; clear b2)
    | (go_at_call 20; refine (pmoneynil_any _ _).mono ?_; rintro e u1 ⟨rfl, rfl⟩)
    | (go_at_call 21; refine (pallowednil_any _ _).mono ?_; rintro e u1 ⟨rfl, rfl⟩)
    | (go_at_call 19; refine (ptillnil_any _).mono ?_; rintro e u1 ⟨rfl, rfl⟩)
    | (go_at_call 9; refine (pawake_any _).mono ?_; rintro e u7 ⟨rfl, b7⟩; have HB7 := hide b7; clear b7))
  go_ret
  exact ⟨rfl, bel_on' (bel_al (Below.refl _ w) _) (bel_on' HB1.out (bel_on' HB2.out HB7.out))⟩
end Go.Proofs.Ytpahgoehpkohiaa
