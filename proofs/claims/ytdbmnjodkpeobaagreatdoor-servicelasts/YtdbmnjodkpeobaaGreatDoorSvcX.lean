/-
  Contracts of service's hears, do, undo.
-/
import Derived.Test.YtdbmnjodkpeobaaGreatDoorSvcW
namespace Go.Proofs.YtdbmnjodkpeobaaGreatDoor
open Go.ChangeShapes Go.WideShapes Go.ChangeAt Go.RowKit Go.Maps

theorem seven_of {w : World} {g : Nat} {x0 x1 x2 x3 x4 x5 x6 : Value} {t : TypeId} (e : w.heap[g]? = some (.cells #[x0, x1, x2, x3, x4, x5, x6] t (0, 0))) :
    w.cell? ⟨g, 0, none⟩ = some x0 ∧ w.cell? ⟨g, 1, none⟩ = some x1 ∧ w.cell? ⟨g, 2, none⟩ = some x2 ∧ w.cell? ⟨g, 3, none⟩ = some x3 ∧ w.cell? ⟨g, 4, none⟩ = some x4 ∧ w.cell? ⟨g, 5, none⟩ = some x5 ∧ w.cell? ⟨g, 6, none⟩ = some x6 := by
  refine ⟨?_, ?_, ?_, ?_, ?_, ?_, ?_⟩ <;> (rw [cell_of e]; rfl)

section
variable {B : Nat} {E : Nat → Prop} {w : World} {p : Nat} {v : Sv} {n q : Nat} {r : Value} {pb mb sb : Nat}
theorem shears_any (k : NdV B E w p v n q r pb mb sb) (m : Ms.Mg) :
    Calls Tryz.prog 34 #[.pointer (some ⟨p, 0, none⟩), .agg #[.int .i64 m.k, .int .i64 m.fr, .int .i64 m.to, .int .i64 m.id, .int .i64 m.st, .int .i64 m.a, .int .i64 m.b]] w fun e w' => e = .returned (.bool (hearsB v m)) ∧ Below w.heap.size w w' := by
  obtain ⟨W, hW⟩ : ∃ W, W = w.alloc (.cells #[.int .i64 m.k, .int .i64 m.fr, .int .i64 m.to, .int .i64 m.id, .int .i64 m.st, .int .i64 m.a, .int .i64 m.b] 29) := ⟨_, rfl⟩
  have hb0 : Below w.heap.size w W := by rw [hW]; exact (Below.refl _ _).alloc (Nat.le_refl _) _
  have hbx : W.heap[w.heap.size]? = some (.cells #[.int .i64 m.k, .int .i64 m.fr, .int .i64 m.to, .int .i64 m.id, .int .i64 m.st, .int .i64 m.a, .int .i64 m.b] 29 (0, 0)) := by rw [hW]; exact World.alloc_heap_new w _
  have kW := k.on hb0
  obtain ⟨a0, a1, a2, a3, a4, a5, a6⟩ := seven_of hbx
  obtain ⟨c0, -, -, -, -⟩ := kW.cells
  have D : ∀ u : Later W, Calls Tryz.prog 20 #[.pointer (some ⟨p, 0, none⟩)] u.w fun e w' => e = .returned (.bool v.down) ∧ ∃ u' : Later W, w' = u'.w := fun u => calls_later u ((sdown_any (kW.on u.below)).mono (fun _ _ ⟨h1, h2⟩ => ⟨h1, by rw [← h2]; exact Below.refl _ _⟩))
  have I : ∀ u : Later W, Calls Tryz.prog 52 #[.int .i64 m.id] u.w fun e w' => e = .returned (.bool (Hd.isI m.id)) ∧ ∃ u' : Later W, w' = u'.w := fun u => calls_later u ((sisid_any m.id u.w).mono (fun _ _ ⟨h1, h2⟩ => ⟨h1, by rw [← h2]; exact Below.refl _ _⟩))
  have HW := hide hW
  have HB0 := hide hb0
  unfold hearsB
  obtain ⟨m0, m1, m2, m3, m4, m5, m6⟩ := m
  simp only at *
  generalize v.down = d at D ⊢
  generalize v.node = nd at c0 ⊢
  generalize Hd.isI m3 = ii at I ⊢
  have z0 := Later.cell c0
  have z1 := Later.cell a1
  have z2 := Later.cell a2
  have z3 := Later.cell a3
  have hne : Nonempty (Later W) := ⟨Later.now W⟩
  obtain ⟨b1, h1⟩ : ∃ b1, (m2 == nd) = b1 := ⟨_, rfl⟩
  obtain ⟨b2, h2⟩ : ∃ b2, (m1 == 0) = b2 := ⟨_, rfl⟩
  rw [h1, h2]
  clear k kW hW hb0 hbx
  cases d <;> cases b1 <;> cases b2 <;> cases ii
  all_goals go_enter Tryz.func34, Tryz.ntmps34
  all_goals go_wp2_with fail
  all_goals rw [← HW.out]
  all_goals refine region_later (by kernel_rfl) (by kernel_rfl) ?_
  all_goals (repeat (first | go_big_quiet_step (first | exact D _ | exact I _) | quiet_step (first | exact D _ | exact I _)))
  all_goals refine wpQuiet_nil ?_
  all_goals intro u
  all_goals go_wp2
  all_goals go_ret
  all_goals exact ⟨rfl, bel_on' HB0.out u.below⟩
theorem shears_nil (m : Ms.Mg) (w : World) : Calls Tryz.prog 34 #[.pointer none, .agg #[.int .i64 m.k, .int .i64 m.fr, .int .i64 m.to, .int .i64 m.id, .int .i64 m.st, .int .i64 m.a, .int .i64 m.b]] w fun e w' => e = .returned (.bool false) ∧ Below w.heap.size w w' := by
  obtain ⟨W, hW⟩ : ∃ W, W = w.alloc (.cells #[.int .i64 m.k, .int .i64 m.fr, .int .i64 m.to, .int .i64 m.id, .int .i64 m.st, .int .i64 m.a, .int .i64 m.b] 29) := ⟨_, rfl⟩
  have hb0 : Below w.heap.size w W := by rw [hW]; exact (Below.refl _ _).alloc (Nat.le_refl _) _
  have HW := hide hW
  have HB0 := hide hb0
  have hne : Nonempty (Later W) := ⟨Later.now W⟩
  clear hW hb0
  go_enter Tryz.func34, Tryz.ntmps34
  go_wp2_with fail
  rw [← HW.out]
  refine region_later (by kernel_rfl) (by kernel_rfl) ?_
  repeat (first | go_big_quiet_step (fail) | quiet_step (fail))
  refine wpQuiet_nil ?_
  intro u
  go_wp2
  go_ret
  exact ⟨rfl, bel_on' HB0.out u.below⟩
end
end Go.Proofs.YtdbmnjodkpeobaaGreatDoor
