/-
  Contracts: package saga's undo.
-/
import Derived.Test.YtinbmnefdhkdfaaSgaX
namespace Go.Proofs.Ytinbmnefdhkdfaa
open Go.ChangeShapes Go.WideShapes Go.ChangeAt Go.RowKit

set_option maxRecDepth 100000 in
set_option maxHeartbeats 4000000 in
theorem undo_any (o : Od) (a : Option Addr) (c : Nat) (i : Nat) (w : World) (ha : Sts w a o.steps) (hi : i < o.steps.length) :
    Calls Try.prog 43 #[.agg #[.int .i64 o.id, .int .i64 o.item, .int .i64 o.qty, .int .i64 o.client, .int .i64 o.price, .slice a o.steps.length c], .int .i64 i] w fun e w' => e = .returned (.agg #[.int .i64 (undoM o i).k, .int .i64 (undoM o i).fr, .int .i64 (undoM o i).to, .int .i64 (undoM o i).id, .int .i64 (undoM o i).st, .int .i64 (undoM o i).a, .int .i64 (undoM o i).b]) ∧ Below w.heap.size w w' := by
  have HR := Ro.new (w := w) (o := o) (a := a) (c := c)
  obtain ⟨b, off, rfl, -, -⟩ := ha.at hi
  unfold undoM
  obtain ⟨x, hx⟩ : ∃ x, stAt o.steps i = x := ⟨_, rfl⟩
  have HC : Hid (∀ u, Below w.heap.size w u → u.cell? ⟨b, off + i * 2, none⟩ = some (.int .i64 x.1) ∧ u.cell? ⟨b, off + i * 2 + 1, none⟩ = some (.int .i64 x.2)) := fun u hu => by
    obtain ⟨b', off', e, h0, h1⟩ := (ha.below hu).at hi
    cases e
    rw [hx] at h0 h1
    exact ⟨h0, h1⟩
  rw [hx]
  have q : (i : Int) < (o.steps.length : Int) := by omega
  clear hx ha
  obtain ⟨V0, hV0⟩ : ∃ V, V = (w.alloc (.cells #[.int .i64 o.id, .int .i64 o.item, .int .i64 o.qty, .int .i64 o.client, .int .i64 o.price, .slice (some ⟨b, off, none⟩) o.steps.length c] 24)).alloc (.cells #[.int .i64 0, .int .i64 0, .int .i64 0, .int .i64 0, .int .i64 0, .int .i64 0, .int .i64 0] 43) := ⟨_, rfl⟩
  rw [← hV0] at HR
  obtain ⟨⟨d0, d1, d2, d3, d4, d5⟩, ⟨z0, z1, z2, z3, z4, z5, z6⟩, y0, y1, y2, y3, y4, y5, y6⟩ := HR.cells
  obtain ⟨h0, h1⟩ := HC.out V0 HR.bel
  have MS : ∀ u, Calls Try.prog 55 #[.agg #[.int .i64 o.id, .int .i64 o.item, .int .i64 o.qty, .int .i64 o.client, .int .i64 o.price, .slice (some ⟨b, off, none⟩) o.steps.length c], .int .i64 4, .int .i64 x.1] u fun e w' => e = .returned (.agg #[.int .i64 4, .int .i64 0, .int .i64 x.1, .int .i64 o.id, .int .i64 0, .int .i64 0, .int .i64 0]) ∧ Below u.heap.size u w' := fun u => msg_any o _ c 4 x.1 u
  go_enter Try.func43, Try.ntmps43
  go_wp2_with fail
  rw [← hV0]
  clear hV0
  have HS0 := hide HR.sz
  have nw1 : ¬ w.heap.size = V0.heap.size := by have := HR.sz; omega
  have nw2 : ¬ b = V0.heap.size := by have := World.block_lt_of_cell? _ _ h0; simp only at this; omega
  have nw3 : ¬ V0.heap.size = w.heap.size := fun e => nw1 e.symm
  have nw4 : ¬ V0.heap.size = b := fun e => nw2 e.symm
  refine region_via (fun a' W => ∃ M, a' = { tmps := #[.agg #[.int .i64 o.id, .int .i64 o.item, .int .i64 o.qty, .int .i64 o.client, .int .i64 o.price, .slice (some ⟨b, off, none⟩) o.steps.length c], .int .i64 i, .pointer (some ⟨w.heap.size, 0, none⟩), undef, .pointer (some ⟨w.heap.size + 1, 0, none⟩), .pointer (some ⟨M, 0, none⟩), .agg #[.int .i64 o.id, .int .i64 o.item, .int .i64 o.qty, .int .i64 o.client, .int .i64 o.price, .slice (some ⟨b, off, none⟩) o.steps.length c], .pointer (some ⟨w.heap.size, 5, none⟩), .slice (some ⟨b, off, none⟩) o.steps.length c, .int .i64 i, .pointer (some ⟨b, off + i * 2, none⟩), .pointer (some ⟨b, off + i * 2, none⟩), .int .i64 x.1, .agg #[.int .i64 4, .int .i64 0, .int .i64 x.1, .int .i64 o.id, .int .i64 0, .int .i64 0, .int .i64 0], undef, undef, undef], defers := [] } ∧ W.heap[M]? = some (.cells #[.int .i64 4, .int .i64 0, .int .i64 x.1, .int .i64 o.id, .int .i64 0, .int .i64 0, .int .i64 0] 43 (0, 0)) ∧ w.heap.size + 1 < M ∧ Ro w o (some ⟨b, off, none⟩) c W) ?_ ?_
  · skip
    go_region_held3 (fun w' => w'.cell? ⟨w.heap.size, 0, none⟩ = some (.int .i64 o.id) ∧ w'.cell? ⟨w.heap.size, 1, none⟩ = some (.int .i64 o.item) ∧ w'.cell? ⟨w.heap.size, 2, none⟩ = some (.int .i64 o.qty) ∧ w'.cell? ⟨w.heap.size, 3, none⟩ = some (.int .i64 o.client) ∧ w'.cell? ⟨w.heap.size, 4, none⟩ = some (.int .i64 o.price) ∧ w'.cell? ⟨w.heap.size, 5, none⟩ = some (.slice (some ⟨b, off, none⟩) o.steps.length c) ∧ w'.cell? ⟨b, off + i * 2, none⟩ = some (.int .i64 x.1)) (go_keep) (first
      | (go_at_call 55; with_reducible refine (MS V0.drew).mono ?_; rintro e u ⟨rfl, hb⟩; replace HR := HR.drew.on hb; have hs := HR.sz; clear d0 d1 d2 d3 d4 d5 z0 z1 z2 z3 z4 z5 z6 y0 y1 y2 y3 y4 y5 y6; obtain ⟨⟨d0, d1, d2, d3, d4, d5⟩, ⟨z0, z1, z2, z3, z4, z5, z6⟩, y0, y1, y2, y3, y4, y5, y6⟩ := HR.cells; obtain ⟨h0, h1⟩ := HC.out u HR.bel)
      | (go_at_call 55; with_reducible refine (MS (V0.alloc (.cells #[.int .i64 0, .int .i64 0, .int .i64 0, .int .i64 0, .int .i64 0, .int .i64 0, .int .i64 0] 43)).drew).mono ?_; rintro e u ⟨rfl, hb⟩; have hM := (hb.block V0.heap.size (by simp)).trans (at_drew (World.alloc_heap_new V0 (.cells #[.int .i64 0, .int .i64 0, .int .i64 0, .int .i64 0, .int .i64 0, .int .i64 0, .int .i64 0] 43))); replace HR := (HR.alloc _).drew.on hb; have hs := HR.sz; clear d0 d1 d2 d3 d4 d5 z0 z1 z2 z3 z4 z5 z6 y0 y1 y2 y3 y4 y5 y6; obtain ⟨⟨d0, d1, d2, d3, d4, d5⟩, ⟨z0, z1, z2, z3, z4, z5, z6⟩, y0, y1, y2, y3, y4, y5, y6⟩ := HR.cells; obtain ⟨h0, h1⟩ := HC.out u HR.bel; obtain ⟨⟨m0, m1, m2, m3, m4, m5, m6⟩, n0, n1, n2, n3, n4, n5, n6⟩ := seven_cells hM))
    · refine ⟨rfl, u.heap.size, rfl, World.alloc_heap_new u _, ?_, HR.alloc _⟩
      omega
    · obtain ⟨F1, F2⟩ := fill7 hM (B := V0.heap.size) (Nat.le_refl _) (.int .i64 4) (.int .i64 0) (.int .i64 x.1) (.int .i64 o.id) (.int .i64 0) (.int .i64 0) (.int .i64 0)
      exact ⟨rfl, V0.heap.size, rfl, F1, HS0.out, HR.onB HS0.out F2⟩
  · rintro a' V ⟨M, rfl, hM, hm, HR⟩
    clear d0 d1 d2 d3 d4 d5 z0 z1 z2 z3 z4 z5 z6 y0 y1 y2 y3 y4 y5 y6 h0 h1 nw1 nw2 nw3 nw4 HS0
    have GM : Hid (w.heap.size ≤ M) := by show _ ≤ _; omega
    have NM : Hid (M ≠ w.heap.size ∧ M ≠ w.heap.size + 1) := by show _ ∧ _; omega
    obtain ⟨⟨m0, m1, m2, m3, m4, m5, m6⟩, n0, n1, n2, n3, n4, n5, n6⟩ := seven_cells hM
    obtain ⟨⟨d0, d1, d2, d3, d4, d5⟩, ⟨z0, z1, z2, z3, z4, z5, z6⟩, y0, y1, y2, y3, y4, y5, y6⟩ := HR.cells
    have nM1 := NM.out.1
    have nM2 := NM.out.2
    have nM3 := NM.out.1.symm
    have nM4 := NM.out.2.symm
    have HE := hide ((HR.one (i := 4) GM.out NM.out (.int .i64 (i : Int))))
    clear hm
    go_wp2
    obtain ⟨F1, F2⟩ := fill7 HE.out.rb (B := w.heap.size) (by omega) (.int .i64 4) (.int .i64 0) (.int .i64 x.1) (.int .i64 o.id) (.int .i64 (i : Int)) (.int .i64 0) (.int .i64 0)
    refine bodyPost_ret (v := .agg #[.int .i64 4, .int .i64 0, .int .i64 x.1, .int .i64 o.id, .int .i64 (i : Int), .int .i64 0, .int .i64 0]) ?_ rfl ?_
    · exact results_cell_row Try.results43 _ _ (w.heap.size + 1) 43 _ (0, 0) _ rfl F1 Try.underlying43 rfl (by kernel_rfl)
    exact ⟨rfl, HE.out.bel.trans F2⟩
end Go.Proofs.Ytinbmnefdhkdfaa
