/-
  The law's awake returns true.
-/
import Derived.Test.YtlcjfpmhfaaaaaaFlwG
import Derived.Test.YtlcjfpmhfaaaaaaFlwT
namespace Go.Proofs.Ytlcjfpmhfaaaaaa
open Go.ChangeShapes Go.WideShapes Go.ChangeAt Go.RowKit

def odF : Od := ⟨1, 0, 1, 0, 1, [(6, 1)]⟩
theorem odF_facts : legalO odF [(2, 0), (16, 0)] = 1 ∧ ((planL odF).take 9).length = 4 ∧ ((backL odF).take 9).length = 2 := by decide
theorem sts_two (w : World) (x1 x2 y1 y2 : Int) (t : TypeId) : Sts (w.alloc (.cells #[.int .i64 x1, .int .i64 x2, .int .i64 y1, .int .i64 y2] t)) (some ⟨w.heap.size, 0, none⟩) [(x1, x2), (y1, y2)] :=
  .inr ⟨w.heap.size, 0, rfl, fun i hi => by
    have e : (w.alloc (.cells #[.int .i64 x1, .int .i64 x2, .int .i64 y1, .int .i64 y2] t)).heap[w.heap.size]? = some (.cells #[.int .i64 x1, .int .i64 x2, .int .i64 y1, .int .i64 y2] t (0, 0)) := World.alloc_heap_new w _
    rw [cell_of e, cell_of e]
    match i, hi with
    | 0, _ => exact ⟨rfl, rfl⟩
    | 1, _ => exact ⟨rfl, rfl⟩
    | i + 2, hi => simp at hi; omega⟩
theorem order_of_six {u : World} {n : Nat} {t : TypeId} {v0 v1 v2 v3 v4 v5 : Value} (h : u.heap[n]? = some (.cells #[v0, v1, v2, v3, v4, v5] t (0, 0))) : u.cell? ⟨n, 0, none⟩ = some v0 ∧ u.cell? ⟨n, 1, none⟩ = some v1 ∧ u.cell? ⟨n, 2, none⟩ = some v2 ∧ u.cell? ⟨n, 3, none⟩ = some v3 ∧ u.cell? ⟨n, 4, none⟩ = some v4 ∧ u.cell? ⟨n, 5, none⟩ = some v5 := (past_of h).1

set_option maxRecDepth 100000 in
set_option maxHeartbeats 4000000 in
theorem fawake_any (w : World) : Calls Try.prog 9 #[] w fun e w' => e = .returned (.bool true) ∧ Below w.heap.size w w' := by
  obtain ⟨W1, hW1⟩ : ∃ W, W = w.alloc (.cells #[.int .i64 6, .int .i64 1] 42) := ⟨_, rfl⟩
  have hb1 : Below w.heap.size w W1 := by rw [hW1]; exact (Below.refl _ _).alloc (Nat.le_refl _) _
  have hs1 : Sts W1 (some ⟨w.heap.size, 0, none⟩) odF.steps := by rw [hW1]; exact sts_one w 6 1
  have hz1 : W1.heap.size = w.heap.size + 1 := by rw [hW1]; simp
  obtain ⟨W2, hW2⟩ : ∃ W, W = W1.alloc (.cells #[.int .i64 1, .int .i64 0, .int .i64 1, .int .i64 0, .int .i64 1, .slice (some ⟨w.heap.size, 0, none⟩) 1 1] 24) := ⟨_, rfl⟩
  have hb2 : Below W1.heap.size W1 W2 := by rw [hW2]; exact (Below.refl _ _).alloc (Nat.le_refl _) _
  have hx2 : W2.heap[w.heap.size + 1]? = some (.cells #[.int .i64 1, .int .i64 0, .int .i64 1, .int .i64 0, .int .i64 1, .slice (some ⟨w.heap.size, 0, none⟩) 1 1] 24 (0, 0)) := by
    rw [hW2, ← hz1]; exact World.alloc_heap_new W1 _
  have hz2 : W2.heap.size = w.heap.size + 2 := by rw [hW2]; simp; omega
  obtain ⟨W3, hW3⟩ : ∃ W, W = W2.alloc (.cells #[.int .i64 2, .int .i64 0, .int .i64 16, .int .i64 0] 34) := ⟨_, rfl⟩
  have hb3 : Below W2.heap.size W2 W3 := by rw [hW3]; exact (Below.refl _ _).alloc (Nat.le_refl _) _
  have hs3 : Sts W3 (some ⟨w.heap.size + 2, 0, none⟩) [(2, 0), (16, 0)] := by rw [hW3, ← hz2]; exact sts_two W2 2 0 16 0 _
  have hB := bel_on' (bel_on' hb1 hb2) hb3
  have hst3 := (hs1.below hb2).below hb3
  have hx3 := (hb3.block _ (Array.getElem?_eq_some_iff.1 hx2).1).trans hx2
  have LG := legal_any odF (some ⟨w.heap.size, 0, none⟩) 1 [(2, 0), (16, 0)] (some ⟨w.heap.size + 2, 0, none⟩) 2 W3 hst3 (by decide) hs3 (by decide)
  rw [odF_facts.1] at LG
  have HW : Hid (W3 = ((w.alloc (.cells #[.int .i64 6, .int .i64 1] 42)).alloc (.cells #[.int .i64 1, .int .i64 0, .int .i64 1, .int .i64 0, .int .i64 1, .slice (some ⟨w.heap.size, 0, none⟩) 1 1] 24)).alloc (.cells #[.int .i64 2, .int .i64 0, .int .i64 16, .int .i64 0] 34)) := by show W3 = _; rw [hW3, hW2, hW1]
  rw [HW.out] at LG
  have HB := hide hB
  have HX := hide hx3
  have HS := hide hst3
  clear hW1 hW2 hW3 hb1 hb2 hb3 hs1 hs3 hz1 hz2 hx2 hB hst3 hx3
  go_enter Try.func9, Try.ntmps9
  go_wp2_with fail
  refine LG.mono ?_
  rintro e u1 ⟨rfl, hb⟩
  rw [← HW.out] at hb
  have HB1 := hide (bel_on' HB.out hb)
  have HX1 := hide ((hb.block _ (Array.getElem?_eq_some_iff.1 HX.out).1).trans HX.out)
  have HS1 := hide (HS.out.below hb)
  clear hb LG
  obtain ⟨d0, d1, d2, d3, d4, d5⟩ := order_of_six HX1.out
  have PL := plan_law odF (some ⟨w.heap.size, 0, none⟩) 1 u1 HS1.out (by decide) 9 (by decide)
  unfold OwnActs at PL
  rw [odF_facts.2.1] at PL
  go_wp2_with fail
  refine PL.mono ?_
  rintro e u2 ⟨a2, c2, rfl, -, -, hb⟩
  have HB2 := hide (bel_on' HB1.out hb)
  have HX2 := hide ((hb.block _ (Array.getElem?_eq_some_iff.1 HX1.out).1).trans HX1.out)
  have HS2 := hide (HS1.out.below hb)
  clear hb PL d0 d1 d2 d3 d4 d5
  obtain ⟨d0, d1, d2, d3, d4, d5⟩ := order_of_six HX2.out
  have PL := back_law odF (some ⟨w.heap.size, 0, none⟩) 1 u2 HS2.out (by decide) 9 (by decide)
  unfold OwnActs at PL
  rw [odF_facts.2.2] at PL
  go_wp2_with fail
  refine PL.mono ?_
  rintro e u3 ⟨a3, c3, rfl, -, -, hb⟩
  have HB3 := hide (bel_on' HB2.out hb)
  clear hb PL d0 d1 d2 d3 d4 d5
  go_wp2
  go_ret
  exact ⟨rfl, HB3.out⟩
end Go.Proofs.Ytlcjfpmhfaaaaaa
