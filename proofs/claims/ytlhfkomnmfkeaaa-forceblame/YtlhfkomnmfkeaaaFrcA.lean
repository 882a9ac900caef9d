/-
  What the law calls first.
-/
import Derived.Test.YtlhfkomnmfkeaaaFrcS
namespace Go.Proofs.Ytlhfkomnmfkeaaa
open Go.ChangeShapes Go.WideShapes Go.ChangeAt Go.RowKit

theorem ints_pair (w : World) (n : Nat) (hn : w.heap.size = n) (x y : Int) : Ints (w.alloc (.cells #[.int .i64 x, .int .i64 y] 3)) (some ⟨n, 0, none⟩) [x, y] :=
  .inr ⟨n, 0, rfl, fun i hi => by
    subst hn
    have : [x, y].length = 2 := rfl
    have h0 : i = 0 ∨ i = 1 := by omega
    rcases h0 with rfl | rfl <;> simp⟩
theorem belN {w w' : World} (h : Below w.heap.size w w') (n : Nat) : Below w.heap.size w (w'.drewN n) := ⟨h.os, h.tape, h.output, h.size, h.block⟩
set_option maxHeartbeats 2000000 in
theorem fawake_any (w : World) : Calls Try.prog 7 #[] w fun e w' => e = .returned (.bool true) ∧ Below w.heap.size w w' := by
  have C0 := ffrc_any 1 false w
  rw [show frcS 1 false = 5 by decide, show frcE 1 = 0 by decide] at C0
  have C1 : Hid (∀ u : World, Calls Try.prog 13 #[.slice (some ⟨u.heap.size, 0, none⟩) 2 2, .bool true] (u.alloc (.cells #[.int .i64 2, .int .i64 5] 3)) (TellI (u.alloc (.cells #[.int .i64 2, .int .i64 5] 3)) [1])) := fun u => by
    have := fwh_any _ [2, 5] 2 true _ (by decide) (ints_pair u _ rfl 2 5)
    rw [show whV [2, 5] true ([2, 5] : List Int).length = [1] by decide] at this
    exact this
  have C2 : Hid (∀ u : World, Calls Try.prog 15 #[.slice (some ⟨u.heap.size, 0, none⟩) 2 2] (u.alloc (.cells #[.int .i64 2, .int .i64 5] 3)) (fun e w' => e = .returned (.bool false) ∧ (u.alloc (.cells #[.int .i64 2, .int .i64 5] 3)) = w')) := fun u => by
    have := fev_any _ [2, 5] 2 _ (by decide) (ints_pair u _ rfl 2 5)
    rw [show evV [2, 5] = false by decide] at this
    exact this
  have HB0 := hide (Below.refl w.heap.size w)
  go_enter Try.func7, Try.ntmps7
  go_wp2_with (first
    | (go_at_call 8; refine C0.mono ?_; rintro e u ⟨rfl, rfl⟩)
    | (go_at_call 13; refine (C1.out _).mono ?_; rintro e u ⟨a1, c1, rfl, hi, hb⟩; have HI := hide hi; have HB1 := hide (bel_on' ((Below.refl w.heap.size w).alloc (Nat.le_refl _) _) hb); clear hi hb C1))
  have S1 := same_any a1 (some ⟨u.heap.size, 0, none⟩) [1] [1] c1 1 (u.alloc (.cells #[.int .i64 1] 3)) (by decide) (HI.out.below ((Below.refl _ _).alloc (Nat.le_refl _) _)) (ints_one u 1)
  rw [show decide (([1] : List Int) = [1]) = true by decide] at S1
  refine S1.mono ?_
  rintro e u2 ⟨rfl, n, hu2⟩
  have HB2 : Hid (Below w.heap.size w u2) := by rw [hu2]; exact belN (HB1.out.alloc HB1.out.size _) n
  have HB3 : Hid (Below w.heap.size w (u2.alloc (.cells #[.int .i64 2, .int .i64 5] 3))) := HB2.out.alloc HB2.out.size _
  clear hu2 S1 HB2 HB1 HI
  go_wp2_with (go_at_call 15; refine (C2.out _).mono ?_; rintro e u ⟨rfl, rfl⟩)
  go_ret
  exact ⟨rfl, HB3.out⟩
end Go.Proofs.Ytlhfkomnmfkeaaa
