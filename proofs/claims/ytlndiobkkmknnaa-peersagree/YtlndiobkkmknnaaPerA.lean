/-
  What the law calls first.
-/
import Derived.Test.YtlndiobkkmknnaaPerS
namespace Go.Proofs.Ytlndiobkkmknnaa
open Go.ChangeShapes Go.WideShapes Go.ChangeAt Go.RowKit

theorem ints_pair (w : World) (n : Nat) (hn : w.heap.size = n) (x y : Int) : Ints (w.alloc (.cells #[.int .i64 x, .int .i64 y] 3)) (some ⟨n, 0, none⟩) [x, y] :=
  .inr ⟨n, 0, rfl, fun i hi => by
    subst hn
    have : [x, y].length = 2 := rfl
    have h0 : i = 0 ∨ i = 1 := by omega
    rcases h0 with rfl | rfl <;> simp⟩
theorem safe_pair (w : World) (n : Nat) (hn : w.heap.size = n) (x y : Int) (b : Bool) (hb : safV [x, y] = b) :
    Calls Try.prog 12 #[.slice (some ⟨n, 0, none⟩) 2 2] (w.alloc (.cells #[.int .i64 x, .int .i64 y] 3)) fun e w' => e = .returned (.bool b) ∧ (w.alloc (.cells #[.int .i64 x, .int .i64 y] 3)) = w' := by
  rw [← hb]
  exact psafe_any _ [x, y] 2 _ (by simp) (ints_pair w n hn x y)
set_option maxHeartbeats 2000000 in
theorem pawake_any (w : World) : Calls Try.prog 7 #[] w fun e w' => e = .returned (.bool true) ∧ Below w.heap.size w w' := by
  have C0 := pdec_any _ [1, 0] 2 _ (by decide) (ints_pair w _ rfl 1 0)
  have e0 : decV [1, 0] = 14 := by decide
  rw [e0] at C0
  have HB := hide ((((Below.refl w.heap.size w).alloc (Nat.le_refl _) (.cells #[.int .i64 1, .int .i64 0] 3)).alloc (by simp) (.cells #[.int .i64 2, .int .i64 3] 3)).alloc (by simp; omega) (.cells #[.int .i64 2, .int .i64 5] 3))
  have C1 := safe_pair (w.alloc (.cells #[.int .i64 1, .int .i64 0] 3)) (w.heap.size + 1) (by simp) 2 3 false (by decide)
  have C2 := safe_pair ((w.alloc (.cells #[.int .i64 1, .int .i64 0] 3)).alloc (.cells #[.int .i64 2, .int .i64 3] 3)) (w.heap.size + 1 + 1) (by simp) 2 5 true (by decide)
  clear e0
  go_enter Try.func7, Try.ntmps7
  go_wp2_with (first
    | (go_at_call 10; refine C0.mono ?_; rintro e u ⟨rfl, rfl⟩)
    | (go_at_call 12; with_reducible refine C1.mono ?_; rintro e u ⟨rfl, rfl⟩)
    | (go_at_call 12; with_reducible refine C2.mono ?_; rintro e u ⟨rfl, rfl⟩))
  go_ret
  exact ⟨rfl, HB.out⟩
end Go.Proofs.Ytlndiobkkmknnaa
