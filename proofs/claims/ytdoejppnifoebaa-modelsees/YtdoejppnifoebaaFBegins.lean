/-
  FlowBegins: of what may happen each beginning may; nothing happens twice.
-/
import Derived.Test.YtdoejppnifoebaaFlwW
import Derived.Test.YtdoejppnifoebaaFlwD
import Derived.Test.YtdoejppnifoebaaNum
import Derived.Test.YtdoejppnifoebaaLater
namespace Go.Proofs.Ytdoejppnifoebaa
open Go.ChangeShapes Go.WideShapes Go.ChangeAt Go.RowKit

theorem slice_to (W : World) (a : Option Addr) (n cap k : Nat) (hk : k ≤ cap) : (Instr.sliceAt 25 (.slice a n cap) none (some (.int .i64 (k : Int))) none).run Try.prog W = .ok (.slice a k cap) W := by
  have hu : Try.prog.underlying 25 = some (.slice (Try.prog.elem 25)) := by kernel_rfl
  have hz : (sizeOf (Try.prog.elem 25)).run Try.prog W = .ok 2 W := by kernel_rfl
  rw [run_sliceAt_slice _ _ _ _ _ _ hu, run_slice_h _ _ _ _ _ hu _ _ (by omega) (by omega), hz]
  show Result.ok (sliced a 0 (k : Int).toNat cap 2) W = _
  unfold sliced
  cases a with
  | none => simp
  | some y => cases h : decide (cap = 0) <;> simp_all [Addr.add]
theorem Sts.take' {w : World} {a : Option Addr} {l : List (Int × Int)} (h : Sts w a l) (n : Nat) : Sts w a (l.take n) := by
  cases a with
  | none =>
    rcases h with h | ⟨b, off, ha, _⟩
    · exact .inl (by rw [h]; simp)
    · cases ha
  | some y =>
    rcases id h with h' | ⟨b, off, ha, _⟩
    · exact .inl (by rw [h']; simp)
    · cases ha
      exact h.cut n

end Go.Proofs.Ytdoejppnifoebaa
