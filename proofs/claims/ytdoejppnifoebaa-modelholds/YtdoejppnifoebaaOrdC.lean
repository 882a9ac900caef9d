/-
  Orders in memory: a row of steps; contracts of package order's placeMay, aboveNothing, serviceMay, At, stepsMay, May.
-/
import Derived.Test.YtdoejppnifoebaaOrdM
import Derived.Test.YtdoejppnifoebaaOrdB
import Derived.Test.YtdoejppnifoebaaAmt
import Derived.WalkKit
import Derived.Deep.QuietTactic
import Derived.BigQuiet
import Derived.Outline
import Derived.WalkLawsBesides
import Derived.Below
namespace Go.Proofs.Ytdoejppnifoebaa
open Go.ChangeShapes Go.WideShapes Go.ChangeAt Go.RowKit

/-- The slice at a reads as the steps l. -/
def Sts (w : World) (a : Option Addr) (l : List (Int × Int)) : Prop :=
  l = [] ∨ ∃ b off, a = some ⟨b, off, none⟩ ∧ ∀ i, i < l.length → w.cell? ⟨b, off + i * 2, none⟩ = some (.int .i64 (stAt l i).1) ∧ w.cell? ⟨b, off + i * 2 + 1, none⟩ = some (.int .i64 (stAt l i).2)
theorem Sts.below {w w' : World} {a : Option Addr} {l : List (Int × Int)} (h : Sts w a l) (hb : Below w.heap.size w w') : Sts w' a l := by
  rcases h with h | ⟨b, off, ha, hc⟩
  · exact .inl h
  · exact .inr ⟨b, off, ha, fun i hi => ⟨cellL (hc i hi).1 hb, cellL (hc i hi).2 hb⟩⟩
theorem Sts.at {w : World} {a : Option Addr} {l : List (Int × Int)} (h : Sts w a l) {i : Nat} (hi : i < l.length) : ∃ b off, a = some ⟨b, off, none⟩ ∧ w.cell? ⟨b, off + i * 2, none⟩ = some (.int .i64 (stAt l i).1) ∧ w.cell? ⟨b, off + i * 2 + 1, none⟩ = some (.int .i64 (stAt l i).2) := by
  rcases h with h | ⟨b, off, ha, hc⟩
  · subst h; simp at hi
  · exact ⟨b, off, ha, hc i hi⟩

theorem plc_any (n : Int) (w : World) : Calls Try.prog 38 #[.int .i64 n] w fun e w' => e = .returned (.bool (plcB n)) ∧ w = w' := by
  by_cases h1 : n ≥ 0
  · by_cases h2 : n < 8
    · have HF : Hid (true = plcB n) := by show _ = _; symm; rw [plcB_iff]; omega
      go_enter Try.func38, Try.ntmps38
      go_wp2
      go_ret
      exact ⟨ret_bool HF.out, rfl⟩
    · have HF : Hid (false = plcB n) := by show _ = _; unfold plcB; simp; omega
      go_enter Try.func38, Try.ntmps38
      go_wp2
      go_ret
      exact ⟨ret_bool HF.out, rfl⟩
  · have HF : Hid (false = plcB n) := by show _ = _; unfold plcB; simp; omega
    go_enter Try.func38, Try.ntmps38
    go_wp2
    go_ret
    exact ⟨ret_bool HF.out, rfl⟩

theorem svc_any (n : Int) (w : World) : Calls Try.prog 45 #[.int .i64 n] w fun e w' => e = .returned (.bool (svcB n)) ∧ w = w' := by
  by_cases h1 : n ≥ 4
  · by_cases h2 : n ≤ 6
    · have HF : Hid (true = svcB n) := by show _ = _; symm; rw [svcB_iff]; omega
      go_enter Try.func45, Try.ntmps45
      go_wp2
      go_ret
      exact ⟨ret_bool HF.out, rfl⟩
    · have HF : Hid (false = svcB n) := by show _ = _; unfold svcB; simp; omega
      go_enter Try.func45, Try.ntmps45
      go_wp2
      go_ret
      exact ⟨ret_bool HF.out, rfl⟩
  · have HF : Hid (false = svcB n) := by show _ = _; unfold svcB; simp; omega
    go_enter Try.func45, Try.ntmps45
    go_wp2
    go_ret
    exact ⟨ret_bool HF.out, rfl⟩

theorem amt_any (n : Int) (w : World) : Calls Try.prog 39 #[.int .i64 n] w fun e w' => e = .returned (.bool (amtB n)) ∧ w = w' := by
  cases hm : may n
  · have HF : Hid (false = amtB n) := by show _ = _; have := may_not.1 hm; unfold amtB; simp; omega
    go_enter Try.func39, Try.ntmps39
    go_wp2_with (go_at_call 44; refine (may_any _ _).mono ?_; rintro e w' ⟨rfl, rfl⟩)
    go_ret
    exact ⟨ret_bool HF.out, rfl⟩
  · by_cases h2 : n > 0
    · have HF : Hid (true = amtB n) := by show _ = _; have := may_iff.1 hm; symm; rw [amtB_iff]; omega
      go_enter Try.func39, Try.ntmps39
      go_wp2_with (go_at_call 44; refine (may_any _ _).mono ?_; rintro e w' ⟨rfl, rfl⟩)
      go_ret
      exact ⟨ret_bool HF.out, rfl⟩
    · have HF : Hid (false = amtB n) := by show _ = _; have := may_iff.1 hm; unfold amtB; simp; omega
      have qd : decide (0 < n) = false := by simp; omega
      go_enter Try.func39, Try.ntmps39
      go_wp2_with (go_at_call 44; refine (may_any _ _).mono ?_; rintro e w' ⟨rfl, rfl⟩)
      go_ret
      exact ⟨ret_bool HF.out, rfl⟩
end Go.Proofs.Ytdoejppnifoebaa
