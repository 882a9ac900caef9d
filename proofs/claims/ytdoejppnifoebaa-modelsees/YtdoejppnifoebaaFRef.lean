/-
  The reference's Plan and Back, SameActs.
-/
import Derived.Test.YtdoejppnifoebaaFlwT
import Derived.Test.YtdoejppnifoebaaFlwB
import Derived.Test.YtdoejppnifoebaaFlwG
import Derived.Test.YtdoejppnifoebaaOrdF
namespace Go.Proofs.Ytdoejppnifoebaa
open Go.ChangeShapes Go.WideShapes Go.ChangeAt Go.RowKit

theorem ownActs_of {w w' : World} {L : List (Int × Int)} {a : Option Addr} {n c : Nat} (h : OwnR w' w.heap.size (.slice a n c) n L) (hb : Below w.heap.size w w') : OwnActs w L (.returned (.slice a n c)) w' := by
  obtain ⟨rfl, h2⟩ := h
  exact ⟨a, c, rfl, OwnR.cap ⟨rfl, h2⟩, h2, hb⟩
theorem upL_next (k : Int) (i : Nat) : upL k 0 i ++ [(k, (i : Int))] = upL k 0 (i + 1) := by rw [upL_snoc]; simp

theorem neq_act (x1 x2 y1 y2 : Int) (w : World) : Sem.run Try.prog (binOp .neq 33 (.agg #[.int .i64 x1, .int .i64 x2]) (.agg #[.int .i64 y1, .int .i64 y2])) w = .ok (.bool (!(x1 == y1 && x2 == y2))) w := by
  have u3 := Try.underlying3
  have a3 := Try.isAgg3
  have z3 := Try.sizeOf3
  have hS : Try.prog.underlying 33 = some (.struct (Try.prog.fieldsOf 33)) := by kernel_rfl
  have hp : Try.prog.stoodInHeld 33 = false := by kernel_rfl
  rw [run_neq_struct, show (10000 : Nat) = 9999 + 1 from rfl, run_equalIn_agg w 9999 33 _ _ hS hp]
  simp only [Program.fieldsOf, Try.underlying33]
  go_simp
  by_cases h1 : x1 = y1 <;> by_cases h2 : x2 = y2 <;> simp [h1, h2]

set_option maxHeartbeats 2000000 in
/-- Two rows that are the same. -/
theorem same_acts (a b : Option Addr) (l : List (Int × Int)) (n ca cb : Nat) (w : World) (hn : l.length = n) (hl : n ≤ 9223372036854775807) (ha : Sts w a l) (hb : Sts w b l) :
    Calls Try.prog 14 #[.slice a n ca, .slice b n cb] w fun e w' => e = .returned (.bool true) ∧ Below w.heap.size w w' := by
  have hne := neq_act
  have hgd := guard_act
  have q0 : ((n : Int) != (n : Int)) = false := by simp
  have HN := hide hn
  have HA := hide ha
  have HB := hide hb
  clear hn ha hb
  go_enter Try.func14, Try.ntmps14
  go_wp2_with fail
  go_loopw [13] (fun i wr => ∃ k : Nat, i = .int .i64 k ∧ k ≤ n ∧ Hid (Below w.heap.size w wr)) (fun i _ => n - (intOf i).toNat)
  case atStart => exact ⟨0, rfl, Nat.zero_le _, Below.refl _ _⟩
  case round =>
    obtain ⟨k, rfl, hk, HR⟩ := hrel
    by_cases hlt : k < n
    rotate_left
    · have hq : ¬ (k : Int) < (n : Int) := by omega
      go_wp2
      go_ret
      exact ⟨rfl, HR.out⟩
    have hkl : k < l.length := by have := HN.out; omega
    obtain ⟨ba, oa, rfl, p1, p2⟩ := (HA.out.below HR.out).at hkl
    obtain ⟨bb, ob, rfl, q1, q2⟩ := (HB.out.below HR.out).at hkl
    have hq : (k : Int) < (n : Int) := by omega
    obtain ⟨⟨x1, x2⟩, hx⟩ : ∃ x, x = stAt l k := ⟨_, rfl⟩
    rw [← hx] at p1 p2 q1 q2
    simp only at p1 p2 q1 q2
    clear hx hkl
    have qe : (!(x1 == x1 && x2 == x2)) = false := by simp
    go_wp2_with fail
    go_quiet (fail)
    go_wp2
    go_roundw
    case rel => exact ⟨k + 1, by go_num, by omega, belN HR.out _⟩
    case measure => simp [intOf]; omega
end Go.Proofs.Ytdoejppnifoebaa
