/-
  Small functions of the reference's chapters 7 to 11: clamp, Id, above, place.
-/
import Derived.Test.YtpahgoehpkohiaaSckM
import Derived.Test.YtpahgoehpkohiaaOrdB
namespace Go.Proofs.Ytpahgoehpkohiaa
open Go.ChangeShapes Go.WideShapes Go.ChangeAt Go.RowKit

theorem rclamp_any (room : Int) (w : World) : Calls Try.prog 36 #[.int .i64 room] w fun e w' => e = .returned (.int .i64 (clampA room)) ∧ w = w' := by
  by_cases h0 : 0 < room
  · by_cases h1 : room ≤ 1000000000
    · have HC : Hid (room = clampA room) := by show _ = _; unfold clampA; rw [if_neg (by omega), if_pos h1]
      go_enter Try.func36, Try.ntmps36
      go_wp2
      go_ret
      exact ⟨ret_int HC.out, rfl⟩
    · have HC : Hid (1000000000 = clampA room) := by show _ = _; unfold clampA; rw [if_neg (by omega), if_neg h1]
      go_enter Try.func36, Try.ntmps36
      go_wp2
      go_ret
      exact ⟨ret_int HC.out, rfl⟩
  · have HC : Hid (0 = clampA room) := by show _ = _; unfold clampA; split <;> (try split) <;> omega
    go_enter Try.func36, Try.ntmps36
    go_wp2
    go_ret
    exact ⟨ret_int HC.out, rfl⟩

theorem rid_any (id : Int) (w : World) : Calls Try.prog 32 #[.int .i64 id] w fun e w' => e = .returned (.bool (isI id)) ∧ w = w' := by
  by_cases h0 : 1 ≤ id
  · by_cases h1 : id ≤ 999
    · have hm : true = isI id := (isI_iff.2 ⟨h0, h1⟩).symm
      rw [← hm]
      clear hm
      go_enter Try.func32, Try.ntmps32
      go_wp2
      go_ret
      exact ⟨rfl, rfl⟩
    · have hm : false = isI id := by unfold isI; simp; omega
      rw [← hm]
      clear hm
      go_enter Try.func32, Try.ntmps32
      go_wp2
      go_ret
      exact ⟨rfl, rfl⟩
  · have hm : false = isI id := by unfold isI; simp; omega
    rw [← hm]
    clear hm
    go_enter Try.func32, Try.ntmps32
    go_wp2
    go_ret
    exact ⟨rfl, rfl⟩
def aboveB (n : Int) : Bool := decide (1 ≤ n ∧ n ≤ 1000000000)
theorem rabove_any (n : Int) (w : World) : Calls Try.prog 34 #[.int .i64 n] w fun e w' => e = .returned (.bool (aboveB n)) ∧ w = w' := by
  by_cases h0 : 1 ≤ n
  · by_cases h1 : n ≤ 1000000000
    · have hm : true = aboveB n := by unfold aboveB; simp; omega
      rw [← hm]
      clear hm
      go_enter Try.func34, Try.ntmps34
      go_wp2
      go_ret
      exact ⟨rfl, rfl⟩
    · have hm : false = aboveB n := by unfold aboveB; simp; omega
      rw [← hm]
      clear hm
      go_enter Try.func34, Try.ntmps34
      go_wp2
      go_ret
      exact ⟨rfl, rfl⟩
  · have hm : false = aboveB n := by unfold aboveB; simp; omega
    rw [← hm]
    clear hm
    go_enter Try.func34, Try.ntmps34
    go_wp2
    go_ret
    exact ⟨rfl, rfl⟩
theorem rplace_any (n : Int) (w : World) : Calls Try.prog 33 #[.int .i64 n] w fun e w' => e = .returned (.bool (isIt n)) ∧ w = w' := by
  by_cases h0 : 0 ≤ n
  · by_cases h1 : n < 8
    · have hm : true = isIt n := (isIt_iff.2 ⟨h0, h1⟩).symm
      rw [← hm]
      clear hm
      go_enter Try.func33, Try.ntmps33
      go_wp2
      go_ret
      exact ⟨rfl, rfl⟩
    · have hm : false = isIt n := by unfold isIt; simp; omega
      rw [← hm]
      clear hm
      go_enter Try.func33, Try.ntmps33
      go_wp2
      go_ret
      exact ⟨rfl, rfl⟩
  · have hm : false = isIt n := by unfold isIt; simp; omega
    rw [← hm]
    clear hm
    go_enter Try.func33, Try.ntmps33
    go_wp2
    go_ret
    exact ⟨rfl, rfl⟩
end Go.Proofs.Ytpahgoehpkohiaa
