/-
  Small functions of the reference's chapters 7 to 11: clamp, Id, above, place.
-/
import Derived.Test.YtkaniplkobnpjaaSckM
import Derived.Test.YtkaniplkobnpjaaOrdB
namespace Go.Proofs.Ytkaniplkobnpjaa
open Go.ChangeShapes Go.WideShapes Go.ChangeAt Go.RowKit

theorem rid_any (id : Int) (w : World) : Calls Try.prog 21 #[.int .i64 id] w fun e w' => e = .returned (.bool (isI id)) ∧ w = w' := by
  by_cases h0 : 1 ≤ id
  · by_cases h1 : id ≤ 999
    · have hm : true = isI id := (isI_iff.2 ⟨h0, h1⟩).symm
      rw [← hm]
      clear hm
      go_enter Try.func21, Try.ntmps21
      go_wp2
      go_ret
      exact ⟨rfl, rfl⟩
    · have hm : false = isI id := by unfold isI; simp; omega
      rw [← hm]
      clear hm
      go_enter Try.func21, Try.ntmps21
      go_wp2
      go_ret
      exact ⟨rfl, rfl⟩
  · have hm : false = isI id := by unfold isI; simp; omega
    rw [← hm]
    clear hm
    go_enter Try.func21, Try.ntmps21
    go_wp2
    go_ret
    exact ⟨rfl, rfl⟩
def aboveB (n : Int) : Bool := decide (1 ≤ n ∧ n ≤ 1000000000)
theorem rabove_any (n : Int) (w : World) : Calls Try.prog 23 #[.int .i64 n] w fun e w' => e = .returned (.bool (aboveB n)) ∧ w = w' := by
  by_cases h0 : 1 ≤ n
  · by_cases h1 : n ≤ 1000000000
    · have hm : true = aboveB n := by unfold aboveB; simp; omega
      rw [← hm]
      clear hm
      go_enter Try.func23, Try.ntmps23
      go_wp2
      go_ret
      exact ⟨rfl, rfl⟩
    · have hm : false = aboveB n := by unfold aboveB; simp; omega
      rw [← hm]
      clear hm
      go_enter Try.func23, Try.ntmps23
      go_wp2
      go_ret
      exact ⟨rfl, rfl⟩
  · have hm : false = aboveB n := by unfold aboveB; simp; omega
    rw [← hm]
    clear hm
    go_enter Try.func23, Try.ntmps23
    go_wp2
    go_ret
    exact ⟨rfl, rfl⟩
theorem rplace_any (n : Int) (w : World) : Calls Try.prog 22 #[.int .i64 n] w fun e w' => e = .returned (.bool (isIt n)) ∧ w = w' := by
  by_cases h0 : 0 ≤ n
  · by_cases h1 : n < 8
    · have hm : true = isIt n := (isIt_iff.2 ⟨h0, h1⟩).symm
      rw [← hm]
      clear hm
      go_enter Try.func22, Try.ntmps22
      go_wp2
      go_ret
      exact ⟨rfl, rfl⟩
    · have hm : false = isIt n := by unfold isIt; simp; omega
      rw [← hm]
      clear hm
      go_enter Try.func22, Try.ntmps22
      go_wp2
      go_ret
      exact ⟨rfl, rfl⟩
  · have hm : false = isIt n := by unfold isIt; simp; omega
    rw [← hm]
    clear hm
    go_enter Try.func22, Try.ntmps22
    go_wp2
    go_ret
    exact ⟨rfl, rfl⟩
end Go.Proofs.Ytkaniplkobnpjaa
