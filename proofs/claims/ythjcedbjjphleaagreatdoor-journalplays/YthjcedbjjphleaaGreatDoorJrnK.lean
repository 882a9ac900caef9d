/-
  Contract: the law's few.
-/
import Derived.Test.YthjcedbjjphleaaGreatDoorJrnJ
import Derived.Test.YthjcedbjjphleaaGreatDoorCallD
namespace Go.Proofs.YthjcedbjjphleaaGreatDoor
open Go.ChangeShapes Go.WideShapes Go.ChangeAt Go.RowKit

def Few (cl : List Cv) : Prop := cl.length ≤ 100 ∧ ∀ c ∈ cl, c.k.size ≤ 50 ∧ c.l.length ≤ 20

set_option maxRecDepth 100000 in
set_option maxHeartbeats 4000000 in
theorem few_any (a : Option Addr) (cl : List Cv) (ca : Nat) (w : World) (hl : cl.length ≤ 9223372036854775807) (ha : CallsAt w a cl) :
    Calls Tryz.prog 4 #[.slice a cl.length ca] w fun e w' => ((e = .returned (.bool true) ∧ Few cl) ∨ e = .returned (.bool false)) ∧ Below w.heap.size w w' := by
  have HA : Hid (CallsAt w a cl) := ha
  clear ha
  go_enter Tryz.func4, Tryz.ntmps4
  go_wp2_with fail
  go_loopw [7] (fun i wr => ∃ j : Nat, i = .int .i64 j ∧ j ≤ cl.length ∧ j ≤ 100 ∧ Hid (∀ i c, i < j → cl[i]? = some c → c.k.size ≤ 50 ∧ c.l.length ≤ 20) ∧ Hid (Below w.heap.size w wr)) (fun i _ => cl.length - (intOf i).toNat)
  case atStart => exact ⟨0, rfl, Nat.zero_le _, by omega, (fun i c h => by omega), Below.refl _ _⟩
  case round =>
    obtain ⟨j, rfl, hj, hj100, HF, HB⟩ := hrel
    by_cases hlt : j < cl.length
    · have ql : (j : Int) < (cl.length : Int) := by omega
      obtain ⟨c, hc⟩ : ∃ c, cl[j]? = some c := ⟨cl[j], by simp [hlt]⟩
      rcases HA.out.below HB.out with h | ⟨b, off, rfl, hca⟩
      · subst h; simp at hlt
      obtain ⟨⟨c0, c1, c2, c3, c4, c5⟩, -⟩ := hca j c hc
      have HBA : Hid (Below w.heap.size w (wr.alloc (.cells #[.int .i64 c.d, .int .i64 c.s, .int .i64 c.t, .string c.k, .int .i64 c.id, .slice c.av c.l.length c.cv] 34))) := HB.out.alloc HB.out.size _
      have HC := hide hc
      clear hca hc
      by_cases h100 : (j : Int) ≥ 100
      · go_wp2
        go_ret
        exact ⟨.inr rfl, HBA.out⟩
      by_cases h50 : (c.k.size : Int) > 50
      · go_wp2
        go_ret
        exact ⟨.inr rfl, HBA.out⟩
      by_cases h20 : (c.l.length : Int) > 20
      · go_wp2
        go_ret
        exact ⟨.inr rfl, HBA.out⟩
      have HF2 : Hid (∀ i c, i < j + 1 → cl[i]? = some c → c.k.size ≤ 50 ∧ c.l.length ≤ 20) := fun i c' hi hc' => by
        by_cases e : i = j
        · subst e
          have := HC.out
          rw [this] at hc'
          cases hc'
          omega
        · exact HF.out i c' (by omega) hc'
      go_wp2
      go_roundw
      case rel => exact ⟨j + 1, by go_num, by omega, by omega, HF2, HBA⟩
      case measure => simp [intOf]; omega
    · have ql : ¬ (j : Int) < (cl.length : Int) := by omega
      have HFW : Hid (Few cl) := ⟨by omega, fun c hc => by
        obtain ⟨i, hi⟩ := List.getElem?_of_mem hc
        exact HF.out i c (by have := (List.getElem?_eq_some_iff.1 hi).1; omega) hi⟩
      go_wp2
      go_ret
      exact ⟨.inl ⟨rfl, HFW.out⟩, HB.out⟩
end Go.Proofs.YthjcedbjjphleaaGreatDoor
