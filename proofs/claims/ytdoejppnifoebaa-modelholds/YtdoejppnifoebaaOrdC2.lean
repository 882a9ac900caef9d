/-
  Contracts: At (of package order, and the reference's).
-/
import Derived.Test.YtdoejppnifoebaaOrdC
namespace Go.Proofs.Ytdoejppnifoebaa
open Go.ChangeShapes Go.WideShapes Go.ChangeAt Go.RowKit

theorem atF_none {l : List (Int × Int)} {s : Int} (h : ∀ x ∈ l, x.1 ≠ s) : atF l s = -1 := by
  rcases atF_cases l s with ⟨e, _⟩ | ⟨n, hn, _, h1, _⟩
  · exact e
  · exact absurd h1 (h _ (stAt_mem hn))
theorem atF_hit {l : List (Int × Int)} {s : Int} {j : Nat} (hj : j < l.length) (hs : (stAt l j).1 = s) (h : ∀ x ∈ l.take j, x.1 ≠ s) : atF l s = j := by
  subst hs
  refine (atF_first hj).2 ?_
  rw [List.any_eq_false]
  intro x hx
  simpa using h x hx
theorem no_snoc {l : List (Int × Int)} {s : Int} {j : Nat} (hj : j < l.length) (hs : (stAt l j).1 ≠ s) (h : ∀ x ∈ l.take j, x.1 ≠ s) : ∀ x ∈ l.take (j + 1), x.1 ≠ s := by
  intro x hx
  rw [List.take_succ_eq_append_getElem hj] at hx
  rcases List.mem_append.1 hx with hx | hx
  · exact h x hx
  · simp at hx
    subst hx
    rw [← stAt_get hj]; exact hs

set_option maxHeartbeats 1000000 in
theorem at_any (o : Od) (a : Option Addr) (c : Nat) (s : Int) (w : World) (ha : Sts w a o.steps) (hl : o.steps.length ≤ 9223372036854775807) :
    Calls Try.prog 28 #[.agg #[.int .i64 o.id, .int .i64 o.item, .int .i64 o.qty, .int .i64 o.client, .int .i64 o.price, .slice a o.steps.length c], .int .i64 s] w fun e w' => e = .returned (.int .i64 (atF o.steps s)) ∧ Below w.heap.size w w' := by
  have HI : Hid (Sts w a o.steps) := ha
  have HB : Hid (Below w.heap.size w (w.alloc (.cells #[.int .i64 o.id, .int .i64 o.item, .int .i64 o.qty, .int .i64 o.client, .int .i64 o.price, .slice a o.steps.length c] 24))) := (Below.refl _ _).alloc (Nat.le_refl _) _
  clear ha
  go_enter Try.func28, Try.ntmps28
  go_wp2
  go_loopw [10] (fun i wr => ∃ j : Nat, i = .int .i64 j ∧ j ≤ o.steps.length ∧ Hid (Below w.heap.size w wr) ∧ Hid (∀ x ∈ o.steps.take j, x.1 ≠ s)) (fun i _ => o.steps.length - (intOf i).toNat)
  case atStart => exact ⟨0, rfl, Nat.zero_le _, HB, (fun x hx => by simp at hx)⟩
  case round =>
    obtain ⟨j, rfl, hj, HR, HN⟩ := hrel
    by_cases hlt : j < o.steps.length
    · obtain ⟨b, off, rfl, h0, h1⟩ := (HI.out.below HR.out).at hlt
      obtain ⟨x1, e1⟩ : ∃ x, x = (stAt o.steps j).1 := ⟨_, rfl⟩
      obtain ⟨x2, e2⟩ : ∃ x, x = (stAt o.steps j).2 := ⟨_, rfl⟩
      rw [← e1] at h0
      rw [← e2] at h1
      have E1 := hide e1
      clear e1 e2
      by_cases hs : x1 = s
      · subst hs
        have HF := hide (atF_hit hlt E1.out.symm HN.out)
        go_wp2
        go_ret
        exact ⟨ret_int HF.out.symm, HR.out.alloc HR.out.size _⟩
      · have HS := hide (no_snoc hlt (by rw [← E1.out]; exact hs) HN.out)
        go_wp2
        go_roundw
        case rel => exact ⟨j + 1, by go_num, by omega, HR.out.alloc HR.out.size _, HS⟩
        case measure => simp [intOf]; omega
    · have HF : Hid (-1 = atF o.steps s) := (atF_none (by have := HN.out; rwa [List.take_of_length_le (by omega)] at this)).symm
      go_wp2
      go_ret
      exact ⟨ret_int HF.out, HR.out⟩

end Go.Proofs.Ytdoejppnifoebaa
