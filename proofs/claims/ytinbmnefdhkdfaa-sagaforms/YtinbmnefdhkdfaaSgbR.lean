/-
  Contracts: the reference's all, none.
-/
import Derived.Test.YtinbmnefdhkdfaaSgbM
import Derived.Test.YtinbmnefdhkdfaaSgaT
import Derived.Test.YtinbmnefdhkdfaaOrdF
namespace Go.Proofs.Ytinbmnefdhkdfaa
open Go.ChangeShapes Go.WideShapes Go.ChangeAt Go.RowKit

theorem all_no {l : List Bool} {j : Nat} (h : l[j]? = some false) : allB l = false := by
  unfold allB
  rw [show hasB l false = true from hasB_mem.2 (List.mem_of_getElem? h)]
  rfl
theorem all_yes {l : List Bool} (h : false ∉ l) : allB l = true := by unfold allB; rw [hasB_not.2 h]; rfl

set_option maxHeartbeats 1000000 in
theorem rall_any (l : List Bool) (a : Option Addr) (c : Nat) (w : World) (ha : Bls w a l) (hl : l.length ≤ 9223372036854775807) :
    Calls Try.prog 26 #[.slice a l.length c] w fun e w' => e = .returned (.bool (allB l)) ∧ w = w' := by
  have HI := hide ha
  clear ha
  go_enter Try.func26, Try.ntmps26
  go_wp2
  go_loopw [7] (fun i wr => ∃ j : Nat, i = .int .i64 j ∧ j ≤ l.length ∧ wr = w ∧ Hid (false ∉ l.take j)) (fun i _ => l.length - (intOf i).toNat)
  case atStart => exact ⟨0, rfl, Nat.zero_le _, rfl, by show ¬ _; simp⟩
  case round =>
    obtain ⟨j, rfl, hj, rfl, HN⟩ := hrel
    by_cases hlt : j < l.length
    · obtain ⟨bb, off, x, rfl, hx, hc⟩ := HI.out.get hlt
      cases x
      · have HF : Hid (false = allB l) := (all_no hx).symm
        clear hx
        go_wp2
        go_ret
        exact ⟨ret_bool HF.out, rfl⟩
      · have HS := hide (not_snoc hx (by decide) HN.out)
        clear hx
        go_wp2
        go_roundw
        case rel => exact ⟨j + 1, by go_num, by omega, by trivial, HS⟩
        case measure => simp [intOf]; omega
    · have HF : Hid (true = allB l) := (all_yes (by have := HN.out; rwa [List.take_of_length_le (by omega)] at this)).symm
      go_wp2
      go_ret
      exact ⟨ret_bool HF.out, rfl⟩
theorem none_no {l : List Bool} {j : Nat} (h : l[j]? = some true) : (!hasB l true) = false := by
  rw [show hasB l true = true from hasB_mem.2 (List.mem_of_getElem? h)]
  rfl
theorem none_yes {l : List Bool} (h : true ∉ l) : (!hasB l true) = true := by rw [hasB_not.2 h]; rfl
set_option maxHeartbeats 1000000 in
theorem rnone_any (l : List Bool) (a : Option Addr) (c : Nat) (w : World) (ha : Bls w a l) (hl : l.length ≤ 9223372036854775807) :
    Calls Try.prog 27 #[.slice a l.length c] w fun e w' => e = .returned (.bool (!hasB l true)) ∧ w = w' := by
  have HI := hide ha
  clear ha
  go_enter Try.func27, Try.ntmps27
  go_wp2
  go_loopw [7] (fun i wr => ∃ j : Nat, i = .int .i64 j ∧ j ≤ l.length ∧ wr = w ∧ Hid (true ∉ l.take j)) (fun i _ => l.length - (intOf i).toNat)
  case atStart => exact ⟨0, rfl, Nat.zero_le _, rfl, by show ¬ _; simp⟩
  case round =>
    obtain ⟨j, rfl, hj, rfl, HN⟩ := hrel
    by_cases hlt : j < l.length
    · obtain ⟨bb, off, x, rfl, hx, hc⟩ := HI.out.get hlt
      cases x
      · have HS := hide (not_snoc hx (by decide) HN.out)
        clear hx
        go_wp2
        go_roundw
        case rel => exact ⟨j + 1, by go_num, by omega, by trivial, HS⟩
        case measure => simp [intOf]; omega
      · have HF : Hid (false = (!hasB l true)) := (none_no hx).symm
        clear hx
        go_wp2
        go_ret
        exact ⟨ret_bool HF.out, rfl⟩
    · have HF : Hid (true = (!hasB l true)) := (none_yes (by have := HN.out; rwa [List.take_of_length_le (by omega)] at this)).symm
      go_wp2
      go_ret
      exact ⟨ret_bool HF.out, rfl⟩
theorem pair_in {u : World} {q i : Nat} {x y : Bool} (h0 : u.cell? ⟨q, i, none⟩ = some (.bool x)) (h1 : u.cell? ⟨q, i + 1, none⟩ = some (.bool y)) : Bls u (some ⟨q, i, none⟩) [x, y] := by
  refine .inr ⟨q, i, rfl, fun j c hj => ?_⟩
  match j, hj with
  | 0, hj => simp at hj; subst hj; exact h0
  | 1, hj => simp at hj; subst hj; exact h1
  | j + 2, hj => simp at hj
/-- Pairs of neighbours: bad at i; good as far as k. -/
def badP (t : Bool) (d u : List Bool) (i : Nat) : Bool := (!t && d.getD (i + 1) false && !d.getD i false) || (u.getD i false && !u.getD (i + 1) false)
def goodP (t : Bool) (d u : List Bool) : Nat → Bool
  | 0 => true
  | k + 1 => goodP t d u k && !badP t d u k
theorem good_bad {t : Bool} {d u : List Bool} {k : Nat} (h : badP t d u k = true) : ∀ n, k < n → goodP t d u n = false
  | 0, hn => by omega
  | n + 1, hn => by
    rw [goodP]
    rcases Nat.lt_or_ge k n with h1 | h1
    · rw [good_bad h n h1]; rfl
    · rw [show n = k by omega, h]; simp
theorem good_chain (t : Bool) (d u : List Bool) (n : Nat) (h1 : d.length = n) (h2 : u.length = n) (hn : n ≤ 3) : goodP t d u (n - 1) = ((t || chainF d) && chainT u) := by
  subst h1
  match d, u, h2, hn with
  | [], [], _, _ => cases t <;> rfl
  | [x], [y], _, _ => cases t <;> rfl
  | [x, x'], [y, y'], _, _ => cases t <;> cases x <;> cases x' <;> cases y <;> cases y' <;> rfl
  | [x, x', x''], [y, y', y''], _, _ => cases t <;> cases x <;> cases x' <;> cases x'' <;> cases y <;> cases y' <;> cases y'' <;> rfl
end Go.Proofs.Ytinbmnefdhkdfaa
