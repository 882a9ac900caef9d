/-
  Contract of amount.Sum: it returns what the plain functions sumV, sumE say of the row that it reads, and leaves memory as it was.
-/
import Derived.Test.YtpnegdcfccnocabSpl
namespace Go.Proofs.Ytpnegdcfccnocab
open Go.ChangeShapes Go.WideShapes Go.ChangeAt Go.RowKit

def sumGo : Int → List Int → Int × Int
  | s, [] => (s, 0)
  | s, x :: r => if addE s x = 0 then sumGo (addV s x) r else (0, addE s x)
def sumV (l : List Int) : Int := (sumGo 0 l).1
def sumE (l : List Int) : Int := (sumGo 0 l).2

theorem drop_cons {l : List Int} {k : Nat} (h : k < l.length) : l.drop k = l.getD k 0 :: l.drop (k + 1) := by
  rw [List.drop_eq_getElem_cons h]; simp [List.getD, h]
theorem sumGo_yes {l : List Int} {k : Nat} {s : Int} (h : k < l.length) (e : addE s (l.getD k 0) = 0) : sumGo s (l.drop k) = sumGo (addV s (l.getD k 0)) (l.drop (k + 1)) := by
  rw [drop_cons h, sumGo, if_pos e]
theorem sumGo_no {l : List Int} {k : Nat} {s : Int} (h : k < l.length) (e : ¬ addE s (l.getD k 0) = 0) : sumGo s (l.drop k) = (0, addE s (l.getD k 0)) := by
  rw [drop_cons h, sumGo, if_neg e]
theorem sumGo_end {l : List Int} {k : Nat} {s : Int} (h : ¬ k < l.length) : sumGo s (l.drop k) = (s, 0) := by
  rw [List.drop_of_length_le (by omega), sumGo]
theorem ret_two {a b c d : Int} (h : a = c) (k : b = d) : Ending.returned (.tuple #[.int .i64 a, .int .i64 b]) = .returned (.tuple #[.int .i64 c, .int .i64 d]) := by rw [h, k]
theorem ne_of {a : Int} (h : ¬ a = 0) : (a != 0) = true := by simpa using h

set_option maxHeartbeats 400000 in
theorem sum_any (a : Option Addr) (l : List Int) (ca : Nat) (w : World) (hl : l.length ≤ 4611686018427387904) (ha : Ints w a l) :
    Calls Try.prog 5 #[.slice a l.length ca] w fun e w' => e = .returned (.tuple #[.int .i64 (sumV l), .int .i64 (sumE l)]) ∧ w = w' := by
  go_enter Try.func5, Try.ntmps5
  go_wp2
  go_loop [4, 11] (fun s i => ∃ k : Nat, ∃ S : Int, k ≤ l.length ∧ i = .int .i64 k ∧ s = .int .i64 S ∧ Hid (sumGo 0 l = sumGo S (l.drop k))) (fun _ i => l.length - (intOf i).toNat)
  case atStart => exact ⟨0, 0, Nat.zero_le _, rfl, rfl, rfl⟩
  case round =>
    obtain ⟨k, s, hk, rfl, rfl, HS⟩ := hrel
    by_cases hlt : k < l.length
    · rcases ha with ha | ⟨ba, oa, rfl, hca⟩
      · subst ha; simp at hlt
      have h1 := hca k hlt
      clear hca
      obtain ⟨x, hx⟩ : ∃ x, x = l.getD k 0 := ⟨_, rfl⟩
      rw [← hx] at h1
      have HX : Hid (x = l.getD k 0) := hx
      clear hx
      by_cases he : addE s x = 0
      · have HS' : Hid (sumGo 0 l = sumGo (addV s x) (l.drop (k + 1))) := by
          have h2 := HS.out
          rw [sumGo_yes hlt (by rw [← HX.out]; exact he), ← HX.out] at h2
          exact h2
        go_wp2_with (go_at_call 6; refine (add_any _ _ _).mono ?_; rintro e w' ⟨rfl, rfl⟩)
        go_round
        case rel => exact ⟨k + 1, addV s x, by omega, by go_num, rfl, HS'⟩
        case measure => simp [intOf]; omega
      · have HS' : Hid (sumGo 0 l = (0, addE s x)) := by
          have h2 := HS.out
          rw [sumGo_no hlt (by rw [← HX.out]; exact he), ← HX.out] at h2
          exact h2
        have he' := ne_of he
        clear he
        go_wp2_with (go_at_call 6; refine (add_any _ _ _).mono ?_; rintro e w' ⟨rfl, rfl⟩)
        go_ret2
        exact ⟨ret_two (by show 0 = sumV l; rw [sumV, HS'.out]) (by show addE s x = sumE l; rw [sumE, HS'.out]), rfl⟩
    · have h2 := HS.out
      rw [sumGo_end hlt] at h2
      have HS' : Hid (sumGo 0 l = (s, 0)) := h2
      clear h2
      go_wp2
      go_ret2
      exact ⟨ret_two (by show s = sumV l; rw [sumV, HS'.out]) (by show 0 = sumE l; rw [sumE, HS'.out]), rfl⟩
end Go.Proofs.Ytpnegdcfccnocab
