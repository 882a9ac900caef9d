/-
  The walk of CheckLetters: two small letters whatever the text is; of noughts they are aa; noughts behind a text say nothing.
-/
import Derived.Test.YtolbfdngjkajgaaCShift
import Derived.Test.YtolbfdngjkajgaaNum
import Derived.Deep.OwnRows
namespace Go.Proofs.Ytolbfdngjkajgaa
open Go.ChangeShapes Go.WideShapes Go.ChangeAt Go.RowKit

theorem wsum_zeros (k : Nat) : wsum (List.replicate k 0) = 0 := by
  induction k with
  | zero => rfl
  | succ k ih => simp [List.replicate_succ, wsum, ih]

def zeros (k : Nat) : ByteArray := ⟨(List.replicate k 0).toArray⟩

theorem num_zeros (k : Nat) : num (zeros k) = 0 := by unfold num zeros; simp [wsum_zeros]
theorem num_behind (s : ByteArray) (k : Nat) : num (s ++ zeros k) = num s := by
  unfold num zeros
  rw [ByteArray.data_append, Array.toList_append, wsum_append]
  simp [wsum_zeros]
theorem lets_of {s t : ByteArray} (h : num s = num t) : lets s = lets t := by unfold lets; rw [h]
theorem lets_zeros (k : Nat) : lets (zeros k) = ⟨#[97, 97]⟩ := by unfold lets; rw [num_zeros]; rfl

/-- string(make([]byte, k)). -/
theorem conv_zeros (w : World) (k : Nat) (_h : k ≤ 40) :
    (convert 28 9 (.slice (some ⟨w.heap.size, 0, none⟩) k k)).run Try.prog (w.alloc (.cells (madeCells #[.int .u8 0] k) 5)) = .ok (.string (zeros k)) (w.alloc (.cells (madeCells #[.int .u8 0] k) 5)) := by
  have := run_convert_bytes_back (P := Try.prog) (w.alloc (.cells (madeCells #[.int .u8 0] k) 5)) 28 9 5 ⟨w.heap.size, 0, none⟩ k (List.replicate k 0) Try.underlying28 Try.underlying5 Try.underlying9 (by
    intro j hj
    rw [List.length_replicate] at hj
    rw [List.getElem_replicate]
    have := (World.rowIs_made w (.int .u8 0) k 5).cell hj
    have e : (⟨w.heap.size, 0, none⟩ : Addr).add j = ⟨w.heap.size, j, none⟩ := by by_cases h0 : j = 0 <;> simp [Addr.add, h0]
    rw [e]
    exact this)
  rw [List.length_replicate] at this
  exact this

set_option maxRecDepth 100000 in
set_option maxHeartbeats 1000000 in
theorem checkLetters_walk (a0 : ByteArray) (a1 : Int) (w0 : a0.size ≤ maxLen) (_w1 : (Lit.int .i64 a1).wf = true) (w : World) :
    Calls Try.prog 6 #[.string a0, .int .i64 a1] w fun e w' => e = .returned (.bool true) ∧ Below w.heap.size w w' := by
  by_cases h : (a0.size : Int) > 1000
  · go_enter Try.func6, Try.ntmps6
    go_wp2_with (go_at_call 9; refine (awake_any _).mono ?_; rintro e w1 ⟨rfl, hb1⟩)
    go_ret
    exact ⟨rfl, hb1⟩
  obtain ⟨b0, b1⟩ := um_bd a1 40 (by omega) (by omega)
  obtain ⟨k, hk⟩ : ∃ k : Nat, um a1 40 = k := ⟨(um a1 40).toNat, by omega⟩
  have hk' : wrap64 ((IntKind.u64.wrap a1).tmod 40) = (k : Int) := hk
  have hk40 : k ≤ 40 := by omega
  have hmk := run_make_row' (P := Try.prog) 28 5 (.int .u8 0) 1 Try.underlying28 (by kernel_rfl) rfl .i64 .i64 k (by omega) (by omega)
  have hcz := fun w => conv_zeros w k hk40
  have hl := lets_size a0
  have hz := lets_zeros k
  have hq := lets_of (num_behind a0 k)
  have zz : (zeros k).size = k := by unfold zeros; rw [Lib.size_eq]; simp
  have zm : (zeros k).size ≤ maxLen := by rw [zz]; unfold maxLen; omega
  have am : (a0 ++ zeros k).size ≤ maxLen := by rw [ByteArray.size_append, zz]; unfold maxLen; omega
  have f0 := lets_at0 a0
  have f1 := lets_at1 a0
  have hn := num_lt a0
  obtain ⟨n, en⟩ : ∃ n, num a0 = n := ⟨_, rfl⟩
  rw [en] at f0 f1 hn
  clear en hk b0 b1
  go_enter Try.func6, Try.ntmps6
  go_wp2_with (first
    | (go_at_call_of 12 (Value.string a0); refine (letters_any a0 _ w0).mono ?_; rintro e w2 ⟨rfl, hb2⟩)
    | (go_at_call_of 12 (Value.string (zeros k)); refine (letters_any _ _ zm).mono ?_; rw [hz]; rintro e w3 ⟨rfl, hb3⟩)
    | (go_at_call 12; refine (letters_any _ _ am).mono ?_; rw [hq]; rintro e w4 ⟨rfl, hb4⟩)
    | (go_at_call 9; refine (awake_any _).mono ?_; rintro e w5 ⟨rfl, hb5⟩))
  go_ret
  exact ⟨rfl, bel_on (bel_on (bel_on (bel_on hb2 ((Below.refl _ _).alloc (Nat.le_refl _) _)) hb3) hb4) hb5⟩
end Go.Proofs.Ytolbfdngjkajgaa
