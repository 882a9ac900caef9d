/-
  The walk of CheckShort: what is too short, or has no bar three bytes ahead of its end, is not signed.
-/
import Derived.Test.YtolbfdngjkajgaaCBack
namespace Go.Proofs.Ytolbfdngjkajgaa
open Go.ChangeShapes Go.WideShapes Go.ChangeAt Go.RowKit

theorem cut_list (s : ByteArray) : ((sign s).extract 0 (s.size + 2)).data.toList = s.data.toList ++ [124, let0 (num s)] := by
  rw [Lib.extract_data, ← ByteArray.toList_eq (sign s), sign_list]
  have e : s.size + 2 - 0 = s.data.toList.length + 2 := by rw [← Lib.size_eq]; rfl
  rw [e, List.drop_zero, List.take_length_add_append]
  rfl

theorem cut_size (s : ByteArray) : ((sign s).extract 0 (s.size + 2)).size = s.size + 2 := by
  rw [Lib.size_eq, cut_list, Lib.size_eq]; simp

theorem read_cut (s : ByteArray) : readB ((sign s).extract 0 (s.size + 2)) = false := by
  generalize hg : (sign s).extract 0 (s.size + 2) = g
  have hl : g.data.toList = s.data.toList ++ [124, let0 (num s)] := by rw [← hg, cut_list]
  have hz : g.size = s.size + 2 := by rw [← hg, cut_size]
  by_cases h3 : g.size < 3
  · exact (read_short g h3).1
  · unfold readB
    rw [read_parts g (by omega), Lib.extract_toList, hl]
    have e1 : g.size - 2 = s.data.toList.length := by rw [← Lib.size_eq]; omega
    have e2 : g.size - (g.size - 2) = 2 := by omega
    rw [e2, e1, List.drop_left, ByteArray.toList_eq]
    have e3 : ([124, let0 (num s)].take 2 == (lets (head g)).data.toList) = false := by
      have hn := let0_nat (num (head g)) (num_lt _)
      have hb := num_lt (head g)
      rw [Bool.eq_false_iff]
      intro h
      simp [lets] at h
      rw [← h.1] at hn
      simp at hn
      omega
    rw [e3]
    simp

set_option maxHeartbeats 1000000 in
theorem checkShort_walk (a0 : ByteArray) (a1 : Int) (_w0 : a0.size ≤ maxLen) (_w1 : (Lit.int .i64 a1).wf = true) (w : World) :
    Calls Try.prog 8 #[.string a0, .int .i64 a1] w fun e w' => e = .returned (.bool true) ∧ Below w.heap.size w w' := by
  by_cases h : (a0.size : Int) > 500
  · go_enter Try.func8, Try.ntmps8
    go_wp2_with (go_at_call 9; refine (awake_any _).mono ?_; rintro e w1 ⟨rfl, hb1⟩)
    go_ret
    exact ⟨rfl, hb1⟩
  have hs : a0.size ≤ 140737488355328 := by omega
  have hz := sign_size' a0
  have hc := read_cut a0
  have hcz : ((sign a0).extract 0 (a0.size + 2)).size ≤ 140737488355328 := by rw [cut_size]; omega
  obtain ⟨G, hG⟩ : ∃ G, (sign a0).extract 0 (a0.size + 2) = G := ⟨_, rfl⟩
  have hsl : ∀ W : World, (Instr.slice 9 (.string (sign a0)) none (some (.int .i64 ((a0.size : Int) + 3 - 1))) none).run Try.prog W = .ok (.string G) W := fun W => by
    rw [run_slice_string_to_if _ _ _ _ _ Try.underlying9, if_pos (by omega)]
    have i2 : ((a0.size : Int) + 3 - 1).toNat = a0.size + 2 := by omega
    rw [i2, hG]
  rw [hG] at hc hcz
  clear hG
  obtain ⟨p1, p2⟩ := read_short ⟨#[124, 97]⟩ (by decide)
  obtain ⟨q1, q2⟩ := read_short ⟨#[]⟩ (by decide)
  go_enter Try.func8, Try.ntmps8
  go_wp2_with (first
    | (go_at_call_of 10 (Value.string G); refine (read_any G _ hcz).mono ?_; rw [hc]; rintro e w3 ⟨rfl, hb3⟩)
    | (go_at_call_of 10 (Value.string ⟨#[124, 97]⟩); refine (read_any _ _ (by decide)).mono ?_; rw [p1, p2]; rintro e w4 ⟨rfl, hb4⟩)
    | (go_at_call_of 10 (Value.string ⟨#[]⟩); refine (read_any _ _ (by decide)).mono ?_; rw [q1, q2]; rintro e w5 ⟨rfl, hb5⟩)
    | (go_at_call 14; refine (sign_any _ _ hs).mono ?_; rintro e w2 ⟨rfl, hb2⟩)
    | (go_at_call 9; refine (awake_any _).mono ?_; rintro e w7 ⟨rfl, hb7⟩))
  go_ret
  exact ⟨rfl, bel_on (bel_on (bel_on (bel_on hb2 hb3) hb4) hb5) hb7⟩
end Go.Proofs.Ytolbfdngjkajgaa
