/-
  Plain facts on torn lines: a beginning of a line is none; a line with one byte changed is none.
-/
import Derived.Test.YthjcedbjjphleaaGreatDoorEntBack
import Derived.Test.YthjcedbjjphleaaGreatDoorCTellM
namespace Go.Proofs.YthjcedbjjphleaaGreatDoor
open Go

theorem join_mem (b : UInt8) : ∀ (ws : List (List UInt8)), b ∈ Lib.join ws [32] → b = 32 ∨ ∃ x ∈ ws, b ∈ x
  | [], h => by simp [Lib.join_nil] at h
  | [x], h => by rw [Lib.join_one] at h; exact .inr ⟨x, by simp, h⟩
  | x :: y :: r, h => by
    have e : Lib.join (x :: y :: r) [32] = x ++ 32 :: Lib.join (y :: r) [32] := by
      rw [Lib.join_cons, Lib.join_cons]; simp [Lib.joinTail]
    rw [e] at h
    rcases List.mem_append.1 h with h | h
    · exact .inr ⟨x, by simp, h⟩
    · rcases List.mem_cons.1 h with h | h
      · exact .inl h
      · rcases join_mem b (y :: r) h with h | ⟨z, hz, hb⟩
        · exact .inl h
        · exact .inr ⟨z, by simp [hz], hb⟩

theorem nobar {k : ByteArray} {id : Int} {l : List Int} (h : mayB k id l = true) : (124 : UInt8) ∉ (txt k id l).data.toList := by
  intro hb
  obtain ⟨_, _, hk, _⟩ := may_parts h
  rcases join_mem 124 (wordsL k id l) hb with h1 | ⟨x, hx, hb⟩
  · simp at h1
  · have num : ∀ n : Int, (124 : UInt8) ∉ Lib.itoa n := fun n hn => by
      rcases itoa_chars n 124 hn with h | ⟨_, h⟩ <;> simp at h
    rcases List.mem_cons.1 hx with rfl | hx
    · have := (hk 124 hb).2
      simp at this
    · rcases List.mem_cons.1 hx with rfl | hx
      · exact num _ hb
      · obtain ⟨n, _, rfl⟩ := List.mem_map.1 hx
        exact num _ hb

theorem read_bar {s : ByteArray} (h : readB s = true) : 3 ≤ s.size ∧ s.data.toList = (head s).data.toList ++ 124 :: (lets (head s)).data.toList ∧ (head s).data.toList = s.data.toList.take (s.size - 3) := by
  unfold readB at h
  rw [Bool.and_eq_true, decide_eq_true_eq, beq_iff_eq, sign_list, ByteArray.toList_eq] at h
  exact ⟨h.1, h.2.symm, head_list s⟩

theorem torn_none {k : ByteArray} {id : Int} {l : List Int} (h : mayB k id l = true) (n : Nat) (hn : n < (sign (txt k id l)).size) : readB ((sign (txt k id l)).extract 0 n) = false := by
  cases hr : readB ((sign (txt k id l)).extract 0 n) with
  | false => rfl
  | true =>
    exfalso
    obtain ⟨h3, he, hh⟩ := read_bar hr
    have hX : (sign (txt k id l)).data.toList = (txt k id l).data.toList ++ 124 :: (lets (txt k id l)).data.toList := by rw [← ByteArray.toList_eq, sign_list]
    have hd : ((sign (txt k id l)).extract 0 n).data.toList = (sign (txt k id l)).data.toList.take n := Lib.extract_from_zero _ _
    have hsz : ((sign (txt k id l)).extract 0 n).size = n := by simp; omega
    rw [sign_size] at hn
    rw [hsz] at h3 hh
    have hl : (txt k id l).data.toList.length = (txt k id l).size := Array.length_toList
    have hlen : (head ((sign (txt k id l)).extract 0 n)).data.toList.length = n - 3 := by
      rw [hh, hd, List.length_take, List.length_take, hX]; simp; omega
    have g : ((sign (txt k id l)).extract 0 n).data.toList[n - 3]? = some 124 := by
      rw [he, ← hlen]; simp
    rw [hd, List.getElem?_take, if_pos (by omega), hX, List.getElem?_append_left (by omega)] at g
    exact nobar h (List.mem_of_getElem? g)

theorem sign_data (T : ByteArray) : (sign T).data.toList = T.data.toList ++ 124 :: (lets T).data.toList := by rw [← ByteArray.toList_eq, sign_list]

theorem change_none (T : ByteArray) (p : Nat) (b : UInt8) (hp : p < (sign T).data.toList.length) (hb : b ≠ (sign T).data.toList[p]) : readB ⟨((sign T).data.toList.set p b).toArray⟩ = false := by
  cases hr : readB ⟨((sign T).data.toList.set p b).toArray⟩ with
  | false => rfl
  | true =>
    exfalso
    obtain ⟨h3, he, hh⟩ := read_bar hr
    have hsz : (⟨((sign T).data.toList.set p b).toArray⟩ : ByteArray).size = T.data.toList.length + 3 := by
      show ((sign T).data.toList.set p b).toArray.size = _
      rw [List.size_toArray, List.length_set, sign_data]; simp [lets]
    rw [hsz] at hh
    generalize hY : head ⟨((sign T).data.toList.set p b).toArray⟩ = Yh at he hh
    have e0 : (⟨((sign T).data.toList.set p b).toArray⟩ : ByteArray).data.toList = (sign T).data.toList.set p b := by simp
    rw [e0] at he hh
    have hX := sign_data T
    have hlen : (sign T).data.toList.length = T.data.toList.length + 3 := by rw [hX]; simp [lets]
    have hx2 : (sign T).data.toList[p]? = (T.data.toList ++ 124 :: (lets T).data.toList)[p]? := by rw [hX]
    rw [List.getElem?_eq_getElem hp] at hx2
    rw [hX, List.set_append] at he hh
    have n3 : T.data.toList.length + 3 - 3 = T.data.toList.length := by omega
    rw [n3] at hh
    by_cases h1 : p < T.data.toList.length
    · rw [if_pos h1] at he hh
      rw [List.take_left' (by simp)] at hh
      rw [hh] at he
      have e1 := (List.cons.inj (List.append_cancel_left he)).2
      have e2 : Yh = ⟨(T.data.toList.set p b).toArray⟩ := bytes_ext (by rw [hh])
      rw [e2] at e1
      have e3 : num ⟨(T.data.toList.set p b).toArray⟩ = num ⟨T.data.toList.toArray⟩ := lets_same.1 (by rw [ByteArray.toList_eq, ByteArray.toList_eq, ← e1])
      have e4 := (num_change T.data.toList p h1 b).1 e3
      rw [List.getElem?_append_left h1, List.getElem?_eq_getElem h1] at hx2
      exact hb (e4.trans (Option.some.inj hx2).symm)
    · rw [if_neg h1] at he hh
      rw [List.take_left] at hh
      rw [hh] at he
      have e1 := List.append_cancel_left he
      obtain ⟨q, hq⟩ : ∃ q, p - T.data.toList.length = q := ⟨_, rfl⟩
      rw [List.getElem?_append_right (by omega), hq] at hx2
      rw [hq] at e1
      have e2 : Yh = T := bytes_ext hh
      rw [e2] at e1
      have hql : q < (124 :: (lets T).data.toList).length := by simp [lets]; omega
      have e3 : (((124 : UInt8) :: (lets T).data.toList).set q b)[q]? = ((124 : UInt8) :: (lets T).data.toList)[q]? := by rw [e1]
      rw [List.getElem?_set_self hql, ← hx2] at e3
      exact hb (Option.some.inj e3)
end Go.Proofs.YthjcedbjjphleaaGreatDoor
