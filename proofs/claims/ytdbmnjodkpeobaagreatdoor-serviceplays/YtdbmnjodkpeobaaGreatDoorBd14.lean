/-
  Own texts put together: EntTrnM, JrnH.
-/
import Derived.Test.YtdbmnjodkpeobaaGreatDoorBd13
import Derived.Test.YtdbmnjodkpeobaaGreatDoorBd10
import Derived.Test.YtdbmnjodkpeobaaGreatDoorBd11
import Derived.Deep.RegionHeld3
/-
  Plain facts on torn lines: a beginning of a line is none; a line with one byte changed is none.
-/
namespace Go.Proofs.YtdbmnjodkpeobaaGreatDoor
open Go

theorem join_mem (b : UInt8) : ∀ (ws : List (List UInt8)), b ∈ Lib.join ws [32] → b = 32 ∨ ∃ x ∈ ws, b ∈ x
  | [], h => by simp [Lib.join_nil] at h
  | [x], h => by rw [Lib.join_one] at h; exact .inr ⟨x, by simp, h⟩
  | x :: y :: r, h => by
    have e : Lib.join (x :: y :: r) [32] = x ++ 32 :: Lib.join (y :: r) [32] := by
      rw [Lib.join_cons, Lib.join_cons]; simp [Lib.joinTail]
    rw [e] at h
    rcases List.mem_append.1 h with h | h
    · exact .inr ⟨x, by simp, h⟩
    · rcases List.mem_cons.1 h with h | h
      · exact .inl h
      · rcases join_mem b (y :: r) h with h | ⟨z, hz, hb⟩
        · exact .inl h
        · exact .inr ⟨z, by simp [hz], hb⟩

theorem nobar {k : ByteArray} {id : Int} {l : List Int} (h : mayB k id l = true) : (124 : UInt8) ∉ (txt k id l).data.toList := by
  intro hb
  obtain ⟨_, _, hk, _⟩ := may_parts h
  rcases join_mem 124 (wordsL k id l) hb with h1 | ⟨x, hx, hb⟩
  · simp at h1
  · have num : ∀ n : Int, (124 : UInt8) ∉ Lib.itoa n := fun n hn => by
      rcases itoa_chars n 124 hn with h | ⟨_, h⟩ <;> simp at h
    rcases List.mem_cons.1 hx with rfl | hx
    · have := (hk 124 hb).2
      simp at this
    · rcases List.mem_cons.1 hx with rfl | hx
      · exact num _ hb
      · obtain ⟨n, _, rfl⟩ := List.mem_map.1 hx
        exact num _ hb

theorem read_bar {s : ByteArray} (h : readB s = true) : 3 ≤ s.size ∧ s.data.toList = (head s).data.toList ++ 124 :: (lets (head s)).data.toList ∧ (head s).data.toList = s.data.toList.take (s.size - 3) := by
  unfold readB at h
  rw [Bool.and_eq_true, decide_eq_true_eq, beq_iff_eq, sign_list, ByteArray.toList_eq] at h
  exact ⟨h.1, h.2.symm, head_list s⟩

theorem torn_none {k : ByteArray} {id : Int} {l : List Int} (h : mayB k id l = true) (n : Nat) (hn : n < (sign (txt k id l)).size) : readB ((sign (txt k id l)).extract 0 n) = false := by
  cases hr : readB ((sign (txt k id l)).extract 0 n) with
  | false => rfl
  | true =>
    exfalso
    obtain ⟨h3, he, hh⟩ := read_bar hr
    have hX : (sign (txt k id l)).data.toList = (txt k id l).data.toList ++ 124 :: (lets (txt k id l)).data.toList := by rw [← ByteArray.toList_eq, sign_list]
    have hd : ((sign (txt k id l)).extract 0 n).data.toList = (sign (txt k id l)).data.toList.take n := Lib.extract_from_zero _ _
    have hsz : ((sign (txt k id l)).extract 0 n).size = n := by simp; omega
    rw [sign_size] at hn
    rw [hsz] at h3 hh
    have hl : (txt k id l).data.toList.length = (txt k id l).size := Array.length_toList
    have hlen : (head ((sign (txt k id l)).extract 0 n)).data.toList.length = n - 3 := by
      rw [hh, hd, List.length_take, List.length_take, hX]; simp; omega
    have g : ((sign (txt k id l)).extract 0 n).data.toList[n - 3]? = some 124 := by
      rw [he, ← hlen]; simp
    rw [hd, List.getElem?_take, if_pos (by omega), hX, List.getElem?_append_left (by omega)] at g
    exact nobar h (List.mem_of_getElem? g)

theorem sign_data (T : ByteArray) : (sign T).data.toList = T.data.toList ++ 124 :: (lets T).data.toList := by rw [← ByteArray.toList_eq, sign_list]

theorem change_none (T : ByteArray) (p : Nat) (b : UInt8) (hp : p < (sign T).data.toList.length) (hb : b ≠ (sign T).data.toList[p]) : readB ⟨((sign T).data.toList.set p b).toArray⟩ = false := by
  cases hr : readB ⟨((sign T).data.toList.set p b).toArray⟩ with
  | false => rfl
  | true =>
    exfalso
    obtain ⟨h3, he, hh⟩ := read_bar hr
    have hsz : (⟨((sign T).data.toList.set p b).toArray⟩ : ByteArray).size = T.data.toList.length + 3 := by
      show ((sign T).data.toList.set p b).toArray.size = _
      rw [List.size_toArray, List.length_set, sign_data]; simp [lets]
    rw [hsz] at hh
    generalize hY : head ⟨((sign T).data.toList.set p b).toArray⟩ = Yh at he hh
    have e0 : (⟨((sign T).data.toList.set p b).toArray⟩ : ByteArray).data.toList = (sign T).data.toList.set p b := by simp
    rw [e0] at he hh
    have hX := sign_data T
    have hlen : (sign T).data.toList.length = T.data.toList.length + 3 := by rw [hX]; simp [lets]
    have hx2 : (sign T).data.toList[p]? = (T.data.toList ++ 124 :: (lets T).data.toList)[p]? := by rw [hX]
    rw [List.getElem?_eq_getElem hp] at hx2
    rw [hX, List.set_append] at he hh
    have n3 : T.data.toList.length + 3 - 3 = T.data.toList.length := by omega
    rw [n3] at hh
    by_cases h1 : p < T.data.toList.length
    · rw [if_pos h1] at he hh
      rw [List.take_left' (by simp)] at hh
      rw [hh] at he
      have e1 := (List.cons.inj (List.append_cancel_left he)).2
      have e2 : Yh = ⟨(T.data.toList.set p b).toArray⟩ := bytes_ext (by rw [hh])
      rw [e2] at e1
      have e3 : num ⟨(T.data.toList.set p b).toArray⟩ = num ⟨T.data.toList.toArray⟩ := lets_same.1 (by rw [ByteArray.toList_eq, ByteArray.toList_eq, ← e1])
      have e4 := (num_change T.data.toList p h1 b).1 e3
      rw [List.getElem?_append_left h1, List.getElem?_eq_getElem h1] at hx2
      exact hb (e4.trans (Option.some.inj hx2).symm)
    · rw [if_neg h1] at he hh
      rw [List.take_left] at hh
      rw [hh] at he
      have e1 := List.append_cancel_left he
      obtain ⟨q, hq⟩ : ∃ q, p - T.data.toList.length = q := ⟨_, rfl⟩
      rw [List.getElem?_append_right (by omega), hq] at hx2
      rw [hq] at e1
      have e2 : Yh = T := bytes_ext hh
      rw [e2] at e1
      have hql : q < (124 :: (lets T).data.toList).length := by simp [lets]; omega
      have e3 : (((124 : UInt8) :: (lets T).data.toList).set q b)[q]? = ((124 : UInt8) :: (lets T).data.toList)[q]? := by rw [e1]
      rw [List.getElem?_set_self hql, ← hx2] at e3
      exact hb (Option.some.inj e3)
end Go.Proofs.YtdbmnjodkpeobaaGreatDoor
/-
  Lines and torn lines; Recover of one that is up; the law's awake.
-/
namespace Go.Proofs.YtdbmnjodkpeobaaGreatDoor
open Go.ChangeShapes Go.WideShapes Go.ChangeAt Go.RowKit

theorem ok_line {k : ByteArray} {id : Int} {l : List Int} (h : mayB k id l = true) : Ok (lineV k id l) := by
  unfold lineV
  rw [if_pos h]
  exact ⟨k, id, l, parse_line h⟩
theorem ok_is {s : ByteArray} (h : Ok s) : ∃ k id l, mayB k id l = true ∧ s = sign (txt k id l) := by
  obtain ⟨k, id, l, hp⟩ := h
  rcases hp with ⟨_, h2, _, h4, h5⟩ | ⟨h1, _⟩
  · refine ⟨k, id, l, h2, ?_⟩
    have := sign_read s h4
    rw [h5, beq_iff_eq, ByteArray.toList_eq, ByteArray.toList_eq] at this
    exact (bytes_ext this).symm
  · exact absurd rfl h1
theorem not_ok_of {s : ByteArray} (h : readB s = false) : ¬ Ok s := by
  rintro ⟨k, id, l, ⟨_, _, _, h4, _⟩ | ⟨h1, _⟩⟩
  · rw [h] at h4; cases h4
  · exact h1 rfl
theorem torn_not {s : ByteArray} (h : Ok s) (n : Nat) (hn : n < s.size) : ¬ Ok (s.extract 0 n) := by
  obtain ⟨k, id, l, hm, rfl⟩ := ok_is h
  exact not_ok_of (torn_none hm n hn)

theorem whole_all : ∀ (L : List ByteArray), (∀ x ∈ L, Ok x) → (wholeD fun s => Classical.propDecidable (Ok s)) L = L.length
  | [], _ => rfl
  | s :: r, h => by
    unfold wholeD
    rw [if_pos (h s (List.mem_cons_self ..)), whole_all r (fun x hx => h x (List.mem_cons_of_mem _ hx))]
    rfl
open Classical in
theorem whole_cons (s : ByteArray) (r : List ByteArray) (h : Ok s) : (wholeD fun s => Classical.propDecidable (Ok s)) (s :: r) = (wholeD fun s => Classical.propDecidable (Ok s)) r + 1 := by
  show (if Ok s then (wholeD fun s => Classical.propDecidable (Ok s)) r + 1 else 0) = _
  rw [if_pos h]
open Classical in
theorem whole_cons_not (s : ByteArray) (r : List ByteArray) (h : ¬ Ok s) : (wholeD fun s => Classical.propDecidable (Ok s)) (s :: r) = 0 := by
  show (if Ok s then (wholeD fun s => Classical.propDecidable (Ok s)) r + 1 else 0) = _
  rw [if_neg h]
theorem whole_app : ∀ (L R : List ByteArray), (∀ x ∈ L, Ok x) → (wholeD fun s => Classical.propDecidable (Ok s)) (L ++ R) = L.length + (wholeD fun s => Classical.propDecidable (Ok s)) R
  | [], R, _ => by simp
  | s :: r, R, h => by
    show (wholeD fun s => Classical.propDecidable (Ok s)) (s :: (r ++ R)) = _
    rw [whole_cons _ _ (h s (List.mem_cons_self ..)), whole_app r R (fun x hx => h x (List.mem_cons_of_mem _ hx))]
    show r.length + (wholeD fun s => Classical.propDecidable (Ok s)) R + 1 = r.length + 1 + (wholeD fun s => Classical.propDecidable (Ok s)) R
    omega

theorem keptN_le {L : List ByteArray} {sure : Nat} (hs : sure ≤ L.length) (stay : Int) : keptN L sure stay ≤ L.length ∧ sure ≤ keptN L sure stay := by unfold keptN; omega

/-- Of what a crash leaves just the lines that it leaves whole are entries. -/
theorem whole_crash {L : List ByteArray} (hL : ∀ x ∈ L, Ok x) {sure : Nat} (hs : sure ≤ L.length) (hz : ∀ x ∈ L, 1 ≤ x.size) (stay torn : Int) :
    (wholeD fun s => Classical.propDecidable (Ok s)) (crashL L sure stay torn) = keptN L sure stay ∧ (crashL L sure stay torn).take (keptN L sure stay) = L.take (keptN L sure stay) := by
  obtain ⟨h1, h2⟩ := keptN_le hs stay
  unfold crashL
  generalize keptN L sure stay = K at h1 h2 ⊢
  by_cases hK : K = L.length
  · rw [if_pos hK, hK]
    exact ⟨whole_all L hL, rfl⟩
  · rw [if_neg hK]
    have hlt : K < L.length := by omega
    have hT : ∀ x ∈ L.take K, Ok x := fun x hx => hL x (List.mem_of_mem_take hx)
    have hm : L.getD K ByteArray.empty ∈ L := by simp [List.getD, hlt]
    have hlen : (L.take K).length = K := by simp; omega
    generalize L.getD K ByteArray.empty = X at hm ⊢
    constructor
    · rw [whole_app _ _ hT, hlen]
      by_cases h0 : tearN X torn = 0
      · rw [if_pos h0]; rfl
      · rw [if_neg h0]
        rw [whole_cons_not _ _ (torn_not (hL X hm) _ (by have := hz X hm; unfold tearN; omega))]; rfl
    · rw [List.take_append_of_le_length (by omega), List.take_of_length_le (by omega)]
theorem crash_len {L : List ByteArray} {sure : Nat} (stay torn : Int) (hs : sure ≤ L.length) : (crashL L sure stay torn).length ≤ L.length := by
  obtain ⟨h1, h2⟩ := keptN_le hs stay
  unfold crashL
  generalize keptN L sure stay = K at h1 h2 ⊢
  split
  · exact Nat.le_refl _
  · simp; split <;> simp <;> omega

theorem recover_up {B : Nat} {w : World} {p : Nat} {v : Value} {room : Int} {L : List ByteArray} {sure : Nat} (h : Jr B w p v room L sure false) :
    Calls Tryz.prog 27 #[.pointer (some ⟨p, 0, none⟩)] w fun e w' => e = .returned (.int .i64 0) ∧ Below w.heap.size w w' := by
  obtain ⟨⟨c0, c1, c2, c3⟩, f1, f2, f3⟩ := h.cells
  go_enter Tryz.func27, Tryz.ntmps27
  go_wp2
  go_ret
  exact ⟨rfl, Below.refl _ _⟩

theorem three {X : ByteArray} {P : ByteArray → Prop} (h : P X) : ∀ x ∈ [X, X, X], P x := by simp [h]
theorem may_a1 : mayB ⟨#[97]⟩ 1 [] = true := by decide

end Go.Proofs.YtdbmnjodkpeobaaGreatDoor
