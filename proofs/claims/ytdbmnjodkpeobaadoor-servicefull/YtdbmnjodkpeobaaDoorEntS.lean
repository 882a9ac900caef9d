/-
  Contracts: the reference's MayEntry says the plain mayB; entry.Same and the reference's SameEntry tell whether two entries are alike; the law's light.
-/
import Derived.Test.YtdbmnjodkpeobaaDoorEntC
namespace Go.Proofs.YtdbmnjodkpeobaaDoor
open Go.ChangeShapes Go.WideShapes Go.ChangeAt Go.RowKit

theorem may_false1 {k : ByteArray} {id : Int} {l : List Int} (h : kindB k = false) : false = mayB k id l := by unfold mayB; simp [h]
theorem may_false2 {k : ByteArray} {id : Int} {l : List Int} (h : idB id = false) : false = mayB k id l := by unfold mayB; simp [h]
theorem may_false3 {k : ByteArray} {id : Int} {l : List Int} (h : numsB l = false) : false = mayB k id l := by unfold mayB; simp [h]
theorem kind_short {k : ByteArray} (h : (k.size : Int) < 1) : kindB k = false := by unfold kindB; simp; omega
theorem kind_long {k : ByteArray} (h : (k.size : Int) > 8) : kindB k = false := by unfold kindB; simp; omega
theorem id_low {n : Int} (h : n < 0) : idB n = false := by unfold idB; simp; omega
theorem id_high {n : Int} (h : n > 999) : idB n = false := by unfold idB; simp; omega
theorem nums_long {l : List Int} (h : (l.length : Int) > 4) : numsB l = false := by unfold numsB; simp; omega
theorem kind_bad {k : ByteArray} {n : Nat} (hlt : n < k.size) (h : (k[n].toNat : Int) < 97 ∨ (k[n].toNat : Int) > 122) : kindB k = false := by
  have hl : k.data.toList.length = k.size := Array.length_toList
  have hg : k.data.toList[n]'(by omega) = k[n] := by rw [Array.getElem_toList]; rfl
  have := all_fail letterB k.data.toList n (by omega) (by rw [hg]; unfold letterB; simp; omega)
  unfold kindB; simp [this]
theorem nums_bad {l : List Int} {n : Nat} (hlt : n < l.length) {x : Int} (hx : l[n] = x) (h : x < -1000000000 ∨ x > 1000000000) : numsB l = false := by
  have := all_fail numB l n hlt (by rw [hx]; unfold numB; simp; omega)
  unfold numsB; simp [this]
theorem kind_good {k : ByteArray} (h1 : ¬ (k.size : Int) < 1) (h2 : ¬ (k.size : Int) > 8) (h3 : k.data.toList.all letterB = true) : kindB k = true := by
  unfold kindB; simp only [h3]; simp; omega
theorem kind_next {k : ByteArray} {n : Nat} (hlt : n < k.size) (ha : (k.data.toList.take n).all letterB = true) (c1 : ¬ (k[n].toNat : Int) < 97) (c2 : ¬ (k[n].toNat : Int) > 122) : (k.data.toList.take (n + 1)).all letterB = true := by
  have hl : k.data.toList.length = k.size := Array.length_toList
  have hg : k.data.toList[n]'(by omega) = k[n] := by rw [Array.getElem_toList]; rfl
  exact all_step letterB k.data.toList n (by omega) ha (by rw [hg]; unfold letterB; simp; omega)

def sameB (k : ByteArray) (id : Int) (l : List Int) (k' : ByteArray) (id' : Int) (l' : List Int) : Bool := (k.toList == k'.toList) && (id == id') && decide (l = l')

theorem belowN {w w' : World} (h : Below w.heap.size w w') (n : Nat) : Below w.heap.size w (w'.drewN n) := ⟨h.os, h.tape, h.output, h.size, h.block⟩

theorem same_iff (k : ByteArray) (id : Int) (l : List Int) (k' : ByteArray) (id' : Int) (l' : List Int) : sameB k id l k' id' l' = true ↔ k = k' ∧ id = id' ∧ l = l' := by
  unfold sameB
  simp only [Bool.and_eq_true, beq_iff_eq, decide_eq_true_eq]
  constructor
  · rintro ⟨⟨h1, h2⟩, h3⟩
    exact ⟨bytes_ext (by rw [← ByteArray.toList_eq, ← ByteArray.toList_eq, h1]), h2, h3⟩
  · rintro ⟨rfl, rfl, rfl⟩
    exact ⟨⟨rfl, rfl⟩, rfl⟩

def lightB (k : ByteArray) (l : List Int) : Bool := decide (k.size ≤ 50) && decide (l.length ≤ 20)
end Go.Proofs.YtdbmnjodkpeobaaDoor
