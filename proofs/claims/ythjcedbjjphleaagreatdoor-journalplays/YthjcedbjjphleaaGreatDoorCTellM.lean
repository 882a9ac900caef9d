/-
  Plain facts: a text with one byte changed, or two side by side exchanged, has other letters.
-/
import Derived.Test.YthjcedbjjphleaaGreatDoorChk
namespace Go.Proofs.YthjcedbjjphleaaGreatDoor
open Go.RowKit

theorem wsum_same (p l m : List UInt8) : wsum (p ++ l) % 673 = wsum (p ++ m) % 673 ↔ wsum l % 673 = wsum m % 673 := by
  induction p with
  | nil => simp
  | cons b p ih =>
    rw [← ih]
    simp only [List.cons_append, wsum]
    omega

theorem lets_same {s t : ByteArray} : (lets s).toList = (lets t).toList ↔ num s = num t := by
  constructor
  · intro h
    rw [ByteArray.toList_eq, ByteArray.toList_eq] at h
    simp [lets] at h
    have h1 := let0_nat _ (num_lt s)
    have h2 := let0_nat _ (num_lt t)
    have h3 := let1_nat (num s)
    have h4 := let1_nat (num t)
    rw [h.1] at h1
    rw [h.2] at h3
    omega
  · intro h; unfold lets; rw [h]

theorem set_split (l : List UInt8) (k : Nat) (h : k < l.length) (b : UInt8) : l.set k b = l.take k ++ b :: l.drop (k + 1) := by
  rw [List.set_eq_take_append_cons_drop, if_pos h]

theorem num_change (l : List UInt8) (k : Nat) (h : k < l.length) (b : UInt8) : num ⟨(l.set k b).toArray⟩ = num ⟨l.toArray⟩ ↔ b = l[k] := by
  unfold num
  rw [set_split l k h]
  have e : l = l.take k ++ l[k] :: l.drop (k + 1) := by rw [← List.drop_eq_getElem_cons h, List.take_append_drop]
  conv => lhs; rhs; rw [e]
  simp only [wsum_same, wsum]
  have h1 := b.toNat_lt
  have h2 := l[k].toNat_lt
  constructor
  · intro h; apply UInt8.toNat_inj.1; omega
  · intro h; rw [h]

theorem num_exchange (l : List UInt8) (k : Nat) (h : k + 1 < l.length) : num ⟨((l.set k l[k + 1]).set (k + 1) l[k]).toArray⟩ = num ⟨l.toArray⟩ ↔ l[k] = l[k + 1] := by
  unfold num
  have e : l = l.take k ++ l[k] :: l[k + 1] :: l.drop (k + 1 + 1) := by rw [← List.drop_eq_getElem_cons h, ← List.drop_eq_getElem_cons (by omega), List.take_append_drop]
  have hk : (l.take k).length = k := by simp; omega
  have e2 : (l.set k l[k + 1]).set (k + 1) l[k] = l.take k ++ l[k + 1] :: l[k] :: l.drop (k + 1 + 1) := by
    rw [set_split l k (by omega), List.set_append_right _ _ (by omega), hk]
    have : k + 1 - k = 1 := by omega
    rw [this, List.drop_eq_getElem_cons h]
    rfl
  rw [e2]
  conv => lhs; rhs; rw [e]
  simp only [wsum_same, wsum]
  have h1 := l[k].toNat_lt
  have h2 := l[k + 1].toNat_lt
  constructor
  · intro h; apply UInt8.toNat_inj.1; omega
  · intro h; rw [h]

theorem xor_same (b x : UInt8) : b ^^^ x = b ↔ x = 0 := by
  constructor
  · intro h
    have : b ^^^ (b ^^^ x) = b ^^^ b := by rw [h]
    rw [← UInt8.xor_assoc, UInt8.xor_self, UInt8.zero_xor] at this
    exact this
  · rintro rfl; simp
end Go.Proofs.YthjcedbjjphleaaGreatDoor
