/-
  Plain facts for the reference's number: what digits ahead of the end spell is no more than the whole; how a number is written, by its sign.
-/
import Derived.Test.YthjcedbjjphleaaGreatDoorEntCut
namespace Go.Proofs.YthjcedbjjphleaaGreatDoor
open Go

theorem decFrom_ge : ∀ (l : List UInt8) (acc n : Nat), Lib.decFrom acc l = some n → acc ≤ n
  | [], acc, n, h => by simp only [Lib.decFrom, Option.some.injEq] at h; omega
  | b :: l, acc, n, h => by
    simp only [Lib.decFrom] at h
    split at h
    · have := decFrom_ge l _ n h
      omega
    · cases h
theorem decFrom_app : ∀ (a b : List UInt8) (acc m : Nat), Lib.decFrom acc a = some m → Lib.decFrom acc (a ++ b) = Lib.decFrom m b
  | [], b, acc, m, h => by simp only [Lib.decFrom, Option.some.injEq] at h; subst h; rfl
  | c :: a, b, acc, m, h => by
    simp only [Lib.decFrom, List.cons_append] at h ⊢
    split at h
    · exact decFrom_app a b _ m h
    · cases h
theorem prefix_le (u j m : Nat) (h : Lib.decFrom 0 ((Lib.decDigits u).take j) = some m) : m ≤ u := by
  have e := decFrom_app _ ((Lib.decDigits u).drop j) 0 m h
  rw [List.take_append_drop, dec_val] at e
  exact decFrom_ge _ _ _ e.symm

/-- The text t of digits behind the sign: what is written as an entry's number spells it. -/
def DigR (s t : ByteArray) (neg : Bool) : Prop :=
  ∀ v : Int, -1000000000 ≤ v → v ≤ 1000000000 → s.data.toList = Lib.itoa v → ∃ u : Nat, u ≤ 1000000000 ∧ t.data.toList = Lib.decDigits u ∧ v = if neg = true then -(u : Int) else (u : Int)

theorem digR_plain (s : ByteArray) (h : ∀ r, s.data.toList ≠ 45 :: r) : DigR s s false := by
  intro v h0 h1 e
  rcases int_cases v with ⟨u, rfl⟩ | ⟨u, hu, rfl⟩
  · rw [itoa_nat] at e
    exact ⟨u, by omega, e, by simp⟩
  · rw [itoa_neg' u hu] at e
    exact absurd e (h _)
theorem digR_minus (s t : ByteArray) (h : s.data.toList = 45 :: t.data.toList) : DigR s t true := by
  intro v h0 h1 e
  rcases int_cases v with ⟨u, rfl⟩ | ⟨u, hu, rfl⟩
  · rw [itoa_nat, h] at e
    exact absurd e.symm (dec_head u _)
  · rw [itoa_neg' u hu, h] at e
    exact ⟨u, by omega, (List.cons.inj e).2, by simp⟩

theorem num_bad {s t : ByteArray} {neg : Bool} (hd : DigR s t neg) {j : Nat} (hj : j < t.data.toList.length) (hb : t.data.toList[j].toNat < 48 ∨ 57 < t.data.toList[j].toNat) (v : Int) : NumR s v false := by
  refine ⟨(fun h => by cases h), fun v' a1 a2 e => ?_⟩
  obtain ⟨u, _, ht, _⟩ := hd v' a1 a2 e
  have := dec_digits u t.data.toList[j] (by rw [← ht]; exact List.getElem_mem hj)
  omega
theorem num_great {s t : ByteArray} {neg : Bool} (hd : DigR s t neg) {j m : Nat} (hm : Lib.decFrom 0 (t.data.toList.take j) = some m) (hg : 1099511627776 < m) (v : Int) : NumR s v false := by
  refine ⟨(fun h => by cases h), fun v' a1 a2 e => ?_⟩
  obtain ⟨u, hu, ht, _⟩ := hd v' a1 a2 e
  rw [ht] at hm
  have := prefix_le u j m hm
  omega
theorem num_empty {s t : ByteArray} {neg : Bool} (hd : DigR s t neg) (h0 : t.data.toList = []) (v : Int) : NumR s v false := by
  refine ⟨(fun h => by cases h), fun v' a1 a2 e => ?_⟩
  obtain ⟨u, _, ht, _⟩ := hd v' a1 a2 e
  rw [h0] at ht
  exact absurd ht.symm (dec_ne u)
theorem num_whole {s t : ByteArray} {neg : Bool} (hd : DigR s t neg) {m : Nat} (hm : Lib.decFrom 0 t.data.toList = some m) (hb : m ≤ 10995116277769) (v : Int) (hv : v = if neg = true then -(m : Int) else (m : Int)) :
    NumR s v ((⟨(Lib.itoa v).toArray⟩ : ByteArray).toList == s.toList) := by
  refine ⟨fun h => ⟨(itoaB_eq s v).1 h, ?_⟩, fun v' a1 a2 e => ?_⟩
  · cases neg <;> simp at hv <;> omega
  · obtain ⟨u, _, ht, hv'⟩ := hd v' a1 a2 e
    rw [ht, dec_val] at hm
    cases hm
    have e2 : v = v' := hv.trans hv'.symm
    subst e2
    exact ⟨(itoaB_eq s v).2 e, rfl⟩
end Go.Proofs.YthjcedbjjphleaaGreatDoor
