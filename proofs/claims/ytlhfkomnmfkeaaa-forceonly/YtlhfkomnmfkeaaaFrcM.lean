/-
  What an operator forces, plainly.
-/
import Derived.Test.YtlhfkomnmfkeaaaPerM
namespace Go.Proofs.Ytlhfkomnmfkeaaa
open Go.RowKit

def frcE (s : Int) : Int := if mayV s = true then (if s = 1 then 0 else 7) else 1
def frcS (s : Int) (y : Bool) : Int := if s = 1 then (if y = true then 4 else 5) else 0
/-- Was it forced the other way? -/
def damV (s : Int) (y : Bool) : Bool := if y = true then s == 5 else s == 4
/-- The places of damage among the first k. -/
def whV (l : List Int) (y : Bool) : Nat → List Int
  | 0 => []
  | k + 1 => whV l y k ++ if damV (l.getD k 0) y = true then [(k : Int)] else []
/-- Is one of them decided so? -/
def isD (y : Bool) (s : Int) : Bool := finV s && (yesV s == y)
def anyD (y : Bool) (l : List Int) : Bool := l.any (isD y)
def evV (l : List Int) : Bool := !anyD true l || !anyD false l
theorem wh_on {l : List Int} {y : Bool} {k : Nat} (h : damV (l.getD k 0) y = true) : whV l y (k + 1) = whV l y k ++ [(k : Int)] := by
  show whV l y k ++ _ = _; rw [h]; rfl
theorem wh_off {l : List Int} {y : Bool} {k : Nat} (h : damV (l.getD k 0) y = false) : whV l y (k + 1) = whV l y k := by
  show whV l y k ++ _ = _; rw [h]; simp
theorem wh_bd (l : List Int) (y : Bool) (k : Nat) : (whV l y k).length ≤ k := by
  induction k with
  | zero => exact Nat.le_refl _
  | succ n ih =>
    cases h : damV (l.getD n 0) y
    · rw [wh_off h]; omega
    · rw [wh_on h]; simp; omega
theorem anyD_snoc {l : List Int} {k : Nat} (y : Bool) (hk : k < l.length) : anyD y (l.take (k + 1)) = (anyD y (l.take k) || isD y (l.getD k 0)) := by
  rw [take_snoc hk]; unfold anyD; rw [List.any_append]; simp
theorem dam_iff (s : Int) (y : Bool) : damV s y = true ↔ (s = 5 ∧ y = true) ∨ (s = 4 ∧ y = false) := by
  unfold damV; cases y <;> simp
theorem wh_mono {l : List Int} {y : Bool} {k n : Nat} (h : k ≤ n) : ∃ r, whV l y n = whV l y k ++ r := by
  induction n with
  | zero => have : k = 0 := by omega
            subst this; exact ⟨[], by simp⟩
  | succ n ih =>
    by_cases e : k = n + 1
    · subst e; exact ⟨[], by simp⟩
    · obtain ⟨r, hr⟩ := ih (by omega)
      exact ⟨r ++ _, by show whV l y n ++ _ = _; rw [hr, List.append_assoc]⟩
/-- What is told next, where one more place of damage has come. -/
theorem wh_next {l : List Int} {y : Bool} {k n : Nat} (h : k < n) (hd : damV (l.getD k 0) y = true) : (whV l y k).length < (whV l y n).length ∧ (whV l y n).getD (whV l y k).length 0 = (k : Int) := by
  obtain ⟨r, hr⟩ := wh_mono (l := l) (y := y) (k := k + 1) (n := n) (by omega)
  rw [hr, wh_on hd]
  constructor
  · simp
  · simp [List.getD]
theorem wh_pos {l : List Int} {y : Bool} {k : Nat} (hk : k < l.length) (hd : damV (l.getD k 0) y = true) : 0 < (whV l y l.length).length := by
  have := wh_next hk hd; omega
/-- Of what is Safe and uneven one was forced; and whoever is decided as it was told, one is damaged by it. -/
theorem blame {l : List Int} (hs : safV l = true) (he : evV l = false) : ∃ s ∈ l, s = 4 ∨ s = 5 := by
  rw [saf_iff] at hs
  unfold evV at he
  simp at he
  obtain ⟨h1, h2⟩ := he
  unfold anyD at h1 h2
  rw [List.any_eq_true] at h1 h2
  obtain ⟨x, hx, ex⟩ := h1
  obtain ⟨y, hy, ey⟩ := h2
  unfold isD at ex ey
  simp at ex ey
  have fx := ex.1
  have fy := ey.1
  unfold finV at fx fy
  simp at fx fy
  have yx := ex.2
  have yy := ey.2
  unfold yesV at yx yy
  simp at yx yy
  by_cases a : x = 4
  · exact ⟨x, hx, .inl a⟩
  by_cases b : y = 5
  · exact ⟨y, hy, .inr b⟩
  have hx2 : x = 2 := by omega
  have hy3 : y = 3 := by omega
  exact absurd ⟨(has_iff _ _).2 ⟨x, hx, by rw [hx2]; rfl⟩, (has_iff _ _).2 ⟨y, hy, by rw [hy3]; rfl⟩⟩ hs.2
/-- Who is decided as it was told. -/
def withV (y : Bool) (s : Int) : Bool := (s == 2 && y) || (s == 3 && !y)
theorem blamed {l : List Int} (hs : safV l = true) (he : evV l = false) {y : Bool} {s : Int} (hm : s ∈ l) (hw : withV y s = true) : ∃ k, k < l.length ∧ damV (l.getD k 0) y = true := by
  rw [saf_iff] at hs
  unfold evV at he
  simp at he
  obtain ⟨h1, h2⟩ := he
  unfold anyD at h1 h2
  rw [List.any_eq_true] at h1 h2
  have key : ∃ z ∈ l, damV z y = true := by
    cases y
    · simp [withV] at hw
      obtain ⟨x, hx, ex⟩ := h1
      unfold isD at ex
      simp at ex
      have yx := ex.2
      unfold yesV at yx
      simp at yx
      by_cases a : x = 4
      · exact ⟨x, hx, by rw [a]; rfl⟩
      · have hx2 : x = 2 := by omega
        exact absurd ⟨(has_iff _ _).2 ⟨x, hx, by rw [hx2]; rfl⟩, (has_iff _ _).2 ⟨s, hm, by rw [hw]; rfl⟩⟩ hs.2
    · simp [withV] at hw
      obtain ⟨x, hx, ex⟩ := h2
      unfold isD at ex
      simp at ex
      have fx := ex.1
      have yx := ex.2
      unfold finV at fx
      unfold yesV at yx
      simp at fx yx
      by_cases a : x = 5
      · exact ⟨x, hx, by rw [a]; rfl⟩
      · have hx2 : x = 3 := by omega
        exact absurd ⟨(has_iff _ _).2 ⟨s, hm, by rw [hw]; rfl⟩, (has_iff _ _).2 ⟨x, hx, by rw [hx2]; rfl⟩⟩ hs.2
  obtain ⟨z, hz, e⟩ := key
  obtain ⟨k, hk, ek⟩ := List.getElem_of_mem hz
  exact ⟨k, hk, by simp only [List.getD, hk, List.getElem?_eq_getElem, Option.getD_some]; rw [ek]; exact e⟩
end Go.Proofs.Ytlhfkomnmfkeaaa
