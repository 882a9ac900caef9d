/-
  What others' states tell, plainly.
-/
import Derived.Test.YtlhfkomnmfkeaaaVotM
namespace Go.Proofs.Ytlhfkomnmfkeaaa
open Go.RowKit

/-- What one in that state tells. -/
def telV (s : Int) : Int := if s = 2 then 13 else if s = 0 then 14 else if s = 3 then 14 else 0
/-- What the first that tells something tells. -/
def decV : List Int → Int
  | [] => 0
  | s :: r => if telV s = 0 then decV r else telV s
/-- May s stand where d is decided? -/
def okV (d s : Int) : Bool := mayV s && (telV s == 0 || telV s == d)
def safV (l : List Int) : Bool := l.all (okV (decV l))
/-- Does one of them tell t? -/
def hasV (t : Int) (l : List Int) : Bool := l.any (fun s => telV s == t)
/-- How many of them tell t? -/
def cntV (t : Int) (l : List Int) : Nat := l.countP (fun s => telV s == t)

theorem tel_cases (s : Int) : telV s = 0 ∨ telV s = 13 ∨ telV s = 14 := by
  unfold telV; (repeat' split) <;> simp
theorem has_iff (t : Int) (l : List Int) : hasV t l = true ↔ ∃ s ∈ l, telV s = t := by
  unfold hasV; simp
theorem cnt_pos (t : Int) (l : List Int) : 0 < cntV t l ↔ hasV t l = true := by
  unfold cntV hasV; rw [List.countP_pos_iff, List.any_eq_true]
theorem dec_zero (l : List Int) : decV l = 0 ↔ ∀ s ∈ l, telV s = 0 := by
  induction l with
  | nil => simp [decV]
  | cons x r ih =>
    unfold decV
    by_cases h : telV x = 0
    · rw [if_pos h, ih]; simp [h]
    · rw [if_neg h]; simp [h]
theorem dec_some (l : List Int) (h : decV l ≠ 0) : ∃ s ∈ l, telV s = decV l := by
  induction l with
  | nil => exact absurd rfl h
  | cons x r ih =>
    unfold decV at h ⊢
    by_cases hx : telV x = 0
    · rw [if_pos hx] at h ⊢
      obtain ⟨s, hs, e⟩ := ih h
      exact ⟨s, List.mem_cons_of_mem _ hs, e⟩
    · rw [if_neg hx]; exact ⟨x, List.mem_cons_self .., rfl⟩
theorem dec_cases (l : List Int) : decV l = 0 ∨ decV l = 13 ∨ decV l = 14 := by
  by_cases h : decV l = 0
  · exact .inl h
  · obtain ⟨s, _, e⟩ := dec_some l h
    rw [← e]; exact tel_cases s
/-- Safe in the document's words. -/
theorem saf_iff (l : List Int) : safV l = true ↔ (∀ s ∈ l, mayV s = true) ∧ ¬ (hasV 13 l = true ∧ hasV 14 l = true) := by
  unfold safV
  rw [List.all_eq_true]
  constructor
  · intro h
    refine ⟨fun s hs => ?_, ?_⟩
    · have := h s hs
      unfold okV at this
      simp at this
      exact this.1
    · rintro ⟨h1, h2⟩
      obtain ⟨x, hx, ex⟩ := (has_iff _ _).1 h1
      obtain ⟨y, hy, ey⟩ := (has_iff _ _).1 h2
      have a := h x hx
      have b := h y hy
      unfold okV at a b
      rw [ex] at a
      rw [ey] at b
      simp at a b
      omega
  · rintro ⟨h1, h2⟩ s hs
    unfold okV
    rw [h1 s hs]
    simp
    by_cases h0 : telV s = 0
    · exact .inl h0
    · have hd : decV l ≠ 0 := fun e => h0 ((dec_zero l).1 e s hs)
      obtain ⟨y, hy, ey⟩ := dec_some l hd
      refine .inr ?_
      rcases tel_cases s with e | e | e
      · exact absurd e h0
      · rcases dec_cases l with d | d | d
        · exact absurd d hd
        · rw [e, d]
        · exact absurd ⟨(has_iff _ _).2 ⟨s, hs, e⟩, (has_iff _ _).2 ⟨y, hy, ey.trans d⟩⟩ h2
      · rcases dec_cases l with d | d | d
        · exact absurd d hd
        · exact absurd ⟨(has_iff _ _).2 ⟨y, hy, ey.trans d⟩, (has_iff _ _).2 ⟨s, hs, e⟩⟩ h2
        · rw [e, d]
/-- What hangs on the members alone. -/
theorem saf_mem {l m : List Int} (h : safV l = true) (hm : ∀ s ∈ m, s ∈ l) : safV m = true := by
  rw [saf_iff] at h ⊢
  refine ⟨fun s hs => h.1 s (hm s hs), fun ⟨a, b⟩ => h.2 ⟨?_, ?_⟩⟩
  · obtain ⟨s, hs, e⟩ := (has_iff _ _).1 a; exact (has_iff _ _).2 ⟨s, hm s hs, e⟩
  · obtain ⟨s, hs, e⟩ := (has_iff _ _).1 b; exact (has_iff _ _).2 ⟨s, hm s hs, e⟩
theorem dec_safe {l : List Int} (h : safV l = true) : (decV l = 13 ↔ hasV 13 l = true) ∧ (decV l = 14 ↔ hasV 14 l = true) := by
  rw [saf_iff] at h
  have h0 := dec_zero l
  have hs := dec_some l
  constructor
  · constructor
    · intro e
      obtain ⟨s, a, b⟩ := hs (by omega)
      exact (has_iff _ _).2 ⟨s, a, b.trans e⟩
    · intro e
      rcases dec_cases l with d | d | d
      · obtain ⟨s, a, b⟩ := (has_iff _ _).1 e
        have := h0.1 d s a; omega
      · exact d
      · obtain ⟨s, a, b⟩ := hs (by omega)
        exact absurd ⟨e, (has_iff _ _).2 ⟨s, a, b.trans d⟩⟩ h.2
  · constructor
    · intro e
      obtain ⟨s, a, b⟩ := hs (by omega)
      exact (has_iff _ _).2 ⟨s, a, b.trans e⟩
    · intro e
      rcases dec_cases l with d | d | d
      · obtain ⟨s, a, b⟩ := (has_iff _ _).1 e
        have := h0.1 d s a; omega
      · obtain ⟨s, a, b⟩ := hs (by omega)
        exact absurd ⟨(has_iff _ _).2 ⟨s, a, b.trans d⟩, e⟩ h.2
      · exact d
/-- In whatever order they are asked. -/
theorem dec_perm {l m : List Int} (h : safV l = true) (hm : ∀ s, s ∈ m ↔ s ∈ l) : decV m = decV l := by
  have hM := saf_mem h fun s hs => (hm s).1 hs
  have e : ∀ t, hasV t m = true ↔ hasV t l = true := fun t => by rw [has_iff, has_iff]; simp only [hm]
  have a := dec_safe h
  have b := dec_safe hM
  rcases dec_cases l with d | d | d <;> rcases dec_cases m with d' | d' | d' <;> rw [d, d']
  all_goals (exfalso; have e1 := e 13; have e2 := e 14; rw [← a.1, ← b.1] at e1; rw [← a.2, ← b.2] at e2; omega)
theorem dec_take {l : List Int} {k : Nat} (hk : k < l.length) (h : decV (l.take k) = 0) : decV l = if telV (l.getD k 0) = 0 then decV (l.drop (k + 1)) else telV (l.getD k 0) := by
  induction l generalizing k with
  | nil => simp at hk
  | cons x r ih =>
    cases k with
    | zero => rfl
    | succ n =>
      have hx : telV x = 0 ∧ decV (r.take n) = 0 := by
        have h' : decV (x :: r.take n) = 0 := h
        rw [dec_zero] at h'
        exact ⟨h' x (by simp), (dec_zero _).2 fun s hs => h' s (by simp [hs])⟩
      show (if telV x = 0 then decV r else telV x) = _
      rw [if_pos hx.1, ih (by simpa using hk) hx.2]
      simp
theorem take_snoc {l : List Int} {k : Nat} (hk : k < l.length) : l.take (k + 1) = l.take k ++ [l.getD k 0] := by
  rw [List.take_add_one]; simp [List.getD, hk]
theorem dec_app (l m : List Int) : decV (l ++ m) = if decV l = 0 then decV m else decV l := by
  induction l with
  | nil => simp [decV]
  | cons x r ih =>
    show (if telV x = 0 then decV (r ++ m) else telV x) = _
    rw [ih]
    show _ = if (if telV x = 0 then decV r else telV x) = 0 then decV m else (if telV x = 0 then decV r else telV x)
    by_cases h : telV x = 0
    · rw [if_pos h, if_pos h]
    · rw [if_neg h, if_neg h, if_neg h]
/-- One more, so far none told. -/
theorem dec_on {l : List Int} {k : Nat} (hk : k < l.length) (h : decV (l.take k) = 0) (ht : telV (l.getD k 0) = 0) : decV (l.take (k + 1)) = 0 := by
  rw [take_snoc hk, dec_app, if_pos h]; show (if telV (l.getD k 0) = 0 then (0 : Int) else telV (l.getD k 0)) = 0; rw [if_pos ht]
theorem dec_off {l : List Int} {k : Nat} (hk : k < l.length) (h : decV (l.take k) = 0) (ht : telV (l.getD k 0) ≠ 0) : decV l = telV (l.getD k 0) := by
  rw [dec_take hk h, if_neg ht]
theorem dec_end {l : List Int} {k : Nat} (hk : l.length ≤ k) (h : decV (l.take k) = 0) : decV l = 0 := by
  rwa [List.take_of_length_le hk] at h
/-- Safe, one behind the other. -/
theorem saf_on {l : List Int} {k : Nat} {d : Int} (hk : k < l.length) (h : (l.take k).all (okV d) = true) (ht : okV d (l.getD k 0) = true) : (l.take (k + 1)).all (okV d) = true := by
  rw [take_snoc hk, List.all_append, h, List.all_cons, ht]; rfl
theorem saf_off {l : List Int} {k : Nat} (hk : k < l.length) (ht : okV (decV l) (l.getD k 0) = false) : safV l = false := by
  unfold safV
  rw [List.all_eq_false]
  exact ⟨l.getD k 0, by simp [List.getD, hk], by rw [ht]; simp⟩
theorem saf_end {l : List Int} {k : Nat} (hk : l.length ≤ k) (h : (l.take k).all (okV (decV l)) = true) : safV l = true := by
  rwa [List.take_of_length_le hk] at h
/-- The reference's way: who tells what so far. -/
theorem saf_ref {l : List Int} (h : ∀ s ∈ l, mayV s = true) : safV l = (!hasV 13 l || !hasV 14 l) := by
  have e := saf_iff l
  cases h1 : hasV 13 l <;> cases h2 : hasV 14 l <;> rw [h1, h2] at e
  · exact e.2 ⟨h, by simp⟩
  · exact e.2 ⟨h, by simp⟩
  · exact e.2 ⟨h, by simp⟩
  · cases hs : safV l
    · rfl
    · rw [hs] at e; exact absurd ⟨rfl, rfl⟩ (e.1 rfl).2
theorem saf_out {l : List Int} {s : Int} (hs : s ∈ l) (h : mayV s = false) : safV l = false := by
  have e := saf_iff l
  cases hl : safV l
  · rfl
  · rw [hl] at e; have := (e.1 rfl).1 s hs; rw [h] at this; cases this
theorem has_app (t : Int) (l m : List Int) : hasV t (l ++ m) = (hasV t l || hasV t m) := by unfold hasV; exact List.any_append
end Go.Proofs.Ytlhfkomnmfkeaaa
