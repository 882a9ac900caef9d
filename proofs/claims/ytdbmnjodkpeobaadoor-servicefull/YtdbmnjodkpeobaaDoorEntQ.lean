/-
  Contract: entry.Parse: the entry whose line was signed, or the refusal that the document names.
-/
import Derived.Test.YtdbmnjodkpeobaaDoorEntF
namespace Go.Proofs.YtdbmnjodkpeobaaDoor
open Go.ChangeShapes Go.WideShapes Go.ChangeAt Go.RowKit

def ParseR (s k : ByteArray) (id : Int) (l : List Int) (er : Int) : Prop :=
  (er = 0 ∧ mayB k id l = true ∧ s.size ≤ 80 ∧ readB s = true ∧ readV s = txt k id l) ∨
  (er ≠ 0 ∧ k = ⟨#[]⟩ ∧ id = 0 ∧ l = [] ∧ (er = if 80 < s.size then 2 else if readB s = true then 2 else 3) ∧
    (s.size ≤ 80 → readB s = true → ∀ k' id' l', mayB k' id' l' = true → readV s ≠ txt k' id' l'))

theorem ParseR.uniq {s k k' : ByteArray} {id id' : Int} {l l' : List Int} {er er' : Int} (h : ParseR s k id l er) (h' : ParseR s k' id' l' er') : k = k' ∧ id = id' ∧ l = l' ∧ er = er' := by
  rcases h with ⟨a1, a2, a3, a4, a5⟩ | ⟨a1, a2, a3, a4, a5, a6⟩ <;> rcases h' with ⟨b1, b2, b3, b4, b5⟩ | ⟨b1, b2, b3, b4, b5, b6⟩
  · obtain ⟨c1, c2, c3⟩ := txt_inj a2 b2 (a5.symm.trans b5)
    exact ⟨c1, c2, c3, a1.trans b1.symm⟩
  · exact absurd a5 (b6 a3 a4 _ _ _ a2)
  · exact absurd b5 (a6 b3 b4 _ _ _ b2)
  · subst a2 a3 a4 b2 b3 b4
    exact ⟨rfl, rfl, rfl, a5.trans b5.symm⟩

theorem parse_long {s : ByteArray} (h : (s.size : Int) > 80) : ParseR s ⟨#[]⟩ 0 [] 2 :=
  .inr ⟨by decide, rfl, rfl, rfl, by rw [if_pos (by omega)], fun h' => by omega⟩
theorem parse_wrong {s : ByteArray} (h : ¬ (s.size : Int) > 80) (hr : readB s = false) : ParseR s ⟨#[]⟩ 0 [] 3 :=
  .inr ⟨by decide, rfl, rfl, rfl, by rw [if_neg (by omega), if_neg (by rw [hr]; decide)], fun _ h' => by rw [hr] at h'; cases h'⟩
theorem parse_no {s k : ByteArray} {id : Int} {l : List Int} (h : ¬ (s.size : Int) > 80) (hr : readB s = true) (hf : FromR (cutB (readV s)) k id l false) : ParseR s ⟨#[]⟩ 0 [] 2 := by
  refine .inr ⟨by decide, rfl, rfl, rfl, by rw [if_neg (by omega), if_pos hr], fun _ _ k' id' l' hm e => ?_⟩
  have := hf.2 k' id' l' hm (by rw [cutB_data, e, cut_txt hm])
  cases this
theorem parse_yes {s k : ByteArray} {id : Int} {l : List Int} (h : ¬ (s.size : Int) > 80) (hr : readB s = true) (hf : FromR (cutB (readV s)) k id l true) : ParseR s k id l 0 := by
  obtain ⟨h1, h2⟩ := hf.1 rfl
  rw [cutB_data] at h2
  exact .inl ⟨rfl, h1, by omega, hr, txt_of_words h2⟩

theorem zero_block (w : World) : (w.alloc (.cells #[.string ⟨#[]⟩, .int .i64 0, .slice none 0 0] 49)).heap[w.heap.size]? = some (.cells #[.string ⟨#[]⟩, .int .i64 0, .slice none 0 0] 49 (0, 0)) := by
  show (w.heap.push _)[w.heap.size]? = _
  simp

theorem cut_small {s : ByteArray} (h : s.size ≤ 80) : (cutB s).length ≤ 1000 ∧ ∀ x ∈ cutB s, x.size ≤ 281474976710656 := by
  constructor
  · rw [cutB_len]
    have := Lib.countB_le ⟨#[32]⟩ (by decide) s.size s (Nat.le_refl _)
    omega
  · intro x hx
    have e := cutB_data s
    have hm : x.data.toList ∈ cutW s.data.toList := by rw [← e]; exact List.mem_map.2 ⟨x, hx, rfl⟩
    have hl : ∀ (n : Nat) (l : List UInt8), l.length ≤ n → ∀ y ∈ cutW l, y.length ≤ n := by
      intro n
      induction n with
      | zero => intro l h y hy; have := List.eq_nil_of_length_eq_zero (Nat.le_zero.1 h); subst this; simp [cutW] at hy; subst hy; simp
      | succ n ih =>
        intro l h y hy
        rcases cut_or l with hp | ⟨q, r, rfl, hp⟩
        · rw [cutW_plain hp] at hy; simp at hy; subst hy; exact h
        · rw [cutW_at hp] at hy
          rcases List.mem_cons.1 hy with rfl | hy
          · simp at h; omega
          · have := ih r (by simp at h; omega) y hy; omega
    have h1 := hl _ _ (Nat.le_refl _) _ hm
    have h2 : x.data.toList.length = x.size := Array.length_toList
    have h3 : s.data.toList.length = s.size := Array.length_toList
    omega

theorem readV_small {s : ByteArray} (h : s.size ≤ 80) : (readV s).size ≤ 80 := by
  unfold readV
  split
  · unfold head; simp; omega
  · show 0 ≤ 80; omega

theorem strs_cut (w : World) (ws : List ByteArray) : Strs (w.alloc (.cells (ws.map Value.string).toArray 9)) (some ⟨w.heap.size, 0, none⟩) ws := by
  by_cases h : ws = []
  · exact .inl h
  · refine .inr ⟨w.heap.size, 0, rfl, fun i hi => ?_⟩
    have e : (w.alloc (.cells (ws.map Value.string).toArray 9)).heap[w.heap.size]? = some (.cells (ws.map Value.string).toArray 9 (0, 0)) := by
      show (w.heap.push _)[w.heap.size]? = _
      simp
    rw [cell_of e]
    simp [List.getD, hi]

theorem set3 (u : World) (r : Nat) (x0 x1 x2 y0 y1 y2 : Value) (h : u.heap[r]? = some (.cells #[x0, x1, x2] 49 (0, 0))) (W : World) (hW : W = ((u.setCell ⟨r, 0, none⟩ y0).setCell ⟨r, 1, none⟩ y1).setCell ⟨r, 2, none⟩ y2) :
    W.cell? ⟨r, 0, none⟩ = some y0 ∧ W.cell? ⟨r, 1, none⟩ = some y1 ∧ W.cell? ⟨r, 2, none⟩ = some y2 ∧ Below r u W := by
  have e : W.heap[r]? = some (.cells #[y0, y1, y2] 49 (0, 0)) := by
    subst hW
    rw [heap_setCell_same _ _ _ _ _ _ (heap_setCell_same _ _ _ _ _ _ (heap_setCell_same _ _ _ _ _ _ h))]
    simp
  refine ⟨by rw [cell_of e]; rfl, by rw [cell_of e]; rfl, by rw [cell_of e]; rfl, ?_⟩
  subst hW
  have h1 := (Below.refl r u).setCell (p := ⟨r, 0, none⟩) (Nat.le_refl r) y0
  have h2 := h1.setCell (p := ⟨r, 1, none⟩) (Nat.le_refl r) y1
  exact h2.setCell (p := ⟨r, 2, none⟩) (Nat.le_refl r) y2

theorem zeros_of {u : World} {r : Nat} (h : u.heap[r]? = some (.cells #[.string ⟨#[]⟩, .int .i64 0, .slice none 0 0] 49 (0, 0))) :
    u.cell? ⟨r, 0, none⟩ = some (.string ⟨#[]⟩) ∧ u.cell? ⟨r, 1, none⟩ = some (.int .i64 0) ∧ u.cell? ⟨r, 2, none⟩ = some (.slice none 0 0) ∧
    u.frozen? ⟨r, 0, none⟩ = false ∧ u.frozen? ⟨r, 1, none⟩ = false ∧ u.frozen? ⟨r, 2, none⟩ = false := by
  refine ⟨?_, ?_, ?_, frozen_of_row _ _ _ _ _ h, frozen_of_row _ _ _ _ _ h, frozen_of_row _ _ _ _ _ h⟩
  all_goals (rw [cell_of h]; rfl)

end Go.Proofs.YtdbmnjodkpeobaaDoor
