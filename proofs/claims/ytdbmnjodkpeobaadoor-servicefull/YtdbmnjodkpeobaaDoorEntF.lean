/-
  Contract: entry.fromWords: the entry that the words are, if they are one.
-/
import Derived.Test.YtdbmnjodkpeobaaDoorEntP
import Derived.WalkMore
import Derived.Deep.CutBlock
import Derived.Deep.RegionHeld3
import Derived.Deep.DrawnRows
namespace Go.Proofs.YtdbmnjodkpeobaaDoor
open Go.ChangeShapes Go.WideShapes Go.ChangeAt Go.RowKit
set_option linter.unusedSimpArgs false

def FromR (ws : List ByteArray) (k : ByteArray) (id : Int) (l : List Int) (b : Bool) : Prop :=
  (b = true → mayB k id l = true ∧ ws.map (·.data.toList) = wordsL k id l) ∧
  ∀ k' id' l', mayB k' id' l' = true → ws.map (·.data.toList) = wordsL k' id' l' → b = true

/-- What is read after p words. -/
def Pre (ws : List ByteArray) (p : Nat) (k : ByteArray) (id : Int) (l : List Int) : Prop :=
  (ws.take p).map (·.data.toList) = (wordsL k id l).take p ∧ l.length = p - 2 ∧ k.size ≤ 281474976710656

theorem pre_zero (ws : List ByteArray) : Pre ws 0 ⟨#[]⟩ 0 [] := ⟨rfl, rfl, Nat.zero_le _⟩
theorem take_map_succ (ws : List ByteArray) (p : Nat) (h : p < ws.length) : (ws.take (p + 1)).map (·.data.toList) = (ws.take p).map (·.data.toList) ++ [ws[p].data.toList] := by
  rw [List.take_succ_eq_append_getElem h, List.map_append]; rfl
theorem pre_kind (ws : List ByteArray) (h : 0 < ws.length) (id : Int) (hs : ws[0].size ≤ 281474976710656) : Pre ws 1 ws[0] id [] := by
  refine ⟨?_, rfl, hs⟩
  rw [take_map_succ ws 0 h]
  rfl
theorem pre_id (ws : List ByteArray) (h : 1 < ws.length) {k : ByteArray} {id v : Int} {l : List Int} (hp : Pre ws 1 k id l) (hv : ws[1].data.toList = Lib.itoa v) : Pre ws 2 k v l := by
  refine ⟨?_, hp.2⟩
  have e := hp.1
  rw [take_map_succ ws 1 h, e, hv]
  have : l = [] := List.eq_nil_of_length_eq_zero hp.2.1
  subst this
  rfl
theorem pre_num (ws : List ByteArray) {p : Nat} (h2 : 2 ≤ p) (h : p < ws.length) {k : ByteArray} {id v : Int} {l : List Int} (hp : Pre ws p k id l) (hv : ws[p].data.toList = Lib.itoa v) : Pre ws (p + 1) k id (l ++ [v]) := by
  obtain ⟨e, hl, hs⟩ := hp
  refine ⟨?_, by simp; omega, hs⟩
  rw [take_map_succ ws p h, e, hv]
  have n1 : (wordsL k id l).length = p := by simp [wordsL]; omega
  have n2 : (wordsL k id (l ++ [v])).length = p + 1 := by simp [wordsL]; omega
  rw [List.take_of_length_le (by omega), List.take_of_length_le (by omega)]
  simp [wordsL]

theorem from_stop (ws : List ByteArray) {p : Nat} (h1 : 1 ≤ p) (h : p < ws.length) {v : Int} (hn : NumR ws[p] v false) (k : ByteArray) (id : Int) (l : List Int) : FromR ws k id l false := by
  refine ⟨(fun h => by cases h), fun k' id' l' hm e => ?_⟩
  exfalso
  obtain ⟨_, _, _, hi0, hi1, _, hl⟩ := may_parts hm
  have e2 : (wordsL k' id' l')[p]? = some ws[p].data.toList := by rw [← e]; simp [h]
  have hx : ∃ n : Int, -1000000000 ≤ n ∧ n ≤ 1000000000 ∧ ws[p].data.toList = Lib.itoa n := by
    obtain ⟨q, rfl⟩ : ∃ q, p = q + 1 := ⟨p - 1, by omega⟩
    simp only [wordsL, List.getElem?_cons_succ] at e2
    cases q with
    | zero =>
      simp only [List.getElem?_cons_zero, Option.some.injEq] at e2
      exact ⟨id', by omega, by omega, e2.symm⟩
    | succ q =>
      simp only [List.getElem?_cons_succ, List.getElem?_map, Option.map_eq_some_iff] at e2
      obtain ⟨n, hn1, hn2⟩ := e2
      exact ⟨n, (hl n (List.mem_of_getElem? hn1)).1, (hl n (List.mem_of_getElem? hn1)).2, hn2.symm⟩
  obtain ⟨n, n0, n1, en⟩ := hx
  have := (hn.2 n n0 n1 en).1
  cases this

theorem from_end (ws : List ByteArray) {k : ByteArray} {id : Int} {l : List Int} (hp : Pre ws ws.length k id l) (h2 : 2 ≤ ws.length) : FromR ws k id l (mayB k id l) := by
  obtain ⟨e, hl, _⟩ := hp
  have n1 : (wordsL k id l).length = ws.length := by simp [wordsL]; omega
  rw [List.take_length, List.take_of_length_le (by omega)] at e
  refine ⟨fun h => ⟨h, e⟩, fun k' id' l' hm e' => ?_⟩
  obtain ⟨rfl, rfl, rfl⟩ := words_inj (e.symm.trans e')
  exact hm
theorem from_few (ws : List ByteArray) (h2 : ws.length < 2) (k : ByteArray) (id : Int) (l : List Int) : FromR ws k id l false := by
  refine ⟨(fun h => by cases h), fun k' id' l' _ e => ?_⟩
  have := congrArg List.length e
  simp [wordsL] at this
  omega

/-- A row of numbers that lies from block B on, in a block of numbers that may be written. -/
def IntsF (B : Nat) (w : World) (a : Option Addr) (l : List Int) : Prop :=
  l = [] ∨ ∃ b off, a = some ⟨b, off, none⟩ ∧ B ≤ b ∧ (∃ cs, w.heap[b]? = some (.cells cs 3 (0, 0))) ∧ ∀ i, i < l.length → w.cell? ⟨b, off + i, none⟩ = some (.int .i64 (l.getD i 0))
theorem IntsF.ints {B : Nat} {w : World} {a : Option Addr} {l : List Int} (h : IntsF B w a l) : Ints w a l := by
  rcases h with h | ⟨b, off, h1, _, _, h3⟩
  · exact .inl h
  · exact .inr ⟨b, off, h1, h3⟩
theorem IntsF.moveF {B : Nat} {u W : World} {a : Option Addr} {l : List Int} (h : IntsF B u a l) (hk : ∀ k, B ≤ k → (∃ cs, u.heap[k]? = some (.cells cs 3 (0, 0))) → W.heap[k]? = u.heap[k]?) : IntsF B W a l := by
  rcases h with h | ⟨b, off, h1, h2, h4, h3⟩
  · exact .inl h
  · refine .inr ⟨b, off, h1, h2, by rw [hk b h2 h4]; exact h4, fun i hi => ?_⟩
    rw [← h3 i hi]
    unfold World.cell?
    simp only [hk b h2 h4]
theorem IntsF.move {B : Nat} {u W : World} {a : Option Addr} {l : List Int} (h : IntsF B u a l) (hk : ∀ k, B ≤ k → W.heap[k]? = u.heap[k]?) : Ints W a l := (h.moveF (fun k hB _ => hk k hB)).ints
theorem IntsF.lower {B B' : Nat} {w : World} {a : Option Addr} {l : List Int} (h : IntsF B w a l) (hB : B' ≤ B) : IntsF B' w a l := by
  rcases h with h | ⟨b, off, h1, h2, h3⟩
  · exact .inl h
  · exact .inr ⟨b, off, h1, Nat.le_trans hB h2, h3⟩
theorem IntsF.below {B : Nat} {w w' : World} {a : Option Addr} {l : List Int} (h : IntsF B w a l) (hb : Below w.heap.size w w') : IntsF B w' a l :=
  h.moveF (fun k _ ⟨_, hc⟩ => hb.block k (Array.getElem?_eq_some_iff.1 hc).1)
theorem owned_numsF {w : World} {base : Nat} {v : Value} {n : Nat} {l : List Int} (h : w.ownsRow base 3 1 v n (l.map (Value.int .i64))) : ∃ a c, v = .slice a n c ∧ (l.length = n ∧ n ≤ c) ∧ IntsF base w a l := by
  have hc := fun g hg => h.cells (g := g) hg
  obtain ⟨hlen, h⟩ := id h
  rw [List.length_map, Nat.mul_one] at hlen
  rcases h with ⟨rfl, he⟩ | ⟨g, cap, cur, rfl, hg, hcur, hnc, _⟩
  · subst he
    exact ⟨none, 0, rfl, ⟨hlen, Nat.le_refl _⟩, .inl (List.eq_nil_of_length_eq_zero hlen)⟩
  · refine ⟨_, cap, rfl, ⟨hlen, hnc⟩, .inr ⟨g, 0, rfl, hg, ⟨cur, hcur⟩, fun i hi => ?_⟩⟩
    have := hc g rfl i (.int .i64 (l.getD i 0)) (by simp [List.getD, hi])
    rw [← st_add]
    exact this

/-- The world while words are read: the result's block, the entry's, and the entry's own row of numbers. -/
def FSt (w wx : World) (k : ByteArray) (id : Int) (l : List Int) (nv : Value) : Prop :=
  Below w.heap.size w wx ∧ w.heap.size + 2 ≤ wx.heap.size ∧
  wx.heap[w.heap.size]? = some (.cells #[.string ⟨#[]⟩, .int .i64 0, .slice none 0 0] 49 (0, 0)) ∧
  wx.heap[w.heap.size + 1]? = some (.cells #[.string k, .int .i64 id, nv] 49 (0, 0)) ∧
  wx.ownsRow (w.heap.size + 2) 3 1 nv l.length (l.map (Value.int .i64))

theorem FSt.start (w : World) : FSt w ((w.alloc (.cells #[.string ⟨#[]⟩, .int .i64 0, .slice none 0 0] 49)).alloc (.cells #[.string ⟨#[]⟩, .int .i64 0, .slice none 0 0] 49)) ⟨#[]⟩ 0 [] (.slice none 0 0) := by
  refine ⟨((Below.refl _ _).alloc (Nat.le_refl _) _).alloc (by simp) _, by simp, ?_, ?_, rfl, .inl ⟨rfl, rfl⟩⟩
  · show ((w.heap.push _).push _)[w.heap.size]? = _
    simp [Array.getElem?_push]
  · show ((w.heap.push _).push _)[w.heap.size + 1]? = _
    rw [Array.getElem?_push]
    simp

theorem FSt.on {w wx wy : World} {k : ByteArray} {id : Int} {l : List Int} {nv : Value} (h : FSt w wx k id l nv) (hb : Below wx.heap.size wx wy) : FSt w wy k id l nv := by
  obtain ⟨h1, h2, h3, h4, h5⟩ := h
  exact ⟨bel_on' h1 hb, Nat.le_trans h2 hb.size, by rw [hb.block _ (by omega)]; exact h3, by rw [hb.block _ (by omega)]; exact h4, owned_on h5 hb⟩

theorem owned_set {w : World} {base : Nat} {e : TypeId} {v : Value} {n : Nat} {xs : List Value} (h : w.ownsRow base e 1 v n xs) (a : Addr) (u : Value) (ha : a.block < base) : (w.setCell a u).ownsRow base e 1 v n xs := by
  obtain ⟨hlen, h⟩ := h
  refine ⟨hlen, ?_⟩
  rcases h with h | ⟨g, cap, cur, hv, hg, hc, h1, h2, h3, h4⟩
  · exact .inl h
  · exact .inr ⟨g, cap, cur, hv, hg, by rw [Below.heap_setCell _ _ _ _ (by omega)]; exact hc, h1, h2, h3, h4⟩

theorem FSt.set0 {w wx : World} {k : ByteArray} {id : Int} {l : List Int} {nv : Value} (h : FSt w wx k id l nv) (k' : ByteArray) : FSt w (wx.setCell ⟨w.heap.size + 1, 0, none⟩ (.string k')) k' id l nv := by
  obtain ⟨h1, h2, h3, h4, h5⟩ := h
  refine ⟨h1.setCell (by simp) _, by simpa using h2, ?_, ?_, owned_set h5 _ _ (by simp)⟩
  · rw [Below.heap_setCell _ _ _ _ (by simp)]; exact h3
  · rw [heap_setCell_same _ _ _ _ _ _ h4]; simp
theorem FSt.set1 {w wx : World} {k : ByteArray} {id : Int} {l : List Int} {nv : Value} (h : FSt w wx k id l nv) (id' : Int) : FSt w (wx.setCell ⟨w.heap.size + 1, 1, none⟩ (.int .i64 id')) k id' l nv := by
  obtain ⟨h1, h2, h3, h4, h5⟩ := h
  refine ⟨h1.setCell (by simp) _, by simpa using h2, ?_, ?_, owned_set h5 _ _ (by simp)⟩
  · rw [Below.heap_setCell _ _ _ _ (by simp)]; exact h3
  · rw [heap_setCell_same _ _ _ _ _ _ h4]; simp
theorem FSt.app {w w5 w6 : World} {k : ByteArray} {id : Int} {l l' : List Int} {nv nv' : Value} (h : FSt w w5 k id l nv) (g : w5.grownBy w6 nv.ownBlock) (o : w6.ownsRow (w.heap.size + 2) 3 1 nv' l'.length (l'.map (Value.int .i64))) :
    FSt w (w6.setCell ⟨w.heap.size + 1, 2, none⟩ nv') k id l' nv' := by
  obtain ⟨h1, h2, h3, h4, h5⟩ := h
  have hb : Below (w.heap.size + 2) w5 w6 := (Below.refl _ _).grown g h2 (fun j hj => (h5.lt j hj).1)
  have hs := hb.size
  refine ⟨(h1.trans (hb.mono (by omega))).setCell (by simp) _, by simp; omega, ?_, ?_, owned_set o _ _ (by simp)⟩
  · rw [Below.heap_setCell _ _ _ _ (by simp), hb.block _ (by omega)]; exact h3
  · rw [heap_setCell_same _ _ _ _ _ _ ((hb.block _ (by omega)).trans h4)]; simp
theorem FSt.still {w w5 w6 : World} {k : ByteArray} {id : Int} {l : List Int} {nv : Value} (h : FSt w w5 k id l nv) (g : w5.grownBy w6 nv.ownBlock) : w6.cell? ⟨w.heap.size + 1, 2, none⟩ = some nv := by
  obtain ⟨h1, h2, h3, h4, h5⟩ := h
  have hb : Below (w.heap.size + 2) w5 w6 := (Below.refl _ _).grown g h2 (fun j hj => (h5.lt j hj).1)
  rw [cell_of ((hb.block _ (by omega)).trans h4)]
  rfl
theorem FSt.thaw {w wx : World} {k : ByteArray} {id : Int} {l : List Int} {nv : Value} (h : FSt w wx k id l nv) (j : Nat) : wx.frozen? ⟨w.heap.size + 1, j, none⟩ = false ∧ wx.frozen? ⟨w.heap.size, j, none⟩ = false := by
  obtain ⟨h1, h2, h3, h4, h5⟩ := h
  exact ⟨frozen_of_row _ _ _ _ _ h4, frozen_of_row _ _ _ _ _ h3⟩
theorem FSt.thaw6 {w w5 w6 : World} {k : ByteArray} {id : Int} {l : List Int} {nv : Value} (h : FSt w w5 k id l nv) (g : w5.grownBy w6 nv.ownBlock) : w6.frozen? ⟨w.heap.size + 1, 2, none⟩ = false := by
  obtain ⟨h1, h2, h3, h4, h5⟩ := h
  have hb : Below (w.heap.size + 2) w5 w6 := (Below.refl _ _).grown g h2 (fun j hj => (h5.lt j hj).1)
  exact frozen_of_row _ _ _ _ _ ((hb.block _ (by omega)).trans h4)
theorem FSt.cells {w wx : World} {k : ByteArray} {id : Int} {l : List Int} {nv : Value} (h : FSt w wx k id l nv) :
    wx.cell? ⟨w.heap.size + 1, 0, none⟩ = some (.string k) ∧ wx.cell? ⟨w.heap.size + 1, 1, none⟩ = some (.int .i64 id) ∧ wx.cell? ⟨w.heap.size + 1, 2, none⟩ = some nv ∧
    wx.cell? ⟨w.heap.size, 0, none⟩ = some (.string ⟨#[]⟩) ∧ wx.cell? ⟨w.heap.size, 1, none⟩ = some (.int .i64 0) ∧ wx.cell? ⟨w.heap.size, 2, none⟩ = some (.slice none 0 0) := by
  obtain ⟨h1, h2, h3, h4, h5⟩ := h
  refine ⟨?_, ?_, ?_, ?_, ?_, ?_⟩
  all_goals first | (rw [cell_of h4]; rfl) | (rw [cell_of h3]; rfl)

theorem FSt.res {w wx : World} {k : ByteArray} {id : Int} {l : List Int} {nv : Value} (h : FSt w wx k id l nv) :
    FSt w wx k id l nv ∧ ∀ W, W = ((wx.setCell ⟨w.heap.size, 0, none⟩ (.string k)).setCell ⟨w.heap.size, 1, none⟩ (.int .i64 id)).setCell ⟨w.heap.size, 2, none⟩ nv →
      Below w.heap.size w W ∧ Below wx.heap.size (wx.setCell ⟨w.heap.size, 0, none⟩ (.string k)) (wx.setCell ⟨w.heap.size, 0, none⟩ (.string k)) ∧
      W.heap[w.heap.size]? = some (.cells #[.string k, .int .i64 id, nv] 49 (0, 0)) ∧
      W.heap[w.heap.size + 1]? = some (.cells #[.string k, .int .i64 id, nv] 49 (0, 0)) ∧
      W.ownsRow (w.heap.size + 2) 3 1 nv l.length (l.map (Value.int .i64)) := by
  refine ⟨h, fun W hW => ?_⟩
  obtain ⟨h1, h2, h3, h4, h5⟩ := h
  subst hW
  refine ⟨((h1.setCell (by simp) _).setCell (by simp) _).setCell (by simp) _, Below.refl _ _, ?_, ?_, ?_⟩
  · rw [heap_setCell_same _ _ _ _ _ _ (heap_setCell_same _ _ _ _ _ _ (heap_setCell_same _ _ _ _ _ _ h3))]
    simp
  · rw [Below.heap_setCell _ _ _ _ (by simp), Below.heap_setCell _ _ _ _ (by simp), Below.heap_setCell _ _ _ _ (by simp)]
    exact h4
  · exact owned_set (owned_set (owned_set h5 _ _ (by simp)) _ _ (by simp)) _ _ (by simp)

attribute [local go_sem ↓] Go.wp_at_zero Go.wp_at_succ
end Go.Proofs.YtdbmnjodkpeobaaDoor
