/-
  Contract: package order's scan.
-/
import Derived.Test.YteefmibnkfojiaaDoorOrdS
import Derived.Test.YteefmibnkfojiaaDoorOrdR
import Derived.Test.YteefmibnkfojiaaDoorOrdC3
import Derived.Deep.RegionHeld3
import Derived.Deep.DrawnRows
import Derived.Deep.LoopGhost
import Derived.Deep.CutBlock
import Derived.WalkMore
namespace Go.Proofs.YteefmibnkfojiaaDoor
open Go.ChangeShapes Go.WideShapes Go.ChangeAt Go.RowKit
set_option linter.unusedSimpArgs false

/-- The world while a text is read: the result's block, the scanner, the order, its own row of steps. -/
def SSt (w wx : World) (l : List UInt8) (b : Bool) (i0 i1 i2 i3 i4 : Int) (nv : Value) (st : List (Int × Int)) : Prop :=
  Below w.heap.size w wx ∧ w.heap.size + 3 ≤ wx.heap.size ∧
  wx.heap[w.heap.size]? = some (.cells #[.int .i64 0, .int .i64 0, .int .i64 0, .int .i64 0, .int .i64 0, .slice none 0 0] 24 (0, 0)) ∧
  Scn wx (w.heap.size + 1) l b ∧
  wx.heap[w.heap.size + 2]? = some (.cells #[.int .i64 i0, .int .i64 i1, .int .i64 i2, .int .i64 i3, .int .i64 i4, nv] 24 (0, 0)) ∧
  wx.ownsRow (w.heap.size + 3) 37 2 nv st.length (stCells st)

theorem SSt.start (w : World) (l : List UInt8) : SSt w (((w.alloc (.cells #[.int .i64 0, .int .i64 0, .int .i64 0, .int .i64 0, .int .i64 0, .slice none 0 0] 24)).alloc (.cells #[.string (byB l), .bool false] 55)).alloc (.cells #[.int .i64 0, .int .i64 0, .int .i64 0, .int .i64 0, .int .i64 0, .slice none 0 0] 24)) l false 0 0 0 0 0 (.slice none 0 0) [] := by
  refine ⟨(((Below.refl _ _).alloc (Nat.le_refl _) _).alloc (by simp) _).alloc (by simp; omega) _, by simp, ?_, ?_, ?_, row_nil _ _ _ _⟩
  · show (((w.heap.push _).push _).push _)[w.heap.size]? = _
    simp [Array.getElem?_push]
  · show (((w.heap.push _).push _).push _)[w.heap.size + 1]? = _
    rw [Array.getElem?_push, if_neg (by simp), Array.getElem?_push, if_pos (by simp)]
  · show (((w.heap.push _).push _).push _)[w.heap.size + 2]? = _
    rw [Array.getElem?_push]
    simp
/-- The scanner has gone on; new memory was made. -/
theorem SSt.move {w wx wy : World} {l l' : List UInt8} {b b' : Bool} {i0 i1 i2 i3 i4 : Int} {nv : Value} {st : List (Int × Int)} (h : SSt w wx l b i0 i1 i2 i3 i4 nv st) (ho : Onl (w.heap.size + 1) wx wy) (hs : Scn wy (w.heap.size + 1) l' b') : SSt w wy l' b' i0 i1 i2 i3 i4 nv st := by
  obtain ⟨h1, h2, h3, h4, h5, h6⟩ := h
  refine ⟨h1.trans (ho.bel (by omega) h1.size), Nat.le_trans h2 ho.size, ?_, hs, ?_, row_stays h6 (fun k cs hk hc => ho.2 k (Array.getElem?_eq_some_iff.1 hc).1 (by omega))⟩
  · rw [ho.2 _ (by omega) (by omega)]; exact h3
  · rw [ho.2 _ (by omega) (by omega)]; exact h5
theorem row_set {w : World} {base : Nat} {e : TypeId} {s : Nat} {v : Value} {n : Nat} {xs : List Value} (h : w.ownsRow base e s v n xs) (a : Addr) (u : Value) (ha : a.block < base) : (w.setCell a u).ownsRow base e s v n xs :=
  row_stays h (fun k cs hk _ => Below.heap_setCell _ _ _ _ (by omega))
theorem SSt.set0 {w wx : World} {l : List UInt8} {b : Bool} {i0 i1 i2 i3 i4 : Int} {nv : Value} {st : List (Int × Int)} (h : SSt w wx l b i0 i1 i2 i3 i4 nv st) (x : Int) : SSt w (wx.setCell ⟨w.heap.size + 2, 0, none⟩ (.int .i64 x)) l b x i1 i2 i3 i4 nv st := by
  obtain ⟨h1, h2, h3, h4, h5, h6⟩ := h
  refine ⟨h1.setCell (by simp) _, by simpa using h2, ?_, ?_, ?_, row_set h6 _ _ (by simp)⟩
  · rw [Below.heap_setCell _ _ _ _ (by simp)]; exact h3
  · unfold Scn at h4 ⊢; rw [Below.heap_setCell _ _ _ _ (by simp)]; exact h4
  · rw [heap_setCell_same _ _ _ _ _ _ h5]; simp
theorem SSt.set1 {w wx : World} {l : List UInt8} {b : Bool} {i0 i1 i2 i3 i4 : Int} {nv : Value} {st : List (Int × Int)} (h : SSt w wx l b i0 i1 i2 i3 i4 nv st) (x : Int) : SSt w (wx.setCell ⟨w.heap.size + 2, 1, none⟩ (.int .i64 x)) l b i0 x i2 i3 i4 nv st := by
  obtain ⟨h1, h2, h3, h4, h5, h6⟩ := h
  refine ⟨h1.setCell (by simp) _, by simpa using h2, ?_, ?_, ?_, row_set h6 _ _ (by simp)⟩
  · rw [Below.heap_setCell _ _ _ _ (by simp)]; exact h3
  · unfold Scn at h4 ⊢; rw [Below.heap_setCell _ _ _ _ (by simp)]; exact h4
  · rw [heap_setCell_same _ _ _ _ _ _ h5]; simp
theorem SSt.set2 {w wx : World} {l : List UInt8} {b : Bool} {i0 i1 i2 i3 i4 : Int} {nv : Value} {st : List (Int × Int)} (h : SSt w wx l b i0 i1 i2 i3 i4 nv st) (x : Int) : SSt w (wx.setCell ⟨w.heap.size + 2, 2, none⟩ (.int .i64 x)) l b i0 i1 x i3 i4 nv st := by
  obtain ⟨h1, h2, h3, h4, h5, h6⟩ := h
  refine ⟨h1.setCell (by simp) _, by simpa using h2, ?_, ?_, ?_, row_set h6 _ _ (by simp)⟩
  · rw [Below.heap_setCell _ _ _ _ (by simp)]; exact h3
  · unfold Scn at h4 ⊢; rw [Below.heap_setCell _ _ _ _ (by simp)]; exact h4
  · rw [heap_setCell_same _ _ _ _ _ _ h5]; simp
theorem SSt.set3 {w wx : World} {l : List UInt8} {b : Bool} {i0 i1 i2 i3 i4 : Int} {nv : Value} {st : List (Int × Int)} (h : SSt w wx l b i0 i1 i2 i3 i4 nv st) (x : Int) : SSt w (wx.setCell ⟨w.heap.size + 2, 3, none⟩ (.int .i64 x)) l b i0 i1 i2 x i4 nv st := by
  obtain ⟨h1, h2, h3, h4, h5, h6⟩ := h
  refine ⟨h1.setCell (by simp) _, by simpa using h2, ?_, ?_, ?_, row_set h6 _ _ (by simp)⟩
  · rw [Below.heap_setCell _ _ _ _ (by simp)]; exact h3
  · unfold Scn at h4 ⊢; rw [Below.heap_setCell _ _ _ _ (by simp)]; exact h4
  · rw [heap_setCell_same _ _ _ _ _ _ h5]; simp
theorem SSt.set4 {w wx : World} {l : List UInt8} {b : Bool} {i0 i1 i2 i3 i4 : Int} {nv : Value} {st : List (Int × Int)} (h : SSt w wx l b i0 i1 i2 i3 i4 nv st) (x : Int) : SSt w (wx.setCell ⟨w.heap.size + 2, 4, none⟩ (.int .i64 x)) l b i0 i1 i2 i3 x nv st := by
  obtain ⟨h1, h2, h3, h4, h5, h6⟩ := h
  refine ⟨h1.setCell (by simp) _, by simpa using h2, ?_, ?_, ?_, row_set h6 _ _ (by simp)⟩
  · rw [Below.heap_setCell _ _ _ _ (by simp)]; exact h3
  · unfold Scn at h4 ⊢; rw [Below.heap_setCell _ _ _ _ (by simp)]; exact h4
  · rw [heap_setCell_same _ _ _ _ _ _ h5]; simp
theorem SSt.app {w w5 w6 : World} {l : List UInt8} {b : Bool} {i0 i1 i2 i3 i4 : Int} {nv nv' : Value} {st st' : List (Int × Int)} (h : SSt w w5 l b i0 i1 i2 i3 i4 nv st) (g : w5.grownBy w6 nv.ownBlock) (o : w6.ownsRow (w.heap.size + 3) 37 2 nv' st'.length (stCells st')) :
    SSt w (w6.setCell ⟨w.heap.size + 2, 5, none⟩ nv') l b i0 i1 i2 i3 i4 nv' st' ∧ w6.cell? ⟨w.heap.size + 2, 5, none⟩ = some nv ∧ w6.frozen? ⟨w.heap.size + 2, 5, none⟩ = false := by
  obtain ⟨h1, h2, h3, h4, h5, h6⟩ := h
  have hb : Below (w.heap.size + 3) w5 w6 := (Below.refl _ _).grown g h2 (fun j hj => (h6.lt j hj).1)
  have hs := hb.size
  have e5 := (hb.block _ (by omega)).trans h5
  refine ⟨⟨(h1.trans (hb.mono (by omega))).setCell (by simp) _, by simp; omega, ?_, ?_, ?_, row_set o _ _ (by simp)⟩, by rw [cell_of e5]; rfl, frozen_of_row _ _ _ _ _ e5⟩
  · rw [Below.heap_setCell _ _ _ _ (by simp), hb.block _ (by omega)]; exact h3
  · unfold Scn at h4 ⊢; rw [Below.heap_setCell _ _ _ _ (by simp), hb.block _ (by omega)]; exact h4
  · rw [heap_setCell_same _ _ _ _ _ _ e5]; simp
theorem SSt.cells {w wx : World} {l : List UInt8} {b : Bool} {i0 i1 i2 i3 i4 : Int} {nv : Value} {st : List (Int × Int)} (h : SSt w wx l b i0 i1 i2 i3 i4 nv st) :
    wx.cell? ⟨w.heap.size + 2, 0, none⟩ = some (.int .i64 i0) ∧ wx.cell? ⟨w.heap.size + 2, 1, none⟩ = some (.int .i64 i1) ∧ wx.cell? ⟨w.heap.size + 2, 2, none⟩ = some (.int .i64 i2) ∧ wx.cell? ⟨w.heap.size + 2, 3, none⟩ = some (.int .i64 i3) ∧ wx.cell? ⟨w.heap.size + 2, 4, none⟩ = some (.int .i64 i4) ∧ wx.cell? ⟨w.heap.size + 2, 5, none⟩ = some nv := by
  obtain ⟨h1, h2, h3, h4, h5, h6⟩ := h
  refine ⟨?_, ?_, ?_, ?_, ?_, ?_⟩
  all_goals (rw [cell_of h5]; rfl)
theorem SSt.thaw {w wx : World} {l : List UInt8} {b : Bool} {i0 i1 i2 i3 i4 : Int} {nv : Value} {st : List (Int × Int)} (h : SSt w wx l b i0 i1 i2 i3 i4 nv st) (j : Nat) : wx.frozen? ⟨w.heap.size + 2, j, none⟩ = false := frozen_of_row _ _ _ _ _ h.2.2.2.2.1
theorem SSt.zero {w wx : World} {l : List UInt8} {b : Bool} {i0 i1 i2 i3 i4 : Int} {nv : Value} {st : List (Int × Int)} (h : SSt w wx l b i0 i1 i2 i3 i4 nv st) (j : Nat) (hj : j < 6) : (∃ v, wx.cell? ⟨w.heap.size, j, none⟩ = some v) ∧ wx.frozen? ⟨w.heap.size, j, none⟩ = false := by
  refine ⟨?_, frozen_of_row _ _ _ _ _ h.2.2.1⟩
  rw [cell_of h.2.2.1]
  exact ⟨_, Array.getElem?_eq_getElem (by simpa using hj)⟩
/-- The result is laid. -/
theorem SSt.res {w wx : World} {l : List UInt8} {b : Bool} {i0 i1 i2 i3 i4 : Int} {a : Option Addr} {c : Nat} {st : List (Int × Int)} (h : SSt w wx l b i0 i1 i2 i3 i4 (.slice a st.length c) st) {W : World}
    (hW : W = (((((wx.setCell ⟨w.heap.size, 0, none⟩ (.int .i64 i0)).setCell ⟨w.heap.size, 1, none⟩ (.int .i64 i1)).setCell ⟨w.heap.size, 2, none⟩ (.int .i64 i2)).setCell ⟨w.heap.size, 3, none⟩ (.int .i64 i3)).setCell ⟨w.heap.size, 4, none⟩ (.int .i64 i4)).setCell ⟨w.heap.size, 5, none⟩ (.slice a st.length c)) :
    Below w.heap.size w W ∧ W.heap[w.heap.size]? = some (.cells #[.int .i64 i0, .int .i64 i1, .int .i64 i2, .int .i64 i3, .int .i64 i4, .slice a st.length c] 24 (0, 0)) ∧ Sts W a st ∧ st.length ≤ c ∧ (∀ x, a = some x → w.heap.size ≤ x.block) ∧
      W.heap[w.heap.size + 1]? = wx.heap[w.heap.size + 1]? ∧ W.heap[w.heap.size + 2]? = wx.heap[w.heap.size + 2]? := by
  obtain ⟨h1, h2, h3, h4, h5, h6⟩ := h
  subst hW
  have hr := row_set (row_set (row_set (row_set (row_set (row_set h6 ⟨w.heap.size, 0, none⟩ (.int .i64 i0) (by simp)) ⟨w.heap.size, 1, none⟩ (.int .i64 i1) (by simp)) ⟨w.heap.size, 2, none⟩ (.int .i64 i2) (by simp)) ⟨w.heap.size, 3, none⟩ (.int .i64 i3) (by simp)) ⟨w.heap.size, 4, none⟩ (.int .i64 i4) (by simp)) ⟨w.heap.size, 5, none⟩ (.slice a st.length c) (by simp)
  refine ⟨(((((h1.setCell (by simp) _).setCell (by simp) _).setCell (by simp) _).setCell (by simp) _).setCell (by simp) _).setCell (by simp) _, ?_, row_sts hr, ?_, ?_, ?_, ?_⟩
  · rw [heap_setCell_same _ _ _ _ _ _ (heap_setCell_same _ _ _ _ _ _ (heap_setCell_same _ _ _ _ _ _ (heap_setCell_same _ _ _ _ _ _ (heap_setCell_same _ _ _ _ _ _ (heap_setCell_same _ _ _ _ _ _ h3)))))]
    simp
  · obtain ⟨a', c', e, hc⟩ := row_slice h6
    cases e; exact hc
  · rintro x rfl
    rcases h6.2 with ⟨e, _⟩ | ⟨g, cap, cur, e, hg, _⟩
    · cases e
    · cases e; show w.heap.size ≤ g; omega
  · iterate 6 rw [Below.heap_setCell _ _ _ _ (by simp)]
  · iterate 6 rw [Below.heap_setCell _ _ _ _ (by simp)]

theorem behF_len (k : List UInt8) (st : List UInt8 × Bool) : (behF k st).2.1.length ≤ st.1.length := by
  unfold behF
  split
  · exact Nat.le_refl _
  · cases numGo (st.1.drop k.length) 0 0 with
    | none => simp
    | some x => obtain ⟨v, e⟩ := x; simp

theorem beh_to (p : Nat) (k : ByteArray) (K l l' : List UInt8) (b b' : Bool) (n : Nat) (w : World) (hk : k.data.toList = K) (hf : behF K (l, b) = (n, (l', b'))) (h : Scn w p l b) (hl : l.length ≤ 9223372036854775807) :
    Calls Tryd.prog 32 #[.pointer (some ⟨p, 0, none⟩), .string k] w fun e w' => e = .returned (.int .i64 n) ∧ Scn w' p l' b' ∧ Onl p w w' := by
  subst hk
  have := beh_any p k l b w h hl
  rw [hf] at this
  exact this
theorem beh_parts (K l : List UInt8) (b : Bool) : ∃ n l' b', behF K (l, b) = (n, (l', b')) ∧ l'.length ≤ l.length := ⟨_, _, _, rfl, behF_len K (l, b)⟩

theorem Onl.setq {p q i : Nat} {w wx : World} (h : Onl p w wx) (hq : w.heap.size ≤ q) (v : Value) : Onl p w (wx.setCell ⟨q, i, none⟩ v) :=
  ⟨⟨h.1.1, h.1.2.1, h.1.2.2.1, by simpa using h.1.2.2.2⟩, fun k hk hp => by rw [Below.heap_setCell _ _ _ _ (by simp; omega)]; exact h.2 k hk hp⟩
theorem Onl.alloc {p : Nat} {w wx : World} (h : Onl p w wx) (o : Obj) : Onl p w (wx.alloc o) := h.trans (Onl.of_below ((Below.refl _ _).alloc (Nat.le_refl _) _))
/-- What scan tells. -/
def ScanR (B : Nat) (w' : World) (l : List UInt8) (e : Ending) : Prop := ∃ (o : Od) (ok : Bool) (av : Option Addr) (cv : Nat), scanF l = (o, ok) ∧ e = .returned (.tuple #[.agg #[.int .i64 o.id, .int .i64 o.item, .int .i64 o.qty, .int .i64 o.client, .int .i64 o.price, .slice av o.steps.length cv], .bool ok]) ∧ Sts w' av o.steps ∧ o.steps.length ≤ cv ∧ (∀ x, av = some x → B ≤ x.block)
theorem scan_of {l l1 l2 l3 l4 l5 r : List UInt8} {b1 b2 b3 b4 b5 b : Bool} {n1 n2 n3 n4 n5 : Nat} {st : List (Int × Int)} (e1 : behF kId (l, false) = (n1, (l1, b1))) (e2 : behF kQty (l1, b1) = (n2, (l2, b2))) (e3 : behF kItem (l2, b2) = (n3, (l3, b3))) (e4 : behF kPrice (l3, b3) = (n4, (l4, b4))) (e5 : behF kClient (l4, b4) = (n5, (l5, b5))) (e6 : stLoop 3 [] (l5, b5) = (st, (r, b))) :
    scanF l = (⟨n1, n3, n2, n5, n4, st⟩, r.isEmpty && !b) := by
  unfold scanF
  simp only [e1, e2, e3, e4, e5, e6]
theorem stLoop_stop {m : Nat} {st : List (Int × Int)} {l : List UInt8} {b : Bool} (h : m = 0 ∨ l = [] ∨ b = true) : stLoop m st (l, b) = (st, (l, b)) := by
  cases m with
  | zero => rfl
  | succ m =>
    rw [stLoop, if_pos]
    rcases h with h | h | h
    · cases h
    · exact .inl h
    · exact .inr h
theorem stLoop_go {m : Nat} {st : List (Int × Int)} {l l1 l2 : List UInt8} {b1 b2 : Bool} {n1 n2 : Nat} (h : l ≠ []) (e1 : behF kSvc (l, false) = (n1, (l1, b1))) (e2 : behF kN (l1, b1) = (n2, (l2, b2))) : stLoop (m + 1) st (l, false) = stLoop m (st ++ [((n1 : Int), (n2 : Int))]) (l2, b2) := by
  rw [stLoop, if_neg (by simp [h])]
  simp only [e1, e2]
theorem byB_empty (l : List UInt8) : (byB l).toList.isEmpty = l.isEmpty := by rw [byB_list]

attribute [local go_sem ↓] Go.wp_at_zero Go.wp_at_succ
set_option maxRecDepth 100000 in
set_option maxHeartbeats 8000000 in
theorem scan_any (l : List UInt8) (w : World) (hl : l.length ≤ 9223372036854775807) :
    Calls Tryd.prog 20 #[.string (byB l)] w fun e w' => ScanR w.heap.size w' l e ∧ Below w.heap.size w w' := by
  have HS0 := hide (SSt.start w l)
  go_enter Tryd.func20, Tryd.ntmps20
  go_wp2_with fail
  obtain ⟨n1, l1, b1, e1, hl1⟩ := beh_parts kId l false
  refine (beh_to _ _ kId l l1 false b1 n1 _ rfl e1 HS0.out.2.2.2.1 (by omega)).mono ?_
  rintro e w1 ⟨rfl, hs, ho⟩
  have HT1 := hide (HS0.out.move ho hs)
  have HS1 := hide (HT1.out.set0 n1)
  have HE1 := hide e1
  obtain ⟨d0, d1, d2, d3, d4, d5⟩ := HT1.out.cells
  have f0 := HT1.out.thaw 0
  clear hs ho e1 HS0 HT1
  go_wp2_with fail
  clear d0 d1 d2 d3 d4 d5 f0
  obtain ⟨n2, l2, b2, e2, hl2⟩ := beh_parts kQty l1 b1
  refine (beh_to _ _ kQty l1 l2 b1 b2 n2 _ rfl e2 HS1.out.2.2.2.1 (by omega)).mono ?_
  rintro e w2 ⟨rfl, hs, ho⟩
  have HT2 := hide (HS1.out.move ho hs)
  have HS2 := hide (HT2.out.set2 n2)
  have HE2 := hide e2
  obtain ⟨d0, d1, d2, d3, d4, d5⟩ := HT2.out.cells
  have f2 := HT2.out.thaw 2
  clear hs ho e2 HS1 HT2
  go_wp2_with fail
  clear d0 d1 d2 d3 d4 d5 f2
  obtain ⟨n3, l3, b3, e3, hl3⟩ := beh_parts kItem l2 b2
  refine (beh_to _ _ kItem l2 l3 b2 b3 n3 _ rfl e3 HS2.out.2.2.2.1 (by omega)).mono ?_
  rintro e w3 ⟨rfl, hs, ho⟩
  have HT3 := hide (HS2.out.move ho hs)
  have HS3 := hide (HT3.out.set1 n3)
  have HE3 := hide e3
  obtain ⟨d0, d1, d2, d3, d4, d5⟩ := HT3.out.cells
  have f1 := HT3.out.thaw 1
  clear hs ho e3 HS2 HT3
  go_wp2_with fail
  clear d0 d1 d2 d3 d4 d5 f1
  obtain ⟨n4, l4, b4, e4, hl4⟩ := beh_parts kPrice l3 b3
  refine (beh_to _ _ kPrice l3 l4 b3 b4 n4 _ rfl e4 HS3.out.2.2.2.1 (by omega)).mono ?_
  rintro e w4 ⟨rfl, hs, ho⟩
  have HT4 := hide (HS3.out.move ho hs)
  have HS4 := hide (HT4.out.set4 n4)
  have HE4 := hide e4
  obtain ⟨d0, d1, d2, d3, d4, d5⟩ := HT4.out.cells
  have f4 := HT4.out.thaw 4
  clear hs ho e4 HS3 HT4
  go_wp2_with fail
  clear d0 d1 d2 d3 d4 d5 f4
  obtain ⟨n5, l5, b5, e5, hl5⟩ := beh_parts kClient l4 b4
  refine (beh_to _ _ kClient l4 l5 b4 b5 n5 _ rfl e5 HS4.out.2.2.2.1 (by omega)).mono ?_
  rintro e w5 ⟨rfl, hs, ho⟩
  have HT5 := hide (HS4.out.move ho hs)
  have HS5 := hide (HT5.out.set3 n5)
  have HE5 := hide e5
  obtain ⟨d0, d1, d2, d3, d4, d5⟩ := HT5.out.cells
  have f3 := HT5.out.thaw 3
  clear hs ho e5 HS4 HT5
  go_upto_block 0 with fail
  clear d0 d1 d2 d3 d4 d5 f3
  obtain ⟨W0, hW0⟩ : ∃ W0, W0 = w5.setCell ⟨w.heap.size + 2, 3, none⟩ (.int .i64 n5) := ⟨_, rfl⟩
  rw [← hW0] at HS5 ⊢
  clear hW0
  have hl5' : l5.length ≤ 9223372036854775807 := by omega
  clear hl hl1 hl2 hl3 hl4 hl5
  go_cut [6] from 19 to 42 (fun _ wx => ∃ (r : List UInt8) (b : Bool) (nv : Value) (st : List (Int × Int)), Hid (SSt w wx r b n1 n3 n2 n5 n4 nv st) ∧ Hid (stLoop 3 [] (l5, b5) = (st, (r, b))))
  case first =>
    go_wp2_with fail
    go_loopg [6] 4 (fun gk _ wr => ∃ (r : List UInt8) (b : Bool) (nv : Value) (st : List (Int × Int)), gk = 4 - st.length ∧ st.length ≤ 3 ∧ r.length ≤ 9223372036854775807 ∧ Hid (SSt w wr r b n1 n3 n2 n5 n4 nv st) ∧ Hid (stLoop (3 - st.length) st (r, b) = stLoop 3 [] (l5, b5)))
    case atStart => exact ⟨l5, b5, .slice none 0 0, [], rfl, Nat.zero_le _, hl5', HS5, rfl⟩
    case round =>
      obtain ⟨r, b, nv, st, rfl, hst, hrl, HS, HL⟩ := hrel
      obtain ⟨av, cv, rfl, -⟩ := row_slice HS.out.2.2.2.2.2
      obtain ⟨d0, d1, d2, d3, d4, d5⟩ := HS.out.cells
      obtain ⟨s0, s1, -, -⟩ := HS.out.2.2.2.1.cells
      obtain ⟨S, hS⟩ : ∃ S, S = byB r := ⟨_, rfl⟩
      rw [← hS] at s0
      have HSE : Hid (S.toList.isEmpty = r.isEmpty) := by show _ = _; rw [hS, byB_empty]
      clear hS
      by_cases g1 : st.length < 3
      · have q1 : (st.length : Int) < 3 := by omega
        by_cases g2 : r = []
        · have q2 : S.toList.isEmpty = true := by rw [HSE.out]; simpa using g2
          have HSTOP : Hid (stLoop 3 [] (l5, b5) = (st, (r, b))) := by show _ = _; rw [← HL.out]; exact stLoop_stop (.inr (.inl g2))
          clear g1 g2
          go_wp2
          go_meet
          exact ⟨r, b, _, st, HS, HSTOP⟩
        · have q2 : S.toList.isEmpty = false := by rw [HSE.out]; simpa using g2
          cases b
          · obtain ⟨m1, r1, c1, e1, hr1⟩ := beh_parts kSvc r false
            obtain ⟨m2, r2, c2, e2, hr2⟩ := beh_parts kN r1 c1
            have HGO : Hid (stLoop (3 - (st ++ [((m1 : Int), (m2 : Int))]).length) (st ++ [((m1 : Int), (m2 : Int))]) (r2, c2) = stLoop 3 [] (l5, b5)) := by
              show _ = _
              rw [← HL.out, show 3 - st.length = (3 - (st ++ [((m1 : Int), (m2 : Int))]).length) + 1 by simp; omega]
              exact (stLoop_go g2 e1 e2).symm
            have E1 := hide e1
            have E2 := hide e2
            clear e1 e2 g2
            have hq3 : w.heap.size + 3 ≤ wr.heap.size := HS.out.2.1
            have oU : Onl (w.heap.size + 1) wr (wr.alloc (.cells #[.int .i64 0, .int .i64 0] 37)) := (Onl.refl _ _).alloc _
            have hqU : (wr.alloc (.cells #[.int .i64 0, .int .i64 0] 37)).heap[wr.heap.size]? = some (.cells #[.int .i64 0, .int .i64 0] 37 (0, 0)) := by
              show (wr.heap.push _)[wr.heap.size]? = _
              simp
            have scU : Scn (wr.alloc (.cells #[.int .i64 0, .int .i64 0] 37)) (w.heap.size + 1) r false := by
              have h4 := HS.out.2.2.2.1
              unfold Scn at h4 ⊢
              show (wr.heap.push _)[w.heap.size + 1]? = _
              rw [Array.getElem?_push, if_neg (by omega)]
              exact h4
            have HSU := hide (HS.out.move oU scU)
            have OU := hide oU
            have QU := hide hqU
            clear oU hqU scU
            go_wp2_with fail
            refine (beh_to _ _ kSvc r r1 false c1 m1 _ rfl E1.out HSU.out.2.2.2.1 hrl).mono ?_
            rintro e wa ⟨rfl, hsa, hoa⟩
            have oa := OU.out.trans hoa
            have bxa := (hoa.2 wr.heap.size (by simp) (by omega)).trans QU.out
            have ca0 : wa.cell? ⟨wr.heap.size, 0, none⟩ = some (.int .i64 0) := by rw [cell_of bxa]; rfl
            have fa0 : wa.frozen? ⟨wr.heap.size, 0, none⟩ = false := frozen_of_row _ _ _ _ _ bxa
            have ob : Onl (w.heap.size + 1) wr (wa.setCell ⟨wr.heap.size, 0, none⟩ (.int .i64 m1)) := oa.setq (Nat.le_refl _) _
            have bxb : (wa.setCell ⟨wr.heap.size, 0, none⟩ (.int .i64 m1)).heap[wr.heap.size]? = some (.cells #[.int .i64 m1, .int .i64 0] 37 (0, 0)) := by rw [heap_setCell_same _ _ _ _ _ _ bxa]; simp
            have scb : Scn (wa.setCell ⟨wr.heap.size, 0, none⟩ (.int .i64 m1)) (w.heap.size + 1) r1 c1 := by
              unfold Scn at hsa ⊢
              rw [Below.heap_setCell _ _ _ _ (by simp; omega)]; exact hsa
            have HSb := hide scb
            have OB := hide ob
            have BXb := hide bxb
            clear hsa hoa oa bxa ob bxb scb
            go_wp2_with fail
            clear ca0 fa0
            refine (beh_to _ _ kN r1 r2 c1 c2 m2 _ rfl E2.out HSb.out (by omega)).mono ?_
            rintro e wc ⟨rfl, hsc, hoc⟩
            have oc := OB.out.trans hoc
            have hsz1 : wr.heap.size < wa.heap.size := by
              have := (Array.getElem?_eq_some_iff.1 BXb.out).1
              simpa using this
            have bxc := (hoc.2 wr.heap.size (by simpa using hsz1) (by omega)).trans BXb.out
            have cc1 : wc.cell? ⟨wr.heap.size, 1, none⟩ = some (.int .i64 0) := by rw [cell_of bxc]; rfl
            have fc1 : wc.frozen? ⟨wr.heap.size, 1, none⟩ = false := frozen_of_row _ _ _ _ _ bxc
            obtain ⟨Wd, hWd⟩ : ∃ Wd, Wd = wc.setCell ⟨wr.heap.size, 1, none⟩ (.int .i64 m2) := ⟨_, rfl⟩
            have od : Onl (w.heap.size + 1) wr Wd := by rw [hWd]; exact oc.setq (Nat.le_refl _) _
            have bxd : Wd.heap[wr.heap.size]? = some (.cells #[.int .i64 m1, .int .i64 m2] 37 (0, 0)) := by rw [hWd, heap_setCell_same _ _ _ _ _ _ bxc]; simp
            have scd : Scn Wd (w.heap.size + 1) r2 c2 := by
              rw [hWd]
              unfold Scn at hsc ⊢
              rw [Below.heap_setCell _ _ _ _ (by simp; omega)]; exact hsc
            have HSd := hide (HS.out.move od scd)
            obtain ⟨-, -, -, -, -, x5⟩ := HSd.out.cells
            have y0 : Wd.cell? ⟨wr.heap.size, 0, none⟩ = some (.int .i64 m1) := by rw [cell_of bxd]; rfl
            have y1 : Wd.cell? ⟨wr.heap.size, 1, none⟩ = some (.int .i64 m2) := by rw [cell_of bxd]; rfl
            have HSV := hide (HSd.out.move (wy := Wd.alloc (.cells #[.int .i64 m1, .int .i64 m2] 37)) ((Onl.refl _ _).alloc _) (by
              unfold Scn at scd ⊢
              show (Wd.heap.push _)[w.heap.size + 1]? = _
              rw [Array.getElem?_push, if_neg (by have := HSd.out.2.1; omega)]
              exact scd))
            have HWd := hide hWd
            clear hsc hoc oc bxc od bxd scd hWd d0 d1 d2 d3 d4 d5 s0 s1
            go_upto_region 12 with fail
            rw [← HWd.out]
            clear cc1 fc1
            go_wp2_with (first
              | (at_builtin; refine append_st1 rfl (.tmp 38) (.tmp 40) rfl (w.heap.size + 3) _ st rfl HSV.out.2.2.2.2.2 ⟨Wd.heap.size, 0, none⟩ ((m1 : Int), (m2 : Int)) 1 rfl (sts_one Wd m1 m2) ?hnn ?hba ?_; (case hnn => omega); (case hba => exact HSV.out.2.1); intro a6 c6 w6 o6 g6; obtain ⟨k1, k2, k3⟩ := HSV.out.app g6 o6; have K1 := hide k1; clear k1 o6 g6))
            go_roundg (4 - (st ++ [((m1 : Int), (m2 : Int))]).length)
            case measure => simp; omega
            case rel => exact ⟨r2, c2, _, st ++ [((m1 : Int), (m2 : Int))], rfl, by simp; omega, by omega, K1, HGO⟩
          · have HSTOP : Hid (stLoop 3 [] (l5, b5) = (st, (r, true))) := by show _ = _; rw [← HL.out]; exact stLoop_stop (.inr (.inr rfl))
            clear g1 g2
            go_wp2
            go_meet
            exact ⟨r, true, _, st, HS, HSTOP⟩
      · have q1 : ¬ (st.length : Int) < 3 := by omega
        have HSTOP : Hid (stLoop 3 [] (l5, b5) = (st, (r, b))) := by show _ = _; rw [← HL.out]; exact stLoop_stop (.inl (by omega))
        clear g1
        go_wp2
        go_meet
        exact ⟨r, b, _, st, HS, HSTOP⟩
  case rest =>
    obtain ⟨r, b, nv, st, HS, HSTOP⟩ := hcut
    obtain ⟨av, cv, rfl, -⟩ := row_slice HS.out.2.2.2.2.2
    obtain ⟨d0, d1, d2, d3, d4, d5⟩ := HS.out.cells
    obtain ⟨s0, s1, -, -⟩ := HS.out.2.2.2.1.cells
    obtain ⟨S, hS⟩ : ∃ S, S = byB r := ⟨_, rfl⟩
    rw [← hS] at s0
    have HSE : Hid (S.toList.isEmpty = r.isEmpty) := by show _ = _; rw [hS, byB_empty]
    clear hS
    have HF0 : Hid (scanF l = (⟨n1, n3, n2, n5, n4, st⟩, r.isEmpty && !b)) := scan_of HE1.out HE2.out HE3.out HE4.out HE5.out HSTOP.out
    obtain ⟨⟨g0, p0⟩, f0⟩ := HS.out.zero 0 (by omega)
    obtain ⟨⟨g1, p1⟩, f1⟩ := HS.out.zero 1 (by omega)
    obtain ⟨⟨g2, p2⟩, f2⟩ := HS.out.zero 2 (by omega)
    obtain ⟨⟨g3, p3⟩, f3⟩ := HS.out.zero 3 (by omega)
    obtain ⟨⟨g4, p4⟩, f4⟩ := HS.out.zero 4 (by omega)
    obtain ⟨⟨g5, p5⟩, f5⟩ := HS.out.zero 5 (by omega)
    cases hr : r.isEmpty
    · have q2 : S.toList.isEmpty = false := by rw [HSE.out]; exact hr
      have HF : Hid (scanF l = (⟨n1, n3, n2, n5, n4, st⟩, false)) := by show _ = _; rw [HF0.out, hr]; rfl
      clear HF0 HSTOP HSE hr HE1 HE2 HE3 HE4 HE5 HS5
      go_wp2_with fail
      refine wp_region_held_drew (S := (fun w' => (w'.cell? ⟨w.heap.size + 2, 0, none⟩ = some (.int .i64 n1) ∧ w'.cell? ⟨w.heap.size + 2, 1, none⟩ = some (.int .i64 n3) ∧ w'.cell? ⟨w.heap.size + 2, 2, none⟩ = some (.int .i64 n2) ∧ w'.cell? ⟨w.heap.size + 2, 3, none⟩ = some (.int .i64 n5) ∧ w'.cell? ⟨w.heap.size + 2, 4, none⟩ = some (.int .i64 n4) ∧ w'.cell? ⟨w.heap.size + 2, 5, none⟩ = some (.slice av st.length cv)) ∧ w'.cell? ⟨w.heap.size + 1, 0, none⟩ = some (.string S) ∧ w'.cell? ⟨w.heap.size + 1, 1, none⟩ = some (.bool b))) (by kernel_rfl) ⟨⟨d0, d1, d2, d3, d4, d5⟩, s0, s1⟩ (fun hHeld => ?_)
      refine wpAnyH_take (i := 0) (oi := { dst := some 43, op := _, type := _, pos := _, after := _, guard := _ }) (v := ?va0) rfl (by kernel_rfl) (by kernel_rfl) (by kernel_rfl) (fun _ _ _ h => h) (Or.inl ⟨by kernel_rfl, ?hya0⟩) hHeld ?resta0
      case hya0 => (intro w' hSw; (try dsimp only at hSw); go_simp; all_goals (with_reducible rfl))
      try simp only [Act.put, List.setIfInBounds_toArray, List.set_cons_zero, List.set_cons_succ]
      refine wpAnyH_take (i := 1) (oi := { dst := some 44, op := _, type := _, pos := _, after := _, guard := _ }) (v := ?va1) rfl (by kernel_rfl) (by kernel_rfl) (by kernel_rfl) (fun _ _ _ h => h) (Or.inl ⟨by kernel_rfl, ?hya1⟩) hHeld ?resta1
      case hya1 => (intro w' hSw; (try dsimp only at hSw); go_simp; all_goals (with_reducible rfl))
      try simp only [Act.put, List.setIfInBounds_toArray, List.set_cons_zero, List.set_cons_succ]
      refine wpAnyH_take (i := 2) (oi := { dst := some 45, op := _, type := _, pos := _, after := _, guard := _ }) (v := ?va2) rfl (by kernel_rfl) (by kernel_rfl) (by kernel_rfl) (fun _ _ _ h => h) (Or.inl ⟨by kernel_rfl, ?hya2⟩) hHeld ?resta2
      case hya2 => (intro w' hSw; (try dsimp only at hSw); go_simp; all_goals (with_reducible rfl))
      try simp only [Act.put, List.setIfInBounds_toArray, List.set_cons_zero, List.set_cons_succ]
      refine wpAnyH_take (i := 3) (oi := { dst := some 46, op := _, type := _, pos := _, after := _, guard := _ }) (v := ?va3) rfl (by kernel_rfl) (by kernel_rfl) (by kernel_rfl) (fun _ _ _ h => h) (Or.inl ⟨by kernel_rfl, ?hya3⟩) hHeld ?resta3
      case hya3 => (intro w' hSw; (try dsimp only at hSw); go_simp; all_goals (with_reducible rfl))
      try simp only [Act.put, List.setIfInBounds_toArray, List.set_cons_zero, List.set_cons_succ]
      refine wpAnyH_take (i := 4) (oi := { dst := some 47, op := _, type := _, pos := _, after := _, guard := _ }) (v := ?va4) rfl (by kernel_rfl) (by kernel_rfl) (by kernel_rfl) (fun _ _ _ h => h) (Or.inl ⟨by kernel_rfl, ?hya4⟩) hHeld ?resta4
      case hya4 => (intro w' hSw; (try dsimp only at hSw); go_simp; all_goals (with_reducible rfl))
      try simp only [Act.put, List.setIfInBounds_toArray, List.set_cons_zero, List.set_cons_succ]
      refine wpAnyH_take (i := 5) (oi := { dst := some 48, op := _, type := _, pos := _, after := _, guard := _ }) (v := undef) rfl (by kernel_rfl) (by kernel_rfl) (by kernel_rfl) (fun _ _ _ h => h) (Or.inr ⟨by kernel_rfl, rfl⟩) hHeld ?_
      try simp only [Act.put, List.setIfInBounds_toArray, List.set_cons_zero, List.set_cons_succ]
      refine wpAnyH_take (i := 6) (oi := { dst := some 49, op := _, type := _, pos := _, after := _, guard := _ }) (v := undef) rfl (by kernel_rfl) (by kernel_rfl) (by kernel_rfl) (fun _ _ _ h => h) (Or.inr ⟨by kernel_rfl, rfl⟩) hHeld ?_
      try simp only [Act.put, List.setIfInBounds_toArray, List.set_cons_zero, List.set_cons_succ]
      refine wpAnyH_take (i := 7) (oi := { dst := some 50, op := _, type := _, pos := _, after := _, guard := _ }) (v := undef) rfl (by kernel_rfl) (by kernel_rfl) (by kernel_rfl) (fun _ _ _ h => h) (Or.inr ⟨by kernel_rfl, rfl⟩) hHeld ?_
      try simp only [Act.put, List.setIfInBounds_toArray, List.set_cons_zero, List.set_cons_succ]
      refine wpAnyH_take (i := 8) (oi := { dst := some 51, op := _, type := _, pos := _, after := _, guard := _ }) (v := ?va8) rfl (by kernel_rfl) (by kernel_rfl) (by kernel_rfl) (fun _ _ _ h => h) (Or.inl ⟨by kernel_rfl, ?hya8⟩) hHeld ?resta8
      case hya8 => (intro w' hSw; (try dsimp only at hSw); go_simp; all_goals (with_reducible rfl))
      try simp only [Act.put, List.setIfInBounds_toArray, List.set_cons_zero, List.set_cons_succ]
      refine wpAnyH_ready (rs := [9]) (by kernel_rfl) (by simp) ?_
      refine AllReadyH.cons rfl (fun K hK => ?_) AllReadyH.nil
      rw [if_pos (by kernel_rfl)]
      go_wp2
      obtain ⟨W, hW⟩ : ∃ W, W = (((((wc.setCell ⟨w.heap.size, 0, none⟩ (.int .i64 n1)).setCell ⟨w.heap.size, 1, none⟩ (.int .i64 n3)).setCell ⟨w.heap.size, 2, none⟩ (.int .i64 n2)).setCell ⟨w.heap.size, 3, none⟩ (.int .i64 n5)).setCell ⟨w.heap.size, 4, none⟩ (.int .i64 n4)).setCell ⟨w.heap.size, 5, none⟩ (.slice av st.length cv) := ⟨_, rfl⟩
      rw [← hW]
      obtain ⟨r1, r2, r3, r4, r5, r6, r7⟩ := HS.out.res hW
      have R1 := hide r1
      have R3 := hide r3
      have R4 := hide r4
      have R5 := hide r5
      have t0 := (World.cell?_of_block (a := ⟨w.heap.size + 2, 0, none⟩) r7).trans d0
      have t1 := (World.cell?_of_block (a := ⟨w.heap.size + 2, 1, none⟩) r7).trans d1
      have t2 := (World.cell?_of_block (a := ⟨w.heap.size + 2, 2, none⟩) r7).trans d2
      have t3 := (World.cell?_of_block (a := ⟨w.heap.size + 2, 3, none⟩) r7).trans d3
      have t4 := (World.cell?_of_block (a := ⟨w.heap.size + 2, 4, none⟩) r7).trans d4
      have t5 := (World.cell?_of_block (a := ⟨w.heap.size + 2, 5, none⟩) r7).trans d5
      have u0 := (World.cell?_of_block (a := ⟨w.heap.size + 1, 0, none⟩) r6).trans s0
      have u1 := (World.cell?_of_block (a := ⟨w.heap.size + 1, 1, none⟩) r6).trans s1
      have z0 : W.cell? ⟨w.heap.size, 0, none⟩ = some (.int .i64 n1) := by rw [cell_of r2]; rfl
      have z1 : W.cell? ⟨w.heap.size, 1, none⟩ = some (.int .i64 n3) := by rw [cell_of r2]; rfl
      have z2 : W.cell? ⟨w.heap.size, 2, none⟩ = some (.int .i64 n2) := by rw [cell_of r2]; rfl
      have z3 : W.cell? ⟨w.heap.size, 3, none⟩ = some (.int .i64 n5) := by rw [cell_of r2]; rfl
      have z4 : W.cell? ⟨w.heap.size, 4, none⟩ = some (.int .i64 n4) := by rw [cell_of r2]; rfl
      have z5 : W.cell? ⟨w.heap.size, 5, none⟩ = some (.slice av st.length cv) := by rw [cell_of r2]; rfl
      clear hW r1 r2 r3 r4 r5 r6 r7 hHeld d0 d1 d2 d3 d4 d5 s0 s1
      refine hK.out _ _ ⟨⟨t0, t1, t2, t3, t4, t5⟩, u0, u1⟩ (fun hHeld => ?_)
      clear hK K
      try simp only [Act.put, List.setIfInBounds_toArray, List.set_cons_zero, List.set_cons_succ]
      refine wpAnyH_take (i := 10) (oi := { dst := some 3, op := .assign (.tmp 51), type := 4, pos := _, after := _, guard := none }) (v := ?va10) rfl (by kernel_rfl) (by kernel_rfl) (by kernel_rfl) (fun _ _ _ h => h) (Or.inl ⟨by kernel_rfl, ?hya10⟩) hHeld ?resta10
      case hya10 => (intro w' hSw; (try dsimp only at hSw); go_simp; all_goals (with_reducible rfl))
      try simp only [Act.put, List.setIfInBounds_toArray, List.set_cons_zero, List.set_cons_succ]
      refine wpAnyH_done (by kernel_rfl) ?_ _
      go_wp2
      refine bodyPost_ret (v := .tuple #[.agg #[.int .i64 n1, .int .i64 n3, .int .i64 n2, .int .i64 n5, .int .i64 n4, .slice av st.length cv], .bool false]) ?_ rfl ?_
      · rw [results_cell_tmp Tryd.results20]
        simp [go_sem, z0, z1, z2, z3, z4, z5]
      · exact ⟨⟨⟨n1, n3, n2, n5, n4, st⟩, false, av, cv, HF.out, rfl, R3.out, R4.out, R5.out⟩, R1.out.drew⟩
    · have q2 : S.toList.isEmpty = true := by rw [HSE.out]; exact hr
      cases b
      · have HF : Hid (scanF l = (⟨n1, n3, n2, n5, n4, st⟩, true)) := by show _ = _; rw [HF0.out, hr]; rfl
        clear HF0 HSTOP HSE hr HE1 HE2 HE3 HE4 HE5 HS5
        go_wp2_with fail
        refine wp_region_held_drew (S := (fun w' => (w'.cell? ⟨w.heap.size + 2, 0, none⟩ = some (.int .i64 n1) ∧ w'.cell? ⟨w.heap.size + 2, 1, none⟩ = some (.int .i64 n3) ∧ w'.cell? ⟨w.heap.size + 2, 2, none⟩ = some (.int .i64 n2) ∧ w'.cell? ⟨w.heap.size + 2, 3, none⟩ = some (.int .i64 n5) ∧ w'.cell? ⟨w.heap.size + 2, 4, none⟩ = some (.int .i64 n4) ∧ w'.cell? ⟨w.heap.size + 2, 5, none⟩ = some (.slice av st.length cv)) ∧ w'.cell? ⟨w.heap.size + 1, 0, none⟩ = some (.string S) ∧ w'.cell? ⟨w.heap.size + 1, 1, none⟩ = some (.bool false))) (by kernel_rfl) ⟨⟨d0, d1, d2, d3, d4, d5⟩, s0, s1⟩ (fun hHeld => ?_)
        refine wpAnyH_take (i := 0) (oi := { dst := some 43, op := _, type := _, pos := _, after := _, guard := _ }) (v := ?vb0) rfl (by kernel_rfl) (by kernel_rfl) (by kernel_rfl) (fun _ _ _ h => h) (Or.inl ⟨by kernel_rfl, ?hyb0⟩) hHeld ?restb0
        case hyb0 => (intro w' hSw; (try dsimp only at hSw); go_simp; all_goals (with_reducible rfl))
        try simp only [Act.put, List.setIfInBounds_toArray, List.set_cons_zero, List.set_cons_succ]
        refine wpAnyH_take (i := 1) (oi := { dst := some 44, op := _, type := _, pos := _, after := _, guard := _ }) (v := ?vb1) rfl (by kernel_rfl) (by kernel_rfl) (by kernel_rfl) (fun _ _ _ h => h) (Or.inl ⟨by kernel_rfl, ?hyb1⟩) hHeld ?restb1
        case hyb1 => (intro w' hSw; (try dsimp only at hSw); go_simp; all_goals (with_reducible rfl))
        try simp only [Act.put, List.setIfInBounds_toArray, List.set_cons_zero, List.set_cons_succ]
        refine wpAnyH_take (i := 2) (oi := { dst := some 45, op := _, type := _, pos := _, after := _, guard := _ }) (v := ?vb2) rfl (by kernel_rfl) (by kernel_rfl) (by kernel_rfl) (fun _ _ _ h => h) (Or.inl ⟨by kernel_rfl, ?hyb2⟩) hHeld ?restb2
        case hyb2 => (intro w' hSw; (try dsimp only at hSw); go_simp; all_goals (with_reducible rfl))
        try simp only [Act.put, List.setIfInBounds_toArray, List.set_cons_zero, List.set_cons_succ]
        refine wpAnyH_take (i := 3) (oi := { dst := some 46, op := _, type := _, pos := _, after := _, guard := _ }) (v := ?vb3) rfl (by kernel_rfl) (by kernel_rfl) (by kernel_rfl) (fun _ _ _ h => h) (Or.inl ⟨by kernel_rfl, ?hyb3⟩) hHeld ?restb3
        case hyb3 => (intro w' hSw; (try dsimp only at hSw); go_simp; all_goals (with_reducible rfl))
        try simp only [Act.put, List.setIfInBounds_toArray, List.set_cons_zero, List.set_cons_succ]
        refine wpAnyH_take (i := 4) (oi := { dst := some 47, op := _, type := _, pos := _, after := _, guard := _ }) (v := ?vb4) rfl (by kernel_rfl) (by kernel_rfl) (by kernel_rfl) (fun _ _ _ h => h) (Or.inl ⟨by kernel_rfl, ?hyb4⟩) hHeld ?restb4
        case hyb4 => (intro w' hSw; (try dsimp only at hSw); go_simp; all_goals (with_reducible rfl))
        try simp only [Act.put, List.setIfInBounds_toArray, List.set_cons_zero, List.set_cons_succ]
        refine wpAnyH_take (i := 5) (oi := { dst := some 48, op := _, type := _, pos := _, after := _, guard := _ }) (v := ?vb5) rfl (by kernel_rfl) (by kernel_rfl) (by kernel_rfl) (fun _ _ _ h => h) (Or.inl ⟨by kernel_rfl, ?hyb5⟩) hHeld ?restb5
        case hyb5 => (intro w' hSw; (try dsimp only at hSw); go_simp; all_goals (with_reducible rfl))
        try simp only [Act.put, List.setIfInBounds_toArray, List.set_cons_zero, List.set_cons_succ]
        refine wpAnyH_take (i := 6) (oi := { dst := some 49, op := _, type := _, pos := _, after := _, guard := _ }) (v := ?vb6) rfl (by kernel_rfl) (by kernel_rfl) (by kernel_rfl) (fun _ _ _ h => h) (Or.inl ⟨by kernel_rfl, ?hyb6⟩) hHeld ?restb6
        case hyb6 => (intro w' hSw; (try dsimp only at hSw); go_simp; all_goals (with_reducible rfl))
        try simp only [Act.put, List.setIfInBounds_toArray, List.set_cons_zero, List.set_cons_succ]
        refine wpAnyH_take (i := 7) (oi := { dst := some 50, op := _, type := _, pos := _, after := _, guard := _ }) (v := ?vb7) rfl (by kernel_rfl) (by kernel_rfl) (by kernel_rfl) (fun _ _ _ h => h) (Or.inl ⟨by kernel_rfl, ?hyb7⟩) hHeld ?restb7
        case hyb7 => (intro w' hSw; (try dsimp only at hSw); go_simp; all_goals (with_reducible rfl))
        try simp only [Act.put, List.setIfInBounds_toArray, List.set_cons_zero, List.set_cons_succ]
        refine wpAnyH_take (i := 8) (oi := { dst := some 51, op := _, type := _, pos := _, after := _, guard := _ }) (v := ?vb8) rfl (by kernel_rfl) (by kernel_rfl) (by kernel_rfl) (fun _ _ _ h => h) (Or.inl ⟨by kernel_rfl, ?hyb8⟩) hHeld ?restb8
        case hyb8 => (intro w' hSw; (try dsimp only at hSw); go_simp; all_goals (with_reducible rfl))
        try simp only [Act.put, List.setIfInBounds_toArray, List.set_cons_zero, List.set_cons_succ]
        refine wpAnyH_ready (rs := [9]) (by kernel_rfl) (by simp) ?_
        refine AllReadyH.cons rfl (fun K hK => ?_) AllReadyH.nil
        rw [if_pos (by kernel_rfl)]
        go_wp2
        obtain ⟨W, hW⟩ : ∃ W, W = (((((wc.setCell ⟨w.heap.size, 0, none⟩ (.int .i64 n1)).setCell ⟨w.heap.size, 1, none⟩ (.int .i64 n3)).setCell ⟨w.heap.size, 2, none⟩ (.int .i64 n2)).setCell ⟨w.heap.size, 3, none⟩ (.int .i64 n5)).setCell ⟨w.heap.size, 4, none⟩ (.int .i64 n4)).setCell ⟨w.heap.size, 5, none⟩ (.slice av st.length cv) := ⟨_, rfl⟩
        rw [← hW]
        obtain ⟨r1, r2, r3, r4, r5, r6, r7⟩ := HS.out.res hW
        have R1 := hide r1
        have R3 := hide r3
        have R4 := hide r4
        have R5 := hide r5
        have t0 := (World.cell?_of_block (a := ⟨w.heap.size + 2, 0, none⟩) r7).trans d0
        have t1 := (World.cell?_of_block (a := ⟨w.heap.size + 2, 1, none⟩) r7).trans d1
        have t2 := (World.cell?_of_block (a := ⟨w.heap.size + 2, 2, none⟩) r7).trans d2
        have t3 := (World.cell?_of_block (a := ⟨w.heap.size + 2, 3, none⟩) r7).trans d3
        have t4 := (World.cell?_of_block (a := ⟨w.heap.size + 2, 4, none⟩) r7).trans d4
        have t5 := (World.cell?_of_block (a := ⟨w.heap.size + 2, 5, none⟩) r7).trans d5
        have u0 := (World.cell?_of_block (a := ⟨w.heap.size + 1, 0, none⟩) r6).trans s0
        have u1 := (World.cell?_of_block (a := ⟨w.heap.size + 1, 1, none⟩) r6).trans s1
        have z0 : W.cell? ⟨w.heap.size, 0, none⟩ = some (.int .i64 n1) := by rw [cell_of r2]; rfl
        have z1 : W.cell? ⟨w.heap.size, 1, none⟩ = some (.int .i64 n3) := by rw [cell_of r2]; rfl
        have z2 : W.cell? ⟨w.heap.size, 2, none⟩ = some (.int .i64 n2) := by rw [cell_of r2]; rfl
        have z3 : W.cell? ⟨w.heap.size, 3, none⟩ = some (.int .i64 n5) := by rw [cell_of r2]; rfl
        have z4 : W.cell? ⟨w.heap.size, 4, none⟩ = some (.int .i64 n4) := by rw [cell_of r2]; rfl
        have z5 : W.cell? ⟨w.heap.size, 5, none⟩ = some (.slice av st.length cv) := by rw [cell_of r2]; rfl
        clear hW r1 r2 r3 r4 r5 r6 r7 hHeld d0 d1 d2 d3 d4 d5 s0 s1
        refine hK.out _ _ ⟨⟨t0, t1, t2, t3, t4, t5⟩, u0, u1⟩ (fun hHeld => ?_)
        clear hK K
        try simp only [Act.put, List.setIfInBounds_toArray, List.set_cons_zero, List.set_cons_succ]
        refine wpAnyH_take (i := 10) (oi := { dst := some 3, op := .assign (.tmp 51), type := 4, pos := _, after := _, guard := none }) (v := ?vb10) rfl (by kernel_rfl) (by kernel_rfl) (by kernel_rfl) (fun _ _ _ h => h) (Or.inl ⟨by kernel_rfl, ?hyb10⟩) hHeld ?restb10
        case hyb10 => (intro w' hSw; (try dsimp only at hSw); go_simp; all_goals (with_reducible rfl))
        try simp only [Act.put, List.setIfInBounds_toArray, List.set_cons_zero, List.set_cons_succ]
        refine wpAnyH_done (by kernel_rfl) ?_ _
        go_wp2
        refine bodyPost_ret (v := .tuple #[.agg #[.int .i64 n1, .int .i64 n3, .int .i64 n2, .int .i64 n5, .int .i64 n4, .slice av st.length cv], .bool true]) ?_ rfl ?_
        · rw [results_cell_tmp Tryd.results20]
          simp [go_sem, z0, z1, z2, z3, z4, z5]
        · exact ⟨⟨⟨n1, n3, n2, n5, n4, st⟩, true, av, cv, HF.out, rfl, R3.out, R4.out, R5.out⟩, R1.out.drew⟩
      · have HF : Hid (scanF l = (⟨n1, n3, n2, n5, n4, st⟩, false)) := by show _ = _; rw [HF0.out, hr]; rfl
        clear HF0 HSTOP HSE hr HE1 HE2 HE3 HE4 HE5 HS5
        go_wp2_with fail
        refine wp_region_held_drew (S := (fun w' => (w'.cell? ⟨w.heap.size + 2, 0, none⟩ = some (.int .i64 n1) ∧ w'.cell? ⟨w.heap.size + 2, 1, none⟩ = some (.int .i64 n3) ∧ w'.cell? ⟨w.heap.size + 2, 2, none⟩ = some (.int .i64 n2) ∧ w'.cell? ⟨w.heap.size + 2, 3, none⟩ = some (.int .i64 n5) ∧ w'.cell? ⟨w.heap.size + 2, 4, none⟩ = some (.int .i64 n4) ∧ w'.cell? ⟨w.heap.size + 2, 5, none⟩ = some (.slice av st.length cv)) ∧ w'.cell? ⟨w.heap.size + 1, 0, none⟩ = some (.string S) ∧ w'.cell? ⟨w.heap.size + 1, 1, none⟩ = some (.bool true))) (by kernel_rfl) ⟨⟨d0, d1, d2, d3, d4, d5⟩, s0, s1⟩ (fun hHeld => ?_)
        refine wpAnyH_take (i := 0) (oi := { dst := some 43, op := _, type := _, pos := _, after := _, guard := _ }) (v := ?vc0) rfl (by kernel_rfl) (by kernel_rfl) (by kernel_rfl) (fun _ _ _ h => h) (Or.inl ⟨by kernel_rfl, ?hyc0⟩) hHeld ?restc0
        case hyc0 => (intro w' hSw; (try dsimp only at hSw); go_simp; all_goals (with_reducible rfl))
        try simp only [Act.put, List.setIfInBounds_toArray, List.set_cons_zero, List.set_cons_succ]
        refine wpAnyH_take (i := 1) (oi := { dst := some 44, op := _, type := _, pos := _, after := _, guard := _ }) (v := ?vc1) rfl (by kernel_rfl) (by kernel_rfl) (by kernel_rfl) (fun _ _ _ h => h) (Or.inl ⟨by kernel_rfl, ?hyc1⟩) hHeld ?restc1
        case hyc1 => (intro w' hSw; (try dsimp only at hSw); go_simp; all_goals (with_reducible rfl))
        try simp only [Act.put, List.setIfInBounds_toArray, List.set_cons_zero, List.set_cons_succ]
        refine wpAnyH_take (i := 2) (oi := { dst := some 45, op := _, type := _, pos := _, after := _, guard := _ }) (v := ?vc2) rfl (by kernel_rfl) (by kernel_rfl) (by kernel_rfl) (fun _ _ _ h => h) (Or.inl ⟨by kernel_rfl, ?hyc2⟩) hHeld ?restc2
        case hyc2 => (intro w' hSw; (try dsimp only at hSw); go_simp; all_goals (with_reducible rfl))
        try simp only [Act.put, List.setIfInBounds_toArray, List.set_cons_zero, List.set_cons_succ]
        refine wpAnyH_take (i := 3) (oi := { dst := some 46, op := _, type := _, pos := _, after := _, guard := _ }) (v := ?vc3) rfl (by kernel_rfl) (by kernel_rfl) (by kernel_rfl) (fun _ _ _ h => h) (Or.inl ⟨by kernel_rfl, ?hyc3⟩) hHeld ?restc3
        case hyc3 => (intro w' hSw; (try dsimp only at hSw); go_simp; all_goals (with_reducible rfl))
        try simp only [Act.put, List.setIfInBounds_toArray, List.set_cons_zero, List.set_cons_succ]
        refine wpAnyH_take (i := 4) (oi := { dst := some 47, op := _, type := _, pos := _, after := _, guard := _ }) (v := ?vc4) rfl (by kernel_rfl) (by kernel_rfl) (by kernel_rfl) (fun _ _ _ h => h) (Or.inl ⟨by kernel_rfl, ?hyc4⟩) hHeld ?restc4
        case hyc4 => (intro w' hSw; (try dsimp only at hSw); go_simp; all_goals (with_reducible rfl))
        try simp only [Act.put, List.setIfInBounds_toArray, List.set_cons_zero, List.set_cons_succ]
        refine wpAnyH_take (i := 5) (oi := { dst := some 48, op := _, type := _, pos := _, after := _, guard := _ }) (v := ?vc5) rfl (by kernel_rfl) (by kernel_rfl) (by kernel_rfl) (fun _ _ _ h => h) (Or.inl ⟨by kernel_rfl, ?hyc5⟩) hHeld ?restc5
        case hyc5 => (intro w' hSw; (try dsimp only at hSw); go_simp; all_goals (with_reducible rfl))
        try simp only [Act.put, List.setIfInBounds_toArray, List.set_cons_zero, List.set_cons_succ]
        refine wpAnyH_take (i := 6) (oi := { dst := some 49, op := _, type := _, pos := _, after := _, guard := _ }) (v := ?vc6) rfl (by kernel_rfl) (by kernel_rfl) (by kernel_rfl) (fun _ _ _ h => h) (Or.inl ⟨by kernel_rfl, ?hyc6⟩) hHeld ?restc6
        case hyc6 => (intro w' hSw; (try dsimp only at hSw); go_simp; all_goals (with_reducible rfl))
        try simp only [Act.put, List.setIfInBounds_toArray, List.set_cons_zero, List.set_cons_succ]
        refine wpAnyH_take (i := 7) (oi := { dst := some 50, op := _, type := _, pos := _, after := _, guard := _ }) (v := ?vc7) rfl (by kernel_rfl) (by kernel_rfl) (by kernel_rfl) (fun _ _ _ h => h) (Or.inl ⟨by kernel_rfl, ?hyc7⟩) hHeld ?restc7
        case hyc7 => (intro w' hSw; (try dsimp only at hSw); go_simp; all_goals (with_reducible rfl))
        try simp only [Act.put, List.setIfInBounds_toArray, List.set_cons_zero, List.set_cons_succ]
        refine wpAnyH_take (i := 8) (oi := { dst := some 51, op := _, type := _, pos := _, after := _, guard := _ }) (v := ?vc8) rfl (by kernel_rfl) (by kernel_rfl) (by kernel_rfl) (fun _ _ _ h => h) (Or.inl ⟨by kernel_rfl, ?hyc8⟩) hHeld ?restc8
        case hyc8 => (intro w' hSw; (try dsimp only at hSw); go_simp; all_goals (with_reducible rfl))
        try simp only [Act.put, List.setIfInBounds_toArray, List.set_cons_zero, List.set_cons_succ]
        refine wpAnyH_ready (rs := [9]) (by kernel_rfl) (by simp) ?_
        refine AllReadyH.cons rfl (fun K hK => ?_) AllReadyH.nil
        rw [if_pos (by kernel_rfl)]
        go_wp2
        obtain ⟨W, hW⟩ : ∃ W, W = (((((wc.setCell ⟨w.heap.size, 0, none⟩ (.int .i64 n1)).setCell ⟨w.heap.size, 1, none⟩ (.int .i64 n3)).setCell ⟨w.heap.size, 2, none⟩ (.int .i64 n2)).setCell ⟨w.heap.size, 3, none⟩ (.int .i64 n5)).setCell ⟨w.heap.size, 4, none⟩ (.int .i64 n4)).setCell ⟨w.heap.size, 5, none⟩ (.slice av st.length cv) := ⟨_, rfl⟩
        rw [← hW]
        obtain ⟨r1, r2, r3, r4, r5, r6, r7⟩ := HS.out.res hW
        have R1 := hide r1
        have R3 := hide r3
        have R4 := hide r4
        have R5 := hide r5
        have t0 := (World.cell?_of_block (a := ⟨w.heap.size + 2, 0, none⟩) r7).trans d0
        have t1 := (World.cell?_of_block (a := ⟨w.heap.size + 2, 1, none⟩) r7).trans d1
        have t2 := (World.cell?_of_block (a := ⟨w.heap.size + 2, 2, none⟩) r7).trans d2
        have t3 := (World.cell?_of_block (a := ⟨w.heap.size + 2, 3, none⟩) r7).trans d3
        have t4 := (World.cell?_of_block (a := ⟨w.heap.size + 2, 4, none⟩) r7).trans d4
        have t5 := (World.cell?_of_block (a := ⟨w.heap.size + 2, 5, none⟩) r7).trans d5
        have u0 := (World.cell?_of_block (a := ⟨w.heap.size + 1, 0, none⟩) r6).trans s0
        have u1 := (World.cell?_of_block (a := ⟨w.heap.size + 1, 1, none⟩) r6).trans s1
        have z0 : W.cell? ⟨w.heap.size, 0, none⟩ = some (.int .i64 n1) := by rw [cell_of r2]; rfl
        have z1 : W.cell? ⟨w.heap.size, 1, none⟩ = some (.int .i64 n3) := by rw [cell_of r2]; rfl
        have z2 : W.cell? ⟨w.heap.size, 2, none⟩ = some (.int .i64 n2) := by rw [cell_of r2]; rfl
        have z3 : W.cell? ⟨w.heap.size, 3, none⟩ = some (.int .i64 n5) := by rw [cell_of r2]; rfl
        have z4 : W.cell? ⟨w.heap.size, 4, none⟩ = some (.int .i64 n4) := by rw [cell_of r2]; rfl
        have z5 : W.cell? ⟨w.heap.size, 5, none⟩ = some (.slice av st.length cv) := by rw [cell_of r2]; rfl
        clear hW r1 r2 r3 r4 r5 r6 r7 hHeld d0 d1 d2 d3 d4 d5 s0 s1
        refine hK.out _ _ ⟨⟨t0, t1, t2, t3, t4, t5⟩, u0, u1⟩ (fun hHeld => ?_)
        clear hK K
        try simp only [Act.put, List.setIfInBounds_toArray, List.set_cons_zero, List.set_cons_succ]
        refine wpAnyH_take (i := 10) (oi := { dst := some 3, op := .assign (.tmp 51), type := 4, pos := _, after := _, guard := none }) (v := ?vc10) rfl (by kernel_rfl) (by kernel_rfl) (by kernel_rfl) (fun _ _ _ h => h) (Or.inl ⟨by kernel_rfl, ?hyc10⟩) hHeld ?restc10
        case hyc10 => (intro w' hSw; (try dsimp only at hSw); go_simp; all_goals (with_reducible rfl))
        try simp only [Act.put, List.setIfInBounds_toArray, List.set_cons_zero, List.set_cons_succ]
        refine wpAnyH_done (by kernel_rfl) ?_ _
        go_wp2
        refine bodyPost_ret (v := .tuple #[.agg #[.int .i64 n1, .int .i64 n3, .int .i64 n2, .int .i64 n5, .int .i64 n4, .slice av st.length cv], .bool false]) ?_ rfl ?_
        · rw [results_cell_tmp Tryd.results20]
          simp [go_sem, z0, z1, z2, z3, z4, z5]
        · exact ⟨⟨⟨n1, n3, n2, n5, n4, st⟩, false, av, cv, HF.out, rfl, R3.out, R4.out, R5.out⟩, R1.out.drew⟩
end Go.Proofs.YteefmibnkfojiaaDoor
