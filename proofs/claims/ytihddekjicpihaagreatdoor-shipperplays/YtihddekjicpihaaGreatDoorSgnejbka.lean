/-
  Rows of eight numbers in memory; the reference's row; small facts on blocks.
-/
import Derived.Test.YtihddekjicpihaaGreatDoorSghhflai
import Derived.Test.YtihddekjicpihaaGreatDoorSgaofemp
import Derived.Test.YtihddekjicpihaaGreatDoorSghffmmk
import Derived.Test.YtihddekjicpihaaGreatDoorSggdlica
import Derived.Maps.OwnSet
import Derived.Deep.CutBlock
namespace Go.Proofs.YtihddekjicpihaaGreatDoor.Gd.Pu
open Go.ChangeShapes Go.WideShapes Go.ChangeAt Go.RowKit Go.Maps

theorem lawI : Keyed Tryz.prog 3 := int_keyed Tryz.underlying3
theorem wf_of {a : Int} (h1 : -9223372036854775808 ≤ a) (h2 : a ≤ 9223372036854775807) : (Lit.int .i64 a).wf = true := WalkArith.wf_i64 ⟨h1, h2⟩
/-- A row of eight numbers. -/
def rowc (h : Int → Int) : List Value := (List.range 8).map (fun k : Nat => .int .i64 (h k))
theorem rowc_len (h : Int → Int) : (rowc h).length = 8 := by simp [rowc]
theorem rowc_at (h : Int → Int) {i : Nat} (hi : i < 8) : (rowc h)[i]? = some (.int .i64 (h i)) := by simp [rowc, hi]
theorem rowc_put (h : Int → Int) {i : Nat} (hi : i < 8) (v : Int) : (rowc h).set i (.int .i64 v) = rowc (upd h i v) := by
  unfold rowc
  apply List.ext_getElem?
  intro k
  rw [List.getElem?_set]
  by_cases e : i = k
  · subst e
    simp [hi, upd]
  · rw [if_neg e]
    by_cases hk : k < 8
    · simp [hk, upd]
      intro e2
      omega
    · simp [hk]
theorem own_keptG {w w' : World} {b n : Nat} {E : Nat → Obj → Prop} {P : Program} {t : TypeId} {el : Value → Option (DataW Unit × List MemPlace)} {D : DataW Unit} (h : w.ownsMap P t el b n D) (k : Rg.Kept E w w') (hb : ∀ es c, ¬ E b (.map es c)) : w'.ownsMap P t el b n D := by
  obtain ⟨es, c, h1, h2⟩ := h
  exact ⟨es, c, k.block _ _ h1 (hb _ _), h2⟩
theorem bel_al {a w : World} (h : Below a.heap.size a w) (o : Obj) : Below a.heap.size a (w.alloc o) := h.alloc h.size o
/-- What is turned behind all that lay there is no matter. -/
theorem kept_new {E : Nat → Obj → Prop} {a w1 w2 : World} (h : Rg.Kept E a w1) (k : Rg.Kept (fun i _ => i = a.heap.size) w1 w2) : Rg.Kept E a w2 :=
  ⟨k.os.trans h.os, k.tape.trans h.tape, k.output.trans h.output, Nat.le_trans h.size k.size, fun i o hi hx => k.block i o (h.block i o hi hx) (fun e => by have := (Array.getElem?_eq_some_iff.1 hi).1; omega)⟩
theorem rowc_congr {h g : Int → Int} (e : ∀ k : Nat, k < 8 → h k = g k) : rowc h = rowc g := by
  unfold rowc
  apply List.map_congr_left
  intro k hk
  rw [e k (by simpa using hk)]
/-- What is on hand behind j rounds. -/
def onJ (l : List Int) (j : Nat) (k : Int) : Int := if k < j then clampA (l.getD k.toNat 0) else 0
theorem onJ_step (l : List Int) (j : Nat) : upd (onJ l j) j (clampA (l.getD j 0)) = onJ l (j + 1) := by
  funext k
  unfold onJ
  rw [upd_at]
  by_cases e : k = j
  · subst e
    rw [if_pos rfl, if_pos (by omega)]
    simp
  · rw [if_neg e]
    by_cases h : k < j
    · rw [if_pos h, if_pos (by omega)]
    · rw [if_neg h, if_neg (by omega)]
theorem rowc_lit (h : Int → Int) : (rowc h).toArray = #[.int .i64 (h 0), .int .i64 (h 1), .int .i64 (h 2), .int .i64 (h 3), .int .i64 (h 4), .int .i64 (h 5), .int .i64 (h 6), .int .i64 (h 7)] := rfl
/-- A block of eight numbers. -/
def Row8 (w : World) (b : Nat) (h : Int → Int) : Prop := w.heap[b]? = some (.cells (rowc h).toArray 76 (0, 0))
theorem Row8.cell {w : World} {b : Nat} {h : Int → Int} (k : Row8 w b h) {i : Nat} (hi : i < 8) : w.cell? ⟨b, i, none⟩ = some (.int .i64 (h i)) := by
  rw [cell_of k, List.getElem?_toArray]; exact rowc_at _ hi
theorem Row8.frozen {w : World} {b : Nat} {h : Int → Int} (k : Row8 w b h) (i : Nat) : w.frozen? ⟨b, i, none⟩ = false := frozen_of_row _ _ _ _ _ k
theorem Row8.lt {w : World} {b : Nat} {h : Int → Int} (k : Row8 w b h) : b < w.heap.size := (Array.getElem?_eq_some_iff.1 k).1
theorem Row8.set {w : World} {b : Nat} {h : Int → Int} (k : Row8 w b h) {i : Nat} (hi : i < 8) (v : Int) : Row8 (w.setCell ⟨b, i, none⟩ (.int .i64 v)) b (upd h i v) := by
  unfold Row8
  rw [heap_setCell_same _ _ _ _ _ _ k, ← rowc_put h hi v, List.setIfInBounds_toArray]
theorem Row8.other {w : World} {b : Nat} {h : Int → Int} (k : Row8 w b h) {p : Addr} (hp : b ≠ p.block) (v : Value) : Row8 (w.setCell p v) b h :=
  (Below.heap_setCell _ _ _ _ hp).trans k
theorem Row8.congr {w : World} {b : Nat} {h g : Int → Int} (k : Row8 w b h) (e : ∀ k : Nat, k < 8 → h k = g k) : Row8 w b g := by
  unfold Row8 at *
  rw [← rowc_congr e]
  exact k
def RRel (w : World) (l : List Int) (i : Value) (wr : World) : Prop :=
  ∃ j : Nat, i = .int .i64 j ∧ j ≤ 8 ∧ Hid (Row8 wr (w.heap.size + 1) (onJ l j)) ∧ Hid (Row8 wr w.heap.size (fun _ => 0)) ∧ Hid (Below w.heap.size w wr)
theorem onJ_over {l : List Int} {j : Nat} (h : l.length ≤ j) : onJ l (j + 1) = onJ l j := by
  rw [← onJ_step, List.getD_eq_getElem?_getD, List.getElem?_eq_none h]
  refine upd_id ?_
  unfold onJ
  rw [if_neg (by omega)]
  rfl
theorem onJ_8 (l : List Int) {k : Nat} (hk : k < 8) : onJ l 8 k = (newS l).on k := by
  show onJ l 8 k = clampA (l.getD (k : Int).toNat 0)
  unfold onJ
  rw [if_pos (by omega)]
set_option maxRecDepth 100000 in
set_option maxHeartbeats 1000000 in
theorem rrow_any (a : Option Addr) (l : List Int) (cap : Nat) (w : World) (ha : Ints w a l) (_hl : l.length ≤ 9223372036854775807) :
    Calls Tryz.prog 131 #[.slice a l.length cap] w fun e w' => e = .returned (.agg #[.int .i64 ((newS l).on 0), .int .i64 ((newS l).on 1), .int .i64 ((newS l).on 2), .int .i64 ((newS l).on 3), .int .i64 ((newS l).on 4), .int .i64 ((newS l).on 5), .int .i64 ((newS l).on 6), .int .i64 ((newS l).on 7)]) ∧ Below w.heap.size w w' := by
  have HA := hide ha
  clear ha
  have Z0 : Hid (Row8 ((w.alloc (.cells #[.int .i64 0, .int .i64 0, .int .i64 0, .int .i64 0, .int .i64 0, .int .i64 0, .int .i64 0, .int .i64 0] 76)).alloc (.cells #[.int .i64 0, .int .i64 0, .int .i64 0, .int .i64 0, .int .i64 0, .int .i64 0, .int .i64 0, .int .i64 0] 76)) w.heap.size (fun _ => 0)) := by
    show _ = _
    rw [Below.heap_alloc _ _ _ (by simp)]
    exact World.alloc_heap_new _ _
  have Z1 : Hid (Row8 ((w.alloc (.cells #[.int .i64 0, .int .i64 0, .int .i64 0, .int .i64 0, .int .i64 0, .int .i64 0, .int .i64 0, .int .i64 0] 76)).alloc (.cells #[.int .i64 0, .int .i64 0, .int .i64 0, .int .i64 0, .int .i64 0, .int .i64 0, .int .i64 0, .int .i64 0] 76)) (w.heap.size + 1) (onJ l 0)) := by
    refine Row8.congr (h := fun _ => 0) ?_ (fun k _ => ?_)
    · have := World.alloc_heap_new (w.alloc (.cells #[.int .i64 0, .int .i64 0, .int .i64 0, .int .i64 0, .int .i64 0, .int .i64 0, .int .i64 0, .int .i64 0] 76)) (.cells #[.int .i64 0, .int .i64 0, .int .i64 0, .int .i64 0, .int .i64 0, .int .i64 0, .int .i64 0, .int .i64 0] 76)
      rw [World.size_alloc] at this
      exact this
    · unfold onJ
      rw [if_neg (by omega)]
  go_enter Tryz.func131, Tryz.ntmps131
  go_wp2
  go_loopw [5] (fun i wr => RRel w l i wr) (fun i _ => 8 - (Go.RowKit.intOf i).toNat)
  case atStart => exact ⟨0, rfl, Nat.zero_le _, Z1, Z0, bel_al (bel_al (Below.refl _ _) _) _⟩
  case round =>
    obtain ⟨j, rfl, hj, H1, H0, HB⟩ := hrel
    clear Z0 Z1
    by_cases hlt : j < 8
    · have ql : (j : Int) < 8 := by omega
      by_cases hjl : j < l.length
      · have q2 : (j : Int) < (l.length : Int) := by omega
        rcases HA.out.below HB.out with h0 | ⟨ab, off, rfl, hca⟩
        · rw [h0] at hjl; simp at hjl
        have c := hca j hjl
        have c1 := H1.out.cell hlt
        have f1 := H1.out.frozen j
        obtain ⟨x, hx⟩ : ∃ x, l.getD j 0 = x := ⟨_, rfl⟩
        obtain ⟨y, hy⟩ : ∃ y, onJ l j j = y := ⟨_, rfl⟩
        rw [hx] at c
        rw [hy] at c1
        have KEY : Hid (Row8 (wr.setCell ⟨w.heap.size + 1, j, none⟩ (.int .i64 (clampA x))) (w.heap.size + 1) (onJ l (j + 1)) ∧ Row8 (wr.setCell ⟨w.heap.size + 1, j, none⟩ (.int .i64 (clampA x))) w.heap.size (fun _ => 0) ∧ Below w.heap.size w (wr.setCell ⟨w.heap.size + 1, j, none⟩ (.int .i64 (clampA x)))) := by
          have := H1.out.set hlt (clampA x)
          rw [← hx, onJ_step, hx] at this
          exact ⟨this, H0.out.other (by show _ ≠ w.heap.size + 1; omega) _, HB.out.setCell (p := ⟨w.heap.size + 1, j, none⟩) (by show w.heap.size ≤ w.heap.size + 1; omega) _⟩
        obtain ⟨z, hz⟩ : ∃ z, clampA x = z := ⟨_, rfl⟩
        have CL := rclamp_any x
        rw [hz] at KEY
        have HCL := hide CL
        have HZ := hide hz
        clear hca hx hy HA CL hz
        go_wp2_with (go_at_call 157; refine (HCL.out _).mono ?_; rw [HZ.out]; rintro e w' ⟨rfl, rfl⟩)
        go_roundw
        case rel => exact ⟨j + 1, by go_num, by omega, KEY.out.1, KEY.out.2.1, KEY.out.2.2⟩
        case measure => simp [Go.RowKit.intOf]; omega
      · have q2 : ¬ (j : Int) < (l.length : Int) := by omega
        go_wp2
        go_roundw
        case rel => exact ⟨j + 1, by go_num, by omega, by rw [onJ_over (by omega)]; exact H1, H0, HB⟩
        case measure => simp [Go.RowKit.intOf]; omega
    · have ql : ¬ (j : Int) < 8 := by omega
      have hjm : j = 8 := by omega
      subst hjm
      obtain ⟨on, hon⟩ : ∃ on, onJ l 8 = on := ⟨_, rfl⟩
      have HE : Hid (∀ k : Nat, k < 8 → on k = (newS l).on k) := fun k hk => by rw [← hon]; exact onJ_8 l hk
      rw [hon] at H1
      have c0 := H1.out.cell (i := 0) (by omega)
      have d0 := H0.out.cell (i := 0) (by omega)
      have f0 := H0.out.frozen 0
      have c1 := H1.out.cell (i := 1) (by omega)
      have d1 := H0.out.cell (i := 1) (by omega)
      have f1 := H0.out.frozen 1
      have c2 := H1.out.cell (i := 2) (by omega)
      have d2 := H0.out.cell (i := 2) (by omega)
      have f2 := H0.out.frozen 2
      have c3 := H1.out.cell (i := 3) (by omega)
      have d3 := H0.out.cell (i := 3) (by omega)
      have f3 := H0.out.frozen 3
      have c4 := H1.out.cell (i := 4) (by omega)
      have d4 := H0.out.cell (i := 4) (by omega)
      have f4 := H0.out.frozen 4
      have c5 := H1.out.cell (i := 5) (by omega)
      have d5 := H0.out.cell (i := 5) (by omega)
      have f5 := H0.out.frozen 5
      have c6 := H1.out.cell (i := 6) (by omega)
      have d6 := H0.out.cell (i := 6) (by omega)
      have f6 := H0.out.frozen 6
      have c7 := H1.out.cell (i := 7) (by omega)
      have d7 := H0.out.cell (i := 7) (by omega)
      have f7 := H0.out.frozen 7
      have e0 := HE.out 0 (by omega)
      have e1 := HE.out 1 (by omega)
      have e2 := HE.out 2 (by omega)
      have e3 := HE.out 3 (by omega)
      have e4 := HE.out 4 (by omega)
      have e5 := HE.out 5 (by omega)
      have e6 := HE.out 6 (by omega)
      have e7 := HE.out 7 (by omega)
      rw [e0] at c0
      rw [e1] at c1
      rw [e2] at c2
      rw [e3] at c3
      rw [e4] at c4
      rw [e5] at c5
      rw [e6] at c6
      rw [e7] at c7
      clear hon HA e0 e1 e2 e3 e4 e5 e6 e7 hj hlt
      go_wp2
      refine bodyPost_ret (v := .agg #[.int .i64 ((newS l).on 0), .int .i64 ((newS l).on 1), .int .i64 ((newS l).on 2), .int .i64 ((newS l).on 3), .int .i64 ((newS l).on 4), .int .i64 ((newS l).on 5), .int .i64 ((newS l).on 6), .int .i64 ((newS l).on 7)]) ?_ rfl ?_
      · have hrow : Row8 ((((((((wr.setCell ⟨w.heap.size, 0, none⟩ (.int .i64 ((newS l).on 0))).setCell ⟨w.heap.size, 1, none⟩ (.int .i64 ((newS l).on 1))).setCell ⟨w.heap.size, 2, none⟩ (.int .i64 ((newS l).on 2))).setCell ⟨w.heap.size, 3, none⟩ (.int .i64 ((newS l).on 3))).setCell ⟨w.heap.size, 4, none⟩ (.int .i64 ((newS l).on 4))).setCell ⟨w.heap.size, 5, none⟩ (.int .i64 ((newS l).on 5))).setCell ⟨w.heap.size, 6, none⟩ (.int .i64 ((newS l).on 6))).setCell ⟨w.heap.size, 7, none⟩ (.int .i64 ((newS l).on 7))) w.heap.size (newS l).on := by
          refine Row8.congr ((((((((H0.out.set (i := 0) (by omega) ((newS l).on 0)).set (i := 1) (by omega) ((newS l).on 1)).set (i := 2) (by omega) ((newS l).on 2)).set (i := 3) (by omega) ((newS l).on 3)).set (i := 4) (by omega) ((newS l).on 4)).set (i := 5) (by omega) ((newS l).on 5)).set (i := 6) (by omega) ((newS l).on 6)).set (i := 7) (by omega) ((newS l).on 7)) (fun k hk => ?_)
          simp only [upd_at]
          match k, hk with
          | 0, _ => rfl
          | 1, _ => rfl
          | 2, _ => rfl
          | 3, _ => rfl
          | 4, _ => rfl
          | 5, _ => rfl
          | 6, _ => rfl
          | 7, _ => rfl
        unfold Row8 at hrow
        rw [rowc_lit] at hrow
        exact results_cell_row Tryz.results131 _ _ w.heap.size 76 _ (0, 0) _ rfl hrow Tryz.underlying76 rfl (by kernel_rfl)
      · exact ⟨rfl, ((((((((HB.out.setCell (p := ⟨w.heap.size, 0, none⟩) (Nat.le_refl _) _).setCell (p := ⟨w.heap.size, 1, none⟩) (Nat.le_refl _) _).setCell (p := ⟨w.heap.size, 2, none⟩) (Nat.le_refl _) _).setCell (p := ⟨w.heap.size, 3, none⟩) (Nat.le_refl _) _).setCell (p := ⟨w.heap.size, 4, none⟩) (Nat.le_refl _) _).setCell (p := ⟨w.heap.size, 5, none⟩) (Nat.le_refl _) _).setCell (p := ⟨w.heap.size, 6, none⟩) (Nat.le_refl _) _).setCell (p := ⟨w.heap.size, 7, none⟩) (Nat.le_refl _) _)⟩
end Go.Proofs.YtihddekjicpihaaGreatDoor.Gd.Pu
