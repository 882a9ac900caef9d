/-
  The reference's book: its block of a thousand and one cells; contracts of NewHold, Take, Back, Has.
-/
import Derived.Test.YtdbmnjodkpeobaaGreatDoorHdT
namespace Go.Proofs.YtdbmnjodkpeobaaGreatDoor.Hd
open Go.ChangeShapes Go.WideShapes Go.ChangeAt Go.RowKit Go.Maps

theorem rclamp_any (room : Int) (w : World) : Calls Tryz.prog 43 #[.int .i64 room] w fun e w' => e = .returned (.int .i64 (clampA room)) ∧ w = w' := by
  by_cases h0 : 0 < room
  · by_cases h1 : room ≤ 1000000000
    · have HC : Hid (room = clampA room) := by show _ = _; unfold clampA; rw [if_neg (by omega), if_pos h1]
      go_enter Tryz.func43, Tryz.ntmps43
      go_wp2
      go_ret
      exact ⟨ret_int HC.out, rfl⟩
    · have HC : Hid (1000000000 = clampA room) := by show _ = _; unfold clampA; rw [if_neg (by omega), if_neg h1]
      go_enter Tryz.func43, Tryz.ntmps43
      go_wp2
      go_ret
      exact ⟨ret_int HC.out, rfl⟩
  · have HC : Hid (0 = clampA room) := by show _ = _; unfold clampA; split <;> (try split) <;> omega
    go_enter Tryz.func43, Tryz.ntmps43
    go_wp2
    go_ret
    exact ⟨ret_int HC.out, rfl⟩

/-- The block's cells. -/
def rcs (N : Nat) (left : Int) (h : Int → Int) : List Value := .int .i64 left :: (List.range N).map (fun k : Nat => .int .i64 (h k))
theorem rcs_len (N : Nat) (left : Int) (h : Int → Int) : (rcs N left h).length = N + 1 := by simp [rcs]
theorem rcs_zero (N : Nat) (left : Int) (h : Int → Int) : (rcs N left h)[0]? = some (.int .i64 left) := rfl
theorem rcs_at {N : Nat} (left : Int) (h : Int → Int) {i : Nat} (hi : i < N) : (rcs N left h)[1 + i]? = some (.int .i64 (h i)) := by
  rw [Nat.add_comm]
  simp [rcs, hi]
theorem rcs_left (N : Nat) (left l' : Int) (h : Int → Int) : (rcs N left h).set 0 (.int .i64 l') = rcs N l' h := rfl
theorem rcs_put {N : Nat} (left : Int) (h : Int → Int) {i : Nat} (hi : i < N) (v : Int) : (rcs N left h).set (1 + i) (.int .i64 v) = rcs N left (upd h i v) := by
  rw [Nat.add_comm]
  unfold rcs
  rw [List.set_cons_succ]
  congr 1
  apply List.ext_getElem?
  intro k
  rw [List.getElem?_set]
  by_cases e : i = k
  · subst e
    simp [hi, upd]
  · rw [if_neg e]
    by_cases hk : k < N
    · simp [hk, upd]
      intro e2
      omega
    · simp [hk]
theorem rcs_new (N : Nat) : rcs N 0 (fun _ => 0) = List.replicate (N + 1) (.int .i64 0) := by
  unfold rcs
  rw [List.replicate_succ]
  congr 1
  rw [List.map_const']
  simp
theorem zeroH (w : World) : (zeroValue 40).run Tryz.prog w = .ok (.agg (Array.replicate 1001 (.int .i64 0))) w := by kernel_rfl
theorem build_hold (c : Int) (w : World) : (Instr.build 40 #[(0, .int .i64 c)]).run Tryz.prog w = .ok (.agg (rcs 1000 c (fun _ => 0)).toArray) w := by
  have e : (rcs 1000 c (fun _ => 0)).toArray = (Array.replicate 1001 (Value.int .i64 0)).setIfInBounds 0 (.int .i64 c) := by
    apply Array.ext'
    rw [Array.toList_setIfInBounds, Array.toList_replicate, ← rcs_new, rcs_left]
  have hs : (Array.replicate 1001 (Value.int .i64 0)).size = 1001 := Array.size_replicate
  rw [e]
  have hz := zeroH w
  generalize Array.replicate 1001 (Value.int .i64 0) = Z at hz hs ⊢
  clear e
  simp [Instr.build, hz, run_underlying Tryz.underlying40, Tryz.sizeOf3, Tryz.sizeOf38, Instr.fill, hs, Value.cells, Result.andThen]

/-- The reference's book at q. -/
def Rb (B : Nat) (w : World) (q : Nat) (left : Int) (h : Int → Int) : Prop :=
  w.heap[q]? = some (.cells (rcs 1000 left h).toArray 40 (0, 0)) ∧ B ≤ q
theorem Rb.lt {B : Nat} {w : World} {q : Nat} {left : Int} {h : Int → Int} (k : Rb B w q left h) : q < w.heap.size := (Array.getElem?_eq_some_iff.1 k.1).1
theorem Rb.low {B : Nat} {w : World} {q : Nat} {left : Int} {h : Int → Int} (k : Rb B w q left h) : B ≤ w.heap.size := by have := k.lt; have := k.2; omega
theorem Rb.kept {B : Nat} {w w' : World} {q : Nat} {left : Int} {h : Int → Int} {E : Nat → Obj → Prop} (k : Rb B w q left h) (hk : Rg.Kept E w w') (hq : ∀ o, ¬ E q o) : Rb B w' q left h := ⟨hk.block _ _ k.1 (hq _), k.2⟩
theorem Rb.on {B : Nat} {w w' : World} {q : Nat} {left : Int} {h : Int → Int} (k : Rb B w q left h) (hb : Below w.heap.size w w') : Rb B w' q left h := k.kept (E := fun _ _ => False) (Rg.Kept.of_below hb) (fun _ h => h)
def Own1 (q : Nat) (k : Nat) (_ : Obj) : Prop := k = q
theorem Rb.bel {B : Nat} {w w' : World} {q : Nat} {left : Int} {h : Int → Int} (k : Rb B w q left h) (hk : Rg.Kept (Own1 q) w w') : Below B w w' :=
  hk.bel k.low (fun i _ e => by have := k.2; have e' : i = q := e; omega)
theorem Rb.cell0 {B : Nat} {w : World} {q : Nat} {left : Int} {h : Int → Int} (k : Rb B w q left h) : w.cell? ⟨q, 0, none⟩ = some (.int .i64 left) := by
  rw [cell_of k.1, List.getElem?_toArray]; exact rcs_zero _ _ _
theorem Rb.cellI {B : Nat} {w : World} {q : Nat} {left : Int} {h : Int → Int} (k : Rb B w q left h) {i : Nat} (hi : i < 1000) : w.cell? ⟨q, 1 + i, none⟩ = some (.int .i64 (h i)) := by
  rw [cell_of k.1, List.getElem?_toArray]; exact rcs_at _ _ hi
theorem Rb.frozen {B : Nat} {w : World} {q : Nat} {left : Int} {h : Int → Int} (k : Rb B w q left h) (i : Nat) : w.frozen? ⟨q, i, none⟩ = false := frozen_of_row _ _ _ _ _ k.1
theorem Rb.setLeft {B : Nat} {w : World} {q : Nat} {left : Int} {h : Int → Int} (k : Rb B w q left h) (l' : Int) : Rb B (w.setCell ⟨q, 0, none⟩ (.int .i64 l')) q l' h := by
  refine ⟨?_, k.2⟩
  rw [heap_setCell_same _ _ _ _ _ _ k.1, ← rcs_left 1000 left l' h, List.setIfInBounds_toArray]
theorem Rb.setI {B : Nat} {w : World} {q : Nat} {left : Int} {h : Int → Int} (k : Rb B w q left h) {i : Nat} (hi : i < 1000) (v : Int) : Rb B (w.setCell ⟨q, 1 + i, none⟩ (.int .i64 v)) q left (upd h i v) := by
  refine ⟨?_, k.2⟩
  rw [heap_setCell_same _ _ _ _ _ _ k.1, ← rcs_put left h hi v, List.setIfInBounds_toArray]
theorem box_hold (cs : Array Value) (w : World) : (Instr.box 40 (.agg cs)).run Tryz.prog w = .ok (.pointer (some ⟨w.heap.size, 0, none⟩)) (w.alloc (.cells cs 40)) := by
  simp [Instr.box, newVar, newRow, Value.cells, Result.andThen]
theorem wpList_build_hold {w : World} {ops : Array Oper} {rest : List Oper} {o : Oper} {a : Act} {Q : Exit → Act → World → Prop} (hg : o.guard = none) (x : Operand) (hop : o.op = Op.build 40 #[(0, x)]) (c : Int) (hx : a.eval x = .int .i64 c)
    (hK : wpList Tryz.prog ops Q rest (a.put o.dst (.agg (rcs 1000 c (fun _ => 0)).toArray)) w) : wpList Tryz.prog ops Q (o :: rest) a w := by
  refine wpList_plain hg fun K' hK' => ?_
  have hrun := build_hold c w
  generalize (rcs 1000 c (fun _ => 0)).toArray = cs at hrun hK
  unfold Oper.wp
  simp only [execOp, hop]
  simp [hx, hrun, Result.andThen]
  exact hK' _ _ hK
theorem rnew_any (room : Int) (w : World) : Calls Tryz.prog 24 #[.int .i64 room] w fun e w' => e = .returned (.pointer (some ⟨w.heap.size, 0, none⟩)) ∧ Rb w.heap.size w' w.heap.size (clampA room) (fun _ => 0) ∧ Below w.heap.size w w' := by
  have hx := box_hold (rcs 1000 (clampA room) (fun _ => 0)).toArray
  have key : Rb w.heap.size (w.alloc (.cells (rcs 1000 (clampA room) (fun _ => 0)).toArray 40)) w.heap.size (clampA room) (fun _ => 0) := ⟨World.alloc_heap_new _ _, Nat.le_refl _⟩
  have hc := rclamp_any room w
  generalize clampA room = c at hx key hc ⊢
  have HK := hide key
  clear key
  go_enter Tryz.func24, Tryz.ntmps24
  go_wp2_with (first
    | (go_at_call 43; refine hc.mono ?_; rintro e w' ⟨rfl, rfl⟩)
    | (refine wpList_build_hold rfl _ rfl c rfl ?_; generalize (rcs 1000 c (fun _ => 0)).toArray = cs at hx HK ⊢))
  go_ret
  exact ⟨rfl, HK.out, (Below.refl _ w).alloc (Nat.le_refl _) _⟩
theorem rid_any (id : Int) (w : World) : Calls Tryz.prog 37 #[.int .i64 id] w fun e w' => e = .returned (.bool (isI id)) ∧ w = w' := by
  by_cases h0 : 1 ≤ id
  · by_cases h1 : id ≤ 999
    · have hm : true = isI id := (isI_iff.2 ⟨h0, h1⟩).symm
      rw [← hm]
      clear hm
      go_enter Tryz.func37, Tryz.ntmps37
      go_wp2
      go_ret
      exact ⟨rfl, rfl⟩
    · have hm : false = isI id := by unfold isI; simp; omega
      rw [← hm]
      clear hm
      go_enter Tryz.func37, Tryz.ntmps37
      go_wp2
      go_ret
      exact ⟨rfl, rfl⟩
  · have hm : false = isI id := by unfold isI; simp; omega
    rw [← hm]
    clear hm
    go_enter Tryz.func37, Tryz.ntmps37
    go_wp2
    go_ret
    exact ⟨rfl, rfl⟩
def aboveB (n : Int) : Bool := decide (1 ≤ n ∧ n ≤ 1000000000)
theorem rabove_any (n : Int) (w : World) : Calls Tryz.prog 51 #[.int .i64 n] w fun e w' => e = .returned (.bool (aboveB n)) ∧ w = w' := by
  by_cases h0 : 1 ≤ n
  · by_cases h1 : n ≤ 1000000000
    · have hm : true = aboveB n := by unfold aboveB; simp; omega
      rw [← hm]
      clear hm
      go_enter Tryz.func51, Tryz.ntmps51
      go_wp2
      go_ret
      exact ⟨rfl, rfl⟩
    · have hm : false = aboveB n := by unfold aboveB; simp; omega
      rw [← hm]
      clear hm
      go_enter Tryz.func51, Tryz.ntmps51
      go_wp2
      go_ret
      exact ⟨rfl, rfl⟩
  · have hm : false = aboveB n := by unfold aboveB; simp; omega
    rw [← hm]
    clear hm
    go_enter Tryz.func51, Tryz.ntmps51
    go_wp2
    go_ret
    exact ⟨rfl, rfl⟩
end Go.Proofs.YtdbmnjodkpeobaaGreatDoor.Hd
