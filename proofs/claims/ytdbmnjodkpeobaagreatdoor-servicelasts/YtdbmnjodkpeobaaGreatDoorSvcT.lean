/-
  Contracts of service's isId, forget, State, Left, Down; those of a service that there isn't.
-/
import Derived.Test.YtdbmnjodkpeobaaGreatDoorSvcS
namespace Go.Proofs.YtdbmnjodkpeobaaGreatDoor
open Go.ChangeShapes Go.WideShapes Go.ChangeAt Go.RowKit Go.Maps

theorem sisid_any (id : Int) (w : World) : Calls Tryz.prog 52 #[.int .i64 id] w fun e w' => e = .returned (.bool (Hd.isI id)) ∧ w = w' := by
  by_cases h0 : 1 ≤ id
  · by_cases h1 : id ≤ 999
    · have hm : true = Hd.isI id := (Hd.isI_iff.2 ⟨h0, h1⟩).symm
      rw [← hm]
      clear hm
      go_enter Tryz.func52, Tryz.ntmps52
      go_wp2
      go_ret
      exact ⟨rfl, rfl⟩
    · have hm : false = Hd.isI id := by unfold Hd.isI; simp; omega
      rw [← hm]
      clear hm
      go_enter Tryz.func52, Tryz.ntmps52
      go_wp2
      go_ret
      exact ⟨rfl, rfl⟩
  · have hm : false = Hd.isI id := by unfold Hd.isI; simp; omega
    rw [← hm]
    clear hm
    go_enter Tryz.func52, Tryz.ntmps52
    go_wp2
    go_ret
    exact ⟨rfl, rfl⟩

section
variable {B : Nat} {E : Nat → Prop} {w : World} {p : Nat} {v : Sv} {n q : Nat} {r : Value} {pb mb sb : Nat}
theorem sstate_any (k : NdV B E w p v n q r pb mb sb) {id : Int} (hw : (Lit.int .i64 id).wf = true) :
    Calls Tryz.prog 17 #[.pointer (some ⟨p, 0, none⟩), .int .i64 id] w fun e w' => e = .returned (.int .i64 (v.st.s id)) ∧ w = w' := by
  obtain ⟨c0, c1, c2, c3, c4⟩ := k.cells
  have hl := k.mp.look hw
  clear k
  generalize v.st.s id = x at hl ⊢
  go_enter Tryz.func17, Tryz.ntmps17
  go_wp2
  go_ret
  exact ⟨rfl, rfl⟩
theorem sstate_nil (id : Int) (w : World) : Calls Tryz.prog 17 #[.pointer none, .int .i64 id] w fun e w' => e = .returned (.int .i64 0) ∧ w = w' := by
  go_enter Tryz.func17, Tryz.ntmps17
  go_wp2
  go_ret
  exact ⟨rfl, rfl⟩
theorem sleft_any (k : NdV B E w p v n q r pb mb sb) :
    Calls Tryz.prog 19 #[.pointer (some ⟨p, 0, none⟩)] w fun e w' => e = .returned (.int .i64 v.st.left) ∧ w = w' := by
  obtain ⟨c0, c1, c2, c3, c4⟩ := k.cells
  have H := Hd.left_any k.bk
  clear k
  go_enter Tryz.func19, Tryz.ntmps19
  go_wp2_with (go_at_call 40; refine H.mono ?_; rintro e w' ⟨rfl, rfl⟩)
  go_ret
  exact ⟨rfl, rfl⟩
theorem sleft_nil (w : World) : Calls Tryz.prog 19 #[.pointer none] w fun e w' => e = .returned (.int .i64 0) ∧ w = w' := by
  go_enter Tryz.func19, Tryz.ntmps19
  go_wp2
  go_ret
  exact ⟨rfl, rfl⟩
theorem jdown_any {B : Nat} {w : World} {p : Nat} {v : Value} {room : Int} {L : List ByteArray} {sure : Nat} {down : Bool} (h : Jr B w p v room L sure down) :
    Calls Tryz.prog 41 #[.pointer (some ⟨p, 0, none⟩)] w fun e w' => e = .returned (.bool down) ∧ w = w' := by
  obtain ⟨⟨c0, c1, c2, c3⟩, -⟩ := h.cells
  go_enter Tryz.func41, Tryz.ntmps41
  go_wp2
  go_ret
  exact ⟨rfl, rfl⟩
theorem sdown_any (k : NdV B E w p v n q r pb mb sb) :
    Calls Tryz.prog 20 #[.pointer (some ⟨p, 0, none⟩)] w fun e w' => e = .returned (.bool v.down) ∧ w = w' := by
  obtain ⟨c0, c1, c2, c3, c4⟩ := k.cells
  have H := jdown_any k.jr
  clear k
  generalize v.down = d at H ⊢
  go_enter Tryz.func20, Tryz.ntmps20
  go_wp2_with (go_at_call 41; refine H.mono ?_; rintro e w' ⟨rfl, rfl⟩)
  go_ret
  exact ⟨rfl, rfl⟩
theorem sdown_nil (w : World) : Calls Tryz.prog 20 #[.pointer none] w fun e w' => e = .returned (.bool false) ∧ w = w' := by
  go_enter Tryz.func20, Tryz.ntmps20
  go_wp2
  go_ret
  exact ⟨rfl, rfl⟩
end

theorem forget_fin {w w1 : World} {p : Nat} {node hold : Int} {x2 x3 x4 : Value} {pb mb : Nat} (hb : w.heap[p]? = some (.cells #[.int .i64 node, .int .i64 hold, x2, x3, x4] 62 (0, 0)))
    (kb : Hd.Bk w.heap.size w1 pb mb (Hd.clampA hold) (fun _ => 0) 0) (hb1 : Below w.heap.size w w1) :
    ∃ W, W = (((w1.setCell ⟨p, 3, none⟩ (.pointer (some ⟨pb, 0, none⟩))).setCell ⟨p, 4, none⟩ (.map (some w1.heap.size))).alloc (.map #[] 0)) ∧
      W.heap[p]? = some (.cells #[.int .i64 node, .int .i64 hold, x2, .pointer (some ⟨pb, 0, none⟩), .map (some w1.heap.size)] 62 (0, 0)) ∧ Hd.Bk w.heap.size W pb mb (Hd.clampA hold) (fun _ => 0) 0 ∧ Mp W w1.heap.size 0 (fun _ => 0) ∧ mb ≠ w1.heap.size ∧ w.heap.size ≤ w1.heap.size ∧ Rg.Kept (fun k _ => k = p) w W := by
  have hp := (Array.getElem?_eq_some_iff.1 hb).1
  have hp1 := (hb1.block p hp).trans hb
  have e1 : (w1.setCell ⟨p, 3, none⟩ (.pointer (some ⟨pb, 0, none⟩))).heap[p]? = some (.cells #[.int .i64 node, .int .i64 hold, x2, .pointer (some ⟨pb, 0, none⟩), x4] 62 (0, 0)) := by rw [heap_setCell_same _ _ _ _ _ _ hp1]; rfl
  have e2 : ((w1.setCell ⟨p, 3, none⟩ (.pointer (some ⟨pb, 0, none⟩))).setCell ⟨p, 4, none⟩ (.map (some w1.heap.size))).heap[p]? = some (.cells #[.int .i64 node, .int .i64 hold, x2, .pointer (some ⟨pb, 0, none⟩), .map (some w1.heap.size)] 62 (0, 0)) := by rw [heap_setCell_same _ _ _ _ _ _ e1]; rfl
  have hs : ((w1.setCell ⟨p, 3, none⟩ (.pointer (some ⟨pb, 0, none⟩))).setCell ⟨p, 4, none⟩ (.map (some w1.heap.size))).heap.size = w1.heap.size := by simp
  have k1 : Rg.Kept (fun k _ => k = p) w1 (((w1.setCell ⟨p, 3, none⟩ (.pointer (some ⟨pb, 0, none⟩))).setCell ⟨p, 4, none⟩ (.map (some w1.heap.size))).alloc (.map #[] 0)) :=
    ((Rg.Kept.setCell (a := ⟨p, 3, none⟩) _ (fun _ => rfl)).trans (Rg.Kept.setCell (a := ⟨p, 4, none⟩) _ (fun _ => rfl))).trans (Rg.Kept.alloc _)
  have h2 := kb.2.1
  have h3 := kb.2.2.1
  refine ⟨_, rfl, (Below.heap_alloc _ _ _ (Array.getElem?_eq_some_iff.1 e2).1).trans e2, kb.kept k1 (fun _ e => by omega) (fun _ e => by omega), ?_, Nat.ne_of_lt kb.ltb, hb1.size, (Rg.Kept.of_below hb1).trans k1⟩
  have := World.ownsMap_made (H := Unit) (P := Tryz.prog) (k := 3) (R := plainElem Tryz.prog 3) ((w1.setCell ⟨p, 3, none⟩ (.pointer (some ⟨pb, 0, none⟩))).setCell ⟨p, 4, none⟩ (.map (some w1.heap.size)))
  rw [hs] at this
  exact ⟨_, this, Hd.Fits.new⟩
theorem sforget_any {w : World} {p : Nat} {node hold : Int} {x2 x3 x4 : Value} (hb : w.heap[p]? = some (.cells #[.int .i64 node, .int .i64 hold, x2, x3, x4] 62 (0, 0))) :
    Calls Tryz.prog 22 #[.pointer (some ⟨p, 0, none⟩)] w fun e w' => (∃ x, e = .returned x) ∧ ∃ pb mb sb,
      w'.heap[p]? = some (.cells #[.int .i64 node, .int .i64 hold, x2, .pointer (some ⟨pb, 0, none⟩), .map (some sb)] 62 (0, 0)) ∧ Hd.Bk w.heap.size w' pb mb (Hd.clampA hold) (fun _ => 0) 0 ∧ Mp w' sb 0 (fun _ => 0) ∧ mb ≠ sb ∧ w.heap.size ≤ sb ∧ Rg.Kept (fun k _ => k = p) w w' := by
  have c1 : w.cell? ⟨p, 1, none⟩ = some (.int .i64 hold) := by rw [cell_of hb]; rfl
  have HB := hide hb
  have hmm := @run_makeMap Tryz.prog
  clear hb
  go_enter Tryz.func22, Tryz.ntmps22
  go_wp2_with fail
  refine (Hd.new_any hold w).mono ?_
  rintro e w1 ⟨pb, mb, rfl, kb, hb1⟩
  have hp1 := (hb1.block p (Array.getElem?_eq_some_iff.1 HB.out).1).trans HB.out
  have c3 : w1.cell? ⟨p, 3, none⟩ = some x3 := by rw [cell_of hp1]; rfl
  have c4 : w1.cell? ⟨p, 4, none⟩ = some x4 := by rw [cell_of hp1]; rfl
  have f3 : w1.frozen? ⟨p, 3, none⟩ = false := frozen_of_row _ _ _ _ _ hp1
  have f4 : w1.frozen? ⟨p, 4, none⟩ = false := frozen_of_row _ _ _ _ _ hp1
  have hlt : p < w1.heap.size := (Array.getElem?_eq_some_iff.1 hp1).1
  have KB := hide kb
  have HB1 := hide hb1
  have HP1 := hide hp1
  clear kb hb1 hp1 c1
  obtain ⟨W, hW, FIN⟩ := forget_fin HB.out KB.out HB1.out
  have HF := hide FIN
  clear FIN
  go_wp2
  go_end0
  rw [← hW]
  exact ⟨⟨_, rfl⟩, pb, mb, w1.heap.size, HF.out⟩
end Go.Proofs.YtdbmnjodkpeobaaGreatDoor
