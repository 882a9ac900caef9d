/-
  Contract of keeper's Ids: an iterator over who is known, rising.
-/
import Derived.Test.YtepclljoiccieaaGreatDoorSgcgkjko
import Derived.Test.YtepclljoiccieaaGreatDoorSgigalom
namespace Go.Proofs.YtepclljoiccieaaGreatDoor
open Go.ChangeShapes Go.WideShapes Go.ChangeAt Go.RowKit Go.Shelf Go.Maps Go.Sort

set_option maxHeartbeats 1000000 in
theorem kids_any {B : Nat} {E : Nat → Prop} {w : World} {p : Nat} {v : Kv} {n q : Nat} {r : Value} {pb mb mc sb : Nat} (k : KdV B E w p v n q r pb mb mc sb) (hg : GoodKt v.st) (hn : n ≤ 1000000) :
    Calls Tryz.prog 63 #[.pointer (some ⟨p, 0, none⟩)] w fun e w' => ∃ Bi, e = .returned (.func (.func 118) #[] #[.pointer (some ⟨Bi, 0, none⟩)]) ∧ Below w.heap.size w w' ∧ Hd.EachAt w.heap.size w'.heap.size w' Bi (Hd.idsL v.st.s) := by
  obtain ⟨c0, c1, c2, c3, c4⟩ := k.cells
  obtain ⟨D, hown, hf⟩ := k.mp
  clear k c0 c1 c2 c3
  refine (callsIn_wide (n := 6)).1 ?_
  have cS := Hd.sortedcall hown hn
  have hfK : Fence.wide.fn 98 := trivial
  have hfS : Fence.wide.fn 97 := trivial
  have hfE : Fence.wide.fn 96 := trivial
  have cE : ∀ (a : Option Addr) (l c : Nat) (W : World), CallsIn Fence.wide 5 Tryz.prog 96 #[.slice a l c] W _ := fun a l c W => callsIn_wide.2 (Hd.each_any a l c W)
  refine callsIn_of_wp Tryz.func63 rfl trivial ?_ rfl
  simp only [Tryz.ntmps63, List.size_toArray, List.length_cons, List.length_nil, Nat.reduceAdd, Nat.reduceSub, Array.replicate_succ, Array.replicate_zero, List.push_toArray, List.append_toArray, List.nil_append, List.cons_append]
  gi_wp2_with (first
    | (gi_at_call 98; refine (Hd.keyscall _ _).mono ?_; rintro e w' ⟨rfl, rfl⟩)
    | (gi_at_call 97; refine cS.mono ?_; rintro e w1 ⟨vv, ss, rfl, hS, hrow, hnil, hb⟩; obtain ⟨a1, n1, rfl, -⟩ := row_slice hrow; clear cS)
    | (gi_at_call 96; refine (cE _ _ _ _).mono ?_; rintro e w2 ⟨rfl, rfl⟩))
  go_ret
  obtain ⟨e1, e2⟩ := Hd.keys_ids hown hf (fun x => (hg.s x).2) hS
  rw [e1, e2] at hrow
  have hsz : w.heap.size ≤ w1.heap.size := by have := hb.size; simp at this; omega
  have hr2 := hrow.alloc (.cells #[.slice a1 (Hd.idsL v.st.s).length n1] 22)
  rw [e2]
  exact ⟨_, rfl, ((Below.refl _ w).alloc (Nat.le_refl _) _).trans ((hb.mono (by simp)).alloc hsz _), _, ⟨hsz, by simp⟩, World.alloc_heap_new _ _, ownsRow_base_a hr2 (by simp), fun k e => (hr2.lt k e).2⟩
end Go.Proofs.YtepclljoiccieaaGreatDoor
