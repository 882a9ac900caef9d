/-
  Contracts: the keys of a map, sorted; hold's Ids: an iterator over who holds some, rising.
-/
import Derived.Test.YtbdmphcmmilajaaHldT
import Derived.Test.YtbdmphcmmilajaaStrs
import Derived.Test.YtbdmphcmmilajaaKey
import Derived.Maps.OwnIn
namespace Go.Proofs.Ytbdmphcmmilajaa
open Go.ChangeShapes Go.WideShapes Go.ChangeAt Go.RowKit Go.Shelf Go.Maps Go.Sort

theorem sortsA (m : Nat) : AnyZI.SortsIn Try.prog Try.sortedA_ren Fence.wide m :=
  ⟨fun blk off cap ss W hH hblk hsz => callsIn_wide.2 (AnyM.slices_Sort_int Try.sortA blk off cap ss W hH hblk hsz),
   fun p cap W => callsIn_wide.2 (AnyM.slices_Sort_int_none Try.sortA p cap W)⟩
theorem keyscall (mb : Option Nat) (W : World) : CallsIn Fence.wide 5 Try.prog 30 #[.map mb] W fun e w' => e = .returned (.func (.func 34) #[] #[.pointer (some ⟨W.heap.size, 0, none⟩)]) ∧ w' = W.alloc (.cells #[.map mb] 49) :=
  AnyZI.keys_in Try.keysA Fence.wide 5 trivial rfl mb W
/-- What slices.Sorted tells of them. -/
theorem sortedcall {b n : Nat} {D : DataW Unit} {w : World} (hown : w.ownsMap Try.prog 3 (plainElem Try.prog 3) b n D) (hn : n ≤ 1000000) :
    CallsIn Fence.wide 5 Try.prog 29 #[.func (.func 34) #[] #[.pointer (some ⟨w.heap.size, 0, none⟩)]] (w.alloc (.cells #[.map (some b)] 49)) fun e w' => ∃ (v : Value) (ss : List Int), e = .returned v ∧ ss.Perm (intKeys D) ∧
      w'.ownsRow (w.alloc (.cells #[.map (some b)] 49)).heap.size 3 1 v ss.length ((ss.mergeSort (fun x y => decide (x ≤ y))).map encZ) ∧ (v = .slice none 0 0 ↔ ss = []) ∧ Below (w.alloc (.cells #[.map (some b)] 49)).heap.size (w.alloc (.cells #[.map (some b)] 49)) w' := by
  have hsz := hown.size_le
  have hseq : SeqGives Fence.wide 2 Try.prog 34 #[.pointer (some ⟨w.heap.size, 0, none⟩)] encZ (fun ss => ss.Perm (intKeys D)) (Maps.size D) (w.alloc (.cells #[.map (some b)] 49)) :=
    AnyZI.keys_gives (ρ := Try.keysA_ren) { Try.keysA with } Fence.wide _ trivial rfl (by omega) w.heap.size b n D _ (by simp) (by simp) (hown.alloc _)
  exact AnyZI.sorted_in Try.sortedA Fence.wide 5 trivial trivial trivial trivial rfl (by omega) (sortsA _) (enters_of Try.func33 (by kernel_rfl) rfl) 34 #[.pointer (some ⟨w.heap.size, 0, none⟩)] trivial (enters_of Try.func34 (by kernel_rfl) rfl) _ _ (by unfold maxLen; omega) (by omega) _ hseq
theorem keys_ids {b n : Nat} {D : DataW Unit} {w : World} {h : Int → Int} (hown : w.ownsMap Try.prog 3 (plainElem Try.prog 3) b n D) (f : Fits D h) (hat : ∀ x, h x ≠ 0 → 1 ≤ x ∧ x ≤ 999) {ss : List Int} (hp : ss.Perm (intKeys D)) :
    ss.mergeSort (fun x y => decide (x ≤ y)) = idsL h ∧ ss.length = (idsL h).length := by
  have hr2 : (idsL h).Pairwise (· < ·) := idsTo_rise h 1000
  have hC : CollectedI D (fun _ => false) (idsL h) := ⟨hr2.imp (fun h => by omega), fun x => by rw [mem_idsL hat, (f.2 x).2]; simp⟩
  have hq : ss.Perm (idsL h) := hp.trans (hC.perm hown lawI Try.underlying3 (fun _ => rfl)).symm
  refine ⟨?_, hq.length_eq⟩
  refine (mergeSort_of_perm_i hq).trans (List.mergeSort_of_pairwise ?_)
  exact hr2.imp (fun h => by simp; omega)
theorem each_any (a : Option Addr) (l c : Nat) (w : World) :
    Calls Try.prog 28 #[.slice a l c] w fun e w' => e = .returned (.func (.func 31) #[] #[.pointer (some ⟨w.heap.size, 0, none⟩)]) ∧ w' = w.alloc (.cells #[.slice a l c] 35) := by
  go_enter Try.func28, Try.ntmps28
  go_wp2
  go_ret
  exact ⟨rfl, rfl⟩

/-- The iterator at Bi tells L. -/
def EachV (B N : Nat) (w : World) (Bi : Nat) (L : List Int) (v : Value) : Prop :=
  (B ≤ Bi ∧ Bi < N) ∧ w.heap[Bi]? = some (.cells #[v] 35 (0, 0)) ∧ w.ownsRow B 3 1 v L.length (L.map (Value.int .i64)) ∧ ∀ k, v.ownBlock = some k → k < N
def EachAt (B N : Nat) (w : World) (Bi : Nat) (L : List Int) : Prop := ∃ v, EachV B N w Bi L v
set_option maxHeartbeats 1000000 in
theorem ids_any {B : Nat} {w : World} {p b : Nat} {left : Int} {h : Int → Int} {n : Nat} (k : Bk B w p b left h n) (hn : n ≤ 1000000) :
    Calls Try.prog 27 #[.pointer (some ⟨p, 0, none⟩)] w fun e w' => ∃ Bi, e = .returned (.func (.func 31) #[] #[.pointer (some ⟨Bi, 0, none⟩)]) ∧ Below w.heap.size w w' ∧ EachAt w.heap.size w'.heap.size w' Bi (idsL h) := by
  obtain ⟨⟨c0, c1⟩, _⟩ := k.cells
  obtain ⟨_, _, _, hg, D, hown, hf⟩ := k
  refine (callsIn_wide (n := 6)).1 ?_
  have cS := sortedcall hown hn
  have hfK : Fence.wide.fn 30 := trivial
  have hfS : Fence.wide.fn 29 := trivial
  have hfE : Fence.wide.fn 28 := trivial
  have cE : ∀ (a : Option Addr) (l c : Nat) (W : World), CallsIn Fence.wide 5 Try.prog 28 #[.slice a l c] W _ := fun a l c W => callsIn_wide.2 (each_any a l c W)
  refine callsIn_of_wp Try.func27 rfl trivial ?_ rfl
  simp only [Try.ntmps27, List.size_toArray, List.length_cons, List.length_nil, Nat.reduceAdd, Nat.reduceSub, Array.replicate_succ, Array.replicate_zero, List.push_toArray, List.append_toArray, List.nil_append, List.cons_append]
  gi_wp2_with (first
    | (gi_at_call 30; refine (keyscall _ _).mono ?_; rintro e w' ⟨rfl, rfl⟩)
    | (gi_at_call 29; refine cS.mono ?_; rintro e w1 ⟨v, ss, rfl, hS, hrow, hnil, hb⟩; obtain ⟨a1, n1, rfl, -⟩ := row_slice hrow; clear cS)
    | (gi_at_call 28; refine (cE _ _ _ _).mono ?_; rintro e w2 ⟨rfl, rfl⟩))
  go_ret
  obtain ⟨e1, e2⟩ := keys_ids hown hf hg.at_ hS
  rw [e1, e2] at hrow
  have hsz : w.heap.size ≤ w1.heap.size := by have := hb.size; simp at this; omega
  have hr2 := hrow.alloc (.cells #[.slice a1 (idsL h).length n1] 35)
  rw [e2]
  exact ⟨_, rfl, ((Below.refl _ w).alloc (Nat.le_refl _) _).trans ((hb.mono (by simp)).alloc hsz _), _, ⟨hsz, by simp⟩, World.alloc_heap_new _ _, ownsRow_base_a hr2 (by simp), fun k e => (hr2.lt k e).2⟩
set_option maxHeartbeats 1000000 in
theorem idsnil_any (w : World) :
    Calls Try.prog 27 #[.pointer none] w fun e w' => ∃ Bi, e = .returned (.func (.func 31) #[] #[.pointer (some ⟨Bi, 0, none⟩)]) ∧ Below w.heap.size w w' ∧ EachAt w.heap.size w'.heap.size w' Bi [] := by
  go_enter Try.func27, Try.ntmps27
  go_wp2_with (go_at_call 28; refine (each_any _ _ _ _).mono ?_; rintro e w2 ⟨rfl, rfl⟩)
  go_ret
  exact ⟨_, rfl, (Below.refl _ w).alloc (Nat.le_refl _) _, _, ⟨Nat.le_refl _, by simp⟩, World.alloc_heap_new _ _, World.ownsRow_nil _ _ _ _, fun k e => by simp [Value.ownBlock] at e⟩
end Go.Proofs.Ytbdmphcmmilajaa
