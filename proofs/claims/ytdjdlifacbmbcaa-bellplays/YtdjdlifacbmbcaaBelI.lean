/-
  Contracts: the keys of a map, sorted; bell's Ids: an iterator over who has a bell, rising.
-/
import Derived.Test.YtdjdlifacbmbcaaBelT
import Derived.Test.YtdjdlifacbmbcaaStrs
import Derived.Test.YtdjdlifacbmbcaaKey
import Derived.Maps.OwnIn
namespace Go.Proofs.Ytdjdlifacbmbcaa
open Go.ChangeShapes Go.WideShapes Go.ChangeAt Go.RowKit Go.Shelf Go.Maps Go.Sort

theorem sortsA (m : Nat) : AnyZI.SortsIn Try.prog Try.sortedA_ren Fence.wide m :=
  ⟨fun blk off cap ss W hH hblk hsz => callsIn_wide.2 (AnyM.slices_Sort_int Try.sortA blk off cap ss W hH hblk hsz),
   fun p cap W => callsIn_wide.2 (AnyM.slices_Sort_int_none Try.sortA p cap W)⟩
theorem keyscall (mb : Option Nat) (W : World) : CallsIn Fence.wide 5 Try.prog 28 #[.map mb] W fun e w' => e = .returned (.func (.func 33) #[] #[.pointer (some ⟨W.heap.size, 0, none⟩)]) ∧ w' = W.alloc (.cells #[.map mb] 41) :=
  AnyZI.keys_in Try.keysA Fence.wide 5 trivial rfl mb W
/-- What slices.Sorted tells of them. -/
theorem sortedcall {b n : Nat} {D : DataW Unit} {w : World} (hown : w.ownsMap Try.prog 3 (plainElem Try.prog 3) b n D) (hn : n ≤ 1000000) :
    CallsIn Fence.wide 5 Try.prog 27 #[.func (.func 33) #[] #[.pointer (some ⟨w.heap.size, 0, none⟩)]] (w.alloc (.cells #[.map (some b)] 41)) fun e w' => ∃ (v : Value) (ss : List Int), e = .returned v ∧ ss.Perm (intKeys D) ∧
      w'.ownsRow (w.alloc (.cells #[.map (some b)] 41)).heap.size 3 1 v ss.length ((ss.mergeSort (fun x y => decide (x ≤ y))).map encZ) ∧ (v = .slice none 0 0 ↔ ss = []) ∧ Below (w.alloc (.cells #[.map (some b)] 41)).heap.size (w.alloc (.cells #[.map (some b)] 41)) w' := by
  have hsz := hown.size_le
  have hseq : SeqGives Fence.wide 2 Try.prog 33 #[.pointer (some ⟨w.heap.size, 0, none⟩)] encZ (fun ss => ss.Perm (intKeys D)) (Maps.size D) (w.alloc (.cells #[.map (some b)] 41)) :=
    AnyZI.keys_gives (ρ := Try.keysA_ren) { Try.keysA with } Fence.wide _ trivial rfl (by omega) w.heap.size b n D _ (by simp) (by simp) (hown.alloc _)
  exact AnyZI.sorted_in Try.sortedA Fence.wide 5 trivial trivial trivial trivial rfl (by omega) (sortsA _) (enters_of Try.func32 (by kernel_rfl) rfl) 33 #[.pointer (some ⟨w.heap.size, 0, none⟩)] trivial (enters_of Try.func33 (by kernel_rfl) rfl) _ _ (by unfold maxLen; omega) (by omega) _ hseq
theorem sortednil (w : World) :
    CallsIn Fence.wide 5 Try.prog 27 #[.func (.func 33) #[] #[.pointer (some ⟨w.heap.size, 0, none⟩)]] (w.alloc (.cells #[.map none] 41)) fun e w' => ∃ (v : Value) (ss : List Int), e = .returned v ∧ ss = [] ∧
      w'.ownsRow (w.alloc (.cells #[.map none] 41)).heap.size 3 1 v ss.length ((ss.mergeSort (fun x y => decide (x ≤ y))).map encZ) ∧ (v = .slice none 0 0 ↔ ss = []) ∧ Below (w.alloc (.cells #[.map none] 41)).heap.size (w.alloc (.cells #[.map none] 41)) w' := by
  have hseq : SeqGives Fence.wide 2 Try.prog 33 #[.pointer (some ⟨w.heap.size, 0, none⟩)] encZ (fun ss : List Int => ss = []) 0 (w.alloc (.cells #[.map none] 41)) :=
    AnyZI.keys_gives_nil (ρ := Try.keysA_ren) { Try.keysA with } Fence.wide _ trivial rfl w.heap.size _ (by simp) (by simp)
  exact AnyZI.sorted_in Try.sortedA Fence.wide 5 trivial trivial trivial trivial rfl (by omega) (sortsA _) (enters_of Try.func32 (by kernel_rfl) rfl) 33 #[.pointer (some ⟨w.heap.size, 0, none⟩)] trivial (enters_of Try.func33 (by kernel_rfl) rfl) _ _ (by unfold maxLen; omega) (by omega) _ hseq
theorem keys_bells {b n : Nat} {D : DataW Unit} {w : World} {h : Int → Int} (hown : w.ownsMap Try.prog 3 (plainElem Try.prog 3) b n D) (f : FitB D h) (hat : ∀ x, h x ≠ 0 → 1 ≤ x ∧ x ≤ 999) {ss : List Int} (hp : ss.Perm (intKeys D)) :
    ss.mergeSort (fun x y => decide (x ≤ y)) = idsL h ∧ ss.length = (idsL h).length := by
  have hr2 : (idsL h).Pairwise (· < ·) := idsTo_rise h 1000
  have hC : CollectedI D (fun _ => false) (idsL h) := ⟨hr2.imp (fun h => by omega), fun x => by rw [mem_idsL hat, (f.2 x).2]; simp⟩
  have hq : ss.Perm (idsL h) := hp.trans (hC.perm hown lawI Try.underlying3 (fun _ => rfl)).symm
  refine ⟨?_, hq.length_eq⟩
  refine (mergeSort_of_perm_i hq).trans (List.mergeSort_of_pairwise ?_)
  exact hr2.imp (fun h => by simp; omega)
/-- Whether the map was made or not. -/
theorem sortedids {E : Nat → Prop} {w : World} {p : Nat} {t : Int} {h : Int → Int} {n : Nat} {mv : Value} (k : BtV E w p t h n mv) (g : GoodT t h) (hn : n ≤ 1000000) :
    ∃ mb, mv = .map mb ∧ CallsIn Fence.wide 5 Try.prog 27 #[.func (.func 33) #[] #[.pointer (some ⟨w.heap.size, 0, none⟩)]] (w.alloc (.cells #[.map mb] 41)) fun e w' => ∃ v : Value, e = .returned v ∧
      w'.ownsRow (w.alloc (.cells #[.map mb] 41)).heap.size 3 1 v (idsL h).length ((idsL h).map (Value.int .i64)) ∧ Below (w.alloc (.cells #[.map mb] 41)).heap.size (w.alloc (.cells #[.map mb] 41)) w' := by
  rcases k.2 with ⟨rfl, rfl⟩ | ⟨b, rfl, _, D, hown, hf⟩
  · refine ⟨none, rfl, (sortednil w).mono ?_⟩
    rintro e w' ⟨v, ss, rfl, rfl, hrow, -, hb⟩
    rw [idsL_zero]
    exact ⟨v, rfl, by simpa using hrow, hb⟩
  · refine ⟨some b, rfl, (sortedcall hown hn).mono ?_⟩
    rintro e w' ⟨v, ss, rfl, hp, hrow, -, hb⟩
    obtain ⟨e1, e2⟩ := keys_bells hown hf g.at_ hp
    rw [e1, e2] at hrow
    exact ⟨v, rfl, hrow, hb⟩
theorem beach_any (a : Option Addr) (l c : Nat) (w : World) :
    Calls Try.prog 26 #[.slice a l c] w fun e w' => e = .returned (.func (.func 29) #[] #[.pointer (some ⟨w.heap.size, 0, none⟩)]) ∧ w' = w.alloc (.cells #[.slice a l c] 33) := by
  go_enter Try.func26, Try.ntmps26
  go_wp2
  go_ret
  exact ⟨rfl, rfl⟩
theorem vals_any (a : Option Addr) (l c : Nat) (w : World) :
    Calls Try.prog 30 #[.slice a l c] w fun e w' => e = .returned (.func (.func 34) #[] #[.pointer (some ⟨w.heap.size, 0, none⟩)]) ∧ w' = w.alloc (.cells #[.slice a l c] 33) := by
  go_enter Try.func30, Try.ntmps30
  go_wp2
  go_ret
  exact ⟨rfl, rfl⟩

/-- The row in the box at Bi reads as L. -/
def ItV (w : World) (Bi : Nat) (L : List Int) (v : Value) : Prop :=
  w.heap[Bi]? = some (.cells #[v] 33 (0, 0)) ∧ ∃ B, w.ownsRow B 3 1 v L.length (L.map (Value.int .i64))
/-- What Ids hands back: an iterator over L; its box and its row have come behind w. -/
def SeqV (w : World) (L : List Int) (e : Ending) (w' : World) : Prop :=
  ∃ Bi v, e = .returned (.func (.func 29) #[] #[.pointer (some ⟨Bi, 0, none⟩)]) ∧ Below w.heap.size w w' ∧ ItV w' Bi L v ∧ (w.heap.size ≤ Bi ∧ Bi < w'.heap.size) ∧ ∀ k, v.ownBlock = some k → w.heap.size ≤ k ∧ k < w'.heap.size
set_option maxHeartbeats 1000000 in
theorem bids_any {B : Nat} {E : Nat → Prop} {w : World} {p : Nat} {t : Int} {h : Int → Int} {n : Nat} (k : Bt B E w p t h n) (hn : n ≤ 1000000) :
    Calls Try.prog 25 #[.pointer (some ⟨p, 0, none⟩)] w (SeqV w (idsL h)) := by
  obtain ⟨-, -, hg, mv, hv⟩ := k
  have c1 := hv.cellM
  obtain ⟨mb, rfl, cS⟩ := sortedids hv hg hn
  refine (callsIn_wide (n := 6)).1 ?_
  have hfK : Fence.wide.fn 28 := trivial
  have hfS : Fence.wide.fn 27 := trivial
  have hfE : Fence.wide.fn 26 := trivial
  have cE : ∀ (a : Option Addr) (l c : Nat) (W : World), CallsIn Fence.wide 5 Try.prog 26 #[.slice a l c] W _ := fun a l c W => callsIn_wide.2 (beach_any a l c W)
  refine callsIn_of_wp Try.func25 rfl trivial ?_ rfl
  simp only [Try.ntmps25, List.size_toArray, List.length_cons, List.length_nil, Nat.reduceAdd, Nat.reduceSub, Array.replicate_succ, Array.replicate_zero, List.push_toArray, List.append_toArray, List.nil_append, List.cons_append]
  gi_wp2_with (first
    | (gi_at_call 28; refine (keyscall _ _).mono ?_; rintro e w' ⟨rfl, rfl⟩)
    | (gi_at_call 27; refine cS.mono ?_; rintro e w1 ⟨v, rfl, hrow, hb⟩; obtain ⟨a1, n1, rfl, -⟩ := row_slice hrow; clear cS)
    | (gi_at_call 26; refine (cE _ _ _ _).mono ?_; rintro e w2 ⟨rfl, rfl⟩))
  go_ret
  have hsz : w.heap.size ≤ w1.heap.size := by have := hb.size; simp at this; omega
  have hr2 := hrow.alloc (.cells #[.slice a1 (idsL h).length n1] 33)
  exact ⟨_, _, rfl, ((Below.refl _ w).alloc (Nat.le_refl _) _).trans ((hb.mono (by simp)).alloc hsz _), ⟨World.alloc_heap_new _ _, _, hr2⟩, ⟨hsz, by simp⟩, fun k e => ⟨by have := (hr2.lt k e).1; simp at this; omega, (hr2.lt k e).2⟩⟩
set_option maxHeartbeats 1000000 in
theorem bidsnil_any (w : World) : Calls Try.prog 25 #[.pointer none] w (SeqV w []) := by
  go_enter Try.func25, Try.ntmps25
  go_wp2_with (go_at_call 26; refine (beach_any _ _ _ _).mono ?_; rintro e w2 ⟨rfl, rfl⟩)
  go_ret
  exact ⟨_, _, rfl, (Below.refl _ w).alloc (Nat.le_refl _) _, ⟨World.alloc_heap_new _ _, w.heap.size, World.ownsRow_nil _ _ _ _⟩, ⟨Nat.le_refl _, by simp⟩, fun k e => by simp [Value.ownBlock] at e⟩
end Go.Proofs.Ytdjdlifacbmbcaa
