/-
  The reference's tally in memory; contracts of its NewTally, Close, Outcome.
-/
import Derived.Test.YtlnmjoolbifgjaaTlyW
namespace Go.Proofs.Ytlnmjoolbifgjaa
open Go.ChangeShapes Go.WideShapes Go.ChangeAt Go.RowKit

/-- What each said, in the reference's words. -/
structure Rel (t : Ta) (s : Nat → Int) (cl : Bool) : Prop where
  may : ∀ i, i < t.n → s i = 0 ∨ s i = 1 ∨ s i = 2
  yes : ∀ i, i < t.n → (s i = 1 ↔ t.y i = true)
  dec : t.d = true ↔ (cl = true ∨ (∃ i, i < t.n ∧ s i = 2) ∨ t.f = true)
def row (n : Nat) (s : Nat → Int) : List Value := (List.range n).map (fun k : Nat => .int .i64 (s k))
theorem row_len (n : Nat) (s : Nat → Int) : (row n s).length = n := by simp [row]
theorem row_get {n : Nat} (s : Nat → Int) {i : Nat} (h : i < n) : (row n s)[i]? = some (.int .i64 (s i)) := by simp [row, h]
def updI (s : Nat → Int) (i : Nat) (v : Int) : Nat → Int := fun k => if k = i then v else s k
theorem row_put (n : Nat) (s : Nat → Int) (i : Nat) (v : Int) : (row n s).set i (.int .i64 v) = row n (updI s i v) := by
  apply List.ext_getElem?
  intro k
  rw [List.getElem?_set, row_len]
  by_cases h : k < n
  · rw [row_get _ h, row_get _ h]
    unfold updI
    by_cases e : i = k
    · subst e; rw [if_pos rfl, if_pos h, if_pos rfl]
    · rw [if_neg e, if_neg (fun h => e h.symm)]
  · have e1 : ∀ s : Nat → Int, (row n s)[k]? = none := fun s => List.getElem?_eq_none (by rw [row_len]; omega)
    rw [e1, e1]
    split
    · rw [if_neg (by omega)]
    · rfl
/-- The reference's tally at q, its row at b. -/
def Rt0 (B : Nat) (w : World) (q b : Nat) (n : Nat) (s : Nat → Int) (cl : Bool) : Prop :=
  w.heap[q]? = some (.cells #[.slice (some ⟨b, 0, none⟩) n n, .bool cl] 46 (0, 0)) ∧ w.heap[b]? = some (.cells (row n s).toArray 3 (0, 0)) ∧ B ≤ q ∧ B ≤ b
def Rt (B : Nat) (w : World) (q b : Nat) (t : Ta) : Prop := ∃ s cl, Rt0 B w q b t.n s cl ∧ Rel t s cl ∧ t.good
def Own2 (q b : Nat) (k : Nat) (_ : Obj) : Prop := k = q ∨ k = b
theorem Rt0.ne {B : Nat} {w : World} {q b n : Nat} {s : Nat → Int} {cl : Bool} (k : Rt0 B w q b n s cl) : q ≠ b := fun e => by
  obtain ⟨h1, h2, -⟩ := k
  rw [← e, h1] at h2
  simp only [Option.some.injEq, Obj.cells.injEq] at h2
  exact absurd h2.2.1 (by decide)
theorem Rt0.cells {B : Nat} {w : World} {q b n : Nat} {s : Nat → Int} {cl : Bool} (k : Rt0 B w q b n s cl) : w.cell? ⟨q, 0, none⟩ = some (.slice (some ⟨b, 0, none⟩) n n) ∧ w.cell? ⟨q, 1, none⟩ = some (.bool cl) := by
  refine ⟨?_, ?_⟩ <;> (rw [cell_of k.1]; rfl)
theorem Rt0.cellI {B : Nat} {w : World} {q b n : Nat} {s : Nat → Int} {cl : Bool} (k : Rt0 B w q b n s cl) {i : Nat} (hi : i < n) : w.cell? ⟨b, i, none⟩ = some (.int .i64 (s i)) := by
  rw [cell_of k.2.1, List.getElem?_toArray]; exact row_get _ hi
theorem Rt0.kept {B : Nat} {w w' : World} {q b n : Nat} {s : Nat → Int} {cl : Bool} {E : Nat → Obj → Prop} (k : Rt0 B w q b n s cl) (hk : Rg.Kept E w w') (hq : ∀ o, ¬ E q o) (hb : ∀ o, ¬ E b o) : Rt0 B w' q b n s cl := ⟨hk.block _ _ k.1 (hq _), hk.block _ _ k.2.1 (hb _), k.2.2⟩
theorem Rt0.on {B : Nat} {w w' : World} {q b n : Nat} {s : Nat → Int} {cl : Bool} (k : Rt0 B w q b n s cl) (hb : Below w.heap.size w w') : Rt0 B w' q b n s cl := k.kept (E := fun _ _ => False) (Rg.Kept.of_below hb) (fun _ h => h) (fun _ h => h)
theorem Rt0.lts {B : Nat} {w : World} {q b n : Nat} {s : Nat → Int} {cl : Bool} (k : Rt0 B w q b n s cl) : q < w.heap.size ∧ b < w.heap.size := ⟨(Array.getElem?_eq_some_iff.1 k.1).1, (Array.getElem?_eq_some_iff.1 k.2.1).1⟩
theorem Rt.kept {B : Nat} {w w' : World} {q b : Nat} {t : Ta} {E : Nat → Obj → Prop} (k : Rt B w q b t) (hk : Rg.Kept E w w') (hq : ∀ o, ¬ E q o) (hb : ∀ o, ¬ E b o) : Rt B w' q b t := by
  obtain ⟨s, cl, h, r⟩ := k
  exact ⟨s, cl, h.kept hk hq hb, r⟩
theorem Rt.on {B : Nat} {w w' : World} {q b : Nat} {t : Ta} (k : Rt B w q b t) (hb : Below w.heap.size w w') : Rt B w' q b t := k.kept (E := fun _ _ => False) (Rg.Kept.of_below hb) (fun _ h => h) (fun _ h => h)
theorem Rt.lts {B : Nat} {w : World} {q b : Nat} {t : Ta} (k : Rt B w q b t) : q < w.heap.size ∧ b < w.heap.size := by
  obtain ⟨s, cl, h, r⟩ := k
  exact h.lts
theorem Rt.low {B : Nat} {w : World} {q b : Nat} {t : Ta} (k : Rt B w q b t) : B ≤ q ∧ B ≤ b := by
  obtain ⟨s, cl, h, r⟩ := k
  exact h.2.2
theorem Rt.bel {B : Nat} {w w' : World} {q b : Nat} {t : Ta} (k : Rt B w q b t) (hk : Rg.Kept (Own2 q b) w w') : Below B w w' :=
  hk.bel (by have := k.lts; have := k.low; omega) (fun i _ e => by have := k.low; rcases e with e | e <;> omega)
theorem Rt.mono {B B' : Nat} {w : World} {q b : Nat} {t : Ta} (k : Rt B w q b t) (h : B' ≤ B) : Rt B' w q b t := by
  obtain ⟨s, cl, ⟨h1, h2, h3, h4⟩, r⟩ := k
  exact ⟨s, cl, ⟨h1, h2, Nat.le_trans h h3, Nat.le_trans h h4⟩, r⟩
theorem Try.infoInt : (Try.prog.info? 3).map (fun i => (i.zero, i.size, i.bytes)) = some (some (.int .i64 0), 1, 8) := by kernel_rfl
theorem made_row (n : Nat) : madeCells (Value.int .i64 0).cells n = (row n (fun _ => 0)).toArray := by
  apply Array.ext'
  unfold madeCells row
  simp
  intro a _
  have e : (Value.int .i64 0).cells = #[.int .i64 0] := rfl
  rw [e]
  simp [Nat.mod_one]
theorem make_row {n : Nat} (hn : n ≤ 64) (W : World) : (Instr.makeSlice 33 (.int .i64 (n : Int)) (.int .i64 (n : Int))).run Try.prog W = .ok (.slice (some ⟨W.heap.size, 0, none⟩) n n) (W.alloc (.cells (row n (fun _ => 0)).toArray 3)) := by
  obtain ⟨i0, hi, hz0, hz1, hz2⟩ := info_parts Try.infoInt
  rw [run_makeSlice (P := Try.prog) W 33 3 i0 _ Try.underlying33 hi hz0 .i64 .i64 (n : Int) (n : Int) (by omega) (Int.le_refl _) (by rw [hz1]; simp; omega) (by rw [hz2]; omega) (by omega), hz1]
  rw [Int.toNat_natCast, Nat.mul_one, made_row]
theorem rel_new (n : Nat) (h : 1 ≤ n) : Rel (newT n) (fun _ => 0) false :=
  ⟨fun _ _ => .inl rfl, fun i _ => by unfold newT; simp, by rw [newT_f h]; unfold newT; simp⟩
set_option maxHeartbeats 1000000 in
theorem rnew_any (n : Int) (w : World) : Calls Try.prog 8 #[.int .i64 n] w fun e w' => ∃ q b, e = .returned (.pointer (some ⟨q, 0, none⟩)) ∧ Rt w.heap.size w' q b (newT (cutN n)) ∧ Below w.heap.size w w' := by
  have key : Rt w.heap.size ((w.alloc (.cells (row (cutN n) (fun _ => 0)).toArray 3)).alloc (.cells #[.slice (some ⟨w.heap.size, 0, none⟩) (cutN n) (cutN n), .bool false] 46)) (w.heap.size + 1) w.heap.size (newT (cutN n)) ∧ Below w.heap.size w ((w.alloc (.cells (row (cutN n) (fun _ => 0)).toArray 3)).alloc (.cells #[.slice (some ⟨w.heap.size, 0, none⟩) (cutN n) (cutN n), .bool false] 46)) := by
    refine ⟨⟨fun _ => 0, false, ⟨?_, ?_, by omega, by omega⟩, rel_new _ (cutN_bd n).1, newT_good (cutN_bd n)⟩, ((Below.refl _ _).alloc (Nat.le_refl _) _).alloc (by simp) _⟩
    · have h := World.alloc_heap_new (w.alloc (.cells (row (cutN n) (fun _ => 0)).toArray 3)) (.cells #[.slice (some ⟨w.heap.size, 0, none⟩) (cutN n) (cutN n), .bool false] 46)
      rw [World.size_alloc] at h
      exact h
    · exact (Below.heap_alloc _ _ _ (by simp)).trans (World.alloc_heap_new w _)
  have hm := make_row (cutN_bd n).2
  obtain ⟨t, ht⟩ : ∃ t, newT (cutN n) = t := ⟨_, rfl⟩
  rw [ht] at key ⊢
  clear ht
  have HE : Hid ((if n ≤ 1 then (1 : Int) else if 64 < n then 64 else n) = cutN n) := by show _ = _; unfold cutN; repeat (first | omega | split)
  generalize cutN n = c at key hm HE
  have KK := hide key
  clear key
  by_cases a : n ≤ 1
  · have e := HE.out
    rw [if_pos a] at e
    clear HE
    obtain rfl : c = 1 := by omega
    clear e
    have hm1 := hm w
    rw [show ((1 : Nat) : Int) = 1 from rfl] at hm1
    clear hm
    go_enter Try.func8, Try.ntmps8
    go_wp2
    go_ret
    exact ⟨_, rfl, ⟨_, KK.out.1⟩, KK.out.2⟩
  · by_cases b : 64 < n
    · have e := HE.out
      rw [if_neg a, if_pos b] at e
      clear HE
      obtain rfl : c = 64 := by omega
      clear e
      have hm1 := hm w
      rw [show ((64 : Nat) : Int) = 64 from rfl] at hm1
      clear hm
      generalize (row 64 (fun _ => 0)).toArray = cs at hm1 KK
      go_enter Try.func8, Try.ntmps8
      go_wp2
      go_ret
      exact ⟨_, rfl, ⟨_, KK.out.1⟩, KK.out.2⟩
    · have e := HE.out
      rw [if_neg a, if_neg b] at e
      clear HE
      subst e
      have hm1 := hm w
      clear hm
      generalize (row c (fun _ => 0)).toArray = cs at hm1 KK
      go_enter Try.func8, Try.ntmps8
      go_wp2
      go_ret
      exact ⟨_, rfl, ⟨_, KK.out.1⟩, KK.out.2⟩
theorem rclose_any {B : Nat} {w : World} {q b : Nat} {t : Ta} (k : Rt B w q b t) :
    Calls Try.prog 10 #[.pointer (some ⟨q, 0, none⟩)] w fun e w' => e = .returned (.tuple #[]) ∧ Rt B w' q b t.close ∧ Rg.Kept (Own2 q b) w w' := by
  obtain ⟨s, cl, h, r, g⟩ := k
  obtain ⟨-, c1⟩ := h.cells
  have f1 : w.frozen? ⟨q, 1, none⟩ = false := frozen_of_row _ _ _ _ _ h.1
  have KK : Hid (Rt B (w.setCell ⟨q, 1, none⟩ (.bool true)) q b t.close ∧ Rg.Kept (Own2 q b) w (w.setCell ⟨q, 1, none⟩ (.bool true))) := by
    refine ⟨⟨s, true, ⟨?_, ?_, h.2.2⟩, ⟨r.may, r.yes, by simp [Ta.close]⟩, g.close⟩, Rg.Kept.setCell _ (fun _ => .inl rfl)⟩
    · rw [heap_setCell_same _ _ _ _ _ _ h.1]; rfl
    · rw [Below.heap_setCell _ _ _ _ (show b ≠ (⟨q, 1, none⟩ : Addr).block from fun e => h.ne e.symm)]
      exact h.2.1
  clear h r g
  go_enter Try.func10, Try.ntmps10
  go_wp2
  go_end0
  exact ⟨rfl, KK.out⟩
end Go.Proofs.Ytlnmjoolbifgjaa
