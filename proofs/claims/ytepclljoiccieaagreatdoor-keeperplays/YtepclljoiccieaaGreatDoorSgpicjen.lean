/-
  Own texts put together: JrnI, JrnJ.
-/
import Derived.Test.YtepclljoiccieaaGreatDoorSgclpjhi
import Derived.Maps.OwnIn
import Derived.Test.YtepclljoiccieaaGreatDoorSgnjbmek
/-
  Contract: the law's all: what a journal tells, at most n of it.
-/
namespace Go.Proofs.YtepclljoiccieaaGreatDoor
open Go.ChangeShapes Go.WideShapes Go.ChangeAt Go.RowKit Go.Shelf

attribute [local go_sem] Oper.semAt_some

/-- The cells of a row of entries. -/
def evCells (xs : List Ev) : List Value := xs.flatMap fun x => [.string x.k, .int .i64 x.id, .slice x.av x.l.length x.cv]
theorem evCells_len (xs : List Ev) : (evCells xs).length = xs.length * 3 := by
  induction xs with
  | nil => rfl
  | cons x r ih => simp only [evCells, List.flatMap_cons, List.length_append, List.length_cons, List.length_nil] at ih ⊢; omega
theorem evCells_snoc (xs : List Ev) (x : Ev) : evCells (xs ++ [x]) = evCells xs ++ [.string x.k, .int .i64 x.id, .slice x.av x.l.length x.cv] := by simp [evCells]

theorem Tryz.infoEnt : (Tryz.prog.info? 78).map (fun i => (i.zero, i.size, i.bytes)) = some (some (.agg #[.string ByteArray.empty, .int .i64 0, .slice none 0 0]), 3, 48) := by kernel_rfl

/-- What the loop of all has, pre having come: the boxes of l and n, the row, where the numbers lie. -/
def TI (w : World) (n N1 : Nat) (pre : List Ev) (W : World) : Prop :=
  (∃ v, Boxed W (w.heap.size + 1) 81 v ∧ W.ownsRow N1 78 3 v pre.length (evCells pre) ∧ (pre = [] → v = .slice none 0 0)) ∧ Boxed W w.heap.size 3 (.int .i64 (n : Int)) ∧ pre.length ≤ n ∧ (∀ x ∈ pre, Good N1 x W) ∧ Below w.heap.size w W ∧ N1 ≤ W.heap.size

theorem cells_stay {W W' : World} {row : Option Nat} {X : Nat} (hg : W.grownBy W' row) (hr : ∀ r, row = some r → X ≤ r ∧ ∃ o : Obj, W.heap[r]? = some o ∧ o.isCells = false) {k : Nat} {cs : Array Value} {t : TypeId} {f : Nat × Nat} (h : W.heap[k]? = some (.cells cs t f)) : W'.heap[k]? = W.heap[k]? :=
  hg.block k (Array.getElem?_eq_some_iff.1 h).1 (fun e => by
    obtain ⟨_, o, ho, hc⟩ := hr k e.symm
    rw [h] at ho
    cases ho
    cases hc)

theorem Good.own (N1 X : Nat) (x : Ev) : OwnFrom X (fun (_ : Unit) W => Good N1 x W) := fun _ _ _ _ hs hg hr =>
  ⟨hs.1.moveF (fun _ _ ⟨_, hc⟩ => cells_stay hg hr hc), hs.2⟩
theorem TI.own {w : World} {n N1 X : Nat} (hX : w.heap.size ≤ X) : OwnFrom X (TI w n N1) := fun pre W W' row hs hg hr => by
  obtain ⟨⟨v, h1, h2, hnl⟩, h3, h4, h5, h6, h7⟩ := hs
  refine ⟨⟨v, (cells_stay hg hr h1).trans h1, row_stays h2 (fun k cs _ hc => cells_stay hg hr hc), hnl⟩, (cells_stay hg hr h3).trans h3, h4, fun x hx => Good.own N1 X x () W W' row (h5 x hx) hg hr, ?_, Nat.le_trans h7 hg.size⟩
  exact h6.grown hg h6.size (fun k e => Nat.le_trans hX (hr k e).1)

theorem typ_ne1 : 3 ≠ 78 ∧ 3 ≠ 81 ∧ 78 ≠ 81 := by decide

theorem keep_putObj' {B X n₀ n₁ : Nat} {W : World} {l : Nat} (hB : B ≤ X) (hX : X ≤ n₁) (hl : n₁ ≤ l) (o' : Obj) : Keep B n₀ n₁ W (W.putObj l o') :=
  ⟨⟨rfl, rfl, rfl, by simp, fun k hk => World.putObj_heap_other (by omega)⟩, fun k _ hk => World.putObj_heap_other (by omega)⟩

theorem cell_three_new (w : World) (x y z : Value) (t : TypeId) : ∀ j u, [x, y, z][j]? = some u → (w.alloc (.cells #[x, y, z] t)).cell? ((⟨w.heap.size, 0, none⟩ : Addr).add j) = some u := by
  intro j u hj
  rw [st_add, Nat.zero_add]
  have e : (w.alloc (.cells #[x, y, z] t)).heap[w.heap.size]? = some (.cells #[x, y, z] t (0, 0)) := World.alloc_heap_new w _
  rw [cell_of e]
  simpa using hj

theorem Rd.init {xs : List Ev} {x : Ev} {L : List ByteArray} (h : Rd (xs ++ [x]) L) : Rd xs L := fun i y hy => h i y (by
  have : i < xs.length := by
    by_cases hi : i < xs.length
    · exact hi
    · rw [List.getElem?_eq_none (by omega)] at hy; cases hy
  rw [List.getElem?_append_left this]; exact hy)

/-- What all hands back. -/
theorem told_end {w W : World} {n N1 D m : Nat} {xs : List Ev} {L : List ByteArray} {a : Option Addr} {c : Nat} (hN : w.heap.size ≤ N1) (hD : N1 ≤ D) (hK : W.heap[D]? = some (.deferred (some []))) (hrow : W.ownsRow N1 78 3 (.slice a xs.length c) xs.length (evCells xs)) (hT : TI w n N1 xs W) (hnl : xs = [] → Value.slice a xs.length c = .slice none 0 0) (hm : xs.length = m) (hrd : Rd xs L) :
    ∃ xs' a' c', Ending.returned (.slice a xs.length c) = .returned (.slice a' xs'.length c') ∧ xs'.length = m ∧ (xs' = [] → Value.slice a' xs'.length c' = .slice none 0 0) ∧ Rd xs' L ∧ (W.putObj D (.deferred none)).ownsRow w.heap.size 78 3 (.slice a' xs'.length c') xs'.length (evCells xs') ∧ (∀ x ∈ xs', Good w.heap.size x (W.putObj D (.deferred none))) ∧ Below w.heap.size w (W.putObj D (.deferred none)) := by
  obtain ⟨_, _, _, h5, h6, h7⟩ := hT
  have h8 := ownsRow_putObj hrow (.deferred none) hK rfl
  refine ⟨xs, a, c, rfl, hm, hnl, hrd, ⟨h8.1, ?_⟩, fun x hx => ?_, h6.trans ⟨rfl, rfl, rfl, by simp, fun k hk => World.putObj_heap_other (by omega)⟩⟩
  · rcases h8.2 with h | ⟨g, cap, cur, h1, h2, h3⟩
    · exact .inl h
    · exact .inr ⟨g, cap, cur, h1, Nat.le_trans hN h2, h3⟩
  · have hg := (Good.own N1 0 x).putObj (s := ()) (.deferred none) (h5 x hx) (Nat.zero_le D) hK rfl
    exact ⟨hg.1.lower hN, hg.2⟩

/-- An entry appended. -/
theorem told_step {w w0 W w4 : World} {n N1 : Nat} {pre : List Ev} {x : Ev} {v v' : Value} (hBw : w0.heap.size ≤ w.heap.size) (hN1 : w.heap.size + 2 ≤ N1) (hNW : N1 ≤ W.heap.size)
    (hbx : Boxed W (w.heap.size + 1) 81 v) (hrow : W.ownsRow N1 78 3 v pre.length (evCells pre)) (hbn : Boxed W w.heap.size 3 (.int .i64 (n : Int))) (hlt : pre.length < n) (hgd : ∀ y ∈ pre, Good N1 y W) (hB : Below w.heap.size w W) (hgx : Good N1 x W)
    {o : Obj} (hg : (W.alloc o).grownBy w4 v.ownBlock) (hown : w4.ownsRow N1 78 3 v' (pre.length + 1) (evCells pre ++ [.string x.k, .int .i64 x.id, .slice x.av x.l.length x.cv])) :
    Boxed w4 (w.heap.size + 1) 81 v ∧ TI w n N1 (pre ++ [x]) (w4.setCell ⟨w.heap.size + 1, 0, none⟩ v') ∧ KeepsFrom N1 W (w4.setCell ⟨w.heap.size + 1, 0, none⟩ v') ∧ Keep w0.heap.size (w.heap.size + 2) N1 W (w4.setCell ⟨w.heap.size + 1, 0, none⟩ v') := by
  have hvb : ∀ k, v.ownBlock = some k → N1 ≤ k ∧ ∃ cs, W.heap[k]? = some (Obj.cells cs 78 (0, 0)) := fun k e => by
    refine ⟨(hrow.lt k e).1, ?_⟩
    rcases hrow.2 with ⟨rfl, _⟩ | ⟨g, cap, cur, rfl, _, hc, _⟩
    · simp [Value.ownBlock] at e
    · simp [Value.ownBlock] at e; subst e; exact ⟨cur, hc⟩
  have k4 : ∀ k, k < W.heap.size → v.ownBlock ≠ some k → w4.heap[k]? = W.heap[k]? := fun k hk hne => by
    rw [hg.block k (by simp; omega) (fun e => hne e.symm)]
    exact Below.heap_alloc _ _ _ hk
  have hbx4 : Boxed w4 (w.heap.size + 1) 81 v := (k4 _ hbx.lt (fun e => by have := (hvb _ e).1; omega)).trans hbx
  have k5 : ∀ k, k < W.heap.size → v.ownBlock ≠ some k → k ≠ w.heap.size + 1 → (w4.setCell ⟨w.heap.size + 1, 0, none⟩ v').heap[k]? = W.heap[k]? := fun k hk hne hk1 => by
    rw [Below.heap_setCell _ _ _ _ (show k ≠ (⟨w.heap.size + 1, 0, none⟩ : Addr).block from hk1)]
    exact k4 k hk hne
  have ki : ∀ k : Nat, (∃ cs, W.heap[k]? = some (Obj.cells cs 3 (0, 0))) → (w4.setCell ⟨w.heap.size + 1, 0, none⟩ v').heap[k]? = W.heap[k]? := fun k ⟨cs, hc⟩ => by
    refine k5 k (Array.getElem?_eq_some_iff.1 hc).1 (fun e => ?_) (fun e => ?_)
    · obtain ⟨_, cs', hc'⟩ := hvb k e
      rw [hc] at hc'
      simp only [Option.some.injEq, Obj.cells.injEq] at hc'
      exact typ_ne1.1 hc'.2.1
    · subst e
      rw [show W.heap[w.heap.size + 1]? = _ from hbx] at hc
      simp only [Option.some.injEq, Obj.cells.injEq] at hc
      exact typ_ne1.2.1 hc.2.1.symm
  have hsz : W.heap.size ≤ w4.heap.size := by have := hg.size; simp at this; omega
  refine ⟨hbx4, ⟨⟨v', hbx4.set v', ?_, (fun e => by simp at e)⟩, ?_, by simp; omega, ?_, ?_, by simp; omega⟩, ⟨by simpa using hsz, fun k o hk ho hc => ?_⟩, ⟨⟨hg.os, hg.tape, hg.output, by simpa using hsz, fun k hk => ?_⟩, fun k hk hk1 => ?_⟩⟩
  · rw [evCells_snoc, List.length_append, List.length_singleton]
    refine row_stays hown (fun k cs _ hc => Below.heap_setCell _ _ _ _ (fun e => ?_))
    subst e
    rw [show w4.heap[w.heap.size + 1]? = _ from hbx4] at hc
    simp only [Option.some.injEq, Obj.cells.injEq] at hc
    exact typ_ne1.2.2 hc.2.1.symm
  · exact (ki _ ⟨_, hbn⟩).trans hbn
  · intro y hy
    rcases List.mem_append.1 hy with hy | hy
    · exact ⟨(hgd y hy).1.moveF (fun k _ hc => ki k hc), (hgd y hy).2⟩
    · have : y = x := by simpa using hy
      subst this
      exact ⟨hgx.1.moveF (fun k _ hc => ki k hc), hgx.2⟩
  · exact ⟨hg.os.trans hB.os, hg.tape.trans hB.tape, hg.output.trans hB.output, by have := hB.size; simp; omega, fun k hk => (k5 k (by have := hB.size; omega) (fun e => by have := (hvb k e).1; omega) (by omega)).trans (hB.block k hk)⟩
  · have hkl := (Array.getElem?_eq_some_iff.1 ho).1
    rw [k5 k hkl (fun e => ?_) (by omega)]
    · exact ho
    · obtain ⟨_, cs, hcs⟩ := hvb k e
      rw [ho] at hcs
      cases hcs
      cases hc
  · exact k5 k (by have := hB.size; omega) (fun e => by have := (hvb k e).1; omega) (by omega)
  · exact k5 k (by omega) (fun e => by have := (hvb k e).1; omega) (by omega)

end Go.Proofs.YtepclljoiccieaaGreatDoor
/-
  Contract: the law's same, of rows that say the same.
-/
namespace Go.Proofs.YtepclljoiccieaaGreatDoor
open Go.ChangeShapes Go.WideShapes Go.ChangeAt Go.RowKit

/-- A row of entries: its cells, and where the numbers lie. -/
def Ents (w : World) (a : Option Addr) (xs : List Ev) : Prop :=
  xs = [] ∨ ∃ g off, a = some ⟨g, off, none⟩ ∧ ∀ i x, xs[i]? = some x → (w.cell? ⟨g, off + i * 3, none⟩ = some (.string x.k) ∧ w.cell? ⟨g, off + i * 3 + 1, none⟩ = some (.int .i64 x.id) ∧ w.cell? ⟨g, off + i * 3 + 2, none⟩ = some (.slice x.av x.l.length x.cv)) ∧ Ints w x.av x.l ∧ x.l.length ≤ 4611686018427387904
theorem Ents.below {w w' : World} {a : Option Addr} {xs : List Ev} (h : Ents w a xs) (hb : Below w.heap.size w w') : Ents w' a xs := by
  rcases h with h | ⟨g, off, ha, hc⟩
  · exact .inl h
  · refine .inr ⟨g, off, ha, fun i x hx => ?_⟩
    obtain ⟨⟨h1, h2, h3⟩, h4, h5⟩ := hc i x hx
    exact ⟨⟨cellL h1 hb, cellL h2 hb, cellL h3 hb⟩, h4.below hb, h5⟩
def Alike (xs ys : List Ev) : Prop := xs.length = ys.length ∧ ∀ (i : Nat) (x y : Ev), xs[i]? = some x → ys[i]? = some y → x.k = y.k ∧ x.id = y.id ∧ x.l = y.l

theorem evCells_at : ∀ (xs : List Ev) (i : Nat) (x : Ev), xs[i]? = some x → (evCells xs)[i * 3]? = some (.string x.k) ∧ (evCells xs)[i * 3 + 1]? = some (.int .i64 x.id) ∧ (evCells xs)[i * 3 + 2]? = some (.slice x.av x.l.length x.cv)
  | [], i, x, h => by simp at h
  | y :: r, 0, x, h => by
    simp at h
    subst h
    simp [evCells]
  | y :: r, i + 1, x, h => by
    have ih := evCells_at r i x (by simpa using h)
    have e : evCells (y :: r) = [.string y.k, .int .i64 y.id, .slice y.av y.l.length y.cv] ++ evCells r := by simp [evCells]
    rw [e, show (i + 1) * 3 = i * 3 + 3 by omega]
    refine ⟨?_, ?_, ?_⟩
    · rw [List.getElem?_append_right (by simp)]; simpa using ih.1
    · rw [List.getElem?_append_right (by simp)]; simpa using ih.2.1
    · rw [List.getElem?_append_right (by simp)]; simpa using ih.2.2
theorem ev_cells {W : World} {base : Nat} {a : Option Addr} {c : Nat} {xs : List Ev} (h : W.ownsRow base 78 3 (.slice a xs.length c) xs.length (evCells xs)) (h0 : xs ≠ []) :
    ∃ g, a = some ⟨g, 0, none⟩ ∧ base ≤ g ∧ (∃ cs, W.heap[g]? = some (.cells cs 78 (0, 0))) ∧ ∀ i x, xs[i]? = some x → W.cell? ⟨g, 0 + i * 3, none⟩ = some (.string x.k) ∧ W.cell? ⟨g, 0 + i * 3 + 1, none⟩ = some (.int .i64 x.id) ∧ W.cell? ⟨g, 0 + i * 3 + 2, none⟩ = some (.slice x.av x.l.length x.cv) := by
  have hc := fun g hg => h.cells (g := g) hg
  rcases h.2 with ⟨_, h1⟩ | ⟨g, cap, cur, e, hb, hcur, _⟩
  · exact absurd (List.eq_nil_of_length_eq_zero h1) h0
  · cases e
    refine ⟨g, rfl, hb, ⟨cur, hcur⟩, fun i x hx => ?_⟩
    obtain ⟨e1, e2, e3⟩ := evCells_at xs i x hx
    have c1 := hc g rfl _ _ e1
    have c2 := hc g rfl _ _ e2
    have c3 := hc g rfl _ _ e3
    rw [st_add] at c1 c2 c3
    exact ⟨c1, c2, c3⟩
theorem ents_of {W : World} {base : Nat} {a : Option Addr} {c : Nat} {xs : List Ev} (h : W.ownsRow base 78 3 (.slice a xs.length c) xs.length (evCells xs)) {B : Nat} (hg : ∀ x ∈ xs, Good B x W) : Ents W a xs := by
  by_cases h0 : xs = []
  · exact .inl h0
  · obtain ⟨g, ha, _, _, hc⟩ := ev_cells h h0
    refine .inr ⟨g, 0, ha, fun i x hx => ⟨hc i x hx, ?_, ?_⟩⟩
    · exact (hg x (List.mem_of_getElem? hx)).1.ints
    · have := (hg x (List.mem_of_getElem? hx)).2.1; omega

end Go.Proofs.YtepclljoiccieaaGreatDoor
