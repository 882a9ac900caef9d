/-
  Own texts put together: RkpA, RkpB, RkpC, RkpD, RkpE, RkpF, RkpG, RkpH, RkpI, RkpJ, RkpK.
-/
import Derived.Test.YtepclljoiccieaaGreatDoorSgcgkjko
import Derived.Test.YtepclljoiccieaaGreatDoorSgonlcng
import Derived.Test.YtepclljoiccieaaGreatDoorSgngijfd
import Derived.Test.YtepclljoiccieaaGreatDoorSgfnndcj
import Derived.Test.YtepclljoiccieaaGreatDoorSgpipldo
import Derived.Test.YtepclljoiccieaaGreatDoorSgfigefp
import Derived.Deep.RegionHeld3
import Derived.Deep.CutBlock
import Derived.Test.YtepclljoiccieaaGreatDoorSgnjbmek
import Derived.Test.YtepclljoiccieaaGreatDoorSgmfmfhe
import Derived.Test.YtepclljoiccieaaGreatDoorSgihhnle
import Derived.Deep.CutRange
/-
  The reference's keeper in memory: its block of a thousand and five cells, its journal, its book, the row it was made of; what a step on each leaves of the others.
-/
namespace Go.Proofs.YtepclljoiccieaaGreatDoor
open Go.ChangeShapes Go.WideShapes Go.ChangeAt Go.RowKit Go.Maps

/-- The block's cells. -/
def rkcs (N : Nat) (nd : Int) (l j g m : Value) (s : Int → Int) : List Value := .int .i64 nd :: l :: j :: g :: m :: (List.range N).map (fun k : Nat => .int .i64 (s k))
theorem rkcs_at {N : Nat} (nd : Int) (l j g m : Value) (s : Int → Int) {i : Nat} (hi : i < N) : (rkcs N nd l j g m s)[5 + i]? = some (.int .i64 (s i)) := by
  rw [Nat.add_comm]
  simp [rkcs, hi]
theorem rkcs_put {N : Nat} (nd : Int) (l j g m : Value) (s : Int → Int) {i : Nat} (hi : i < N) (x : Int) : (rkcs N nd l j g m s).set (5 + i) (.int .i64 x) = rkcs N nd l j g m (Hd.upd s i x) := by
  rw [Nat.add_comm]
  unfold rkcs
  rw [List.set_cons_succ, List.set_cons_succ, List.set_cons_succ, List.set_cons_succ, List.set_cons_succ]
  congr 5
  apply List.ext_getElem?
  intro k
  rw [List.getElem?_set]
  by_cases e : i = k
  · subst e
    simp [hi, Hd.upd]
  · rw [if_neg e]
    by_cases hk : k < N
    · simp [hk, Hd.upd]
      intro e2
      omega
    · simp [hk]
theorem rkcs_len (N : Nat) (nd : Int) (l j g m : Value) (s : Int → Int) : (rkcs N nd l j g m s).length = N + 5 := by simp [rkcs]
theorem rkcs_zero (N : Nat) (nd : Int) (l j g m : Value) (s : Int → Int) : (rkcs N nd l j g m s).take 5 ++ List.replicate N (.int .i64 0) = rkcs N nd l j g m (fun _ => 0) := by
  unfold rkcs
  rw [List.map_const', List.length_range]
  rfl

/-- The reference's book. -/
def RbK (B : Nat) (w : World) (nd : Int) (pb mb mc : Nat) (o : Bo) (n : Nat) : Prop := (nd = 1 ∧ Gd.Rs B w pb mb o.g.on o.g.r n ∧ mc = mb) ∨ (nd = 2 ∧ Gd.Pu.Rp B w pb mb mc (Gd.Pu.toP o.m) n)
theorem mi_obj {w : World} {b n : Nat} {r : Int → Int} (h : Gd.Pu.Mi w b n r) : ∃ es c, w.heap[b]? = some (.map es c) := by obtain ⟨D, ⟨es, c, hb, _⟩, _⟩ := h; exact ⟨es, c, hb⟩
section
variable {B : Nat} {w w' : World} {nd : Int} {pb mb mc : Nat} {o : Bo} {n : Nat}
theorem RbK.obj (k : RbK B w nd pb mb mc o n) : (∃ cs t, w.heap[pb]? = some (.cells cs t (0, 0)) ∧ (t = 100 ∨ t = 102)) ∧ (∃ es c, w.heap[mb]? = some (.map es c)) ∧ (∃ es c, w.heap[mc]? = some (.map es c)) := by
  rcases k with ⟨_, h, rfl⟩ | ⟨_, h⟩
  · have hm : ∃ es c, w.heap[mc]? = some (.map es c) := by obtain ⟨_, _, _, D, ⟨es, c, hb, _⟩, _⟩ := h; exact ⟨es, c, hb⟩
    exact ⟨⟨_, _, h.1, .inl rfl⟩, hm, hm⟩
  · exact ⟨⟨_, _, h.1, .inr rfl⟩, pu_obj h.2.2.1, mi_obj h.2.2.2⟩
theorem RbK.kept {F : Nat → Obj → Prop} (k : RbK B w nd pb mb mc o n) (hk : Rg.Kept F w w') (hp : ∀ x, ¬ F pb x) (hb : ∀ x, ¬ F mb x) (hc : ∀ x, ¬ F mc x) : RbK B w' nd pb mb mc o n := by
  rcases k with ⟨e, h, e2⟩ | ⟨e, h⟩
  · exact .inl ⟨e, h.kept hk hp hb, e2⟩
  · exact .inr ⟨e, h.kept hk hp hb hc⟩
theorem RbK.mono (k : RbK B w nd pb mb mc o n) {n' : Nat} (hn : n ≤ n') : RbK B w nd pb mb mc o n' := by
  rcases k with ⟨e, h, e2⟩ | ⟨e, h⟩
  · exact .inl ⟨e, h.mono hn, e2⟩
  · exact .inr ⟨e, h.mono hn⟩
theorem RbK.lt (k : RbK B w nd pb mb mc o n) : pb < w.heap.size ∧ mb < w.heap.size ∧ mc < w.heap.size := by
  obtain ⟨⟨cs, t, h1, _⟩, ⟨es, c, h2⟩, ⟨es', c', h3⟩⟩ := k.obj
  exact ⟨(Array.getElem?_eq_some_iff.1 h1).1, (Array.getElem?_eq_some_iff.1 h2).1, (Array.getElem?_eq_some_iff.1 h3).1⟩
end
/-- The row that it was made of; its block is of E. -/
def RowK (E : Nat → Prop) (w : World) (a : Option Addr) (l : List Int) : Prop :=
  l = [] ∨ ∃ lb cs, a = some ⟨lb, 0, none⟩ ∧ w.heap[lb]? = some (.cells cs 3 (0, 0)) ∧ E lb ∧ ∀ i, i < l.length → cs[i]? = some (.int .i64 (l.getD i 0))
theorem RowK.ints {E : Nat → Prop} {w : World} {a : Option Addr} {l : List Int} (h : RowK E w a l) : Ints w a l := by
  rcases h with h | ⟨lb, cs, rfl, h1, _, h2⟩
  · exact .inl h
  · refine .inr ⟨lb, 0, rfl, fun i hi => ?_⟩
    rw [cell_of h1, Nat.zero_add]
    exact h2 i hi
theorem RowK.wide {E E' : Nat → Prop} {w : World} {a : Option Addr} {l : List Int} (h : RowK E w a l) (hE : ∀ k, E k → E' k) : RowK E' w a l := by
  rcases h with h | ⟨lb, cs, h0, h1, h2, h3⟩
  · exact .inl h
  · exact .inr ⟨lb, cs, h0, h1, hE _ h2, h3⟩
theorem RowK.kept {E : Nat → Prop} {w w' : World} {a : Option Addr} {l : List Int} {F : Nat → Obj → Prop} (h : RowK E w a l) (hk : Rg.Kept F w w') (hF : ∀ k cs, E k → w.heap[k]? = some (.cells cs 3 (0, 0)) → ¬ F k (.cells cs 3 (0, 0))) : RowK E w' a l := by
  rcases h with h | ⟨lb, cs, h0, h1, h2, h3⟩
  · exact .inl h
  · exact .inr ⟨lb, cs, h0, hk.block _ _ h1 (hF _ _ h2 h1), h2, h3⟩

/-- The reference's keeper at p. -/
structure RkV (B : Nat) (E : Nat → Prop) (w : World) (p : Nat) (v : Kv) (n : Nat) (a : Option Addr) (l : List Int) (lc q : Nat) (r : Value) (pb mb mc : Nat) : Prop where
  blk : w.heap[p]? = some (.cells (rkcs 1000 v.node (.slice a l.length lc) (.pointer (some ⟨q, 0, none⟩)) (goodsV v.node pb) (moneyV v.node pb) v.st.s).toArray 51 (0, 0))
  row : RowK E w a l
  fl : ∀ k : Nat, k < 8 → v.f k = l.getD k 0
  ll : l.length ≤ 100
  jr : R.Jr B w q r v.room (v.T.map lnK) v.T.length v.down
  bk : RbK B w v.node pb mb mc v.st.o n
  gd : GoodB v.st.o
  ep : E p
  eq : E q
  er : ∀ k, r.ownBlock = some k → E k
  eb : E pb
  em : E mb
  ec : E mc
theorem typ_neQ : (51 ≠ 45 ∧ 51 ≠ 9 ∧ 51 ≠ 100 ∧ 51 ≠ 102) ∧ (45 ≠ 9 ∧ 45 ≠ 100 ∧ 45 ≠ 102) ∧ (9 ≠ 100 ∧ 9 ≠ 102) ∧ 3 ≠ 51 ∧ 3 ≠ 45 ∧ 3 ≠ 9 ∧ 3 ≠ 100 ∧ 3 ≠ 102 := by decide
theorem R.Jr.kept {B : Nat} {w w' : World} {p : Nat} {v : Value} {room : Int} {L : List ByteArray} {sure : Nat} {down : Bool} {F : Nat → Obj → Prop} (h : R.Jr B w p v room L sure down) (hk : Rg.Kept F w w') (hp : ∀ o, ¬ F p o) (hv : ∀ k o, v.ownBlock = some k → ¬ F k o) : R.Jr B w' p v room L sure down := by
  obtain ⟨h1, h2, h3, h4⟩ := h
  refine ⟨hk.block _ _ h1 (hp _), h2, ⟨h3.1, ?_⟩, h4⟩
  rcases h3.2 with h | ⟨g, cap, cur, rfl, hg, hc, rest⟩
  · exact .inl h
  · exact .inr ⟨g, cap, cur, rfl, hg, hk.block _ _ hc (hv g _ rfl), rest⟩
theorem R.Jr.rowObj {B : Nat} {w : World} {p : Nat} {v : Value} {room : Int} {L : List ByteArray} {sure : Nat} {down : Bool} (h : R.Jr B w p v room L sure down) {k : Nat} (e : v.ownBlock = some k) : ∃ cs, w.heap[k]? = some (.cells cs 9 (0, 0)) := by
  obtain ⟨_, _, ⟨_, h3⟩, _⟩ := h
  rcases h3 with ⟨rfl, _⟩ | ⟨g, cap, cur, rfl, _, hg, _⟩
  · simp [Value.ownBlock] at e
  · simp [Value.ownBlock] at e
    subst e
    exact ⟨cur, hg⟩
section
variable {B : Nat} {E E' : Nat → Prop} {w w' : World} {p : Nat} {v : Kv} {n : Nat} {a : Option Addr} {l : List Int} {lc q : Nat} {r : Value} {pb mb mc : Nat}
theorem RkV.apart (k : RkV B E w p v n a l lc q r pb mb mc) : (p ≠ q ∧ p ≠ pb ∧ p ≠ mb ∧ p ≠ mc) ∧ (q ≠ pb ∧ q ≠ mb ∧ q ≠ mc) ∧ (∀ i, r.ownBlock = some i → i ≠ p ∧ i ≠ q ∧ i ≠ pb ∧ i ≠ mb ∧ i ≠ mc) ∧ ∀ i cs, w.heap[i]? = some (.cells cs 3 (0, 0)) → i ≠ p ∧ i ≠ q ∧ i ≠ pb ∧ i ≠ mb ∧ i ≠ mc ∧ ∀ g, r.ownBlock = some g → g ≠ i := by
  obtain ⟨⟨t1, t2, t3, t3'⟩, ⟨t4, t5, t5'⟩, ⟨t6, t6'⟩, i1, i2, i3, i4, i4'⟩ := typ_neQ
  obtain ⟨⟨cs, t, hb, ht⟩, ⟨es, c, hm⟩, ⟨es2, c2, hm2⟩⟩ := k.bk.obj
  have n3 : 51 ≠ t := ht.elim (fun e => e ▸ t3) (fun e => e ▸ t3')
  have n5 : 45 ≠ t := ht.elim (fun e => e ▸ t5) (fun e => e ▸ t5')
  have n6 : 9 ≠ t := ht.elim (fun e => e ▸ t6) (fun e => e ▸ t6')
  have n7 : 3 ≠ t := ht.elim (fun e => e ▸ i4) (fun e => e ▸ i4')
  refine ⟨⟨two_cells k.blk k.jr.1 t1, two_cells k.blk hb n3, cells_map k.blk hm, cells_map k.blk hm2⟩, ⟨two_cells k.jr.1 hb n5, cells_map k.jr.1 hm, cells_map k.jr.1 hm2⟩, fun i e => ?_, fun i cs e => ?_⟩
  · obtain ⟨cs, hr⟩ := k.jr.rowObj e
    exact ⟨two_cells hr k.blk t2.symm, two_cells hr k.jr.1 t4.symm, two_cells hr hb n6, cells_map hr hm, cells_map hr hm2⟩
  · refine ⟨two_cells e k.blk i1, two_cells e k.jr.1 i2, two_cells e hb n7, cells_map e hm, cells_map e hm2, fun g eg => ?_⟩
    obtain ⟨cs, hr⟩ := k.jr.rowObj eg
    exact two_cells hr e i3.symm
theorem RkV.wide (k : RkV B E w p v n a l lc q r pb mb mc) (h : ∀ k, E k → E' k) : RkV B E' w p v n a l lc q r pb mb mc := ⟨k.blk, k.row.wide h, k.fl, k.ll, k.jr, k.bk, k.gd, h _ k.ep, h _ k.eq, fun i e => h _ (k.er i e), h _ k.eb, h _ k.em, h _ k.ec⟩
theorem RkV.kept {F : Nat → Obj → Prop} (k : RkV B E w p v n a l lc q r pb mb mc) (hk : Rg.Kept F w w') (hE : ∀ k o, E k → ¬ F k o) : RkV B E w' p v n a l lc q r pb mb mc :=
  ⟨hk.block _ _ k.blk (hE _ _ k.ep), k.row.kept hk (fun i _ e _ => hE i _ e), k.fl, k.ll, k.jr.kept hk (fun o => hE _ o k.eq) (fun i o e => hE _ o (k.er i e)), k.bk.kept hk (fun o => hE _ o k.eb) (fun o => hE _ o k.em) (fun o => hE _ o k.ec), k.gd, k.ep, k.eq, k.er, k.eb, k.em, k.ec⟩
theorem RkV.on (k : RkV B E w p v n a l lc q r pb mb mc) (hb : Below w.heap.size w w') : RkV B E w' p v n a l lc q r pb mb mc := k.kept (F := fun _ _ => False) (Rg.Kept.of_below hb) (fun _ _ _ h => h)
theorem RkV.more (k : RkV B E w p v n a l lc q r pb mb mc) {n' : Nat} (hn : n ≤ n') : RkV B E w p v n' a l lc q r pb mb mc := ⟨k.blk, k.row, k.fl, k.ll, k.jr, k.bk.mono hn, k.gd, k.ep, k.eq, k.er, k.eb, k.em, k.ec⟩
theorem RkV.lt (k : RkV B E w p v n a l lc q r pb mb mc) : p < w.heap.size := (Array.getElem?_eq_some_iff.1 k.blk).1
theorem RkV.nd (k : RkV B E w p v n a l lc q r pb mb mc) : v.node = 1 ∨ v.node = 2 := k.bk.elim (fun h => .inl h.1) (fun h => .inr h.1)
theorem RkV.cells (k : RkV B E w p v n a l lc q r pb mb mc) : w.cell? ⟨p, 0, none⟩ = some (.int .i64 v.node) ∧ w.cell? ⟨p, 1, none⟩ = some (.slice a l.length lc) ∧ w.cell? ⟨p, 2, none⟩ = some (.pointer (some ⟨q, 0, none⟩)) ∧ w.cell? ⟨p, 3, none⟩ = some (goodsV v.node pb) ∧ w.cell? ⟨p, 4, none⟩ = some (moneyV v.node pb) := by
  refine ⟨?_, ?_, ?_, ?_, ?_⟩ <;> (rw [cell_of k.blk, List.getElem?_toArray]; rfl)
theorem RkV.cellI (k : RkV B E w p v n a l lc q r pb mb mc) {i : Nat} (hi : i < 1000) : w.cell? ⟨p, 5 + i, none⟩ = some (.int .i64 (v.st.s i)) := by
  rw [cell_of k.blk, List.getElem?_toArray]; exact rkcs_at _ _ _ _ _ _ hi
theorem RkV.frozen (k : RkV B E w p v n a l lc q r pb mb mc) (i : Nat) : w.frozen? ⟨p, i, none⟩ = false := frozen_of_row _ _ _ _ _ k.blk
/-- A step on its journal. -/
theorem RkV.jstep (k : RkV B E w p v n a l lc q r pb mb mc) {T' : List Ke} {d' : Bool} {r' : Value} (j : R.Jr B w' q r' v.room (T'.map lnK) T'.length d') (ho : Off q r r' w w') :
    RkV B (growE E w w') w' p ⟨v.node, v.f, v.room, T', d', v.st⟩ n a l lc q r' pb mb mc ∧ Rg.Kept (fun k _ => E k) w w' := by
  obtain ⟨⟨a1, a2, a3, a4⟩, ⟨b1, b2, b3⟩, d1, i1⟩ := k.apart
  have hk := ho.kept
  have no : ∀ i (_ : Obj), i ≠ q → (∀ g, r.ownBlock = some g → g ≠ i) → ¬ (i = q ∨ r.ownBlock = some i) := fun i _ h1 h2 e => e.elim h1 (fun e => h2 i e rfl)
  refine ⟨⟨hk.block _ _ k.blk (no p default a1 (fun g e => (d1 g e).1)), (k.row.kept hk (fun i cs _ e => no i default (i1 i cs e).2.1 (i1 i cs e).2.2.2.2.2)).wide (fun _ e => .inl e), k.fl, k.ll, j, k.bk.kept hk (fun o => no pb o b1.symm (fun g e => (d1 g e).2.2.1)) (fun o => no mb o b2.symm (fun g e => (d1 g e).2.2.2.1)) (fun o => no mc o b3.symm (fun g e => (d1 g e).2.2.2.2)), k.gd, .inl k.ep, .inl k.eq, fun i e => ?_, .inl k.eb, .inl k.em, .inl k.ec⟩, hk.mono (fun i _ e => e.elim (fun e => e ▸ k.eq) (fun e => k.er i e))⟩
  by_cases hi : i < w.heap.size
  · by_cases h1 : i = q
    · subst h1; exact .inl k.eq
    · by_cases h2 : r.ownBlock = some i
      · exact .inl (k.er i h2)
      · exact absurd e (ho.2 i hi h1 h2).2
  · exact .inr ⟨by omega, (j.2.2.1.lt i e).2⟩
/-- A step on its book. -/
theorem RkV.bstep (k : RkV B E w p v n a l lc q r pb mb mc) {o' : Bo} {n' : Nat} (b : RbK B w' v.node pb mb mc o' n') (g : GoodB o') (hk : Rg.Kept (Own3 pb mb mc) w w') :
    RkV B E w' p ⟨v.node, v.f, v.room, v.T, v.down, ⟨o', v.st.s⟩⟩ n' a l lc q r pb mb mc ∧ Rg.Kept (fun k _ => E k) w w' := by
  obtain ⟨⟨a1, a2, a3, a4⟩, ⟨b1, b2, b3⟩, d1, i1⟩ := k.apart
  have no : ∀ i (o : Obj), i ≠ pb → i ≠ mb → i ≠ mc → ¬ Own3 pb mb mc i o := fun i _ h1 h2 h3 e => e.elim h1 (fun e => e.elim h2 h3)
  exact ⟨⟨hk.block _ _ k.blk (no _ _ a2 a3 a4), k.row.kept hk (fun i cs _ e => no i _ (i1 i cs e).2.2.1 (i1 i cs e).2.2.2.1 (i1 i cs e).2.2.2.2.1), k.fl, k.ll, k.jr.kept hk (fun o => no _ o b1 b2 b3) (fun i o e => no _ o (d1 i e).2.2.1 (d1 i e).2.2.2.1 (d1 i e).2.2.2.2), b, g, k.ep, k.eq, k.er, k.eb, k.em, k.ec⟩, hk.mono (fun i _ e => e.elim (fun e => e ▸ k.eb) (fun e => e.elim (fun e => e ▸ k.em) (fun e => e ▸ k.ec)))⟩
/-- A state stored. -/
theorem RkV.sstep (k : RkV B E w p v n a l lc q r pb mb mc) {i : Nat} (hi : i < 1000) (x : Int) :
    RkV B E (w.setCell ⟨p, 5 + i, none⟩ (.int .i64 x)) p ⟨v.node, v.f, v.room, v.T, v.down, ⟨v.st.o, Hd.upd v.st.s i x⟩⟩ n a l lc q r pb mb mc ∧ Rg.Kept (fun k _ => E k) w (w.setCell ⟨p, 5 + i, none⟩ (.int .i64 x)) := by
  obtain ⟨⟨a1, a2, a3, a4⟩, ⟨b1, b2, b3⟩, d1, i1⟩ := k.apart
  have hk : Rg.Kept (fun k _ => k = p) w (w.setCell ⟨p, 5 + i, none⟩ (.int .i64 x)) := Rg.Kept.setCell _ (fun _ => rfl)
  refine ⟨⟨?_, k.row.kept hk (fun i cs _ e => (i1 i cs e).1), k.fl, k.ll, k.jr.kept hk (fun o => a1.symm) (fun i o e => (d1 i e).1), k.bk.kept hk (fun o => a2.symm) (fun o => a3.symm) (fun o => a4.symm), k.gd, k.ep, k.eq, k.er, k.eb, k.em, k.ec⟩, hk.mono (fun i _ e => by subst e; exact k.ep)⟩
  rw [heap_setCell_same _ _ _ _ _ _ k.blk, ← rkcs_put v.node _ _ _ _ v.st.s hi x, List.setIfInBounds_toArray]
end
def Rk (B : Nat) (E : Nat → Prop) (w : World) (p : Nat) (v : Kv) (n : Nat) : Prop := (∀ k, E k → B ≤ k ∧ k < w.heap.size) ∧ GoodKv v ∧ ∃ a l lc q r pb mb mc, RkV B E w p v n a l lc q r pb mb mc
section
variable {B : Nat} {E E' : Nat → Prop} {w w' : World} {p : Nat} {v : Kv} {n : Nat}
theorem Rk.good (k : Rk B E w p v n) : GoodKv v := k.2.1
theorem Rk.ep (k : Rk B E w p v n) : E p := by obtain ⟨_, _, a, l, lc, q, r, pb, mb, mc, h⟩ := k; exact h.ep
theorem Rk.low (k : Rk B E w p v n) : B ≤ w.heap.size := by have := k.1 p k.ep; omega
theorem Rk.kept {F : Nat → Obj → Prop} (k : Rk B E w p v n) (hk : Rg.Kept F w w') (hE : ∀ k o, E k → ¬ F k o) : Rk B E w' p v n := by
  obtain ⟨h1, h2, a, l, lc, q, r, pb, mb, mc, h⟩ := k
  exact ⟨fun i e => ⟨(h1 i e).1, Nat.lt_of_lt_of_le (h1 i e).2 hk.size⟩, h2, a, l, lc, q, r, pb, mb, mc, h.kept hk hE⟩
theorem Rk.on (k : Rk B E w p v n) (hb : Below w.heap.size w w') : Rk B E w' p v n := k.kept (F := fun _ _ => False) (Rg.Kept.of_below hb) (fun _ _ _ h => h)
theorem Rk.bel (k : Rk B E w p v n) (hk : Rg.Kept (fun i _ => E i) w w') : Below B w w' := hk.bel k.low (fun i _ e => (k.1 i e).1)
end
end Go.Proofs.YtepclljoiccieaaGreatDoor
/-
  The reference's keeper: entry, Note.
-/
namespace Go.Proofs.YtepclljoiccieaaGreatDoor
open Go.ChangeShapes Go.WideShapes Go.ChangeAt Go.RowKit Go.Maps

theorem rentry_any (k : ByteArray) (id : Int) (a : Option Addr) (n c : Nat) (w : World) :
    Calls Tryz.prog 48 #[.string k, .int .i64 id, .slice a n c] w fun e w' => e = .returned (.agg #[.string k, .int .i64 id, .slice a n c]) ∧ Below w.heap.size w w' := by
  go_enter Tryz.func48, Tryz.ntmps48
  go_wp2
  refine bodyPost_ret (results_cell_row Tryz.results48 _ _ w.heap.size 78 _ (0, 0) _ rfl (World.alloc_heap_new w _) Tryz.underlying78 rfl (by kernel_rfl)) rfl ?_
  exact ⟨rfl, (Below.refl _ _).alloc (Nat.le_refl _) _⟩

section
variable {B : Nat} {w : World} {q : Nat} {r : Value} {room : Int} {L : List ByteArray} {sure : Nat}
theorem rnote_full (h : R.Jr B w q r room L sure false) (hr : room ≤ (L.length : Int)) (a : Option Addr) (c : Nat) :
    Calls Tryz.prog 47 #[.pointer (some ⟨q, 0, none⟩), .bool true, .slice a 1 c] w fun e w' => e = .returned (.bool false) ∧ Below w.heap.size w w' := by
  obtain ⟨⟨c0, c1, c2, c3⟩, f1, f2, f3⟩ := h.cells
  obtain ⟨av, cv, rfl, -, -⟩ := h.row
  have hl4 : L.length ≤ 4096 := h.2.2.2.2.1
  have hx : (L.length : Int) + 1 > room := by omega
  have hb : (L.length : Int) + 1 ≤ 4097 := by omega
  clear h hr hl4
  go_enter Tryz.func47, Tryz.ntmps47
  go_wp2_with fail
  go_quiet (fail)
  go_wp2
  go_ret
  exact ⟨rfl, belowN (Below.refl _ _) _⟩
/-- What stands in Note's loop. -/
def NtRel (B : Nat) (w : World) (q : Nat) (r : Value) (room : Int) (L : List ByteArray) (X : ByteArray) (sure : Nat) (i : Value) (wr : World) : Prop :=
  (i = .int .i64 0 ∧ Hid (Below w.heap.size w wr)) ∨ (i = .int .i64 1 ∧ ∃ r', Hid (R.Jr B wr q r' room (L ++ [X]) sure false ∧ Off q r r' w wr))
set_option maxRecDepth 100000 in
set_option maxHeartbeats 2000000 in
theorem rnote_room (h : R.Jr B w q r room L sure false) (hr : (L.length : Int) < room) {e : Ke} (he : OkK e) {a : Option Addr} {c g : Nat} (ha : Ints w a (nK e)) (hg : Gl w)
    (hx : w.heap[g]? = some (.cells #[.string (wB e.c), .int .i64 e.id, .slice a (nK e).length c] 78 (0, 0))) :
    Calls Tryz.prog 47 #[.pointer (some ⟨q, 0, none⟩), .bool true, .slice (some ⟨g, 0, none⟩) 1 1] w fun x w' => x = .returned (.bool true) ∧ ∃ r', R.Jr B w' q r' room (L ++ [lnK e]) (L.length + 1) false ∧ Off q r r' w w' := by
  obtain ⟨⟨c0, c1, c2, c3⟩, f1, f2, f3⟩ := h.cells
  obtain ⟨av, cv, rfl, -, -⟩ := h.row
  have hl4 : L.length ≤ 4096 := h.2.2.2.2.1
  have hx1 : ¬ (L.length : Int) + 1 > room := by omega
  have hb : (L.length : Int) + 1 ≤ 4097 := by omega
  have HJ := hide h
  have hm := may_ke he
  have HA : Hid (∀ u, Below w.heap.size w u → Calls Tryz.prog 88 #[.pointer (some ⟨q, 0, none⟩), .agg #[.string (wB e.c), .int .i64 e.id, .slice a (nK e).length c]] u fun x w' => ∃ r', x = .returned (.int .i64 0) ∧ R.Jr B w' q r' room (L ++ [lnK e]) sure false ∧ Off q (.slice av L.length cv) r' w w') := fun u hu => by
    refine (R.add_any (h.on hu) (wB e.c) e.id a (nK e) c (by have := wB_size e.c; unfold maxLen; omega) (ha.below hu) (by have := nK_len e; omega) (hg.on hu)).mono ?_
    rintro x w' ⟨r', h1, h2, h3⟩
    unfold addL addE at h2
    unfold addE at h1
    rw [hm] at h1 h2
    simp only [if_neg (show ¬ (false = true) by decide), if_true, if_neg (show ¬ room ≤ (L.length : Int) by omega)] at h1 h2
    exact ⟨r', h1, h2, (Off.of_below hu).trans h3⟩
  have HX : Hid (∀ u, Below w.heap.size w u → u.cell? ⟨g, 0, none⟩ = some (.string (wB e.c)) ∧ u.cell? ⟨g, 1, none⟩ = some (.int .i64 e.id) ∧ u.cell? ⟨g, 2, none⟩ = some (.slice a (nK e).length c)) := fun u hu => by
    have e1 := (hu.block _ (Array.getElem?_eq_some_iff.1 hx).1).trans hx
    refine ⟨?_, ?_, ?_⟩ <;> (rw [cell_of e1]; rfl)
  have HLN : Hid ((L ++ [lnK e]).length = L.length + 1) := by show _ = _; simp
  generalize lnK e = X at HA HLN ⊢
  generalize wB e.c = K at HA HX ⊢
  generalize e.id = ei at HA HX ⊢
  generalize (nK e).length = ln at HA HX ⊢
  clear h ha hg hx hm he hl4 hr
  go_enter Tryz.func47, Tryz.ntmps47
  go_wp2_with fail
  go_quiet (fail)
  go_wp2_with fail
  have HB0 : Hid (Below w.heap.size w (w.drewN nq)) := belowN (Below.refl _ _) nq
  generalize w.drewN nq = W at HB0 ⊢
  clear c0 c1 c2 c3 f1 f2 f3
  go_loopw [30] (fun i wr => NtRel B w q (.slice av L.length cv) room L X sure i wr) (fun i _ => 1 - (Go.RowKit.intOf i).toNat)
  case atStart => exact .inl ⟨rfl, HB0⟩
  case round =>
    rcases hrel with ⟨rfl, HB⟩ | ⟨rfl, r', HR⟩
    · obtain ⟨y0, y1, y2⟩ := HX.out wr HB.out
      have hbA : Hid (Below w.heap.size w (wr.alloc (.cells #[.string K, .int .i64 ei, .slice a ln c] 78))) := bel_on' HB.out ((Below.refl _ _).alloc (Nat.le_refl _) _)
      have A := HA.out _ hbA.out
      clear HA
      go_wp2_with (go_at_call 88; refine A.mono ?_; clear A; rintro e u1 ⟨r', rfl, hj, ho⟩; have HJ1 := hide (And.intro hj ho); clear hj ho)
      go_roundw
      case rel => exact .inr ⟨by go_num, r', HJ1⟩
      case measure => simp [Go.RowKit.intOf]
    · have S := R.sync_up HR.out.1
      go_wp2_with (go_at_call 89; refine S.mono ?_; clear S; rintro e u1 ⟨rfl, hj, ho⟩; rw [HLN.out] at hj; have HJ1 := hide (And.intro hj (HR.out.2.trans ho)); clear hj ho)
      go_ret
      exact ⟨rfl, r', HJ1.out⟩
end
end Go.Proofs.YtepclljoiccieaaGreatDoor
/-
  The reference's keeper: take, settle, State, Ring.
-/
namespace Go.Proofs.YtepclljoiccieaaGreatDoor
open Go.ChangeShapes Go.WideShapes Go.ChangeAt Go.RowKit Go.Maps

section
variable {B : Nat} {E : Nat → Prop} {w : World} {p : Nat} {v : Kv} {n : Nat} {a : Option Addr} {l : List Int} {lc q : Nat} {r : Value} {pb mb mc : Nat}
theorem rktake_any (k : RkV B E w p v n a l lc q r pb mb mc) {id : Int} (hw : (Lit.int .i64 id).wf = true) (x y : Int) (hn : n < 900000) :
    Calls Tryz.prog 38 #[.pointer (some ⟨p, 0, none⟩), .int .i64 id, .int .i64 x, .int .i64 y] w fun e w' => e = .returned (.bool (decide (tkE v.node v.st.o id x y = 0))) ∧ RkV B E w' p ⟨v.node, v.f, v.room, v.T, v.down, ⟨tkS v.node v.st.o id x y, v.st.s⟩⟩ (n + 1) a l lc q r pb mb mc ∧ Rg.Kept (fun k _ => E k) w w' := by
  obtain ⟨c0, c1, c2, c3, c4⟩ := k.cells
  have HK := hide k
  rcases k.bk with ⟨e1, hb, e2⟩ | ⟨e1, hb⟩
  · have T := Gd.rres_any hb k.gd.g hw x y (by omega)
    have eE : tkE v.node v.st.o id x y = Gd.resE v.st.o.g id x y := by unfold tkE; rw [if_pos e1]
    have eS : tkS v.node v.st.o id x y = ⟨Gd.resS v.st.o.g id x y, v.st.o.m⟩ := by unfold tkS; rw [if_pos e1]
    have FX : Hid (∀ u, Gd.Rs B u pb mb (Gd.resS v.st.o.g id x y).on (Gd.resS v.st.o.g id x y).r (n + 1) → Rg.Kept (Gd.Own2 pb mb) w u → RkV B E u p ⟨v.node, v.f, v.room, v.T, v.down, ⟨tkS v.node v.st.o id x y, v.st.s⟩⟩ (n + 1) a l lc q r pb mb mc ∧ Rg.Kept (fun k _ => E k) w u) := fun u h1 h2 =>
      HK.out.bstep (.inl ⟨e1, by rw [eS]; exact h1.mono (by omega), e2⟩) (HK.out.gd.tk _ _ _ _) (h2.mono (fun i _ e => e.elim .inl (fun e => .inr (.inl e))))
    have g1 : goodsV v.node pb = .pointer (some ⟨pb, 0, none⟩) := by unfold goodsV; rw [if_pos e1]
    have g2 : moneyV v.node pb = .pointer none := by unfold moneyV; rw [if_pos e1]
    rw [g1] at c3
    rw [g2] at c4
    rw [eE]
    clear k hb e1 eS c0 c1 c2 g1 g2 HK e2 eE
    generalize Gd.resE v.st.o.g id x y = z at T ⊢
    generalize tkS v.node v.st.o id x y = o' at FX ⊢
    by_cases hz : z = 0
    · have ez : (z == 0) = true := by simp [hz]
      rw [decide_eq_true hz]
      clear hz
      go_enter Tryz.func38, Tryz.ntmps38
      go_wp2_with (go_at_call 78; refine T.mono ?_; clear T; rintro e u ⟨rfl, h1, h2⟩; have HX := hide (FX.out u h1 h2); clear h1 h2 FX)
      go_ret
      exact ⟨rfl, HX.out⟩
    · have ez : (z == 0) = false := by simp [hz]
      rw [decide_eq_false hz]
      clear hz
      go_enter Tryz.func38, Tryz.ntmps38
      go_wp2_with (go_at_call 78; refine T.mono ?_; clear T; rintro e u ⟨rfl, h1, h2⟩; have HX := hide (FX.out u h1 h2); clear h1 h2 FX)
      go_ret
      exact ⟨rfl, HX.out⟩
  · have T := Gd.Pu.ralw_any hb k.gd.m.gp hw x y (by omega)
    have ne1 : ¬ v.node = 1 := by omega
    have eE : tkE v.node v.st.o id x y = Gd.Pu.alwE (Gd.Pu.toP v.st.o.m) id x y := by unfold tkE; rw [if_neg ne1]
    have eS : tkS v.node v.st.o id x y = ⟨v.st.o.g, Gd.Pu.alwQ v.st.o.m id x y⟩ := by unfold tkS; rw [if_neg ne1]
    have FX : Hid (∀ u, Gd.Pu.Rp B u pb mb mc (Gd.Pu.alwS (Gd.Pu.toP v.st.o.m) id x y) (n + 1) → Rg.Kept (Gd.Pu.Own3 pb mb mc) w u → RkV B E u p ⟨v.node, v.f, v.room, v.T, v.down, ⟨tkS v.node v.st.o id x y, v.st.s⟩⟩ (n + 1) a l lc q r pb mb mc ∧ Rg.Kept (fun k _ => E k) w u) := fun u h1 h2 =>
      HK.out.bstep (.inr ⟨e1, by rw [eS, Gd.Pu.toP_alw]; exact h1.mono (by omega)⟩) (HK.out.gd.tk _ _ _ _) h2
    have g1 : goodsV v.node pb = .pointer none := by unfold goodsV; rw [if_neg ne1]
    have g2 : moneyV v.node pb = .pointer (some ⟨pb, 0, none⟩) := by unfold moneyV; rw [if_neg ne1]
    rw [g1] at c3
    rw [g2] at c4
    rw [eE]
    clear k hb e1 eS c0 c1 c2 g1 g2 HK ne1 eE
    generalize Gd.Pu.alwE (Gd.Pu.toP v.st.o.m) id x y = z at T ⊢
    generalize tkS v.node v.st.o id x y = o' at FX ⊢
    by_cases hz : z = 0
    · have ez : (z == 0) = true := by simp [hz]
      rw [decide_eq_true hz]
      clear hz
      go_enter Tryz.func38, Tryz.ntmps38
      go_wp2_with (go_at_call 79; refine T.mono ?_; clear T; rintro e u ⟨rfl, h1, h2⟩; have HX := hide (FX.out u h1 h2); clear h1 h2 FX)
      go_ret
      exact ⟨rfl, HX.out⟩
    · have ez : (z == 0) = false := by simp [hz]
      rw [decide_eq_false hz]
      clear hz
      go_enter Tryz.func38, Tryz.ntmps38
      go_wp2_with (go_at_call 79; refine T.mono ?_; clear T; rintro e u ⟨rfl, h1, h2⟩; have HX := hide (FX.out u h1 h2); clear h1 h2 FX)
      go_ret
      exact ⟨rfl, HX.out⟩
theorem rksell_any (k : RkV B E w p v n a l lc q r pb mb mc) {id : Int} (hw : (Lit.int .i64 id).wf = true) (hn : n < 900000) :
    Calls Tryz.prog 39 #[.pointer (some ⟨p, 0, none⟩), .int .i64 id, .bool true] w fun e w' => (∃ x, e = .returned x) ∧ RkV B E w' p ⟨v.node, v.f, v.room, v.T, v.down, ⟨slS v.node v.st.o id, v.st.s⟩⟩ (n + 1) a l lc q r pb mb mc ∧ Rg.Kept (fun k _ => E k) w w' := by
  obtain ⟨c0, c1, c2, c3, c4⟩ := k.cells
  have HK := hide k
  rcases k.bk with ⟨e1, hb, e2⟩ | ⟨e1, hb⟩
  · have T := Gd.rcom_any hb k.gd.g hw
    have eS : slS v.node v.st.o id = ⟨Gd.comS v.st.o.g id, v.st.o.m⟩ := by unfold slS; rw [if_pos e1]
    have FX : Hid (∀ u, Gd.Rs B u pb mb (Gd.comS v.st.o.g id).on (Gd.comS v.st.o.g id).r n → Rg.Kept (Gd.Own2 pb mb) w u → RkV B E u p ⟨v.node, v.f, v.room, v.T, v.down, ⟨slS v.node v.st.o id, v.st.s⟩⟩ (n + 1) a l lc q r pb mb mc ∧ Rg.Kept (fun k _ => E k) w u) := fun u h1 h2 =>
      HK.out.bstep (.inl ⟨e1, by rw [eS]; exact h1.mono (by omega), e2⟩) (HK.out.gd.sl _ _) (h2.mono (fun i _ e => e.elim .inl (fun e => .inr (.inl e))))
    have g1 : goodsV v.node pb = .pointer (some ⟨pb, 0, none⟩) := by unfold goodsV; rw [if_pos e1]
    have g2 : moneyV v.node pb = .pointer none := by unfold moneyV; rw [if_pos e1]
    rw [g1] at c3
    rw [g2] at c4
    clear k hb e1 eS c0 c1 c2 g1 g2 HK e2
    generalize slS v.node v.st.o id = o' at FX ⊢
    go_enter Tryz.func39, Tryz.ntmps39
    go_wp2_with (go_at_call 80; refine T.mono ?_; clear T; rintro e u ⟨rfl, h1, h2⟩; have HX := hide (FX.out u h1 h2); clear h1 h2 FX)
    go_end0
    exact ⟨⟨_, rfl⟩, HX.out⟩
  · have T := Gd.Pu.rcap_any hb k.gd.m.gp hw (by omega)
    have ne1 : ¬ v.node = 1 := by omega
    have eS : slS v.node v.st.o id = ⟨v.st.o.g, Gd.Pu.capQ v.st.o.m id⟩ := by unfold slS; rw [if_neg ne1]
    have FX : Hid (∀ u, Gd.Pu.Rp B u pb mb mc (Gd.Pu.capS (Gd.Pu.toP v.st.o.m) id) (n + 1) → Rg.Kept (Gd.Pu.Own3 pb mb mc) w u → RkV B E u p ⟨v.node, v.f, v.room, v.T, v.down, ⟨slS v.node v.st.o id, v.st.s⟩⟩ (n + 1) a l lc q r pb mb mc ∧ Rg.Kept (fun k _ => E k) w u) := fun u h1 h2 =>
      HK.out.bstep (.inr ⟨e1, by rw [eS, Gd.Pu.toP_cap HK.out.gd.m]; exact h1.mono (by omega)⟩) (HK.out.gd.sl _ _) h2
    have g1 : goodsV v.node pb = .pointer none := by unfold goodsV; rw [if_neg ne1]
    have g2 : moneyV v.node pb = .pointer (some ⟨pb, 0, none⟩) := by unfold moneyV; rw [if_neg ne1]
    rw [g1] at c3
    rw [g2] at c4
    clear k hb e1 eS c0 c1 c2 g1 g2 HK ne1
    generalize slS v.node v.st.o id = o' at FX ⊢
    go_enter Tryz.func39, Tryz.ntmps39
    go_wp2_with (go_at_call 82; refine T.mono ?_; clear T; rintro e u ⟨rfl, h1, h2⟩; have HX := hide (FX.out u h1 h2); clear h1 h2 FX)
    go_end0
    exact ⟨⟨_, rfl⟩, HX.out⟩
theorem rkfree_any (k : RkV B E w p v n a l lc q r pb mb mc) {id : Int} (hw : (Lit.int .i64 id).wf = true) (_hn : n < 900000) :
    Calls Tryz.prog 39 #[.pointer (some ⟨p, 0, none⟩), .int .i64 id, .bool false] w fun e w' => (∃ x, e = .returned x) ∧ RkV B E w' p ⟨v.node, v.f, v.room, v.T, v.down, ⟨frS v.node v.st.o id, v.st.s⟩⟩ (n + 1) a l lc q r pb mb mc ∧ Rg.Kept (fun k _ => E k) w w' := by
  obtain ⟨c0, c1, c2, c3, c4⟩ := k.cells
  have HK := hide k
  rcases k.bk with ⟨e1, hb, e2⟩ | ⟨e1, hb⟩
  · have T := Gd.rrel_any hb k.gd.g hw
    have eS : frS v.node v.st.o id = ⟨Gd.relS v.st.o.g id, v.st.o.m⟩ := by unfold frS; rw [if_pos e1]
    have FX : Hid (∀ u, Gd.Rs B u pb mb (Gd.relS v.st.o.g id).on (Gd.relS v.st.o.g id).r n → Rg.Kept (Gd.Own2 pb mb) w u → RkV B E u p ⟨v.node, v.f, v.room, v.T, v.down, ⟨frS v.node v.st.o id, v.st.s⟩⟩ (n + 1) a l lc q r pb mb mc ∧ Rg.Kept (fun k _ => E k) w u) := fun u h1 h2 =>
      HK.out.bstep (.inl ⟨e1, by rw [eS]; exact h1.mono (by omega), e2⟩) (HK.out.gd.fr _ _) (h2.mono (fun i _ e => e.elim .inl (fun e => .inr (.inl e))))
    have g1 : goodsV v.node pb = .pointer (some ⟨pb, 0, none⟩) := by unfold goodsV; rw [if_pos e1]
    have g2 : moneyV v.node pb = .pointer none := by unfold moneyV; rw [if_pos e1]
    rw [g1] at c3
    rw [g2] at c4
    clear k hb e1 eS c0 c1 c2 g1 g2 HK e2
    generalize frS v.node v.st.o id = o' at FX ⊢
    go_enter Tryz.func39, Tryz.ntmps39
    go_wp2_with (go_at_call 81; refine T.mono ?_; clear T; rintro e u ⟨rfl, h1, h2⟩; have HX := hide (FX.out u h1 h2); clear h1 h2 FX)
    go_end0
    exact ⟨⟨_, rfl⟩, HX.out⟩
  · have T := Gd.Pu.rvoid_any hb k.gd.m.gp hw
    have ne1 : ¬ v.node = 1 := by omega
    have eS : frS v.node v.st.o id = ⟨v.st.o.g, Gd.Pu.voidQ v.st.o.m id⟩ := by unfold frS; rw [if_neg ne1]
    have FX : Hid (∀ u, Gd.Pu.Rp B u pb mb mc (Gd.Pu.voidS (Gd.Pu.toP v.st.o.m) id) n → Rg.Kept (Gd.Pu.Own3 pb mb mc) w u → RkV B E u p ⟨v.node, v.f, v.room, v.T, v.down, ⟨frS v.node v.st.o id, v.st.s⟩⟩ (n + 1) a l lc q r pb mb mc ∧ Rg.Kept (fun k _ => E k) w u) := fun u h1 h2 =>
      HK.out.bstep (.inr ⟨e1, by rw [eS, Gd.Pu.toP_void]; exact h1.mono (by omega)⟩) (HK.out.gd.fr _ _) h2
    have g1 : goodsV v.node pb = .pointer none := by unfold goodsV; rw [if_neg ne1]
    have g2 : moneyV v.node pb = .pointer (some ⟨pb, 0, none⟩) := by unfold moneyV; rw [if_neg ne1]
    rw [g1] at c3
    rw [g2] at c4
    clear k hb e1 eS c0 c1 c2 g1 g2 HK ne1
    generalize frS v.node v.st.o id = o' at FX ⊢
    go_enter Tryz.func39, Tryz.ntmps39
    go_wp2_with (go_at_call 83; refine T.mono ?_; clear T; rintro e u ⟨rfl, h1, h2⟩; have HX := hide (FX.out u h1 h2); clear h1 h2 FX)
    go_end0
    exact ⟨⟨_, rfl⟩, HX.out⟩
theorem rkstate_any (k : RkV B E w p v n a l lc q r pb mb mc) (gv : GoodKv v) (id : Int) :
    Calls Tryz.prog 20 #[.pointer (some ⟨p, 0, none⟩), .int .i64 id] w fun e w' => e = .returned (.int .i64 (v.st.s id)) ∧ w = w' := by
  have I : Calls Tryz.prog 45 #[.int .i64 id] w fun e w' => e = .returned (.bool (Hd.isI id)) ∧ w = w' := Gd.rid_any id w
  have gt := gv.goodT.s id
  have h := k
  clear k gv
  cases hi : Hd.isI id
  · have e0 : v.st.s id = 0 := by
      rcases Decidable.em (v.st.s id = 0) with e | e
      · exact e
      · have := Hd.isI_iff.2 (gt.2 e); rw [hi] at this; cases this
    rw [hi] at I
    rw [e0]
    clear h gt hi e0
    go_enter Tryz.func20, Tryz.ntmps20
    go_wp2_with (go_at_call 45; refine I.mono ?_; clear I; rintro e w' ⟨rfl, rfl⟩)
    go_ret
    exact ⟨rfl, rfl⟩
  · obtain ⟨i1, i2⟩ := Hd.isI_iff.1 hi
    rw [hi] at I
    obtain ⟨n, rfl⟩ : ∃ n : Nat, id = n := ⟨id.toNat, by omega⟩
    have hn : (n : Int) < 1000 := by omega
    have c4 := h.cellI (i := n) (by omega)
    clear h gt hi i1 i2
    generalize v.st.s n = x at c4 ⊢
    go_enter Tryz.func20, Tryz.ntmps20
    go_wp2_with (go_at_call 45; refine I.mono ?_; clear I; rintro e w' ⟨rfl, rfl⟩)
    go_ret
    exact ⟨rfl, rfl⟩
set_option maxRecDepth 100000 in
theorem rkring_any (k : RkV B E w p v n a l lc q r pb mb mc) (gv : GoodKv v) (id : Int) :
    Calls Tryz.prog 13 #[.pointer (some ⟨p, 0, none⟩), .int .i64 id] w (TellM w (rgA v id)) := by
  have S := rkstate_any k gv id
  obtain ⟨c0, -, -, -, -⟩ := k.cells
  have hnd := k.nd
  have c0' : w.drew.cell? ⟨p, 0, none⟩ = some (.int .i64 v.node) := c0
  unfold rgA
  generalize v.node = nd at c0 c0' hnd ⊢
  generalize v.st.s id = x at S ⊢
  clear k gv
  by_cases h1 : x = 1
  · have e1 : (x != 1) = false := by simp [h1]
    rw [if_pos h1]
    clear h1
    go_enter Tryz.func13, Tryz.ntmps13
    go_wp2_with (go_at_call 20; refine S.mono ?_; clear S; rintro e w' ⟨rfl, rfl⟩)
    go_region
    go_wp2
    go_ret
    exact ⟨some ⟨w.heap.size, 0, none⟩, 2, rfl, Ms.mgs_new w.drew [⟨12, nd, 0, id, 0, 0, 0⟩, ⟨12, nd, 3 - nd, id, 0, 0, 0⟩] _ rfl, fun ad e => (by cases e; exact ⟨Nat.le_refl _, by simp⟩), ((Below.refl _ _).drew).alloc (Nat.le_refl _) _⟩
  · have e1 : (x != 1) = true := by simp [h1]
    rw [if_neg h1]
    clear h1
    go_enter Tryz.func13, Tryz.ntmps13
    go_wp2_with (go_at_call 20; refine S.mono ?_; clear S; rintro e w' ⟨rfl, rfl⟩)
    go_ret
    exact tellM_nil (Below.refl _ _)
end
end Go.Proofs.YtepclljoiccieaaGreatDoor
/-
  The reference's keeper: empty.
-/
namespace Go.Proofs.YtepclljoiccieaaGreatDoor
open Go.ChangeShapes Go.WideShapes Go.ChangeAt Go.RowKit Go.Maps

theorem rkcs_set3 (N : Nat) (nd : Int) (l j g m x : Value) (s : Int → Int) : (rkcs N nd l j g m s).set 3 x = rkcs N nd l j x m s := by simp [rkcs]
theorem rkcs_set4 (N : Nat) (nd : Int) (l j g m x : Value) (s : Int → Int) : (rkcs N nd l j g m s).set 4 x = rkcs N nd l j g x s := by simp [rkcs]
/-- The row of states made nought. -/
theorem rk_zero {w : World} {p : Nat} {nd : Int} {lv jv g m : Value} {s : Int → Int} (hb : w.heap[p]? = some (.cells (rkcs 1000 nd lv jv g m s).toArray 51 (0, 0))) :
    (∀ j, j < 1000 → (w.cell? ⟨p, 5 + j, none⟩).isSome = true) ∧ (∀ j, j < 1000 → w.frozen? ⟨p, 5 + j, none⟩ = false) ∧
    (w.setCells p 5 (List.replicate 1000 (.int .i64 0))).heap[p]? = some (.cells (rkcs 1000 nd lv jv g m (fun _ => 0)).toArray 51 (0, 0)) ∧ Rg.Kept (fun k _ => k = p) w (w.setCells p 5 (List.replicate 1000 (.int .i64 0))) := by
  have hsz : (rkcs 1000 nd lv jv g m s).length = 1005 := rkcs_len _ _ _ _ _ _ _
  obtain ⟨cs', h3, h4, h5⟩ := heap_setCells p 51 (List.replicate 1000 (.int .i64 0)) 5 w _ hb (by rw [List.size_toArray, hsz, List.length_replicate]; decide)
  have e2 : cs' = (rkcs 1000 nd lv jv g m (fun _ => 0)).toArray := by
    apply Array.ext_getElem?
    intro j
    rw [h5 j, List.getElem?_toArray, List.getElem?_toArray, ← rkcs_zero 1000 nd lv jv g m s]
    have ht : ((rkcs 1000 nd lv jv g m s).take 5).length = 5 := by rw [List.length_take, hsz]; decide
    rw [List.length_replicate]
    by_cases h : j < 5
    · rw [if_neg (by omega), List.getElem?_append_left (by omega), List.getElem?_take_of_lt h]
    · rw [List.getElem?_append_right (by omega), ht]
      by_cases h' : j < 5 + 1000
      · rw [if_pos (by omega)]
      · rw [if_neg (by omega), List.getElem?_eq_none (by omega), List.getElem?_eq_none (by rw [List.length_replicate]; omega)]
  rw [e2] at h3
  obtain ⟨⟨r1, r2, r3, r4⟩, r5⟩ := setCells_rest p (List.replicate 1000 (.int .i64 0)) 5 w
  refine ⟨fun j hj => ?_, fun j _ => frozen_of_row _ _ _ _ _ hb, h3, ⟨r1, r2, r3, by rw [r4]; exact Nat.le_refl _, fun i o ho hx => (r5 i hx).trans ho⟩⟩
  rw [cell_of hb, List.getElem?_toArray, rkcs_at _ _ _ _ _ _ hj]
  rfl
theorem rk_cells {w : World} {p : Nat} {nd : Int} {lv jv g m : Value} {s : Int → Int} (hb : w.heap[p]? = some (.cells (rkcs 1000 nd lv jv g m s).toArray 51 (0, 0))) :
    (w.cell? ⟨p, 0, none⟩ = some (.int .i64 nd) ∧ w.cell? ⟨p, 1, none⟩ = some lv ∧ w.cell? ⟨p, 2, none⟩ = some jv ∧ w.cell? ⟨p, 3, none⟩ = some g ∧ w.cell? ⟨p, 4, none⟩ = some m) ∧ w.frozen? ⟨p, 3, none⟩ = false ∧ w.frozen? ⟨p, 4, none⟩ = false := by
  refine ⟨⟨?_, ?_, ?_, ?_, ?_⟩, frozen_of_row _ _ _ _ _ hb, frozen_of_row _ _ _ _ _ hb⟩ <;> (rw [cell_of hb, List.getElem?_toArray]; rfl)
/-- What the book is at first, by the row that it is made of. -/
def NewB (B : Nat) (w : World) (nd : Int) (pb mb mc : Nat) (l : List Int) : Prop := (nd = 1 ∧ Gd.Rs B w pb mb (Gd.newS l).on (Gd.newS l).r 0 ∧ mc = mb) ∨ (nd = 2 ∧ Gd.Pu.Rp B w pb mb mc (Gd.Pu.newP l) 0)
set_option maxRecDepth 100000 in
theorem rkempty_any {w : World} {p : Nat} {nd : Int} (hnd : nd = 1 ∨ nd = 2) {a : Option Addr} {l : List Int} {lc : Nat} {jv : Value} {g m : Value} {s : Int → Int} (hb : w.heap[p]? = some (.cells (rkcs 1000 nd (.slice a l.length lc) jv g m s).toArray 51 (0, 0))) (hi : ∀ u, Rg.Kept (fun k _ => k = p) w u → Ints u a l) (hl : l.length ≤ 100) :
    Calls Tryz.prog 30 #[.pointer (some ⟨p, 0, none⟩)] w fun e w' => (∃ x, e = .returned x) ∧ ∃ pb mb mc, w'.heap[p]? = some (.cells (rkcs 1000 nd (.slice a l.length lc) jv (goodsV nd pb) (moneyV nd pb) (fun _ => 0)).toArray 51 (0, 0)) ∧ NewB w.heap.size w' nd pb mb mc l ∧ Rg.Kept (fun k _ => k = p) w w' := by
  obtain ⟨G1, G2, z1, z2⟩ := rk_zero hb
  have one : ∀ x ∈ List.replicate 1000 (Value.int .i64 0), x.oneCell' = true := fun x hx => by rw [List.eq_of_mem_replicate hx]; rfl
  obtain ⟨Z, hZ⟩ : ∃ Z, List.replicate 1000 (Value.int .i64 0) = Z := ⟨_, rfl⟩
  rw [hZ] at one z1 z2
  obtain ⟨W1, hW1⟩ : ∃ W1, w.setCells p 5 Z = W1 := ⟨_, rfl⟩
  rw [hW1] at z1 z2
  obtain ⟨W2, hW2⟩ : ∃ W2, W1.setCell ⟨p, 3, none⟩ (.pointer none) = W2 := ⟨_, rfl⟩
  have y1 : W2.heap[p]? = some (.cells (rkcs 1000 nd (.slice a l.length lc) jv (.pointer none) m (fun _ => 0)).toArray 51 (0, 0)) := by
    rw [← hW2, heap_setCell_same _ _ _ _ _ _ z1, List.setIfInBounds_toArray, rkcs_set3]
  have y2 : Rg.Kept (fun k _ => k = p) W1 W2 := by rw [← hW2]; exact Rg.Kept.setCell _ (fun _ => rfl)
  obtain ⟨W3, hW3⟩ : ∃ W3, W2.setCell ⟨p, 4, none⟩ (.pointer none) = W3 := ⟨_, rfl⟩
  have x1 : W3.heap[p]? = some (.cells (rkcs 1000 nd (.slice a l.length lc) jv (.pointer none) (.pointer none) (fun _ => 0)).toArray 51 (0, 0)) := by
    rw [← hW3, heap_setCell_same _ _ _ _ _ _ y1, List.setIfInBounds_toArray, rkcs_set4]
  have x2 : Rg.Kept (fun k _ => k = p) W2 W3 := by rw [← hW3]; exact Rg.Kept.setCell _ (fun _ => rfl)
  have kA := z2.trans (y2.trans x2)
  have hI := hi W3 kA
  have hsz := kA.size
  have hpl : p < W3.heap.size := (Array.getElem?_eq_some_iff.1 x1).1
  have HONE := hide one
  have HZL : Hid (Z.length = 1000) := by show _ = _; rw [← hZ]; exact List.length_replicate
  have HZ := hide hZ
  have HW1 := hide hW1
  have HG1 := hide G1
  have HG2 := hide G2
  obtain ⟨⟨-, -, -, a3, a4⟩, f3, f4⟩ := rk_cells z1
  obtain ⟨⟨-, -, -, -, b4⟩, -, bf4⟩ := rk_cells y1
  obtain ⟨⟨c0, c1, -, c3, c4⟩, cf3, cf4⟩ := rk_cells x1
  rcases hnd with rfl | rfl
  · have N := Gd.rnews_any a l lc W3 hI (by omega)
    have FX : Hid (∀ u pb mb, Gd.Rs W3.heap.size u pb mb (Gd.newS l).on (Gd.newS l).r 0 → Below W3.heap.size W3 u → ∃ pb' mb' mc', (u.setCell ⟨p, 3, none⟩ (.pointer (some ⟨pb, 0, none⟩))).heap[p]? = some (.cells (rkcs 1000 1 (.slice a l.length lc) jv (goodsV 1 pb') (moneyV 1 pb') (fun _ => 0)).toArray 51 (0, 0)) ∧ NewB w.heap.size (u.setCell ⟨p, 3, none⟩ (.pointer (some ⟨pb, 0, none⟩))) 1 pb' mb' mc' l ∧ Rg.Kept (fun k _ => k = p) w (u.setCell ⟨p, 3, none⟩ (.pointer (some ⟨pb, 0, none⟩)))) := fun u pb mb h1 h2 => by
      have kS : Rg.Kept (fun k _ => k = p) u (u.setCell ⟨p, 3, none⟩ (.pointer (some ⟨pb, 0, none⟩))) := Rg.Kept.setCell _ (fun _ => rfl)
      refine ⟨pb, mb, mb, ?_, .inl ⟨rfl, ?_, rfl⟩, kA.trans ((Rg.Kept.of_below h2).trans kS)⟩
      · rw [heap_setCell_same _ _ _ _ _ _ ((h2.block _ hpl).trans x1), List.setIfInBounds_toArray, rkcs_set3]
        rfl
      · have h3 := h1.kept kS (fun _ e => by have := h1.2.1; omega) (fun _ e => by have := h1.2.2.1; omega)
        exact ⟨h3.1, Nat.le_trans hsz h3.2.1, Nat.le_trans hsz h3.2.2.1, h3.2.2.2⟩
    have CU : Hid (∀ u, Below W3.heap.size W3 u → u.cell? ⟨p, 3, none⟩ = some (.pointer none) ∧ u.frozen? ⟨p, 3, none⟩ = false) := fun u h => by
      obtain ⟨⟨-, -, -, e3, -⟩, e4, -⟩ := rk_cells ((h.block _ hpl).trans x1)
      exact ⟨e3, e4⟩
    clear hb hi hl z1 z2 y1 y2 x1 x2 kA hI hsz hpl one hZ hW1 G1 G2
    go_enter Tryz.func30, Tryz.ntmps30
    go_wp2_with (first
      | (refine wpList_build_zero rfl rfl HZ.out ?_)
      | (refine wpList_store_row rfl _ _ rfl rfl p 5 Z rfl rfl HZL.out HG1.out HG2.out HONE.out ?_; rw [HW1.out])
      | (go_at_call 67; refine N.mono ?_; clear N; rintro e u ⟨pb, mb, rfl, h1, h2⟩; have HX := hide (FX.out u pb mb h1 h2); clear c3 cf3; obtain ⟨c3, cf3⟩ := CU.out u h2; clear h1 h2 FX CU))
    go_end0
    exact ⟨⟨_, rfl⟩, HX.out⟩
  · have N := Gd.Pu.rnewp_any a l lc W3 hI (by omega)
    have FX : Hid (∀ u pb mb mc, Gd.Pu.Rp W3.heap.size u pb mb mc (Gd.Pu.newP l) 0 → Below W3.heap.size W3 u → ∃ pb' mb' mc', (u.setCell ⟨p, 4, none⟩ (.pointer (some ⟨pb, 0, none⟩))).heap[p]? = some (.cells (rkcs 1000 2 (.slice a l.length lc) jv (goodsV 2 pb') (moneyV 2 pb') (fun _ => 0)).toArray 51 (0, 0)) ∧ NewB w.heap.size (u.setCell ⟨p, 4, none⟩ (.pointer (some ⟨pb, 0, none⟩))) 2 pb' mb' mc' l ∧ Rg.Kept (fun k _ => k = p) w (u.setCell ⟨p, 4, none⟩ (.pointer (some ⟨pb, 0, none⟩)))) := fun u pb mb mc h1 h2 => by
      have kS : Rg.Kept (fun k _ => k = p) u (u.setCell ⟨p, 4, none⟩ (.pointer (some ⟨pb, 0, none⟩))) := Rg.Kept.setCell _ (fun _ => rfl)
      refine ⟨pb, mb, mc, ?_, .inr ⟨rfl, ?_⟩, kA.trans ((Rg.Kept.of_below h2).trans kS)⟩
      · rw [heap_setCell_same _ _ _ _ _ _ ((h2.block _ hpl).trans x1), List.setIfInBounds_toArray, rkcs_set4]
        rfl
      · obtain ⟨l1, l2, l3, l4⟩ := h1.2.1
        have h3 := h1.kept kS (fun _ e => by omega) (fun _ e => by omega) (fun _ e => by omega)
        exact ⟨h3.1, ⟨Nat.le_trans hsz l1, Nat.le_trans hsz l2, Nat.le_trans hsz l3, l4⟩, h3.2.2⟩
    have CU : Hid (∀ u, Below W3.heap.size W3 u → u.cell? ⟨p, 4, none⟩ = some (.pointer none) ∧ u.frozen? ⟨p, 4, none⟩ = false) := fun u h => by
      obtain ⟨⟨-, -, -, -, e3⟩, -, e4⟩ := rk_cells ((h.block _ hpl).trans x1)
      exact ⟨e3, e4⟩
    clear hb hi hl z1 z2 y1 y2 x1 x2 kA hI hsz hpl one hZ hW1 G1 G2
    go_enter Tryz.func30, Tryz.ntmps30
    go_wp2_with (first
      | (refine wpList_build_zero rfl rfl HZ.out ?_)
      | (refine wpList_store_row rfl _ _ rfl rfl p 5 Z rfl rfl HZL.out HG1.out HG2.out HONE.out ?_; rw [HW1.out])
      | (go_at_call 68; refine N.mono ?_; clear N; rintro e u ⟨pb, mb, mc, rfl, h1, h2⟩; have HX := hide (FX.out u pb mb mc h1 h2); clear c4 cf4; obtain ⟨c4, cf4⟩ := CU.out u h2; clear h1 h2 FX CU))
    go_end0
    exact ⟨⟨_, rfl⟩, HX.out⟩
end Go.Proofs.YtepclljoiccieaaGreatDoor
/-
  The reference's keeper: Crash, NewKeeper.
-/
namespace Go.Proofs.YtepclljoiccieaaGreatDoor
open Go.ChangeShapes Go.WideShapes Go.ChangeAt Go.RowKit Go.Maps

theorem ke_size {e : Ke} (h : OkK e) : 2 ≤ (lnK e).size := by
  unfold lnK lineV
  rw [if_pos (may_ke h), sign_size]
  omega
theorem fl_on {f : Int → Int} {l : List Int} (h : ∀ k : Nat, k < 8 → f k = l.getD k 0) : ∀ k : Nat, k < 8 → (Gd.newS l).on k = (Gd.newS (lst f)).on k := fun k hk => by
  show Gd.clampA (l.getD (k : Int).toNat 0) = Gd.clampA ((lst f).getD (k : Int).toNat 0)
  rw [Int.toNat_natCast, lst_at f hk, h k hk]
theorem NewB.rbk {B B' : Nat} {w : World} {nd : Int} {pb mb mc : Nat} {l : List Int} {f : Int → Int} (h : NewB B' w nd pb mb mc l) (hB : B ≤ B') (hf : ∀ k : Nat, k < 8 → f k = l.getD k 0) : RbK B w nd pb mb mc (iniB f) 0 := by
  rcases h with ⟨e, h, e2⟩ | ⟨e, h⟩
  · refine .inl ⟨e, ⟨?_, Nat.le_trans hB h.2.1, Nat.le_trans hB h.2.2.1, h.2.2.2⟩, e2⟩
    have e3 : Gd.rcs (Gd.newS l).on mb = Gd.rcs (Gd.newS (lst f)).on mb := by unfold Gd.rcs; rw [Gd.rowc_congr (fl_on hf)]
    have := h.1
    rw [e3] at this
    exact this
  · refine .inr ⟨e, ?_⟩
    show Gd.Pu.Rp B w pb mb mc (Gd.Pu.toP (Gd.Pu.newQ (lst f))) 0
    rw [Gd.Pu.toP_new]
    obtain ⟨h1, ⟨l1, l2, l3, l4⟩, h3⟩ := h
    have e3 : Gd.Pu.pcs (Gd.Pu.newP l).m mb (Gd.Pu.newP l).till mc = Gd.Pu.pcs (Gd.Pu.newP (lst f)).m mb (Gd.Pu.newP (lst f)).till mc := by
      unfold Gd.Pu.pcs
      rw [show Gd.Pu.rowc (Gd.Pu.newP l).m = Gd.Pu.rowc (Gd.Pu.newP (lst f)).m from Gd.rowc_congr (fl_on hf)]
      rfl
    rw [e3] at h1
    exact ⟨h1, ⟨Nat.le_trans hB l1, Nat.le_trans hB l2, Nat.le_trans hB l3, l4⟩, h3⟩
theorem RkV.emptied {B : Nat} {E : Nat → Prop} {w u u2 : World} {p : Nat} {v : Kv} {n : Nat} {a : Option Addr} {l : List Int} {lc q : Nat} {r : Value} {pb mb mc pb' mb' mc' : Nat} (hE : ∀ k, E k → B ≤ k ∧ k < w.heap.size) (hB : B ≤ w.heap.size) (hG : GoodKv v) (hp : E p) (k : RkV B (growE E w u) u p ⟨v.node, v.f, v.room, v.T, true, v.st⟩ n a l lc q r pb mb mc) (hk : Rg.Kept (fun k _ => E k) w u)
    (b : u2.heap[p]? = some (.cells (rkcs 1000 v.node (.slice a l.length lc) (.pointer (some ⟨q, 0, none⟩)) (goodsV v.node pb') (moneyV v.node pb') (fun _ => 0)).toArray 51 (0, 0))) (nb : NewB u.heap.size u2 v.node pb' mb' mc' l) (k2 : Rg.Kept (fun k _ => k = p) u u2) : Rk B (growE E w u2) u2 p (crK v) 0 ∧ Rg.Kept (fun k _ => E k) w u2 := by
  obtain ⟨⟨a1, a2, a3, a4⟩, ⟨b1, b2, b3⟩, d1, i1⟩ := k.apart
  have s1 := hk.size
  have s2 := k2.size
  have rb := nb.rbk (B := B) (f := v.f) (by omega) k.fl
  have lt := rb.lt
  have lo : u.heap.size ≤ pb' ∧ u.heap.size ≤ mb' ∧ u.heap.size ≤ mc' := by
    rcases nb with ⟨_, h, e⟩ | ⟨_, h⟩
    · exact ⟨h.2.1, h.2.2.1, by rw [e]; exact h.2.2.1⟩
    · exact ⟨h.2.1.1, h.2.1.2.1, h.2.1.2.2.1⟩
  have up : ∀ i, growE E w u i → growE E w u2 i := fun i e => e.imp (fun e => e) (fun e => ⟨e.1, by omega⟩)
  refine ⟨⟨kgrow_in hE hB (by omega), crK_good hG, a, l, lc, q, r, pb', mb', mc', ⟨b, (k.row.kept k2 (fun i cs _ e => (i1 i cs e).1)).wide up, k.fl, k.ll, k.jr.kept k2 (fun _ e => a1 e.symm) (fun i _ e => (d1 i e).1), rb, GoodB.ini _, .inl hp, up _ k.eq, fun i e => up _ (k.er i e), .inr ⟨by omega, by omega⟩, .inr ⟨by omega, by omega⟩, .inr ⟨by omega, by omega⟩⟩⟩, hk.trans (k2.mono (fun i _ e => by subst e; exact hp))⟩
theorem rkcrash_any {B : Nat} {E : Nat → Prop} {w : World} {p : Nat} {v : Kv} {n : Nat} (k : Rk B E w p v n) (stay torn : Int) :
    Calls Tryz.prog 8 #[.pointer (some ⟨p, 0, none⟩), .int .i64 stay, .int .i64 torn] w fun e w' => (∃ x, e = .returned x) ∧ (∃ n', n' ≤ n ∧ Rk B (growE E w w') w' p (crK v) n') ∧ Rg.Kept (fun k _ => E k) w w' := by
  obtain ⟨hE, hG, a, l, lc, q, r, pb, mb, mc, k0⟩ := id k
  have hB := k.low
  have hln : (v.T.map lnK).length = v.T.length := List.length_map _
  obtain ⟨-, -, c2, -, -⟩ := k0.cells
  obtain ⟨⟨-, -, -, j3⟩, -⟩ := k0.jr.cells
  cases hd : v.down
  · have j := k0.jr
    rw [hd] at j j3
    have cs := crash_sure (v.T.map lnK) stay torn
    rw [hln] at cs
    have h2 : ∀ x ∈ v.T.map lnK, 2 ≤ x.size := fun x hx => by obtain ⟨e, he, rfl⟩ := List.mem_map.1 hx; exact ke_size (hG.ok e he)
    have C : Calls Tryz.prog 32 #[.pointer (some ⟨q, 0, none⟩), .int .i64 stay, .int .i64 torn] w fun e w' => (∃ x, e = .returned x) ∧ ∃ r', RkV B (growE E w w') w' p ⟨v.node, v.f, v.room, v.T, true, v.st⟩ n a l lc q r' pb mb mc ∧ Rg.Kept (fun k _ => E k) w w' := by
      refine (R.crash_up j (by rw [hln]; exact Nat.le_refl _) h2 stay torn).mono ?_
      rintro e w' ⟨h1, r', h2, h3⟩
      rw [cs] at h2
      exact ⟨h1, r', k0.jstep h2 h3⟩
    have FX : Hid (∀ u r', RkV B (growE E w u) u p ⟨v.node, v.f, v.room, v.T, true, v.st⟩ n a l lc q r' pb mb mc → Rg.Kept (fun k _ => E k) w u → Calls Tryz.prog 30 #[.pointer (some ⟨p, 0, none⟩)] u fun e w' => (∃ x, e = .returned x) ∧ (∃ n', n' ≤ n ∧ Rk B (growE E w w') w' p (crK v) n') ∧ Rg.Kept (fun k _ => E k) w w') := fun u r' h1 h2 => by
      refine (rkempty_any h1.nd h1.blk (fun u' hk' => (h1.row.kept hk' (fun i cs _ e => (h1.apart.2.2.2 i cs e).1)).ints) h1.ll).mono ?_
      rintro e w' ⟨y1, pb', mb', mc', y2, y3, y4⟩
      obtain ⟨z1, z2⟩ := RkV.emptied hE hB hG k0.ep h1 h2 y2 y3 y4
      exact ⟨y1, ⟨0, Nat.zero_le _, z1⟩, z2⟩
    clear k k0 hE hG hB j cs h2 hln hd
    go_enter Tryz.func8, Tryz.ntmps8
    go_wp2_with (first
      | (go_at_call 32; refine C.mono ?_; clear C; rintro e u1 ⟨⟨x, rfl⟩, r', h1, h2⟩; have F := FX.out u1 r' h1 h2; clear h1 h2 FX)
      | (go_at_call 30; refine F.mono ?_; clear F; rintro e u2 ⟨⟨x, rfl⟩, hx⟩; have HX := hide hx; clear hx))
    go_end0
    exact ⟨⟨_, rfl⟩, HX.out⟩
  · rw [hd] at j3
    have e1 : crK v = v := by
      have := hG.st_
      rw [hd] at this
      simp only [if_true] at this
      unfold crK
      rw [← this, ← hd]
    rw [e1]
    have HK : Hid (Rk B (growE E w w) w p v n) := ⟨kgrow_in hE hB (Nat.le_refl _), hG, a, l, lc, q, r, pb, mb, mc, k0.wide (fun _ e => .inl e)⟩
    clear k k0 hE hG hB hln e1 hd
    go_enter Tryz.func8, Tryz.ntmps8
    go_wp2
    go_end0
    exact ⟨⟨_, rfl⟩, ⟨n, Nat.le_refl _, HK.out⟩, Rg.Kept.refl _ _⟩
theorem zeroK (w : World) : (zeroValue 51).run Tryz.prog w = .ok (.agg (.int .i64 0 :: .slice none 0 0 :: .pointer none :: .pointer none :: .pointer none :: List.replicate 1000 (.int .i64 0)).toArray) w := by kernel_rfl
theorem build_keep (nd : Int) (b : Option Addr) (m c : Nat) (j : Option Addr) (w : World) : (Instr.build 51 #[(0, .int .i64 nd), (1, .slice b m c), (2, .pointer j)]).run Tryz.prog w = .ok (.agg (rkcs 1000 nd (.slice b m c) (.pointer j) (.pointer none) (.pointer none) (fun _ => 0)).toArray) w := by
  have e : (rkcs 1000 nd (.slice b m c) (.pointer j) (.pointer none) (.pointer none) (fun _ => 0)).toArray = ((((.int .i64 0 :: .slice none 0 0 :: .pointer none :: .pointer none :: .pointer none :: List.replicate 1000 (.int .i64 0)).toArray : Array Value).setIfInBounds 0 (.int .i64 nd)).setIfInBounds 1 (.slice b m c)).setIfInBounds 2 (.pointer j) := by
    unfold rkcs
    rw [List.map_const', List.length_range]
    generalize List.replicate 1000 (Value.int .i64 0) = R
    simp
  have hs : ((.int .i64 0 :: .slice none 0 0 :: .pointer none :: .pointer none :: .pointer none :: List.replicate 1000 (.int .i64 0)).toArray : Array Value).size = 1005 := by rw [List.size_toArray, List.length_cons, List.length_cons, List.length_cons, List.length_cons, List.length_cons, List.length_replicate]
  rw [e]
  have hz := zeroK w
  generalize ((.int .i64 0 :: .slice none 0 0 :: .pointer none :: .pointer none :: .pointer none :: List.replicate 1000 (.int .i64 0)).toArray : Array Value) = Z at hz hs ⊢
  clear e
  simp [Instr.build, hz, run_underlying Tryz.underlying51, Tryz.sizeOf3, Tryz.sizeOf22, Tryz.sizeOf49, Tryz.sizeOf46, Tryz.sizeOf47, Tryz.sizeOf48, Instr.fill, hs, Value.cells, Result.andThen]
theorem wpList_build_keep {w : World} {ops : Array Oper} {rest : List Oper} {o : Oper} {a : Act} {Q : Exit → Act → World → Prop} (hg : o.guard = none) (x0 x1 x2 : Operand) (hop : o.op = Op.build 51 #[(0, x0), (1, x1), (2, x2)]) (nd : Int) (b : Option Addr) (m c : Nat) (j : Option Addr) (h0 : a.eval x0 = .int .i64 nd) (h1 : a.eval x1 = .slice b m c) (h2 : a.eval x2 = .pointer j)
    (hK : wpList Tryz.prog ops Q rest (a.put o.dst (.agg (rkcs 1000 nd (.slice b m c) (.pointer j) (.pointer none) (.pointer none) (fun _ => 0)).toArray)) w) : wpList Tryz.prog ops Q (o :: rest) a w := by
  refine wpList_plain hg fun K' hK' => ?_
  have hrun := build_keep nd b m c j w
  generalize (rkcs 1000 nd (.slice b m c) (.pointer j) (.pointer none) (.pointer none) (fun _ => 0)).toArray = cs at hrun hK
  unfold Oper.wp
  simp only [execOp, hop]
  simp [h0, h1, h2, hrun, Result.andThen]
  exact hK' _ _ hK
theorem box_keep (cs : Array Value) (w : World) : (Instr.box 51 (.agg cs)).run Tryz.prog w = .ok (.pointer (some ⟨w.heap.size, 0, none⟩)) (w.alloc (.cells cs 51)) := by
  simp [Instr.box, newVar, newRow, Value.cells, Result.andThen]
theorem rknew_no (node : Int) (h : ¬ (node = 1 ∨ node = 2)) (room : Int) (a : Option Addr) (n c : Nat) (w : World) :
    Calls Tryz.prog 6 #[.int .i64 node, .slice a n c, .int .i64 room] w fun e w' => e = .returned (.pointer none) ∧ w = w' := by
  have q1 : (node != 1) = true := by simp; omega
  have q2 : (node != 2) = true := by simp; omega
  clear h
  go_enter Tryz.func6, Tryz.ntmps6
  go_wp2
  go_ret
  exact ⟨rfl, rfl⟩
/-- The row that was copied. -/
theorem row_of_own {B : Nat} {w : World} {b : Option Addr} {m c : Nat} {l : List Int} (h : w.ownsRow B 3 1 (.slice b m c) m (l.map (Value.int .i64))) {E : Nat → Prop} (hE : ∀ k, B ≤ k → k < w.heap.size → E k) : RowK E w b l ∧ m = l.length := by
  have hm : m = l.length := by have := h.1; simpa using this.symm
  refine ⟨?_, hm⟩
  rcases h.2 with ⟨_, e⟩ | ⟨g, cap, cur, e, hg, hc, hn, _, hs, ht⟩
  · left
    rw [e] at hm
    exact List.eq_nil_of_length_eq_zero hm.symm
  · cases e
    refine .inr ⟨g, cur, rfl, hc, hE g hg (Array.getElem?_eq_some_iff.1 hc).1, fun i hi => ?_⟩
    have h1 : (l.map (Value.int .i64))[i]? = some (.int .i64 (l.getD i 0)) := by simp [List.getD, hi]
    rw [← ht, List.getElem?_take_of_lt (by omega)] at h1
    simpa using h1
/-- All that NewKeeper has made ahead of empty. -/
theorem rk_made {w w4 : World} {node : Int} (hnd : node = 1 ∨ node = 2) {room : Int} {b : Option Addr} {m c : Nat} {l : List Int} (hl : l.length ≤ 100) (ho : w4.ownsRow w.heap.size 3 1 (.slice b m c) m (l.map (Value.int .i64))) (h4 : Below w.heap.size w w4) :
    Calls Tryz.prog 30 #[.pointer (some ⟨w4.heap.size + 1, 0, none⟩)] ((w4.alloc (.cells #[.int .i64 (roomV room), .slice none 0 0, .int .i64 0, .bool false] 45)).alloc (.cells (rkcs 1000 node (.slice b m c) (.pointer (some ⟨w4.heap.size, 0, none⟩)) (.pointer none) (.pointer none) (fun _ => 0)).toArray 51)) fun e w' => (∃ x, e = .returned x) ∧ ∃ E, Rk w.heap.size E w' (w4.heap.size + 1) (newKv node (fL l) room) 0 ∧ Below w.heap.size w w' := by
  have hm : m = l.length := by have := ho.1; simpa using this.symm
  subst hm
  have bJ : Below w4.heap.size w4 (w4.alloc (.cells #[.int .i64 (roomV room), .slice none 0 0, .int .i64 0, .bool false] 45)) := (Below.refl _ _).alloc (Nat.le_refl _) _
  have j1 : R.Jr w.heap.size (w4.alloc (.cells #[.int .i64 (roomV room), .slice none 0 0, .int .i64 0, .bool false] 45)) w4.heap.size (.slice none 0 0) (roomV room) [] 0 false := R.Jr.new w4 w.heap.size h4.size (roomV room) (roomV_in room).1 (roomV_in room).2
  have sJ : (w4.alloc (.cells #[.int .i64 (roomV room), .slice none 0 0, .int .i64 0, .bool false] 45)).heap.size = w4.heap.size + 1 := by simp
  generalize w4.alloc (.cells #[.int .i64 (roomV room), .slice none 0 0, .int .i64 0, .bool false] 45) = u1 at bJ j1 sJ ⊢
  have hnew := World.alloc_heap_new u1 (.cells (rkcs 1000 node (.slice b l.length c) (.pointer (some ⟨w4.heap.size, 0, none⟩)) (.pointer none) (.pointer none) (fun _ => 0)).toArray 51)
  have bK : Below u1.heap.size u1 (u1.alloc (.cells (rkcs 1000 node (.slice b l.length c) (.pointer (some ⟨w4.heap.size, 0, none⟩)) (.pointer none) (.pointer none) (fun _ => 0)).toArray 51)) := (Below.refl _ _).alloc (Nat.le_refl _) _
  have sK : (u1.alloc (.cells (rkcs 1000 node (.slice b l.length c) (.pointer (some ⟨w4.heap.size, 0, none⟩)) (.pointer none) (.pointer none) (fun _ => 0)).toArray 51)).heap.size = u1.heap.size + 1 := by simp
  generalize u1.alloc (.cells (rkcs 1000 node (.slice b l.length c) (.pointer (some ⟨w4.heap.size, 0, none⟩)) (.pointer none) (.pointer none) (fun _ => 0)).toArray 51) = u2 at hnew bK sK ⊢
  rw [sJ] at hnew
  have hs4 := h4.size
  have b2 : Below w.heap.size w u2 := bel_on' (bel_on' h4 bJ) bK
  have j2 := j1.on bK
  have kk4 : Rg.Kept (fun _ _ => False) w4 u2 := (Rg.Kept.of_below bJ).trans (Rg.Kept.of_below bK)
  have rw4 := (row_of_own ho (E := fun k => w.heap.size ≤ k ∧ k < w4.heap.size) (fun k h1 h2 => ⟨h1, h2⟩)).1
  have rw2 := rw4.kept kk4 (fun _ _ _ _ h => h)
  have rni : ∀ u, Rg.Kept (fun k _ => k = w4.heap.size + 1) u2 u → RowK (fun k => w.heap.size ≤ k ∧ k < w4.heap.size) u b l := fun u hk => rw2.kept hk (fun i _ e _ e2 => by omega)
  refine (rkempty_any hnd hnew (fun u hk => (rni u hk).ints) hl).mono ?_
  rintro e w' ⟨y1, pb, mb, mc, y2, y3, y4⟩
  have s5 := y4.size
  have rb := y3.rbk (B := w.heap.size) (f := fL l) (by omega) (fun k _ => by unfold fL; rw [Int.toNat_natCast])
  have lt := rb.lt
  have lo : u2.heap.size ≤ pb ∧ u2.heap.size ≤ mb ∧ u2.heap.size ≤ mc := by
    rcases y3 with ⟨_, h, e⟩ | ⟨_, h⟩
    · exact ⟨h.2.1, h.2.2.1, by rw [e]; exact h.2.2.1⟩
    · exact ⟨h.2.1.1, h.2.1.2.1, h.2.1.2.2.1⟩
  refine ⟨y1, fun k => w.heap.size ≤ k ∧ k < w'.heap.size, ⟨fun _ e => e, newKv_good hnd, b, l, c, w4.heap.size, .slice none 0 0, pb, mb, mc, ⟨y2, (rni w' y4).wide (fun k e => ⟨e.1, by omega⟩), fun k _ => (by show fL l k = _; unfold fL; rw [Int.toNat_natCast]), hl, j2.kept y4 (fun _ e => by omega) (fun k _ e => by simp [Value.ownBlock] at e), rb, GoodB.ini _, ⟨by omega, by omega⟩, ⟨by omega, by omega⟩, (fun k e => by simp [Value.ownBlock] at e), ⟨by omega, by omega⟩, ⟨by omega, by omega⟩, ⟨by omega, by omega⟩⟩⟩, b2.trans (y4.bel (by omega) (fun i _ e => by omega))⟩
set_option maxRecDepth 100000 in
theorem rknew_any {node : Int} (h : node = 1 ∨ node = 2) (room : Int) {a : Option Addr} {l : List Int} {cap : Nat} {w : World} (ha : Ints w a l) (hnil : a = none → l.length = 0 ∧ cap = 0) (hl : l.length ≤ 100) :
    Calls Tryz.prog 6 #[.int .i64 node, .slice a l.length cap, .int .i64 room] w fun e w' => ∃ p E, e = .returned (.pointer (some ⟨p, 0, none⟩)) ∧ Rk w.heap.size E w' p (newKv node (fL l) room) 0 ∧ Below w.heap.size w w' := by
  have MK : Hid (∀ w4 b m c, w4.ownsRow w.heap.size 3 1 (.slice b m c) m (l.map (Value.int .i64)) → Below w.heap.size w w4 → Calls Tryz.prog 30 #[.pointer (some ⟨w4.heap.size + 1, 0, none⟩)] ((w4.alloc (.cells #[.int .i64 (roomV room), .slice none 0 0, .int .i64 0, .bool false] 45)).alloc (.cells (rkcs 1000 node (.slice b m c) (.pointer (some ⟨w4.heap.size, 0, none⟩)) (.pointer none) (.pointer none) (fun _ => 0)).toArray 51)) fun e w' => (∃ x, e = .returned x) ∧ ∃ E, Rk w.heap.size E w' (w4.heap.size + 1) (newKv node (fL l) room) 0 ∧ Below w.heap.size w w') := fun w4 b m c h1 h2 => rk_made h hl h1 h2
  have NJ : Hid (∀ u : World, Calls Tryz.prog 29 #[.int .i64 room] u fun e w' => e = .returned (.pointer (some ⟨u.heap.size, 0, none⟩)) ∧ w' = u.alloc (.cells #[.int .i64 (roomV room), .slice none 0 0, .int .i64 0, .bool false] 45)) := fun u => R.new_any room u
  have bx := box_keep
  have q12 : (node != 1) = false ∨ (node != 1) = true ∧ (node != 2) = false := by rcases h with rfl | rfl; exact .inl rfl; exact .inr ⟨rfl, rfl⟩
  generalize roomV room = rm at NJ MK
  generalize newKv node (fL l) room = v0 at MK ⊢
  have HA := hide ha
  have HN := hide hnil
  clear ha hnil h
  rcases q12 with q1 | ⟨q1, q2⟩
  all_goals go_enter Tryz.func6, Tryz.ntmps6
  all_goals (go_wp2_with (first
    | (at_builtin; refine append_numsN rfl (.const (.slice none 0 0)) (.tmp 15) rfl w.heap.size _ 0 [] rfl (nums_nil w w.heap.size) a l.length cap l rfl rfl HN.out HA.out (by omega) (Nat.le_refl _) ?_; intro v' w4 hown hgrow; rw [Nat.zero_add, List.nil_append] at hown; obtain ⟨b, c, rfl, -⟩ := row_slice hown; have M := MK.out w4 b l.length c hown ((Below.refl _ _).grown hgrow (Nat.le_refl _) (fun i e => by cases e)); have J := NJ.out w4; clear hown hgrow MK NJ)
    | (go_at_call 29; refine J.mono ?_; clear J; rintro e u1 ⟨rfl, rfl⟩)
    | (refine wpList_build_keep rfl _ _ _ rfl node _ _ _ _ rfl rfl rfl ?_; have hbx := bx (rkcs 1000 node (.slice b l.length c) (.pointer (some ⟨w4.heap.size, 0, none⟩)) (.pointer none) (.pointer none) (fun _ => 0)).toArray; clear bx; generalize (rkcs 1000 node (.slice b l.length c) (.pointer (some ⟨w4.heap.size, 0, none⟩)) (.pointer none) (.pointer none) (fun _ => 0)).toArray = cs at hbx M ⊢)
    | (go_at_call 30; refine M.mono ?_; clear M; rintro e u3 ⟨⟨x, rfl⟩, E, hx⟩; have HX := hide hx; clear hx)))
  all_goals go_ret
  all_goals exact ⟨_, E, rfl, HX.out⟩
end Go.Proofs.YtepclljoiccieaaGreatDoor
/-
  The reference's keeper: Start.
-/
namespace Go.Proofs.YtepclljoiccieaaGreatDoor
open Go.ChangeShapes Go.WideShapes Go.ChangeAt Go.RowKit Go.Maps

/-- What Start's loop has behind i entries. -/
structure RKt (B : Nat) (E : Nat → Prop) (u2 wr : World) (p : Nat) (v : Kv) (n : Nat) (a : Option Addr) (l : List Int) (lc q : Nat) (r : Value) (pb mb mc i : Nat) : Prop where
  k : RkV B E wr p ⟨v.node, v.f, v.room, v.T, false, (v.T.take i).foldl (kstp v.node) (kini v.f)⟩ (n + i) a l lc q r pb mb mc
  kp : Rg.Kept (fun k _ => E k) u2 wr
theorem ktake_fold {nd : Int} {T : List Ke} {e : Ke} {i : Nat} (h : T[i]? = some e) (t : Kt) : (T.take (i + 1)).foldl (kstp nd) t = kstp nd ((T.take i).foldl (kstp nd) t) e := by
  rw [List.take_add_one, h, List.foldl_append]
  rfl
/-- The entries as they lie beside the keeper. -/
theorem kents_at {N : Nat} {E : Nat → Prop} {w u : World} {a : Option Addr} {xs : List Ev} (h : EntsF N w a xs) (hk : Rg.Kept (fun k _ => E k) w u) (hE : ∀ k, E k → k < N) {i : Nat} {x : Ev} (hx : xs[i]? = some x) :
    ∃ g off, a = some ⟨g, off, none⟩ ∧ (u.cell? ⟨g, off + i * 3, none⟩ = some (.string x.k) ∧ u.cell? ⟨g, off + i * 3 + 1, none⟩ = some (.int .i64 x.id) ∧ u.cell? ⟨g, off + i * 3 + 2, none⟩ = some (.slice x.av x.l.length x.cv)) ∧ Ints u x.av x.l ∧ (x.l ≠ [] → ∀ ad, x.av = some ad → N ≤ ad.block) := by
  rcases h with h | ⟨g, off, ha, hg, hc⟩
  · subst h; simp at hx
  obtain ⟨⟨h1, h2, h3⟩, h4, _⟩ := hc i x hx
  have no : ∀ (o : Obj), ¬ E g := fun _ e => by have := hE _ e; omega
  refine ⟨g, off, ha, ⟨kept_cellR hk no h1, kept_cellR hk no h2, kept_cellR hk no h3⟩, ?_, fun hne ad e => ?_⟩
  · rcases h4 with h4 | ⟨b, o', hb1, hb2, hb3, hb4⟩
    · exact .inl h4
    · exact .inr ⟨b, o', hb1, fun i hi => kept_cellR hk (fun _ e => by have : b < N := hE _ e; omega) (hb4 i hi)⟩
  · rcases h4 with h4 | ⟨b, o', hb1, hb2, _⟩
    · exact absurd h4 hne
    · rw [hb1] at e; cases e; exact hb2
theorem RKt.on {B : Nat} {E : Nat → Prop} {u2 wr u : World} {p : Nat} {v : Kv} {n : Nat} {a : Option Addr} {l : List Int} {lc q : Nat} {r : Value} {pb mb mc i : Nat} (h : RKt B E u2 wr p v n a l lc q r pb mb mc i) (hb : Below wr.heap.size wr u) : RKt B E u2 u p v n a l lc q r pb mb mc i := ⟨h.k.on hb, h.kp.trans (Rg.Kept.of_below hb)⟩
def RkRel (B : Nat) (E : Nat → Prop) (u2 : World) (p : Nat) (v : Kv) (n : Nat) (a : Option Addr) (l : List Int) (lc q : Nat) (r : Value) (pb mb mc len : Nat) (i : Value) (wr : World) : Prop :=
  ∃ j : Nat, i = .int .i64 j ∧ j ≤ len ∧ Hid (RKt B E u2 wr p v n a l lc q r pb mb mc j)
theorem rkstart_up {B : Nat} {E : Nat → Prop} {w : World} {p : Nat} {v : Kv} {n : Nat} (k : Rk B E w p v n) (hd : v.down = false) :
    Calls Tryz.prog 10 #[.pointer (some ⟨p, 0, none⟩)] w fun e w' => (∃ x, e = .returned x) ∧ Below w.heap.size w w' := by
  obtain ⟨_, _, a, l, lc, q, r, pb, mb, mc, k0⟩ := k
  obtain ⟨-, -, c2, -, -⟩ := k0.cells
  obtain ⟨⟨-, -, -, j3⟩, -⟩ := k0.jr.cells
  rw [hd] at j3
  clear k0 hd
  go_enter Tryz.func10, Tryz.ntmps10
  go_wp2
  refine bodyPost_ret (results_none rfl _ _ _) rfl ?_
  exact ⟨⟨_, rfl⟩, Below.refl _ _⟩
set_option maxRecDepth 100000 in
set_option maxHeartbeats 4000000 in
theorem rkstart_down {w0 w : World} {E : Nat → Prop} {p : Nat} {v : Kv} {n : Nat} (hg0 : Gl w0) (hw : Below w0.heap.size w0 w) (k : Rk w0.heap.size E w p v n) (hd : v.down = true) (hnn : n < 800000) :
    Calls Tryz.prog 10 #[.pointer (some ⟨p, 0, none⟩)] w fun e w' => (∃ x, e = .returned x) ∧ Rk w0.heap.size (growE E w w') w' p (upK v) (n + 10000) ∧ Rg.Kept (fun k _ => E k) w w' := by
  obtain ⟨hE, hG, a, l, lc, q, r, pb, mb, mc, k0⟩ := id k
  have hB := k.low
  have hln : (v.T.map lnK).length = v.T.length := List.length_map _
  have hok : ∀ x ∈ v.T.map lnK, Ok x := fun x hx => by obtain ⟨e, he, rfl⟩ := List.mem_map.1 hx; exact ok_ke (hG.ok e he)
  have hwh := whole_ok _ hok
  have hst : v.st = kini v.f := by have := hG.st_; rw [hd] at this; exact this
  have j := k0.jr
  obtain ⟨-, -, c2, -, -⟩ := k0.cells
  obtain ⟨⟨-, -, -, j3⟩, -⟩ := j.cells
  rw [hd] at j j3
  have R : Calls Tryz.prog 36 #[.pointer (some ⟨q, 0, none⟩)] w fun e w' => (∃ x, e = .returned x) ∧ ∃ r', RkV w0.heap.size (growE E w w') w' p ⟨v.node, v.f, v.room, v.T, false, v.st⟩ n a l lc q r' pb mb mc ∧ Rg.Kept (fun k _ => E k) w w' := by
    refine (R.recover_down hg0 hw j).mono ?_
    rintro e w' ⟨h1, r', h2, h3⟩
    rw [hwh, List.take_length, hln] at h2
    exact ⟨⟨_, h1⟩, r', k0.jstep h2 h3⟩
  have HA : Hid (∀ u r', RkV w0.heap.size (growE E w u) u p ⟨v.node, v.f, v.room, v.T, false, v.st⟩ n a l lc q r' pb mb mc → Rg.Kept (fun k _ => E k) w u → u.cell? ⟨p, 2, none⟩ = some (.pointer (some ⟨q, 0, none⟩)) ∧ Calls Tryz.prog 37 #[.pointer (some ⟨q, 0, none⟩)] u (RAllF u (v.T.map lnK))) := fun u r' h1 h2 => ⟨h1.cells.2.2.1, rallF_any hg0 (hw.trans (k.bel h2)) h1.jr⟩
  have HGD := hide hG
  have HE := hide hE
  have HBB := hide hB
  have HWH := hide hwh
  have HLN := hide hln
  have HST := hide hst
  have HD := hide hd
  have HP := hide k0.ep
  clear hg0 hw k k0 hE hB hln hok hwh hst j hG hd
  go_enter Tryz.func10, Tryz.ntmps10
  go_wp2_with fail
  refine R.mono ?_
  clear R
  rintro e u1 ⟨⟨x, rfl⟩, r', h1, h2⟩
  clear c2 j3
  obtain ⟨c2, A⟩ := HA.out u1 r' h1 h2
  have H1 := hide h1
  have H2 := hide h2
  clear h1 h2 HA
  go_wp2_with fail
  refine A.mono ?_
  clear A c2
  rintro e u2 ⟨ys, ay, c, rfl, hyl, hrd, hen, hb2⟩
  have hyn : ys.length = v.T.length := by rw [hyl, HWH.out, HLN.out]
  have HYN := hide hyn
  have HRD := hide hrd
  have HEN := hide hen
  obtain ⟨E1, hE1⟩ : ∃ E1, growE E w u1 = E1 := ⟨_, rfl⟩
  rw [hE1] at H1
  have hs1 := H2.out.size
  have HE1 : Hid (∀ k, E1 k → w0.heap.size ≤ k ∧ k < u1.heap.size) := by show ∀ k, _; rw [← hE1]; exact kgrow_in HE.out HBB.out hs1
  have HEX := hide hE1
  have HS0 : Hid (RKt w0.heap.size E1 u2 u2 p v n a l lc q r' pb mb mc 0) := ⟨by have := H1.out.on hb2; rw [HST.out] at this; exact this, Rg.Kept.refl _ _⟩
  have HB2 := hide hb2
  have hl4 : ys.length ≤ 4096 := by rw [hyn, ← HLN.out]; exact H1.out.jr.2.2.2.2.1
  clear hyl hrd hen hb2 hyn hE1 hs1
  obtain ⟨ny, hny⟩ : ∃ ny, ys.length = ny := ⟨_, rfl⟩
  rw [hny] at hl4 HYN
  rw [hny]
  have HN := hide hny
  clear hny
  go_wp2_with fail
  go_loopw [23] (fun i wr => RkRel w0.heap.size E1 u2 p v n a l lc q r' pb mb mc ny i wr) (fun i _ => ny - (Go.RowKit.intOf i).toNat)
  case atStart => exact ⟨0, rfl, Nat.zero_le _, HS0⟩
  case round =>
    obtain ⟨j, rfl, hj, HS⟩ := hrel
    clear HS0
    by_cases hlt : j < ny
    rotate_left
    · have ql : ¬ (j : Int) < (ny : Int) := by omega
      obtain rfl : j = ny := by omega
      have HF : Hid (Rk w0.heap.size (growE E w wr) wr p (upK v) (n + 10000) ∧ Rg.Kept (fun k _ => E k) w wr) := by
        have h3 := HS.out.k.more (n' := n + 10000) (by omega)
        have h4 := HS.out.kp
        have h5 : Rg.Kept (fun k _ => E k) w wr := by
          refine kept_grow H2.out ?_
          rw [HEX.out]
          exact (Rg.Kept.of_below HB2.out).trans h4
        have e1 : upK v = ⟨v.node, v.f, v.room, v.T, false, krun v.node v.f v.T⟩ := by unfold upK; rw [if_pos HD.out]
        rw [HYN.out, List.take_length] at h3
        refine ⟨⟨kgrow_in HE.out HBB.out h5.size, upK_good HGD.out, a, l, lc, q, r', pb, mb, mc, ?_⟩, h5⟩
        rw [e1]
        refine h3.wide (fun i e => ?_)
        rw [← HEX.out] at e
        have := HB2.out.size
        have := h4.size
        exact e.imp (fun e => e) (fun e => ⟨e.1, by omega⟩)
      go_wp2
      go_end0
      exact ⟨⟨_, rfl⟩, HF.out⟩
    have ql : (j : Int) < (ny : Int) := by omega
    obtain ⟨y, hy⟩ : ∃ y, ys[j]? = some y := ⟨ys[j]'(by rw [HN.out]; exact hlt), List.getElem?_eq_getElem _⟩
    obtain ⟨en, hen⟩ : ∃ en, v.T[j]? = some en := ⟨v.T[j]'(by rw [← HYN.out]; exact hlt), List.getElem?_eq_getElem _⟩
    have he : OkK en := HGD.out.ok en (List.mem_of_getElem? hen)
    have hpar := HRD.out j y hy
    have hgd : (v.T.map lnK).getD j ByteArray.empty = lnK en := by rw [List.getD_eq_getElem?_getD, List.getElem?_map, hen]; rfl
    rw [hgd] at hpar
    obtain ⟨p1, p2, p3⟩ := ke_parse he hpar
    obtain ⟨g, off, rfl, ⟨g0, g1, g2⟩, hin, hblk⟩ := kents_at HEN.out HS.out.kp (fun k e => (HE1.out k e).2) hy
    rw [p1] at g0
    rw [p2] at g1
    rw [p3] at g2 hin hblk
    have HFD : Hid (∀ u, RkV w0.heap.size E1 u p ⟨v.node, v.f, v.room, v.T, false, kstp v.node ((v.T.take j).foldl (kstp v.node) (kini v.f)) en⟩ (n + (j + 1)) a l lc q r' pb mb mc → Rg.Kept (fun k _ => E1 k) wr u → RKt w0.heap.size E1 u2 u p v n a l lc q r' pb mb mc (j + 1)) := fun u h3 h4 => ⟨by rw [ktake_fold hen]; exact h3, HS.out.kp.trans h4⟩
    have hk0 := HS.out.k
    have hsu : u1.heap.size ≤ wr.heap.size := by have := HS.out.kp.size; have := HB2.out.size; omega
    generalize (v.T.take j).foldl (kstp v.node) (kini v.f) = t at hk0 HFD
    clear hpar hgd hen hy p1 p2 p3 HS
    obtain ⟨av, hav⟩ : ∃ av, y.av = av := ⟨_, rfl⟩
    rw [hav] at g2 hin hblk
    clear hav
    generalize y.cv = cv at g2
    obtain ⟨ec, ei, ea, eb⟩ := en
    obtain ⟨I, hI⟩ : ∃ I : Nat, ei = I := ⟨ei.toNat, by have := he.id; simp only at this; omega⟩
    subst hI
    have hI2 : (I : Int) < 1000 := by have := he.id; simp only at this; omega
    have hI3 : I < 1000 := by omega
    have hwI : (Lit.int .i64 (I : Int)).wf = true := Hd.wf_of (by omega) (by omega)
    obtain ⟨W, hW⟩ : ∃ W, W = wr.alloc (.cells #[.string (wB ec), .int .i64 I, .slice av (nK ⟨ec, I, ea, eb⟩).length cv] 78) := ⟨_, rfl⟩
    have hbW : Below wr.heap.size wr W := by rw [hW]; exact (Below.refl _ _).alloc (Nat.le_refl _) _
    have hbD : Below W.heap.size W W.drew := (Below.refl _ _).drew
    have kW := hk0.on hbW
    have aW := hin.below hbW
    have hKW : Rg.Kept (fun k _ => E1 k) wr W := Rg.Kept.of_below hbW
    have HNE : Hid (¬ E1 wr.heap.size) := fun e => by have := (HE1.out _ e).2; omega
    clear hk0 hin
    have hc := he.c
    simp only at hc g0 g1 g2
    have hc5 : ec = 1 ∨ ec = 2 ∨ ec = 3 ∨ ec = 4 ∨ ec = 5 := by omega
    clear hc
    rcases hc5 with rfl | rfl | rfl | rfl | rfl
    · have kWD := kW.on hbD
      have T := rktake_any kWD hwI ea eb (by omega)
      simp only [wB, nK, if_true, List.length_cons, List.length_nil, Nat.zero_add, Nat.reduceAdd] at hW aW g0 g2 hblk
      obtain ⟨b, o5, rfl, c5, c6⟩ : ∃ b off, av = some ⟨b, off, none⟩ ∧ W.cell? ⟨b, off, none⟩ = some (.int .i64 ea) ∧ W.cell? ⟨b, off + 1, none⟩ = some (.int .i64 eb) := by
        rcases aW with h | ⟨b, off, h1, h2⟩
        · cases h
        · exact ⟨b, off, h1, by simpa using h2 0 (by simp), by simpa using h2 1 (by simp)⟩
      obtain ⟨b0, b1, b2⟩ := three_new wr (.string ⟨#[114, 101, 97, 100, 121]⟩) (.int .i64 I) (.slice (some ⟨b, o5, none⟩) 2 cv) 78
      rw [← hW] at b0 b1 b2
      have hbl := hblk (by simp) _ rfl
      have hnb : ¬ E1 b := fun e => by have := (HE1.out _ e).2; simp only at hbl; omega
      have B1 := hide (And.intro b1 (And.intro b2 (And.intro c5 c6)))
      have NX : Hid (∀ u, RkV w0.heap.size E1 u p ⟨v.node, v.f, v.room, v.T, false, ⟨tkS v.node t.o I ea eb, t.s⟩⟩ (n + j + 1) a l lc q r' pb mb mc → Rg.Kept (fun k _ => E1 k) W.drew u → Rg.Kept (fun k _ => E1 k) wr u ∧ u.cell? ⟨wr.heap.size, 1, none⟩ = some (.int .i64 I) ∧ u.cell? ⟨wr.heap.size, 2, none⟩ = some (.slice (some ⟨b, o5, none⟩) 2 cv) ∧ u.cell? ⟨b, o5, none⟩ = some (.int .i64 ea) ∧ u.cell? ⟨b, o5 + 1, none⟩ = some (.int .i64 eb)) := fun u _ h2 =>
        ⟨hKW.trans ((Rg.Kept.of_below hbD).trans h2), kept_cellR h2 (fun _ => HNE.out) (cellL B1.out.1 hbD), kept_cellR h2 (fun _ => HNE.out) (cellL B1.out.2.1 hbD), kept_cellR h2 (fun _ => hnb) (cellL B1.out.2.2.1 hbD), kept_cellR h2 (fun _ => hnb) (cellL B1.out.2.2.2 hbD)⟩
      have HWW := hide hW
      clear kW kWD aW hKW hbW hbD hW he hblk hbl hnb
      dsimp only at T
      generalize decide (tkE v.node t.o I ea eb = 0) = x at T
      go_wp2_with fail
      rw [← HWW.out]
      go_region_held3 (fun w' => w'.cell? ⟨wr.heap.size, 1, none⟩ = some (.int .i64 I) ∧ w'.cell? ⟨wr.heap.size, 2, none⟩ = some (.slice (some ⟨b, o5, none⟩) 2 cv) ∧ w'.cell? ⟨b, o5, none⟩ = some (.int .i64 ea) ∧ w'.cell? ⟨b, o5 + 1, none⟩ = some (.int .i64 eb)) (go_keep) (first
        | (go_at_call 38; refine T.mono ?_; clear T; rintro e v1 ⟨rfl, hk1, ho1⟩; clear b1 b2 c5 c6; obtain ⟨hEw, b1, b2, c5, c6⟩ := NX.out v1 hk1 ho1; have HK1 := hide hk1; have HE1w := hide hEw; clear hk1 ho1 hEw))
      clear NX HWW b2 c5 c6
      clear g0 g1 g2 b0
      have c4 := HK1.out.cellI hI3
      have f4 := HK1.out.frozen (5 + I)
      obtain ⟨k2, hE2⟩ := HK1.out.sstep hI3 1
      have HK2 := hide k2
      have HE2 := hide (HE1w.out.trans hE2)
      clear k2 hE2
      dsimp only at c4 HK2
      generalize t.s (I : Int) = sx at c4
      go_wp2_with fail
      go_region
      all_goals go_wp2
      all_goals go_roundw
      case rel => exact ⟨j + 1, by go_num, by omega, (HFD.out _ HK2.out HE2.out).on (Below.refl _ _).drew⟩
      case measure => simp [Go.RowKit.intOf]; omega
    · have T := rksell_any kW hwI (by omega)
      simp only [wB, nK, if_true, if_neg (show ¬ (2 : Int) = 1 by decide), List.length_nil] at hW g0 g2
      obtain ⟨b0, b1, b2⟩ := three_new wr (.string ⟨#[121, 101, 115]⟩) (.int .i64 I) (.slice av 0 cv) 78
      rw [← hW] at b0 b1 b2
      have B1 := hide b1
      have NX : Hid (∀ u, Rg.Kept (fun k _ => E1 k) W u → Rg.Kept (fun k _ => E1 k) wr u ∧ u.cell? ⟨wr.heap.size, 1, none⟩ = some (.int .i64 I)) := fun u h2 =>
        ⟨hKW.trans h2, kept_cellR h2 (fun _ => HNE.out) B1.out⟩
      have HWW := hide hW
      clear kW aW hKW hbW hbD hW he hblk
      dsimp only at T
      go_upto_region 11 with (first
        | (go_at_call 39; rw [← HWW.out]; refine T.mono ?_; clear T; rintro e v1 ⟨⟨x, rfl⟩, hk1, ho1⟩; clear b1 b2; obtain ⟨hEw, b1⟩ := NX.out v1 ho1; have HK1 := hide hk1; have HE1w := hide hEw; clear hk1 ho1 hEw))
      clear NX HWW
      clear g0 g1 g2 b0
      have c4 := HK1.out.cellI hI3
      have f4 := HK1.out.frozen (5 + I)
      obtain ⟨k2, hE2⟩ := HK1.out.sstep hI3 2
      have HK2 := hide k2
      have HE2 := hide (HE1w.out.trans hE2)
      clear k2 hE2
      dsimp only at c4 HK2
      generalize t.s (I : Int) = sx at c4
      go_wp2_with fail
      go_region
      all_goals go_wp2
      all_goals go_roundw
      case rel => exact ⟨j + 1, by go_num, by omega, (HFD.out _ HK2.out HE2.out).on (Below.refl _ _).drew⟩
      case measure => simp [Go.RowKit.intOf]; omega
    · have T := rkfree_any kW hwI (by omega)
      simp only [wB, nK, if_true, if_neg (show ¬ (3 : Int) = 1 by decide), if_neg (show ¬ (3 : Int) = 2 by decide), List.length_nil] at hW g0 g2
      obtain ⟨b0, b1, b2⟩ := three_new wr (.string ⟨#[110, 111]⟩) (.int .i64 I) (.slice av 0 cv) 78
      rw [← hW] at b0 b1 b2
      have B1 := hide b1
      have NX : Hid (∀ u, Rg.Kept (fun k _ => E1 k) W u → Rg.Kept (fun k _ => E1 k) wr u ∧ u.cell? ⟨wr.heap.size, 1, none⟩ = some (.int .i64 I)) := fun u h2 =>
        ⟨hKW.trans h2, kept_cellR h2 (fun _ => HNE.out) B1.out⟩
      have HWW := hide hW
      clear kW aW hKW hbW hbD hW he hblk
      dsimp only at T
      go_upto_region 14 with (first
        | (go_at_call 39; rw [← HWW.out]; refine T.mono ?_; clear T; rintro e v1 ⟨⟨x, rfl⟩, hk1, ho1⟩; clear b1 b2; obtain ⟨hEw, b1⟩ := NX.out v1 ho1; have HK1 := hide hk1; have HE1w := hide hEw; clear hk1 ho1 hEw))
      clear NX HWW
      clear g0 g1 g2 b0
      have c4 := HK1.out.cellI hI3
      have f4 := HK1.out.frozen (5 + I)
      obtain ⟨k2, hE2⟩ := HK1.out.sstep hI3 3
      have HK2 := hide k2
      have HE2 := hide (HE1w.out.trans hE2)
      clear k2 hE2
      dsimp only at c4 HK2
      generalize t.s (I : Int) = sx at c4
      go_wp2_with fail
      go_region
      all_goals go_wp2
      all_goals go_roundw
      case rel => exact ⟨j + 1, by go_num, by omega, (HFD.out _ HK2.out HE2.out).on (Below.refl _ _).drew⟩
      case measure => simp [Go.RowKit.intOf]; omega
    · have T := rksell_any kW hwI (by omega)
      simp only [wB, nK, if_true, if_neg (show ¬ (4 : Int) = 1 by decide), if_neg (show ¬ (4 : Int) = 2 by decide), if_neg (show ¬ (4 : Int) = 3 by decide), List.length_nil] at hW g0 g2
      obtain ⟨b0, b1, b2⟩ := three_new wr (.string ⟨#[102, 121, 101, 115]⟩) (.int .i64 I) (.slice av 0 cv) 78
      rw [← hW] at b0 b1 b2
      have B1 := hide b1
      have NX : Hid (∀ u, Rg.Kept (fun k _ => E1 k) W u → Rg.Kept (fun k _ => E1 k) wr u ∧ u.cell? ⟨wr.heap.size, 1, none⟩ = some (.int .i64 I)) := fun u h2 =>
        ⟨hKW.trans h2, kept_cellR h2 (fun _ => HNE.out) B1.out⟩
      have HWW := hide hW
      clear kW aW hKW hbW hbD hW he hblk
      dsimp only at T
      go_upto_region 17 with (first
        | (go_at_call 39; rw [← HWW.out]; refine T.mono ?_; clear T; rintro e v1 ⟨⟨x, rfl⟩, hk1, ho1⟩; clear b1 b2; obtain ⟨hEw, b1⟩ := NX.out v1 ho1; have HK1 := hide hk1; have HE1w := hide hEw; clear hk1 ho1 hEw))
      clear NX HWW
      clear g0 g1 g2 b0
      have c4 := HK1.out.cellI hI3
      have f4 := HK1.out.frozen (5 + I)
      obtain ⟨k2, hE2⟩ := HK1.out.sstep hI3 4
      have HK2 := hide k2
      have HE2 := hide (HE1w.out.trans hE2)
      clear k2 hE2
      dsimp only at c4 HK2
      generalize t.s (I : Int) = sx at c4
      go_wp2_with fail
      go_region
      all_goals go_wp2
      all_goals go_roundw
      case rel => exact ⟨j + 1, by go_num, by omega, (HFD.out _ HK2.out HE2.out).on (Below.refl _ _).drew⟩
      case measure => simp [Go.RowKit.intOf]; omega
    · have T := rkfree_any kW hwI (by omega)
      simp only [wB, nK, if_neg (show ¬ (5 : Int) = 1 by decide), if_neg (show ¬ (5 : Int) = 2 by decide), if_neg (show ¬ (5 : Int) = 3 by decide), if_neg (show ¬ (5 : Int) = 4 by decide), List.length_nil] at hW g0 g2
      obtain ⟨b0, b1, b2⟩ := three_new wr (.string ⟨#[102, 110, 111]⟩) (.int .i64 I) (.slice av 0 cv) 78
      rw [← hW] at b0 b1 b2
      have B1 := hide b1
      have NX : Hid (∀ u, Rg.Kept (fun k _ => E1 k) W u → Rg.Kept (fun k _ => E1 k) wr u ∧ u.cell? ⟨wr.heap.size, 1, none⟩ = some (.int .i64 I)) := fun u h2 =>
        ⟨hKW.trans h2, kept_cellR h2 (fun _ => HNE.out) B1.out⟩
      have HWW := hide hW
      clear kW aW hKW hbW hbD hW he hblk
      dsimp only at T
      go_upto_region 20 with (first
        | (go_at_call 39; rw [← HWW.out]; refine T.mono ?_; clear T; rintro e v1 ⟨⟨x, rfl⟩, hk1, ho1⟩; clear b1 b2; obtain ⟨hEw, b1⟩ := NX.out v1 ho1; have HK1 := hide hk1; have HE1w := hide hEw; clear hk1 ho1 hEw))
      clear NX HWW
      clear g0 g1 g2 b0
      have c4 := HK1.out.cellI hI3
      have f4 := HK1.out.frozen (5 + I)
      obtain ⟨k2, hE2⟩ := HK1.out.sstep hI3 5
      have HK2 := hide k2
      have HE2 := hide (HE1w.out.trans hE2)
      clear k2 hE2
      dsimp only at c4 HK2
      generalize t.s (I : Int) = sx at c4
      go_wp2_with fail
      go_region
      all_goals go_wp2
      all_goals go_roundw
      case rel => exact ⟨j + 1, by go_num, by omega, (HFD.out _ HK2.out HE2.out).on (Below.refl _ _).drew⟩
      case measure => simp [Go.RowKit.intOf]; omega
end Go.Proofs.YtepclljoiccieaaGreatDoor
/-
  The reference's keeper some steps behind a world: what stands between its steps.
-/
namespace Go.Proofs.YtepclljoiccieaaGreatDoor
open Go.ChangeShapes Go.WideShapes Go.ChangeAt Go.RowKit Go.Maps

/-- The reference's keeper at V, some steps behind w. -/
structure RQ (B : Nat) (E : Nat → Prop) (w : World) (E1 : Nat → Prop) (V : World) (p : Nat) (v : Kv) (n : Nat) (a : Option Addr) (l : List Int) (lc q : Nat) (r : Value) (pb mb mc : Nat) : Prop where
  k : RkV B E1 V p v n a l lc q r pb mb mc
  sub : ∀ i, E1 i → growE E w V i
  kp : Rg.Kept (fun i _ => E i) w V
section
variable {B : Nat} {E E1 E2 : Nat → Prop} {w V u : World} {p : Nat} {v v2 : Kv} {n n2 : Nat} {a : Option Addr} {l : List Int} {lc q : Nat} {r r2 : Value} {pb mb mc : Nat}
theorem kgrow_up (h : ∀ i, E1 i → growE E w V i) (h2 : ∀ i, E2 i → growE E1 V u i) (hw : w.heap.size ≤ V.heap.size) (hs : V.heap.size ≤ u.heap.size) : ∀ i, E2 i → growE E w u i := fun i e => by
  rcases h2 i e with e | e
  · exact (h i e).imp (fun e => e) (fun e => ⟨e.1, by omega⟩)
  · exact .inr ⟨by omega, e.2⟩
theorem RQ.step (t : RQ B E w E1 V p v n a l lc q r pb mb mc) (k2 : RkV B E2 u p v2 n2 a l lc q r2 pb mb mc) (hk : Rg.Kept (fun i _ => E1 i) V u) (hs : ∀ i, E2 i → growE E1 V u i) : RQ B E w E2 u p v2 n2 a l lc q r2 pb mb mc :=
  ⟨k2, kgrow_up t.sub hs t.kp.size hk.size, kept_grow t.kp (hk.mono (fun i _ e => t.sub i e))⟩
theorem RQ.on (t : RQ B E w E1 V p v n a l lc q r pb mb mc) (hb : Below V.heap.size V u) : RQ B E w E1 u p v n a l lc q r pb mb mc :=
  ⟨t.k.on hb, fun i e => (t.sub i e).imp (fun e => e) (fun e => ⟨e.1, by have := hb.size; omega⟩), t.kp.trans (Rg.Kept.of_below hb)⟩
theorem RQ.new (k : RkV B E w p v n a l lc q r pb mb mc) (hb : Below w.heap.size w V) : RQ B E w E V p v n a l lc q r pb mb mc := ⟨k.on hb, fun _ e => .inl e, Rg.Kept.of_below hb⟩
theorem RQ.set (t : RQ B E w E1 V p v n a l lc q r pb mb mc) {i : Nat} (hi : i < 1000) (x : Int) : RQ B E w E1 (V.setCell ⟨p, 5 + i, none⟩ (.int .i64 x)) p ⟨v.node, v.f, v.room, v.T, v.down, ⟨v.st.o, Hd.upd v.st.s i x⟩⟩ n a l lc q r pb mb mc := by
  obtain ⟨h1, h2⟩ := t.k.sstep hi x
  exact t.step h1 h2 (fun _ e => .inl e)
theorem RQ.take (t : RQ B E w E1 V p v n a l lc q r pb mb mc) {id : Int} (hw : (Lit.int .i64 id).wf = true) (x y : Int) (hn : n < 900000) :
    Calls Tryz.prog 38 #[.pointer (some ⟨p, 0, none⟩), .int .i64 id, .int .i64 x, .int .i64 y] V fun e u => e = .returned (.bool (decide (tkE v.node v.st.o id x y = 0))) ∧ RQ B E w E1 u p ⟨v.node, v.f, v.room, v.T, v.down, ⟨tkS v.node v.st.o id x y, v.st.s⟩⟩ (n + 1) a l lc q r pb mb mc ∧ Rg.Kept (fun i _ => E1 i) V u :=
  (rktake_any t.k hw x y hn).mono (fun _ _ ⟨h1, h2, h3⟩ => ⟨h1, t.step h2 h3 (fun _ e => .inl e), h3⟩)
theorem RQ.sell (t : RQ B E w E1 V p v n a l lc q r pb mb mc) {id : Int} (hw : (Lit.int .i64 id).wf = true) (hn : n < 900000) :
    Calls Tryz.prog 39 #[.pointer (some ⟨p, 0, none⟩), .int .i64 id, .bool true] V fun e u => (∃ x, e = .returned x) ∧ RQ B E w E1 u p ⟨v.node, v.f, v.room, v.T, v.down, ⟨slS v.node v.st.o id, v.st.s⟩⟩ (n + 1) a l lc q r pb mb mc ∧ Rg.Kept (fun i _ => E1 i) V u :=
  (rksell_any t.k hw hn).mono (fun _ _ ⟨h1, h2, h3⟩ => ⟨h1, t.step h2 h3 (fun _ e => .inl e), h3⟩)
theorem RQ.free (t : RQ B E w E1 V p v n a l lc q r pb mb mc) {id : Int} (hw : (Lit.int .i64 id).wf = true) (hn : n < 900000) :
    Calls Tryz.prog 39 #[.pointer (some ⟨p, 0, none⟩), .int .i64 id, .bool false] V fun e u => (∃ x, e = .returned x) ∧ RQ B E w E1 u p ⟨v.node, v.f, v.room, v.T, v.down, ⟨frS v.node v.st.o id, v.st.s⟩⟩ (n + 1) a l lc q r pb mb mc ∧ Rg.Kept (fun i _ => E1 i) V u :=
  (rkfree_any t.k hw hn).mono (fun _ _ ⟨h1, h2, h3⟩ => ⟨h1, t.step h2 h3 (fun _ e => .inl e), h3⟩)
theorem RQ.full (t : RQ B E w E1 V p v n a l lc q r pb mb mc) (hd : v.down = false) (hr : roomK v = false) (b : Option Addr) (c : Nat) :
    Calls Tryz.prog 47 #[.pointer (some ⟨q, 0, none⟩), .bool true, .slice b 1 c] V fun e u => e = .returned (.bool false) ∧ Below V.heap.size V u := by
  have j := t.k.jr
  rw [hd] at j
  exact rnote_full j (by rw [List.length_map]; unfold roomK at hr; simp at hr; omega) b c
theorem RQ.note (t : RQ B E w E1 V p v n a l lc q r pb mb mc) (hd : v.down = false) (hr : roomK v = true) {e : Ke} (he : OkK e) {b : Option Addr} {c g : Nat} (ha : Ints V b (nK e)) (hg : Gl V)
    (hx : V.heap[g]? = some (.cells #[.string (wB e.c), .int .i64 e.id, .slice b (nK e).length c] 78 (0, 0))) :
    Calls Tryz.prog 47 #[.pointer (some ⟨q, 0, none⟩), .bool true, .slice (some ⟨g, 0, none⟩) 1 1] V fun x u => x = .returned (.bool true) ∧ ∃ E2 r2, RQ B E w E2 u p ⟨v.node, v.f, v.room, v.T ++ [e], v.down, v.st⟩ n a l lc q r2 pb mb mc ∧ Rg.Kept (fun i _ => E1 i) V u ∧ (∀ i, E2 i → growE E1 V u i) := by
  have j := t.k.jr
  rw [hd] at j
  refine (rnote_room j (by rw [List.length_map]; unfold roomK at hr; simp at hr; omega) he ha hg hx).mono ?_
  rintro x u ⟨h1, r2, h2, h3⟩
  have e1 : v.T.map lnK ++ [lnK e] = (v.T ++ [e]).map lnK := by rw [List.map_append]; rfl
  rw [e1, List.length_map, show v.T.length + 1 = (v.T ++ [e]).length by simp, ← hd] at h2
  obtain ⟨h4, h5⟩ := t.k.jstep h2 h3
  exact ⟨h1, growE E1 V u, r2, t.step h4 h5 (fun _ e => e), h5, fun _ e => e⟩
theorem RQ.rk (t : RQ B E w E1 V p v n a l lc q r pb mb mc) (hE : ∀ k, E k → B ≤ k ∧ k < w.heap.size) (hB : B ≤ w.heap.size) (hG : GoodKv v) : Rk B (growE E w V) V p v n := ⟨kgrow_in hE hB t.kp.size, hG, a, l, lc, q, r, pb, mb, mc, t.k.wide t.sub⟩
end
/-- What the reference's Handle leaves. -/
def RHandK (B : Nat) (E : Nat → Prop) (w : World) (p : Nat) (v' : Kv) (n : Nat) (xs : List Ms.Mg) (e : Ending) (w' : World) : Prop :=
  ∃ a c, e = .returned (.slice a xs.length c) ∧ Ms.Mgs w' a xs ∧ Rk B (growE E w w') w' p v' n ∧ Rg.Kept (fun k _ => E k) w w'
end Go.Proofs.YtepclljoiccieaaGreatDoor
/-
  The reference's keeper: Force.
-/
namespace Go.Proofs.YtepclljoiccieaaGreatDoor
open Go.ChangeShapes Go.WideShapes Go.ChangeAt Go.RowKit Go.Maps

theorem id_of {α : Prop} (h : α) : α := h
def RForK (B : Nat) (E : Nat → Prop) (w : World) (p : Nat) (v' : Kv) (n : Nat) (c : Int) (e : Ending) (w' : World) : Prop := e = .returned (.int .i64 c) ∧ Rk B (growE E w w') w' p v' n ∧ Rg.Kept (fun k _ => E k) w w'
theorem RQ.fork {B : Nat} {E E1 : Nat → Prop} {w V : World} {p : Nat} {v : Kv} {n n' : Nat} {a : Option Addr} {l : List Int} {lc q : Nat} {r : Value} {pb mb mc : Nat} (t : RQ B E w E1 V p v n a l lc q r pb mb mc) (hE : ∀ k, E k → B ≤ k ∧ k < w.heap.size) (hB : B ≤ w.heap.size) (hG : GoodKv v) (hn : n ≤ n') (c : Int) : RForK B E w p v n' c (.returned (.int .i64 c)) V :=
  ⟨rfl, ⟨kgrow_in hE hB t.kp.size, hG, a, l, lc, q, r, pb, mb, mc, (t.k.more hn).wide t.sub⟩, t.kp⟩
section
variable {B : Nat} {E : Nat → Prop} {w : World} {p : Nat} {v : Kv} {n : Nat}
theorem rkforce_down (k : Rk B E w p v n) (hd : v.down = true) (id : Int) (y : Bool) : Calls Tryz.prog 15 #[.pointer (some ⟨p, 0, none⟩), .int .i64 id, .bool y] w (RForK B E w p v (n + 2) 10) := by
  obtain ⟨hE, hG, a, l, lc, q, r, pb, mb, mc, k0⟩ := id_of k
  have HF := hide ((RQ.new k0 (Below.refl _ _)).fork hE k.low hG (Nat.le_add_right n 2) 10)
  obtain ⟨-, -, c2, -, -⟩ := k0.cells
  obtain ⟨⟨-, -, -, j3⟩, -⟩ := k0.jr.cells
  rw [hd] at j3
  clear k0 hd hE hG k
  go_enter Tryz.func15, Tryz.ntmps15
  go_wp2
  go_ret
  exact HF.out
theorem rkforce_no (k : Rk B E w p v n) (hd : v.down = false) {id : Int} (hi : Hd.isI id = false) (y : Bool) : Calls Tryz.prog 15 #[.pointer (some ⟨p, 0, none⟩), .int .i64 id, .bool y] w (RForK B E w p v (n + 2) 1) := by
  obtain ⟨hE, hG, a, l, lc, q, r, pb, mb, mc, k0⟩ := id_of k
  have HF := hide ((RQ.new k0 (Below.refl _ _)).fork hE k.low hG (Nat.le_add_right n 2) 1)
  have I : Calls Tryz.prog 45 #[.int .i64 id] w fun e w' => e = .returned (.bool (Hd.isI id)) ∧ w = w' := Gd.rid_any id w
  rw [hi] at I
  obtain ⟨-, -, c2, -, -⟩ := k0.cells
  obtain ⟨⟨-, -, -, j3⟩, -⟩ := k0.jr.cells
  rw [hd] at j3
  clear k0 hd hE hG k hi
  go_enter Tryz.func15, Tryz.ntmps15
  go_wp2_with (go_at_call 45; refine I.mono ?_; clear I; rintro e w' ⟨rfl, rfl⟩)
  go_ret
  exact HF.out
theorem rkforce_state (k : Rk B E w p v n) (hd : v.down = false) {I : Nat} (hi : 1 ≤ I ∧ I ≤ 999) (hs : v.st.s I ≠ 1) (y : Bool) : Calls Tryz.prog 15 #[.pointer (some ⟨p, 0, none⟩), .int .i64 I, .bool y] w (RForK B E w p v (n + 2) 7) := by
  obtain ⟨hE, hG, a, l, lc, q, r, pb, mb, mc, k0⟩ := id_of k
  have HF := hide ((RQ.new k0 (Below.refl _ _)).fork hE k.low hG (Nat.le_add_right n 2) 7)
  have hI : Calls Tryz.prog 45 #[.int .i64 (I : Int)] w fun e w' => e = .returned (.bool (Hd.isI I)) ∧ w = w' := Gd.rid_any I w
  rw [Hd.isI_iff.2 (by omega)] at hI
  have FR := rfrc_any (v.st.s I) y w
  have e7 : frcE (v.st.s I) = 7 := by unfold frcE; rw [if_pos (hG.may I), if_neg hs]
  rw [e7] at FR
  have c4 := k0.cellI (i := I) (by omega)
  have hI2 : (I : Int) < 1000 := by omega
  obtain ⟨-, -, c2, -, -⟩ := k0.cells
  obtain ⟨⟨-, -, -, j3⟩, -⟩ := k0.jr.cells
  rw [hd] at j3
  generalize v.st.s (I : Int) = x at c4 FR
  generalize frcS x y = z at FR
  clear k0 hd hE hG k hi hs e7
  go_enter Tryz.func15, Tryz.ntmps15
  go_wp2_with (first
    | (go_at_call 45; refine hI.mono ?_; clear hI; rintro e w' ⟨rfl, rfl⟩)
    | (go_at_call 46; refine FR.mono ?_; clear FR; rintro e w' ⟨rfl, rfl⟩))
  go_ret
  exact HF.out
set_option maxRecDepth 100000 in
set_option maxHeartbeats 2000000 in
theorem rkforce_full_true (k : Rk B E w p v n) (hd : v.down = false) {I : Nat} (hi : 1 ≤ I ∧ I ≤ 999) (hs : v.st.s I = 1) (hr : roomK v = false) : Calls Tryz.prog 15 #[.pointer (some ⟨p, 0, none⟩), .int .i64 I, .bool true] w (RForK B E w p v (n + 2) 5) := by
  obtain ⟨hE, hG, a, l, lc, q, r, pb, mb, mc, k0⟩ := id_of k
  have hB := k.low
  have HT := hide (RQ.new k0 (Below.refl _ _))
  have hI : Calls Tryz.prog 45 #[.int .i64 (I : Int)] w fun e w' => e = .returned (.bool (Hd.isI I)) ∧ w = w' := Gd.rid_any I w
  rw [Hd.isI_iff.2 (by omega)] at hI
  have FR := rfrc_any (v.st.s I) true w
  rw [hs] at FR
  have FR : Calls Tryz.prog 46 #[.int .i64 1, .bool true] w fun e w' => e = .returned (.tuple #[.int .i64 4, .int .i64 0]) ∧ w = w' := FR
  have c4 := k0.cellI (i := I) (by omega)
  rw [hs] at c4
  have hI2 : (I : Int) < 1000 := by omega
  obtain ⟨-, -, c2, -, -⟩ := k0.cells
  obtain ⟨⟨-, -, -, j3⟩, -⟩ := k0.jr.cells
  rw [hd] at j3
  have HE := hide hE
  have HB := hide hB
  have HG := hide hG
  have HD := hide hd
  have HRM := hide hr
  have HRE : Hid (∀ X, Calls Tryz.prog 48 #[.string ⟨#[102, 121, 101, 115]⟩, .int .i64 I, .slice none 0 0] X fun e w' => e = .returned (.agg #[.string ⟨#[102, 121, 101, 115]⟩, .int .i64 I, .slice none 0 0]) ∧ Below X.heap.size X w') := fun X => rentry_any _ _ _ _ _ X
  have HCU : Hid (∀ X, Below w.heap.size w X → X.cell? ⟨p, 2, none⟩ = some (.pointer (some ⟨q, 0, none⟩))) := fun X hX => (HT.out.on hX).k.cells.2.2.1
  have HNT : Hid (∀ V5 X b, Below w.heap.size w V5 → Below V5.heap.size V5 X → Calls Tryz.prog 47 #[.pointer (some ⟨q, 0, none⟩), .bool true, .slice (some b) 1 1] X fun e u => e = .returned (.bool false) ∧ Below w.heap.size w u) := fun V5 X b h5 hX => ((HT.out.on (bel_on' h5 hX)).full HD.out HRM.out _ _).mono (fun _ _ ⟨h1, h2⟩ => ⟨h1, bel_on' (bel_on' h5 hX) h2⟩)
  clear k0 hE hB hG hd hr hs k hi
  go_enter Tryz.func15, Tryz.ntmps15
  go_wp2_with (first
    | (go_at_call 45; refine hI.mono ?_; clear hI; rintro e w' ⟨rfl, rfl⟩)
    | (go_at_call 46; refine FR.mono ?_; clear FR; rintro e w' ⟨rfl, rfl⟩))
  go_region_held3 (fun w' => w'.cell? ⟨p, 2, none⟩ = some (.pointer (some ⟨q, 0, none⟩))) (go_keep) (first
    | (go_at_call 48; refine (HRE.out _).mono ?_; clear HRE; rintro e V5 ⟨rfl, hb5⟩; have HB5 : Hid (Below w.heap.size w V5) := (by first | exact bel_on' (Below.refl _ _).drew hb5 | exact hb5); clear c2 hb5; have c2 := HCU.out V5 HB5.out)
    | (go_at_call 47; refine (HNT.out V5 _ _ HB5.out (by first | exact (Below.refl _ _).alloc (Nat.le_refl _) _ | exact ((Below.refl _ _).alloc (Nat.le_refl _) _).drew | exact (Below.refl _ _).drew.alloc (Nat.le_refl _) _)).mono ?_; clear HNT; rintro e V6 ⟨rfl, hb6⟩; have HB6 := hide hb6; clear c2 hb6; have c2 := HCU.out V6 HB6.out))
  clear c2
  go_wp2
  go_ret
  exact (HT.out.on HB6.out).fork HE.out HB.out HG.out (Nat.le_add_right n 2) 5
set_option maxRecDepth 100000 in
set_option maxHeartbeats 2000000 in
theorem rkforce_ok_true (k : Rk B E w p v n) (hg : ∀ u, Rg.Kept (fun k _ => E k) w u → Gl u) (hd : v.down = false) {I : Nat} (hi : 1 ≤ I ∧ I ≤ 999) (hs : v.st.s I = 1) (hr : roomK v = true) (hn : n < 800000) : Calls Tryz.prog 15 #[.pointer (some ⟨p, 0, none⟩), .int .i64 I, .bool true] w (RForK B E w p (putK v ⟨4, I, 0, 0⟩) (n + 2) 0) := by
  obtain ⟨hE, hG, a, l, lc, q, r, pb, mb, mc, k0⟩ := id_of k
  have hB := k.low
  have HT := hide (RQ.new k0 (Below.refl _ _))
  have hI : Calls Tryz.prog 45 #[.int .i64 (I : Int)] w fun e w' => e = .returned (.bool (Hd.isI I)) ∧ w = w' := Gd.rid_any I w
  rw [Hd.isI_iff.2 (by omega)] at hI
  have FR := rfrc_any (v.st.s I) true w
  rw [hs] at FR
  have FR : Calls Tryz.prog 46 #[.int .i64 1, .bool true] w fun e w' => e = .returned (.tuple #[.int .i64 4, .int .i64 0]) ∧ w = w' := FR
  have c4 := k0.cellI (i := I) (by omega)
  rw [hs] at c4
  have hI2 : (I : Int) < 1000 := by omega
  obtain ⟨-, -, c2, -, -⟩ := k0.cells
  obtain ⟨⟨-, -, -, j3⟩, -⟩ := k0.jr.cells
  rw [hd] at j3
  have HE := hide hE
  have HB := hide hB
  have HG := hide hG
  have HD := hide hd
  have HRM := hide hr
  have HRE : Hid (∀ X, Calls Tryz.prog 48 #[.string ⟨#[102, 121, 101, 115]⟩, .int .i64 I, .slice none 0 0] X fun e w' => e = .returned (.agg #[.string ⟨#[102, 121, 101, 115]⟩, .int .i64 I, .slice none 0 0]) ∧ Below X.heap.size X w') := fun X => rentry_any _ _ _ _ _ X
  have HCU : Hid (∀ X, Below w.heap.size w X → X.cell? ⟨p, 2, none⟩ = some (.pointer (some ⟨q, 0, none⟩))) := fun X hX => (HT.out.on hX).k.cells.2.2.1
  have hok : OkK ⟨4, I, 0, 0⟩ := frc_ok (by omega) true
  have HGP : Hid (GoodKv (putK v ⟨4, I, 0, 0⟩)) := by show GoodKv _; rw [← noteK_put hr]; exact noteK_good hG hd hok
  have HNT : Hid (∀ V5, Below w.heap.size w V5 → ∀ X, Below V5.heap.size V5 X → X.heap[V5.heap.size]? = some (.cells #[.string ⟨#[102, 121, 101, 115]⟩, .int .i64 I, .slice none 0 0] 78 (0, 0)) → Calls Tryz.prog 47 #[.pointer (some ⟨q, 0, none⟩), .bool true, .slice (some ⟨V5.heap.size, 0, none⟩) 1 1] X fun x u => x = .returned (.bool true) ∧ ∃ E2 r2, RQ B E w E2 u p ⟨v.node, v.f, v.room, v.T ++ [⟨4, (I : Int), 0, 0⟩], v.down, v.st⟩ n a l lc q r2 pb mb mc) := fun V5 h5 X hX hY => by
    have hA := bel_on' h5 hX
    have t := HT.out.on hA
    refine (t.note (e := ⟨4, (I : Int), 0, 0⟩) HD.out HRM.out hok (b := none) (c := 0) (.inl rfl) (hg X t.kp) hY).mono ?_
    rintro x u ⟨h1, E2, r2, h2, h3, h4⟩
    exact ⟨h1, E2, r2, h2⟩
  have hI3 : I < 1000 := by omega
  have HWI : Hid ((Lit.int .i64 (I : Int)).wf = true) := Hd.wf_of (by omega) (by omega)
  clear k0 hE hB hG hd hr hs k hi hok hg
  go_enter Tryz.func15, Tryz.ntmps15
  go_wp2_with (first
    | (go_at_call 45; refine hI.mono ?_; clear hI; rintro e w' ⟨rfl, rfl⟩)
    | (go_at_call 46; refine FR.mono ?_; clear FR; rintro e w' ⟨rfl, rfl⟩))
  go_region_held3 (fun w' => w'.cell? ⟨p, 2, none⟩ = some (.pointer (some ⟨q, 0, none⟩))) (go_keep) (first
    | (go_at_call 48; refine (HRE.out _).mono ?_; clear HRE; rintro e V5 ⟨rfl, hb5⟩; have HB5 : Hid (Below w.heap.size w V5) := (by first | exact bel_on' (Below.refl _ _).drew hb5 | exact hb5); clear c2 hb5; have c2 := HCU.out V5 HB5.out)
    | (go_at_call 47; refine (HNT.out V5 HB5.out _ (by first | exact (Below.refl _ _).alloc (Nat.le_refl _) _ | exact ((Below.refl _ _).alloc (Nat.le_refl _) _).drew | exact (Below.refl _ _).drew.alloc (Nat.le_refl _) _) (by first | exact World.alloc_heap_new V5 _ | exact World.alloc_heap_new V5.drew _)).mono ?_; clear HNT; rintro e V6 ⟨rfl, E2, r2, hT6⟩; have HT6 := hide hT6; clear c2; obtain ⟨-, -, c2, -, -⟩ := hT6.k.cells; clear hT6))
  clear c2 c4 j3
  have c4 := HT6.out.k.cellI hI3
  have f4 := HT6.out.k.frozen (5 + I)
  dsimp only at c4
  generalize v.st.s (I : Int) = sx at c4
  have HT7 := hide (HT6.out.set hI3 4)
  have SE := HT7.out.sell HWI.out (by omega)
  clear HT6
  dsimp only at SE
  go_wp2_with (go_at_call 39; refine SE.mono ?_; clear SE; rintro e V8 ⟨⟨x, rfl⟩, hT8, -⟩; have HT8 := hide hT8; clear hT8)
  go_ret
  exact HT8.out.fork HE.out HB.out HGP.out (Nat.le_succ _) 0
set_option maxRecDepth 100000 in
set_option maxHeartbeats 2000000 in
theorem rkforce_full_false (k : Rk B E w p v n) (hd : v.down = false) {I : Nat} (hi : 1 ≤ I ∧ I ≤ 999) (hs : v.st.s I = 1) (hr : roomK v = false) : Calls Tryz.prog 15 #[.pointer (some ⟨p, 0, none⟩), .int .i64 I, .bool false] w (RForK B E w p v (n + 2) 5) := by
  obtain ⟨hE, hG, a, l, lc, q, r, pb, mb, mc, k0⟩ := id_of k
  have hB := k.low
  have HT := hide (RQ.new k0 (Below.refl _ _))
  have hI : Calls Tryz.prog 45 #[.int .i64 (I : Int)] w fun e w' => e = .returned (.bool (Hd.isI I)) ∧ w = w' := Gd.rid_any I w
  rw [Hd.isI_iff.2 (by omega)] at hI
  have FR := rfrc_any (v.st.s I) false w
  rw [hs] at FR
  have FR : Calls Tryz.prog 46 #[.int .i64 1, .bool false] w fun e w' => e = .returned (.tuple #[.int .i64 5, .int .i64 0]) ∧ w = w' := FR
  have c4 := k0.cellI (i := I) (by omega)
  rw [hs] at c4
  have hI2 : (I : Int) < 1000 := by omega
  obtain ⟨-, -, c2, -, -⟩ := k0.cells
  obtain ⟨⟨-, -, -, j3⟩, -⟩ := k0.jr.cells
  rw [hd] at j3
  have HE := hide hE
  have HB := hide hB
  have HG := hide hG
  have HD := hide hd
  have HRM := hide hr
  have HRE : Hid (∀ X, Calls Tryz.prog 48 #[.string ⟨#[102, 110, 111]⟩, .int .i64 I, .slice none 0 0] X fun e w' => e = .returned (.agg #[.string ⟨#[102, 110, 111]⟩, .int .i64 I, .slice none 0 0]) ∧ Below X.heap.size X w') := fun X => rentry_any _ _ _ _ _ X
  have HCU : Hid (∀ X, Below w.heap.size w X → X.cell? ⟨p, 2, none⟩ = some (.pointer (some ⟨q, 0, none⟩))) := fun X hX => (HT.out.on hX).k.cells.2.2.1
  have HNT : Hid (∀ V5 X b, Below w.heap.size w V5 → Below V5.heap.size V5 X → Calls Tryz.prog 47 #[.pointer (some ⟨q, 0, none⟩), .bool true, .slice (some b) 1 1] X fun e u => e = .returned (.bool false) ∧ Below w.heap.size w u) := fun V5 X b h5 hX => ((HT.out.on (bel_on' h5 hX)).full HD.out HRM.out _ _).mono (fun _ _ ⟨h1, h2⟩ => ⟨h1, bel_on' (bel_on' h5 hX) h2⟩)
  clear k0 hE hB hG hd hr hs k hi
  go_enter Tryz.func15, Tryz.ntmps15
  go_wp2_with (first
    | (go_at_call 45; refine hI.mono ?_; clear hI; rintro e w' ⟨rfl, rfl⟩)
    | (go_at_call 46; refine FR.mono ?_; clear FR; rintro e w' ⟨rfl, rfl⟩))
  go_region_held3 (fun w' => w'.cell? ⟨p, 2, none⟩ = some (.pointer (some ⟨q, 0, none⟩))) (go_keep) (first
    | (go_at_call 48; refine (HRE.out _).mono ?_; clear HRE; rintro e V5 ⟨rfl, hb5⟩; have HB5 : Hid (Below w.heap.size w V5) := (by first | exact bel_on' (Below.refl _ _).drew hb5 | exact hb5); clear c2 hb5; have c2 := HCU.out V5 HB5.out)
    | (go_at_call 47; refine (HNT.out V5 _ _ HB5.out (by first | exact (Below.refl _ _).alloc (Nat.le_refl _) _ | exact ((Below.refl _ _).alloc (Nat.le_refl _) _).drew | exact (Below.refl _ _).drew.alloc (Nat.le_refl _) _)).mono ?_; clear HNT; rintro e V6 ⟨rfl, hb6⟩; have HB6 := hide hb6; clear c2 hb6; have c2 := HCU.out V6 HB6.out))
  clear c2
  go_wp2
  go_ret
  exact (HT.out.on HB6.out).fork HE.out HB.out HG.out (Nat.le_add_right n 2) 5
set_option maxRecDepth 100000 in
set_option maxHeartbeats 2000000 in
theorem rkforce_ok_false (k : Rk B E w p v n) (hg : ∀ u, Rg.Kept (fun k _ => E k) w u → Gl u) (hd : v.down = false) {I : Nat} (hi : 1 ≤ I ∧ I ≤ 999) (hs : v.st.s I = 1) (hr : roomK v = true) (hn : n < 800000) : Calls Tryz.prog 15 #[.pointer (some ⟨p, 0, none⟩), .int .i64 I, .bool false] w (RForK B E w p (putK v ⟨5, I, 0, 0⟩) (n + 2) 0) := by
  obtain ⟨hE, hG, a, l, lc, q, r, pb, mb, mc, k0⟩ := id_of k
  have hB := k.low
  have HT := hide (RQ.new k0 (Below.refl _ _))
  have hI : Calls Tryz.prog 45 #[.int .i64 (I : Int)] w fun e w' => e = .returned (.bool (Hd.isI I)) ∧ w = w' := Gd.rid_any I w
  rw [Hd.isI_iff.2 (by omega)] at hI
  have FR := rfrc_any (v.st.s I) false w
  rw [hs] at FR
  have FR : Calls Tryz.prog 46 #[.int .i64 1, .bool false] w fun e w' => e = .returned (.tuple #[.int .i64 5, .int .i64 0]) ∧ w = w' := FR
  have c4 := k0.cellI (i := I) (by omega)
  rw [hs] at c4
  have hI2 : (I : Int) < 1000 := by omega
  obtain ⟨-, -, c2, -, -⟩ := k0.cells
  obtain ⟨⟨-, -, -, j3⟩, -⟩ := k0.jr.cells
  rw [hd] at j3
  have HE := hide hE
  have HB := hide hB
  have HG := hide hG
  have HD := hide hd
  have HRM := hide hr
  have HRE : Hid (∀ X, Calls Tryz.prog 48 #[.string ⟨#[102, 110, 111]⟩, .int .i64 I, .slice none 0 0] X fun e w' => e = .returned (.agg #[.string ⟨#[102, 110, 111]⟩, .int .i64 I, .slice none 0 0]) ∧ Below X.heap.size X w') := fun X => rentry_any _ _ _ _ _ X
  have HCU : Hid (∀ X, Below w.heap.size w X → X.cell? ⟨p, 2, none⟩ = some (.pointer (some ⟨q, 0, none⟩))) := fun X hX => (HT.out.on hX).k.cells.2.2.1
  have hok : OkK ⟨5, I, 0, 0⟩ := frc_ok (by omega) false
  have HGP : Hid (GoodKv (putK v ⟨5, I, 0, 0⟩)) := by show GoodKv _; rw [← noteK_put hr]; exact noteK_good hG hd hok
  have HNT : Hid (∀ V5, Below w.heap.size w V5 → ∀ X, Below V5.heap.size V5 X → X.heap[V5.heap.size]? = some (.cells #[.string ⟨#[102, 110, 111]⟩, .int .i64 I, .slice none 0 0] 78 (0, 0)) → Calls Tryz.prog 47 #[.pointer (some ⟨q, 0, none⟩), .bool true, .slice (some ⟨V5.heap.size, 0, none⟩) 1 1] X fun x u => x = .returned (.bool true) ∧ ∃ E2 r2, RQ B E w E2 u p ⟨v.node, v.f, v.room, v.T ++ [⟨5, (I : Int), 0, 0⟩], v.down, v.st⟩ n a l lc q r2 pb mb mc) := fun V5 h5 X hX hY => by
    have hA := bel_on' h5 hX
    have t := HT.out.on hA
    refine (t.note (e := ⟨5, (I : Int), 0, 0⟩) HD.out HRM.out hok (b := none) (c := 0) (.inl rfl) (hg X t.kp) hY).mono ?_
    rintro x u ⟨h1, E2, r2, h2, h3, h4⟩
    exact ⟨h1, E2, r2, h2⟩
  have hI3 : I < 1000 := by omega
  have HWI : Hid ((Lit.int .i64 (I : Int)).wf = true) := Hd.wf_of (by omega) (by omega)
  clear k0 hE hB hG hd hr hs k hi hok hg
  go_enter Tryz.func15, Tryz.ntmps15
  go_wp2_with (first
    | (go_at_call 45; refine hI.mono ?_; clear hI; rintro e w' ⟨rfl, rfl⟩)
    | (go_at_call 46; refine FR.mono ?_; clear FR; rintro e w' ⟨rfl, rfl⟩))
  go_region_held3 (fun w' => w'.cell? ⟨p, 2, none⟩ = some (.pointer (some ⟨q, 0, none⟩))) (go_keep) (first
    | (go_at_call 48; refine (HRE.out _).mono ?_; clear HRE; rintro e V5 ⟨rfl, hb5⟩; have HB5 : Hid (Below w.heap.size w V5) := (by first | exact bel_on' (Below.refl _ _).drew hb5 | exact hb5); clear c2 hb5; have c2 := HCU.out V5 HB5.out)
    | (go_at_call 47; refine (HNT.out V5 HB5.out _ (by first | exact (Below.refl _ _).alloc (Nat.le_refl _) _ | exact ((Below.refl _ _).alloc (Nat.le_refl _) _).drew | exact (Below.refl _ _).drew.alloc (Nat.le_refl _) _) (by first | exact World.alloc_heap_new V5 _ | exact World.alloc_heap_new V5.drew _)).mono ?_; clear HNT; rintro e V6 ⟨rfl, E2, r2, hT6⟩; have HT6 := hide hT6; clear c2; obtain ⟨-, -, c2, -, -⟩ := hT6.k.cells; clear hT6))
  clear c2 c4 j3
  have c4 := HT6.out.k.cellI hI3
  have f4 := HT6.out.k.frozen (5 + I)
  dsimp only at c4
  generalize v.st.s (I : Int) = sx at c4
  have HT7 := hide (HT6.out.set hI3 5)
  have SE := HT7.out.free HWI.out (by omega)
  clear HT6
  dsimp only at SE
  go_wp2_with (go_at_call 39; refine SE.mono ?_; clear SE; rintro e V8 ⟨⟨x, rfl⟩, hT8, -⟩; have HT8 := hide hT8; clear hT8)
  go_ret
  exact HT8.out.fork HE.out HB.out HGP.out (Nat.le_succ _) 0
theorem rkforce_any (k : Rk B E w p v n) (hg : ∀ u, Rg.Kept (fun k _ => E k) w u → Gl u) (id : Int) (y : Bool) (hn : n < 800000) : Calls Tryz.prog 15 #[.pointer (some ⟨p, 0, none⟩), .int .i64 id, .bool y] w (RForK B E w p (fcS v id y) (n + 2) (fcE v id)) := by
  cases hd : v.down
  rotate_left
  · have e1 : fcE v id = 10 := by unfold fcE; rw [if_pos hd]
    have e2 : fcS v id y = v := by unfold fcS; rw [if_neg (fun h => by rw [hd] at h; cases h.1)]
    rw [e1, e2]
    exact rkforce_down k hd id y
  cases hi : Hd.isI id
  · have hs : ¬ v.st.s id = 1 := fun e => by
      have h := Hd.isI_iff.2 ((k.good.goodT.s id).2 (by omega))
      rw [hi] at h
      cases h
    have e1 : fcE v id = 1 := by unfold fcE; rw [if_neg (by rw [hd]; decide), if_neg (by rw [hi]; decide)]
    have e2 : fcS v id y = v := by unfold fcS; rw [if_neg (fun h => hs h.2)]
    rw [e1, e2]
    exact rkforce_no k hd hi y
  obtain ⟨i1, i2⟩ := Hd.isI_iff.1 hi
  obtain ⟨I, rfl⟩ : ∃ I : Nat, id = I := ⟨id.toNat, by omega⟩
  have hI : 1 ≤ I ∧ I ≤ 999 := by omega
  have e0 : fcE v I = if frcE (v.st.s I) = 0 then (if roomK v = true then 0 else 5) else frcE (v.st.s I) := by unfold fcE; rw [if_neg (by rw [hd]; decide), if_pos hi]
  by_cases hs : v.st.s I = 1
  rotate_left
  · have e7 : frcE (v.st.s I) = 7 := by unfold frcE; rw [if_pos (k.good.may I), if_neg hs]
    have e1 : fcE v I = 7 := by rw [e0, e7]; rfl
    have e2 : fcS v I y = v := by unfold fcS; rw [if_neg (fun h => hs h.2)]
    rw [e1, e2]
    exact rkforce_state k hd hI hs y
  have e7 : frcE (v.st.s I) = 0 := by rw [hs]; rfl
  rw [e7, if_pos rfl] at e0
  have e2 : fcS v I y = noteK v ⟨frcS 1 y, I, 0, 0⟩ := by unfold fcS; rw [if_pos ⟨hd, hs⟩]
  cases hr : roomK v
  · have e1 : fcE v I = 5 := by rw [e0, hr]; rfl
    have e3 : fcS v I y = v := by rw [e2]; unfold noteK; rw [if_neg (by rw [hr]; decide)]
    rw [e1, e3]
    cases y
    · exact rkforce_full_false k hd hI hs hr
    · exact rkforce_full_true k hd hI hs hr
  · have e1 : fcE v I = 0 := by rw [e0, hr]; rfl
    rw [e1, e2, noteK_put hr]
    cases y
    · exact rkforce_ok_false k hg hd hI hs hr hn
    · exact rkforce_ok_true k hg hd hI hs hr hn
end
end Go.Proofs.YtepclljoiccieaaGreatDoor
/-
  The reference's keeper: Ids.
-/
namespace Go.Proofs.YtepclljoiccieaaGreatDoor
open Go.ChangeShapes Go.WideShapes Go.ChangeAt Go.RowKit Go.Maps

def rks (N : Nat) (h : Int → Int) : List Value := (List.range N).map (fun k : Nat => .int .i64 (h k))
theorem rks_len (N : Nat) (h : Int → Int) : (rks N h).length = N := by simp [rks]
theorem rks_at {N : Nat} (h : Int → Int) {i : Nat} (hi : i < N) : (rks N h)[i]? = some (.int .i64 (h i)) := by simp [rks, hi]
theorem rkcs_rks (N : Nat) (nd : Int) (l j g m : Value) (s : Int → Int) (i : Nat) : (rkcs N nd l j g m s)[5 + i]? = (rks N s)[i]? := by
  rw [Nat.add_comm]
  rfl
theorem kload_row {w : World} {p : Nat} {nd : Int} {lv jv g m : Value} {s : Int → Int} (hb : w.heap[p]? = some (.cells (rkcs 1000 nd lv jv g m s).toArray 51 (0, 0))) : (Instr.loadAt 49 (.pointer (some ⟨p, 5, none⟩))).run Tryz.prog w = .ok (.agg (rks 1000 s).toArray) w := by
  have hl : (loadCells ⟨p, 5, none⟩ 1000).run Tryz.prog w = .ok (rks 1000 s).toArray w := by
    have := run_loadCells_list (P := Tryz.prog) (w := w) ⟨p, 5, none⟩ (rks 1000 s) (fun j v hj => by
      rw [st_add', cell_of hb, List.getElem?_toArray, rkcs_rks]
      exact hj)
    rwa [rks_len] at this
  generalize (rks 1000 s).toArray = cs at hl
  have e : ∀ n : Nat, (loadCells ⟨p, 5, none⟩ n).run Tryz.prog w = .ok cs w → (sizeOf 49).run Tryz.prog w = .ok n w → (loadVar 49 ⟨p, 5, none⟩).run Tryz.prog w = .ok (.agg cs) w := fun n h1 h2 => by
    simp [loadVar, Tryz.isAgg49, h2, h1, Result.andThen]
  have e2 := e 1000 hl (Tryz.sizeOf49 w)
  simp [Instr.loadAt, Instr.sureAddr, e2]
theorem kindex_row (h : Int → Int) {i : Nat} (hi : i < 1000) (w : World) : (Instr.index 49 (.agg (rks 1000 h).toArray) (.int .i64 i)).run Tryz.prog w = .ok (.int .i64 (h i)) w := by
  have hc : (rks 1000 h).toArray[i]? = some (.int .i64 (h i)) := by rw [List.getElem?_toArray]; exact rks_at h hi
  generalize (rks 1000 h).toArray = cs at hc
  simp [Instr.index, asIntOf, run_underlying Tryz.underlying49, part, Tryz.isAgg3, Tryz.sizeOf3, hc, Result.andThen]
  intro h3
  omega
theorem wpList_kload {w : World} {ops : Array Oper} {rest : List Oper} {o : Oper} {a : Act} {Q : Exit → Act → World → Prop} (hg : o.guard = none) (x : Operand) (hop : o.op = Op.load 49 x) (q : Nat) (hx : a.eval x = .pointer (some ⟨q, 5, none⟩)) {cs : Array Value}
    (hrun : (Instr.loadAt 49 (.pointer (some ⟨q, 5, none⟩))).run Tryz.prog w = .ok (.agg cs) w) (hK : wpList Tryz.prog ops Q rest (a.put o.dst (.agg cs)) w) : wpList Tryz.prog ops Q (o :: rest) a w := by
  refine wpList_plain hg fun K' hK' => ?_
  unfold Oper.wp
  simp only [execOp, hop]
  simp [hx, hrun, Result.andThen]
  exact hK' _ _ hK
set_option maxRecDepth 100000 in
set_option maxHeartbeats 1000000 in
theorem rkids_any {B : Nat} {E : Nat → Prop} {w : World} {p : Nat} {v : Kv} {n : Nat} {a : Option Addr} {l : List Int} {lc q : Nat} {r : Value} {pb mb mc : Nat} (k : RkV B E w p v n a l lc q r pb mb mc) :
    Calls Tryz.prog 18 #[.pointer (some ⟨p, 0, none⟩)] w fun e w' => ∃ a c, e = .returned (.slice a (Hd.idsL v.st.s).length c) ∧ w'.ownsRow w.heap.size 3 1 (.slice a (Hd.idsL v.st.s).length c) (Hd.idsL v.st.s).length ((Hd.idsL v.st.s).map (Value.int .i64)) ∧ Below w.heap.size w w' := by
  have hld := kload_row k.blk
  clear k
  generalize v.st.s = h at hld ⊢
  have hix : ∀ (i : Nat), i < 1000 → ∀ W : World, (Instr.index 49 (.agg (rks 1000 h).toArray) (.int .i64 i)).run Tryz.prog W = .ok (.int .i64 (h i)) W := fun i hi W => kindex_row h hi W
  generalize (rks 1000 h).toArray = cs at hld hix
  have HIX := hide hix
  clear hix
  go_enter Tryz.func18, Tryz.ntmps18
  go_wp2_with (refine wpList_kload rfl _ rfl p rfl hld ?_)
  go_loopw [3, 10] (fun v i wr => ∃ (j : Nat) (av : Option Addr) (cv : Nat), i = .int .i64 j ∧ v = .slice av (Hd.idsTo h j).length cv ∧ j ≤ 1000 ∧ Hid (wr.ownsRow w.heap.size 3 1 (.slice av (Hd.idsTo h j).length cv) (Hd.idsTo h j).length ((Hd.idsTo h j).map (Value.int .i64))) ∧ Hid (Below w.heap.size w wr)) (fun _ i _ => 1000 - (Go.RowKit.intOf i).toNat)
  case atStart => exact ⟨0, none, 0, rfl, rfl, Nat.zero_le _, World.ownsRow_nil _ _ _ _, Below.refl _ _⟩
  case round =>
    obtain ⟨j, av, cv, rfl, rfl, hj, HR, HB⟩ := hrel
    by_cases hlt : j < 1000
    · have hx := HIX.out j hlt wr
      have ql : (j : Int) < 1000 := by omega
      by_cases hz : h j = 0
      · have e : Hd.idsTo h (j + 1) = Hd.idsTo h j := by rw [Hd.idsTo_succ, if_neg (by simp [hz])]; simp
        have HE := hide e
        rw [hz] at hx
        clear e hz
        go_wp2
        go_roundw
        case rel => exact ⟨j + 1, av, cv, by go_num, by rw [HE.out], by omega, by rw [HE.out]; exact HR, HB⟩
        case measure => simp [Go.RowKit.intOf]; omega
      · have e : Hd.idsTo h (j + 1) = Hd.idsTo h j ++ [(j : Int)] := by rw [Hd.idsTo_succ, if_pos hz]
        have HE := hide e
        have hlen := Hd.idsTo_len h j
        obtain ⟨v, hv⟩ : ∃ v, h j = v := ⟨_, rfl⟩
        have qv : (v != 0) = true := by rw [← hv]; simpa using hz
        rw [hv] at hx
        have hbb := HB.out.size
        clear e hz hv
        go_wp2_with (at_builtin; refine append_nums rfl (.tmp 16) (.tmp 18) rfl w.heap.size (.slice av (Hd.idsTo h j).length cv) (Hd.idsTo h j).length (Hd.idsTo h j) rfl (HR.out.alloc _) ⟨wr.heap.size, 0, none⟩ 1 1 [(j : Int)] rfl rfl (ints_one _ _) (by omega) (by simp; omega) ?_; intro v' w4 hown' hgrow; obtain ⟨a4, c4, rfl, -⟩ := row_slice hown'; have HR4 := hide hown'; have HB4 : Hid (Below w.heap.size w w4) := (HB.out.alloc HB.out.size _).grown hgrow (by simp; omega) (fun i e => (HR.out.lt i e).1); clear hown' hgrow)
        go_roundw
        case rel => exact ⟨j + 1, a4, c4, by go_num, by rw [HE.out]; simp, by omega, by rw [HE.out, List.length_append]; exact HR4, HB4⟩
        case measure => simp [Go.RowKit.intOf]; omega
    · have ql : ¬ (j : Int) < 1000 := by omega
      go_wp2
      go_ret
      have e : j = 1000 := by omega
      subst e
      exact ⟨av, cv, rfl, HR.out, HB.out⟩
end Go.Proofs.YtepclljoiccieaaGreatDoor
/-
  The reference's Handle where it is deaf.
-/
namespace Go.Proofs.YtepclljoiccieaaGreatDoor
open Go.ChangeShapes Go.WideShapes Go.ChangeAt Go.RowKit Go.Maps

theorem kseven {w : World} {k : Nat} {m : Ms.Mg} (h : w.heap[k]? = some (.cells #[.int .i64 m.k, .int .i64 m.fr, .int .i64 m.to, .int .i64 m.id, .int .i64 m.st, .int .i64 m.a, .int .i64 m.b] 31 (0, 0))) :
    (w.cell? ⟨k, 0, none⟩ = some (.int .i64 m.k) ∧ w.cell? ⟨k, 1, none⟩ = some (.int .i64 m.fr) ∧ w.cell? ⟨k, 2, none⟩ = some (.int .i64 m.to) ∧ w.cell? ⟨k, 3, none⟩ = some (.int .i64 m.id) ∧ w.cell? ⟨k, 4, none⟩ = some (.int .i64 m.st) ∧ w.cell? ⟨k, 5, none⟩ = some (.int .i64 m.a) ∧ w.cell? ⟨k, 6, none⟩ = some (.int .i64 m.b)) := by
  refine ⟨?_, ?_, ?_, ?_, ?_, ?_, ?_⟩ <;> (rw [cell_of h]; rfl)
theorem RQ.no {B : Nat} {E E1 : Nat → Prop} {w V : World} {p : Nat} {v : Kv} {n n' : Nat} {a : Option Addr} {l : List Int} {lc q : Nat} {r : Value} {pb mb mc : Nat} (t : RQ B E w E1 V p v n a l lc q r pb mb mc) (hE : ∀ k, E k → B ≤ k ∧ k < w.heap.size) (hB : B ≤ w.heap.size) (hG : GoodKv v) (hn : n ≤ n') : RHandK B E w p v n' [] (.returned (.slice none 0 0)) V :=
  ⟨none, 0, rfl, .inl rfl, ⟨kgrow_in hE hB t.kp.size, hG, a, l, lc, q, r, pb, mb, mc, (t.k.more hn).wide t.sub⟩, t.kp⟩
set_option maxRecDepth 100000 in
set_option maxHeartbeats 2000000 in
theorem rkh_deaf {B : Nat} {E : Nat → Prop} {w : World} {p : Nat} {v : Kv} {n : Nat} (k : Rk B E w p v n) (m : Ms.Mg) (hh : hearsK v m = false) :
    Calls Tryz.prog 17 #[.pointer (some ⟨p, 0, none⟩), .agg #[.int .i64 m.k, .int .i64 m.fr, .int .i64 m.to, .int .i64 m.id, .int .i64 m.st, .int .i64 m.a, .int .i64 m.b]] w (RHandK B E w p v (n + 4) []) := by
  obtain ⟨hE, hG, a, l, lc, q, r, pb, mb, mc, k0⟩ := id_of k
  have hB := k.low
  obtain ⟨W, hW⟩ : ∃ W, W = w.alloc (.cells #[.int .i64 m.k, .int .i64 m.fr, .int .i64 m.to, .int .i64 m.id, .int .i64 m.st, .int .i64 m.a, .int .i64 m.b] 31) := ⟨_, rfl⟩
  have hb0 : Below w.heap.size w W := by rw [hW]; exact (Below.refl _ _).alloc (Nat.le_refl _) _
  have hbx : W.heap[w.heap.size]? = some (.cells #[.int .i64 m.k, .int .i64 m.fr, .int .i64 m.to, .int .i64 m.id, .int .i64 m.st, .int .i64 m.a, .int .i64 m.b] 31 (0, 0)) := by rw [hW]; exact World.alloc_heap_new w _
  have kW := k0.on hb0
  obtain ⟨a0, a1, a2, a3, a4, a5, a6⟩ := kseven hbx
  obtain ⟨c0, -, c2, -, -⟩ := kW.cells
  obtain ⟨⟨-, -, -, j3⟩, -⟩ := kW.jr.cells
  have hnd := k0.nd
  have I : ∀ u : Later W, Calls Tryz.prog 45 #[.int .i64 m.id] u.w fun e w' => e = .returned (.bool (Hd.isI m.id)) ∧ ∃ u' : Later W, w' = u'.w := fun u => calls_later u ((Gd.rid_any m.id u.w).mono (fun _ _ ⟨h1, h2⟩ => ⟨h1, by rw [← h2]; exact Below.refl _ _⟩))
  have NX : Hid (∀ u : Later W, RHandK B E w p v (n + 4) [] (.returned (.slice none 0 0)) u.w) := fun u => (RQ.new k0 (bel_on' hb0 u.below)).no hE hB hG (by omega)
  have HW := hide hW
  unfold hearsK at hh
  obtain ⟨m0, m1, m2, m3, m4, m5, m6⟩ := m
  simp only at *
  generalize v.down = d at j3 hh
  generalize v.node = nd at c0 hh hnd
  generalize Hd.isI m3 = ii at I hh
  have z0 := Later.cell c0
  have z1 := Later.cell a1
  have z2 := Later.cell a2
  have z3 := Later.cell a3
  have z4 := Later.cell c2
  have z5 := Later.cell j3
  have hne : Nonempty (Later W) := ⟨Later.now W⟩
  have hb1 : 1 ≤ nd ∧ nd ≤ 2 := by omega
  obtain ⟨b1, h1⟩ : ∃ b1, (m2 != nd) = b1 := ⟨_, rfl⟩
  obtain ⟨b2, h2⟩ : ∃ b2, (m1 != 0) = b2 := ⟨_, rfl⟩
  obtain ⟨b3, h3⟩ : ∃ b3, (m1 != 3 - nd) = b3 := ⟨_, rfl⟩
  have hcs : d = true ∨ (d = false ∧ b1 = true) ∨ (d = false ∧ b1 = false ∧ ii = false) ∨ (d = false ∧ b1 = false ∧ ii = true ∧ b2 = true ∧ b3 = true) := by
    cases d
    · cases b1
      · cases ii
        · exact .inr (.inr (.inl ⟨rfl, rfl, rfl⟩))
        · refine .inr (.inr (.inr ⟨rfl, rfl, rfl, ?_, ?_⟩))
          · simp only [bne_eq_false_iff_eq] at h1
            rw [← h2]
            simp [h1] at hh
            simpa using hh.1
          · simp only [bne_eq_false_iff_eq] at h1
            rw [← h3]
            simp [h1] at hh
            simpa using hh.2
      · exact .inr (.inl ⟨rfl, rfl⟩)
    · exact .inl rfl
  clear k kW hW hb0 hbx hh k0 hE hG hB hnd
  rcases hcs with rfl | ⟨rfl, rfl⟩ | ⟨rfl, rfl, rfl⟩ | ⟨rfl, rfl, rfl, rfl, rfl⟩
  all_goals go_enter Tryz.func17, Tryz.ntmps17
  all_goals (go_upto_region 1 with fail; rw [← HW.out]; go_wp2_with fail)
  all_goals refine region_later (by kernel_rfl) (by kernel_rfl) ?_
  all_goals (repeat (first | go_big_quiet_step (exact I _) | quiet_step (exact I _)))
  all_goals refine wpQuiet_nil ?_
  all_goals intro u
  all_goals go_wp2
  all_goals go_ret
  all_goals exact NX.out u
end Go.Proofs.YtepclljoiccieaaGreatDoor
/-
  The reference's Handle where it hears.
-/
namespace Go.Proofs.YtepclljoiccieaaGreatDoor
open Go.ChangeShapes Go.WideShapes Go.ChangeAt Go.RowKit Go.Maps

theorem RQ.one {B : Nat} {E E1 : Nat → Prop} {w V u' : World} {p : Nat} {v : Kv} {n n' : Nat} {a : Option Addr} {l : List Int} {lc q : Nat} {r : Value} {pb mb mc : Nat} (t : RQ B E w E1 V p v n a l lc q r pb mb mc) (hE : ∀ k, E k → B ≤ k ∧ k < w.heap.size) (hB : B ≤ w.heap.size) (hG : GoodKv v) (hn : n ≤ n') {K nd fr m3 : Int}
    (e1 : Below (V.alloc (.cells #[.int .i64 K, .int .i64 nd, .int .i64 fr, .int .i64 m3, .int .i64 0, .int .i64 0, .int .i64 0] 31)).heap.size (V.alloc (.cells #[.int .i64 K, .int .i64 nd, .int .i64 fr, .int .i64 m3, .int .i64 0, .int .i64 0, .int .i64 0] 31)) u') :
    RHandK B E w p v n' [⟨K, nd, fr, m3, 0, 0, 0⟩] (.returned (.slice (some ⟨V.heap.size, 0, none⟩) 1 1)) u' := by
  have hbA : Below V.heap.size V u' := bel_on' ((Below.refl _ _).alloc (Nat.le_refl _) _) e1
  have hm := (Ms.mgs_new V [⟨K, nd, fr, m3, 0, 0, 0⟩] #[.int .i64 K, .int .i64 nd, .int .i64 fr, .int .i64 m3, .int .i64 0, .int .i64 0, .int .i64 0] rfl).below e1
  have t2 := t.on hbA
  exact ⟨_, 1, rfl, hm, ⟨kgrow_in hE hB t2.kp.size, hG, a, l, lc, q, r, pb, mb, mc, (t2.k.more hn).wide t2.sub⟩, t2.kp⟩
set_option maxRecDepth 100000 in
set_option maxHeartbeats 16000000 in
theorem rkh_hears {B : Nat} {E : Nat → Prop} {w : World} {p : Nat} {v : Kv} {n : Nat} (k : Rk B E w p v n) (m : Ms.Mg) (hh : hearsK v m = true) (hg : ∀ u, Rg.Kept (fun k _ => E k) w u → Gl u) (hn : n < 700000) :
    Calls Tryz.prog 17 #[.pointer (some ⟨p, 0, none⟩), .agg #[.int .i64 m.k, .int .i64 m.fr, .int .i64 m.to, .int .i64 m.id, .int .i64 m.st, .int .i64 m.a, .int .i64 m.b]] w (RHandK B E w p (hkS v m) (n + 4) (hkA v m)) := by
  obtain ⟨hE, hG, a, l, lc, q, r, pb, mb, mc, k0⟩ := id_of k
  have hB := k.low
  obtain ⟨hd, ht, hi⟩ := hearsK_of hh
  have hfr : m.fr = 0 ∨ m.fr = 3 - v.node := by
    unfold hearsK at hh
    simp only [Bool.and_eq_true, Bool.or_eq_true, beq_iff_eq] at hh
    exact hh.2
  obtain ⟨W, hW⟩ : ∃ W, W = w.alloc (.cells #[.int .i64 m.k, .int .i64 m.fr, .int .i64 m.to, .int .i64 m.id, .int .i64 m.st, .int .i64 m.a, .int .i64 m.b] 31) := ⟨_, rfl⟩
  have hb0 : Below w.heap.size w W := by rw [hW]; exact (Below.refl _ _).alloc (Nat.le_refl _) _
  have hbx : Abj W E w.heap.size (.cells #[.int .i64 m.k, .int .i64 m.fr, .int .i64 m.to, .int .i64 m.id, .int .i64 m.st, .int .i64 m.a, .int .i64 m.b] 31 (0, 0)) := ⟨by rw [hW]; exact World.alloc_heap_new w _, fun e => by have := (hE _ e).2; omega⟩
  have kW := k0.on hb0
  obtain ⟨a0, a1, a2, a3, a4, a5, a6⟩ := kseven hbx.1
  obtain ⟨c0, -, c2, -, -⟩ := kW.cells
  obtain ⟨⟨-, -, -, j3⟩, -⟩ := kW.jr.cells
  have hnd := k0.nd
  have IC : ∀ u : Later W, Calls Tryz.prog 45 #[.int .i64 m.id] u.w fun e w' => e = .returned (.bool true) ∧ ∃ u' : Later W, w' = u'.w := fun u => calls_later u ((Gd.rid_any m.id u.w).mono (fun _ _ ⟨h1, h2⟩ => ⟨by rw [h1]; exact congrArg (fun b => Ending.returned (.bool b)) (Hd.isI_iff.2 hi), by rw [← h2]; exact Below.refl _ _⟩))
  have HW := hide hW
  have HE := hide hE
  have HB := hide hB
  have HG := hide hG
  have HD := hide hd
  have HH := hide hh
  have HGL := hide hg
  have HGS : Hid (GoodKv (hkS v m)) := hkS_good hG m
  have HB0 := hide hb0
  have HK0 := hide k0
  obtain ⟨m0, m1, m2, m3, m4, m5, m6⟩ := m
  simp only at *
  obtain ⟨I, hI⟩ : ∃ I : Nat, m3 = I := ⟨m3.toNat, by omega⟩
  subst hI
  have HIR : Hid (1 ≤ I ∧ I ≤ 999) := by show 1 ≤ I ∧ I ≤ 999; omega
  have hI2 : (I : Int) < 1000 := by omega
  have HX0 : Hid (Abj W E w.heap.size (.cells #[.int .i64 m0, .int .i64 m1, .int .i64 m2, .int .i64 I, .int .i64 m4, .int .i64 m5, .int .i64 m6] 31 (0, 0))) := hbx
  rw [hd] at j3
  have b1 : (m2 != v.node) = false := by simp [ht]
  generalize v.node = nd at c0 b1 hfr hnd
  have hb1 : 1 ≤ nd ∧ nd ≤ 2 := by omega
  have z0 := Later.cell c0
  have z1 := Later.cell a1
  have z2 := Later.cell a2
  have z3 := Later.cell a3
  have z4 := Later.cell c2
  have z5 := Later.cell j3
  have hne : Nonempty (Later W) := ⟨Later.now W⟩
  have hcs : (m1 != 0) = false ∨ ((m1 != 0) = true ∧ (m1 != 3 - nd) = false) := by
    by_cases e : m1 = 0
    · left; simp [e]
    · right; exact ⟨by simp [e], by simp; omega⟩
  clear k kW hW hb0 hbx hh k0 hE hG hB hnd hfr ht hd hi hg
  go_enter Tryz.func17, Tryz.ntmps17
  go_upto_region 1 with fail
  rw [← HW.out]
  go_upto_region 2 with fail
  go_cut [50] from 18 to 49 (fun x wx => x = .bool false ∧ Hid (Below W.heap.size W wx))
  case first =>
    rcases hcs with b2 | ⟨b2, b3⟩
    all_goals refine region_later (by kernel_rfl) (by kernel_rfl) ?_
    all_goals (repeat (first | go_big_quiet_step (exact IC _) | quiet_step (exact IC _)))
    all_goals refine wpQuiet_nil ?_
    all_goals intro u
    all_goals go_wp2
    all_goals go_meet
    all_goals exact ⟨rfl, u.below⟩
  case rest =>
    obtain ⟨rfl, HBV⟩ := hcut
    have HT := hide (RQ.new HK0.out (bel_on' HB0.out HBV.out))
    have HX := hide (HX0.out.on HBV.out)
    clear z0 z1 z2 z3 z4 z5 IC hne c0 c2 a0 a1 a2 a3 a4 a5 a6 j3 b1 hcs HX0 HBV HW
    obtain ⟨s, hs⟩ : ∃ s, v.st.s I = s := ⟨_, rfl⟩
    have c4 := HT.out.k.cellI (i := I) (by omega)
    rw [hs] at c4
    obtain ⟨c0, -, c2, -, -⟩ := HT.out.k.cells
    obtain ⟨a0, a1, a2, a3, a4, a5, a6⟩ := kseven (m := ⟨m0, m1, m2, I, m4, m5, m6⟩) HX.out.1
    have HSS := hide hs
    clear hs
    go_wp2_with fail
    go_quiet (fail)
    go_upto_region 6 with fail
    have HT1 := hide (HT.out.on (belowN (Below.refl _ _) nq))
    have HX1 := hide (HX.out.on (belowN (Below.refl _ _) nq))
    clear c0 c2 c4 a0 a1 a2 a3 a4 a5 a6 HT HX
    generalize wc.drewN nq = V1 at HT1 HX1 ⊢
    obtain ⟨ak, hak⟩ : ∃ ak : Bool, ak = (decide (s = 0) && decide (m0 = 6)) := ⟨_, rfl⟩
    go_cut [8] from 58 to 64 (fun x wx => x = .bool ak ∧ V1 = wx)
    case first =>
      obtain ⟨a0, -⟩ := kseven (m := ⟨m0, m1, m2, I, m4, m5, m6⟩) HX1.out.1
      by_cases h1 : s = 0
      · have e1 : (s == 0) = true := by simp [h1]
        by_cases h2 : m0 = 6
        · have e2 : (m0 == 6) = true := by simp [h2]
          have e3 : ak = true := by rw [hak]; simp [h1, h2]
          subst e3
          clear h1 h2 hak
          go_wp2
          go_meet
          exact ⟨rfl, rfl⟩
        · have e2 : (m0 == 6) = false := by simp [h2]
          have e3 : ak = false := by rw [hak]; simp [h1, h2]
          subst e3
          clear h1 h2 hak
          go_wp2
          go_meet
          exact ⟨rfl, rfl⟩
      · have e1 : (s == 0) = false := by simp [h1]
        have e3 : ak = false := by rw [hak]; simp [h1]
        subst e3
        clear h1 hak
        go_wp2
        go_meet
        exact ⟨rfl, rfl⟩
    case rest =>
      obtain ⟨rfl, rfl⟩ := hcut
      have HAK := hide hak
      clear hak
      obtain ⟨c0, -, c2, -, -⟩ := HT1.out.k.cells
      obtain ⟨⟨j0, j1, -, -⟩, -⟩ := HT1.out.k.jr.cells
      obtain ⟨ra, rc, hr0, -, -⟩ := HT1.out.k.jr.row
      rw [hr0, List.length_map] at j1
      have hl4 : v.T.length ≤ 4096 := by have := HT1.out.k.jr.2.2.2.2.1; rw [List.length_map] at this; exact this
      obtain ⟨tl, htl⟩ : ∃ tl, v.T.length = tl := ⟨_, rfl⟩
      rw [htl] at j1 hl4
      have HRO : Hid (roomK v = decide ((tl : Int) < v.room)) := by show roomK v = _; unfold roomK; rw [htl]
      generalize v.room = rm at j0 HRO
      clear hr0 htl
      obtain ⟨fu, hfu⟩ : ∃ fu : Bool, fu = decide ((tl : Int) ≥ rm) := ⟨_, rfl⟩
      have HFU : Hid (fu = !roomK v) := by show fu = _; rw [hfu, HRO.out]; by_cases h : (tl : Int) < rm <;> simp [h] <;> omega
      go_wp2_with fail
      go_quiet (fail)
      rw [show decide (rm ≤ (tl : Int)) = fu from hfu.symm]
      have HT2 := hide (HT1.out.on (belowN (Below.refl _ _) nq))
      have HX2 := hide (HX1.out.on (belowN (Below.refl _ _) nq))
      clear c0 c2 j0 j1 HT1 HX1 hfu HRO
      generalize V1.drewN nq = V2 at HT2 HX2 ⊢
      go_upto_region 8 with fail
      go_cut [85] from 81 to 84 (fun x wx => x = .bool (ak && !fu) ∧ V2 = wx)
      case first =>
        cases ak <;> cases fu
        all_goals go_wp2
        all_goals go_meet
        all_goals exact ⟨rfl, rfl⟩
      case rest =>
        obtain ⟨rfl, rfl⟩ := hcut
        have HAS : Hid ((ak && !fu) = askd v m0 I) := by show _ = _; unfold askd; rw [HAK.out, HFU.out, HSS.out]; simp
        generalize (ak && !fu) = aq at HAS ⊢
        go_upto_if 85 with fail
        go_cut [7] from 86 to 93 (fun x wx => x = .bool (cnK v m0 I m5 m6) ∧ Hid (RQ B E w E wx p (vtK v m0 I m5 m6) (n + 1) a l lc q r pb mb mc) ∧ Hid (Abj wx E w.heap.size (.cells #[.int .i64 m0, .int .i64 m1, .int .i64 m2, .int .i64 I, .int .i64 m4, .int .i64 m5, .int .i64 m6] 31 (0, 0))))
        case first =>
          cases aq
          · have e1 : cnK v m0 I m5 m6 = false := by unfold cnK; rw [← HAS.out]; rfl
            have e2 : vtK v m0 I m5 m6 = v := by unfold vtK; rw [← HAS.out]; rfl
            have HE1 := hide e1
            have HE2 := hide e2
            clear e1 e2
            have HT3 : Hid (RQ B E w E V2 p v (n + 1) a l lc q r pb mb mc) := ⟨HT2.out.k.more (by omega), HT2.out.sub, HT2.out.kp⟩
            go_wp2
            go_meet
            rw [HE1.out, HE2.out]
            exact ⟨rfl, HT3, HX2⟩
          · have e1 : cnK v m0 I m5 m6 = decide (tkE v.node v.st.o I m5 m6 = 0) := by unfold cnK; rw [← HAS.out]; rfl
            have e2 : vtK v m0 I m5 m6 = ⟨v.node, v.f, v.room, v.T, v.down, ⟨tkS v.node v.st.o I m5 m6, v.st.s⟩⟩ := by unfold vtK; rw [← HAS.out]; rfl
            have TK := HT2.out.take (Hd.wf_of (by have := HIR.out; omega) (by have := HIR.out; omega) : (Lit.int .i64 (I : Int)).wf = true) m5 m6 (by omega)
            obtain ⟨a0, a1, a2, a3, a4, a5, a6⟩ := kseven (m := ⟨m0, m1, m2, I, m4, m5, m6⟩) HX2.out.1
            generalize decide (tkE v.node v.st.o I m5 m6 = 0) = z at TK e1
            have HE1 := hide e1
            have HE2 := hide e2
            clear e1 e2
            go_wp2_with (go_at_call 38; refine TK.mono ?_; clear TK; rintro e V3 ⟨rfl, h1, h2⟩; have HT3 := hide h1; have HX3 := hide (HX2.out.step h2 (fun _ e => .inl e)); clear h1 h2)
            go_meet
            rw [HE1.out, HE2.out]
            exact ⟨rfl, HT3, HX3⟩
        case rest =>
          obtain ⟨rfl, HT3, HX3⟩ := hcut
          obtain ⟨o3, ho3⟩ : ∃ o3, (vtK v m0 I m5 m6).st.o = o3 := ⟨_, rfl⟩
          have evt : vtK v m0 I m5 m6 = ⟨v.node, v.f, v.room, v.T, v.down, ⟨o3, v.st.s⟩⟩ := by rw [← ho3]; unfold vtK; split <;> rfl
          have SAME : Hid (nxS (v.st.s I) (mnt m0) (cnK v m0 I m5 m6) = v.st.s I → (vtK v m0 I m5 m6 = v ∧ hkS v ⟨m0, m1, m2, I, m4, m5, m6⟩ = v ∧ hkK v ⟨m0, m1, m2, I, m4, m5, m6⟩ = nxK (v.st.s I) (mnt m0) (cnK v m0 I m5 m6))) := fun h => rhk_same HH.out h
          have FULL : Hid (roomK v = false → nxS (v.st.s I) (mnt m0) (cnK v m0 I m5 m6) ≠ v.st.s I → (vtK v m0 I m5 m6 = v ∧ hkS v ⟨m0, m1, m2, I, m4, m5, m6⟩ = v ∧ hkA v ⟨m0, m1, m2, I, m4, m5, m6⟩ = [])) := fun hr h => rhk_full HH.out hr h
          have ROOM : Hid (∀ s2, roomK v = true → nxS (v.st.s I) (mnt m0) (cnK v m0 I m5 m6) = s2 → s2 ≠ v.st.s I → ((s2 = 1 ∨ s2 = 2 ∨ s2 = 3) ∧ OkK ⟨s2, I, m5, m6⟩ ∧ hkK v ⟨m0, m1, m2, I, m4, m5, m6⟩ = nxK (v.st.s I) (mnt m0) (cnK v m0 I m5 m6) ∧ hkS v ⟨m0, m1, m2, I, m4, m5, m6⟩ = ⟨v.node, v.f, v.room, v.T ++ [⟨s2, I, m5, m6⟩], v.down, ⟨(if s2 = 1 then (vtK v m0 I m5 m6).st.o else if s2 = 2 then slS v.node (vtK v m0 I m5 m6).st.o I else frS v.node (vtK v m0 I m5 m6).st.o I), Hd.upd v.st.s I s2⟩⟩)) := fun s2 hr hs h => rhk_room HG.out HIR.out HH.out hr hs h
          rw [HSS.out] at SAME FULL ROOM
          rw [ho3] at ROOM
          rw [evt] at SAME FULL HT3
          have NX := rnext_any s m0 (cnK v m0 I m5 m6) wc
          generalize cnK v m0 I m5 m6 = cn at SAME FULL ROOM NX
          obtain ⟨s2, hs2⟩ : ∃ s2, nxS s (mnt m0) cn = s2 := ⟨_, rfl⟩
          obtain ⟨kd, hkd⟩ : ∃ kd, nxK s (mnt m0) cn = kd := ⟨_, rfl⟩
          rw [hs2] at SAME FULL ROOM NX
          rw [hkd] at SAME ROOM NX
          have HS2 := hide hs2
          clear hs2 hkd evt ho3
          obtain ⟨a0, a1, a2, a3, a4, a5, a6⟩ := kseven (m := ⟨m0, m1, m2, I, m4, m5, m6⟩) HX3.out.1
          by_cases hF : s2 ≠ s ∧ fu = true
          · obtain ⟨hne, rfl⟩ := hF
            have hr : roomK v = false := by have := HFU.out; revert this; cases roomK v <;> simp
            obtain ⟨e1, e2, e3⟩ := FULL.out hr hne
            have qn : (s2 != s) = true := by simp [hne]
            have HF1 : Hid (RQ B E w E wc p v (n + 1) a l lc q r pb mb mc) := by show RQ _ _ _ _ _ _ _ _ _ _ _ _ _ _ _ _; rw [← e1]; exact HT3.out
            have H2 := hide e2
            have H3 := hide e3
            clear e1 e2 e3 hne hr SAME FULL ROOM HT3
            go_wp2_with (go_at_call 54; refine NX.mono ?_; clear NX; rintro e w' ⟨rfl, rfl⟩)
            go_ret
            rw [H2.out, H3.out]
            exact HF1.out.no HE.out HB.out HG.out (by omega)
          obtain ⟨bq, hbq⟩ : ∃ bq, (s2 != s) = bq := ⟨_, rfl⟩
          go_upto_if 104 with (go_at_call 54; refine NX.mono ?_; clear NX; rintro e w' ⟨rfl, rfl⟩)
          go_cut [4] from 105 to 157 (fun x wx => x = .slice none 0 0 ∧ Hid (hkK v ⟨m0, m1, m2, I, m4, m5, m6⟩ = kd) ∧ ∃ (E2 : Nat → Prop) (r2 : Value), Hid (RQ B E w E2 wx p (hkS v ⟨m0, m1, m2, I, m4, m5, m6⟩) (n + 3) a l lc q r2 pb mb mc) ∧ Hid (Abj wx E2 w.heap.size (.cells #[.int .i64 m0, .int .i64 m1, .int .i64 m2, .int .i64 I, .int .i64 m4, .int .i64 m5, .int .i64 m6] 31 (0, 0))))
          case first =>
            by_cases hne : s2 = s
            · obtain ⟨e1, e2, e3⟩ := SAME.out hne
              obtain rfl : bq = false := by rw [← hbq]; simp [hne]
              have HF1 : Hid (RQ B E w E wc p v (n + 3) a l lc q r pb mb mc) := by
                show RQ _ _ _ _ _ _ _ _ _ _ _ _ _ _ _ _
                rw [← e1]
                exact ⟨HT3.out.k.more (by omega), HT3.out.sub, HT3.out.kp⟩
              have H2 := hide e2
              have H3 := hide e3
              clear e1 e2 e3 hne SAME FULL ROOM HT3 hbq
              go_wp2
              go_meet
              rw [H2.out]
              exact ⟨rfl, H3, _, _, HF1, HX3⟩
            have hfu : fu = false := by cases fu; rfl; exact absurd ⟨hne, rfl⟩ hF
            subst hfu
            have hr : roomK v = true := by have := HFU.out; revert this; cases roomK v <;> simp
            obtain ⟨h3, hok, hK3, hS3⟩ := ROOM.out s2 hr rfl hne
            obtain rfl : bq = true := by rw [← hbq]; simp [hne]
            have HK3 := hide hK3
            have HS3 := hide hS3
            have HOK := hide hok
            have HRM := hide hr
            have HWI : Hid ((Lit.int .i64 (I : Int)).wf = true) := Hd.wf_of (by have := HIR.out; omega) (by have := HIR.out; omega)
            have hI3 : I < 1000 := by have := HIR.out; omega
            clear hK3 hS3 hok hr hne SAME FULL ROOM hF HFU HAK HAS HS2 hbq
            rcases h3 with rfl | rfl | rfl
            · have HSF : Hid (hkS v ⟨m0, m1, m2, I, m4, m5, m6⟩ = ⟨v.node, v.f, v.room, v.T ++ [⟨1, I, m5, m6⟩], v.down, ⟨o3, Hd.upd v.st.s I 1⟩⟩) := HS3.out
              clear HS3
              have CE : Hid (∀ X, Below wc.heap.size wc X → X.cell? ⟨p, 2, none⟩ = some (.pointer (some ⟨q, 0, none⟩)) ∧ X.cell? ⟨w.heap.size, 3, none⟩ = some (.int .i64 I) ∧ X.cell? ⟨w.heap.size, 5, none⟩ = some (.int .i64 m5) ∧ X.cell? ⟨w.heap.size, 6, none⟩ = some (.int .i64 m6)) := fun X hX => by
                obtain ⟨_, _, _, h3, _, h5, h6⟩ := kseven (m := ⟨m0, m1, m2, I, m4, m5, m6⟩) (HX3.out.on hX).1
                exact ⟨(HT3.out.on hX).k.cells.2.2.1, h3, h5, h6⟩
              have HRE : Hid (∀ g X, Calls Tryz.prog 48 #[.string ⟨#[114, 101, 97, 100, 121]⟩, .int .i64 I, .slice (some ⟨g, 0, none⟩) 2 2] X fun e w' => e = .returned (.agg #[.string ⟨#[114, 101, 97, 100, 121]⟩, .int .i64 I, .slice (some ⟨g, 0, none⟩) 2 2]) ∧ Below X.heap.size X w') := fun g X => rentry_any _ _ _ _ _ X
              have NT : Hid (∀ V5 g, Rowed wc m5 m6 V5 g → ∀ X, X = V5.alloc (.cells #[.string ⟨#[114, 101, 97, 100, 121]⟩, .int .i64 I, .slice (some ⟨g, 0, none⟩) 2 2] 78) → Calls Tryz.prog 47 #[.pointer (some ⟨q, 0, none⟩), .bool true, .slice (some ⟨V5.heap.size, 0, none⟩) 1 1] X fun x u => x = .returned (.bool true) ∧ ∃ E2 r2, RQ B E w E2 u p ⟨v.node, v.f, v.room, v.T ++ [⟨1, (I : Int), m5, m6⟩], v.down, ⟨o3, v.st.s⟩⟩ (n + 1) a l lc q r2 pb mb mc ∧ Abj u E2 w.heap.size (.cells #[.int .i64 m0, .int .i64 m1, .int .i64 m2, .int .i64 I, .int .i64 m4, .int .i64 m5, .int .i64 m6] 31 (0, 0))) := fun V5 g hR X hX => by
                have hbX : Below V5.heap.size V5 X := by rw [hX]; exact (Below.refl _ _).alloc (Nat.le_refl _) _
                have hx := World.alloc_heap_new V5 (.cells #[.string ⟨#[114, 101, 97, 100, 121]⟩, .int .i64 I, .slice (some ⟨g, 0, none⟩) 2 2] 78)
                rw [← hX] at hx
                have t := HT3.out.on (bel_on' hR.1 hbX)
                have ha : Ints X (some ⟨g, 0, none⟩) (nK ⟨1, (I : Int), m5, m6⟩) := .inr ⟨g, 0, rfl, fun i hi => by
                  have hi2 : i < 2 := hi
                  rcases (show i = 0 ∨ i = 1 by omega) with rfl | rfl
                  · exact cellL hR.2.2.1 hbX
                  · exact cellL hR.2.2.2 hbX⟩
                refine (t.note (e := ⟨1, (I : Int), m5, m6⟩) HD.out HRM.out HOK.out (b := some ⟨g, 0, none⟩) (c := 2) ha (HGL.out X t.kp) hx).mono ?_
                rintro x u ⟨h1, E2, r2, h2, h3, h4⟩
                exact ⟨h1, E2, r2, h2, (HX3.out.on (bel_on' hR.1 hbX)).step h3 h4⟩
              obtain ⟨c2, -⟩ := CE.out wc (Below.refl _ _)
              have n1 := World.new_ne wc _ c2
              have n2 := World.new_ne wc _ a3
              have n3 := World.new_ne wc _ a5
              have n4 := World.new_ne wc _ a6
              go_upto_region 18 with fail
              go_region_held3 (fun w' => w'.cell? ⟨p, 2, none⟩ = some (.pointer (some ⟨q, 0, none⟩)) ∧ w'.cell? ⟨w.heap.size, 3, none⟩ = some (.int .i64 I) ∧ w'.cell? ⟨w.heap.size, 5, none⟩ = some (.int .i64 m5) ∧ w'.cell? ⟨w.heap.size, 6, none⟩ = some (.int .i64 m6)) (go_keep) (first
                | (go_at_call 48; refine (HRE.out _ _).mono ?_; clear HRE; rintro e V5 ⟨rfl, hb5⟩; have HR5 : Hid (Rowed wc m5 m6 V5 wc.heap.size) := (by first | exact rowed_of (Below.refl _ _) hb5 | exact rowed_of (Below.refl _ _) (bel_dr hb5) | exact rowed_of (Below.refl _ _).drew hb5 | exact rowed_of (Below.refl _ _).drew (bel_dr hb5)); clear c2 a3 a5 a6 hb5 n1 n2 n3 n4; obtain ⟨c2, a3, a5, a6⟩ := CE.out V5 HR5.out.1; have n1 := World.new_ne V5 _ c2; have n2 := World.new_ne V5 _ a3; have n3 := World.new_ne V5 _ a5; have n4 := World.new_ne V5 _ a6)
                | (go_at_call 47; refine (NT.out V5 _ HR5.out _ rfl).mono ?_; clear NT; rintro e V6 ⟨rfl, E6, r6, hT6, hX6⟩; have HT6 := hide hT6; have HX6 := hide hX6; clear c2 a3 a5 a6 n1 n2 n3 n4; obtain ⟨-, -, c2, -, -⟩ := hT6.k.cells; obtain ⟨-, -, -, a3, -, a5, a6⟩ := kseven (m := ⟨m0, m1, m2, I, m4, m5, m6⟩) hX6.1; clear hT6 hX6))
              clear c2 a5 a6
              have c4 := HT6.out.k.cellI hI3
              have f4 := HT6.out.k.frozen (5 + I)
              dsimp only at c4
              generalize v.st.s (I : Int) = sx at c4
              have HT9 := hide (HT6.out.set hI3 1)
              have HX9 : Hid (Abj (V6.setCell ⟨p, 5 + I, none⟩ (.int .i64 1)) E6 w.heap.size (.cells #[.int .i64 m0, .int .i64 m1, .int .i64 m2, .int .i64 I, .int .i64 m4, .int .i64 m5, .int .i64 m6] 31 (0, 0))) := HX6.out.step (Rg.Kept.setCell (a := ⟨p, 5 + I, none⟩) _ (fun _ => HT6.out.k.ep)) (fun _ e => .inl e)
              have HTA : Hid (RQ B E w E6 (V6.setCell ⟨p, 5 + I, none⟩ (.int .i64 1)) p (hkS v ⟨m0, m1, m2, I, m4, m5, m6⟩) (n + 3) a l lc q r6 pb mb mc) := by show RQ _ _ _ _ _ _ _ _ _ _ _ _ _ _ _ _; rw [HSF.out]; exact ⟨HT9.out.k.more (by omega), HT9.out.sub, HT9.out.kp⟩
              clear HT9 HSF
              go_wp2_with fail
              go_region
              all_goals go_wp2
              all_goals go_meet
              all_goals exact ⟨rfl, HK3, _, _, HTA.out.on (Below.refl _ _).drew, HX9.out.on (Below.refl _ _).drew⟩
            · have HSF : Hid (hkS v ⟨m0, m1, m2, I, m4, m5, m6⟩ = ⟨v.node, v.f, v.room, v.T ++ [⟨2, I, m5, m6⟩], v.down, ⟨slS v.node o3 I, Hd.upd v.st.s I 2⟩⟩) := HS3.out
              clear HS3
              have CE : Hid (∀ X, Below wc.heap.size wc X → X.cell? ⟨p, 2, none⟩ = some (.pointer (some ⟨q, 0, none⟩)) ∧ X.cell? ⟨w.heap.size, 3, none⟩ = some (.int .i64 I)) := fun X hX => ⟨(HT3.out.on hX).k.cells.2.2.1, (kseven (m := ⟨m0, m1, m2, I, m4, m5, m6⟩) (HX3.out.on hX).1).2.2.2.1⟩
              have HRE : Hid (∀ X, Calls Tryz.prog 48 #[.string ⟨#[121, 101, 115]⟩, .int .i64 I, .slice none 0 0] X fun e w' => e = .returned (.agg #[.string ⟨#[121, 101, 115]⟩, .int .i64 I, .slice none 0 0]) ∧ Below X.heap.size X w') := fun X => rentry_any _ _ _ _ _ X
              have NT : Hid (∀ V5, Below wc.heap.size wc V5 → ∀ X, X = V5.alloc (.cells #[.string ⟨#[121, 101, 115]⟩, .int .i64 I, .slice none 0 0] 78) → Calls Tryz.prog 47 #[.pointer (some ⟨q, 0, none⟩), .bool true, .slice (some ⟨V5.heap.size, 0, none⟩) 1 1] X fun x u => x = .returned (.bool true) ∧ ∃ E2 r2, RQ B E w E2 u p ⟨v.node, v.f, v.room, v.T ++ [⟨2, (I : Int), m5, m6⟩], v.down, ⟨o3, v.st.s⟩⟩ (n + 1) a l lc q r2 pb mb mc ∧ Abj u E2 w.heap.size (.cells #[.int .i64 m0, .int .i64 m1, .int .i64 m2, .int .i64 I, .int .i64 m4, .int .i64 m5, .int .i64 m6] 31 (0, 0))) := fun V5 h5 X hX => by
                have hbX : Below V5.heap.size V5 X := by rw [hX]; exact (Below.refl _ _).alloc (Nat.le_refl _) _
                have hx := World.alloc_heap_new V5 (.cells #[.string ⟨#[121, 101, 115]⟩, .int .i64 I, .slice none 0 0] 78)
                rw [← hX] at hx
                have t := HT3.out.on (bel_on' h5 hbX)
                refine (t.note (e := ⟨2, (I : Int), m5, m6⟩) HD.out HRM.out HOK.out (b := none) (c := 0) (.inl rfl) (HGL.out X t.kp) hx).mono ?_
                rintro x u ⟨h1, E2, r2, h2, h3, h4⟩
                exact ⟨h1, E2, r2, h2, (HX3.out.on (bel_on' h5 hbX)).step h3 h4⟩
              obtain ⟨c2, -⟩ := CE.out wc (Below.refl _ _)
              have n1 := World.new_ne wc _ c2
              have n2 := World.new_ne wc _ a3
              go_upto_region 20 with fail
              go_region_held3 (fun w' => w'.cell? ⟨p, 2, none⟩ = some (.pointer (some ⟨q, 0, none⟩)) ∧ w'.cell? ⟨w.heap.size, 3, none⟩ = some (.int .i64 I)) (go_keep) (first
                | (go_at_call 48; refine (HRE.out _).mono ?_; clear HRE; rintro e V5 ⟨rfl, hb5⟩; have HB5 : Hid (Below wc.heap.size wc V5) := (by first | exact bel_dr hb5 | exact hb5); clear c2 a3 hb5 n1 n2; obtain ⟨c2, a3⟩ := CE.out V5 HB5.out; have n1 := World.new_ne V5 _ c2; have n2 := World.new_ne V5 _ a3)
                | (go_at_call 47; refine (NT.out V5 HB5.out _ rfl).mono ?_; clear NT; rintro e V6 ⟨rfl, E6, r6, hT6, hX6⟩; have HT6 := hide hT6; have HX6 := hide hX6; clear c2 a3 n1 n2; obtain ⟨-, -, c2, -, -⟩ := hT6.k.cells; obtain ⟨-, -, -, a3, -, -, -⟩ := kseven (m := ⟨m0, m1, m2, I, m4, m5, m6⟩) hX6.1; clear hT6 hX6))
              clear c2
              have SE := HT6.out.sell HWI.out (by omega)
              have HQ6 : Hid (∀ V8, RQ B E w E6 V8 p ⟨v.node, v.f, v.room, v.T ++ [⟨2, (I : Int), m5, m6⟩], v.down, ⟨slS v.node o3 I, v.st.s⟩⟩ (n + 1 + 1) a l lc q r6 pb mb mc → Rg.Kept (fun i _ => E6 i) V6 V8 → Abj V8 E6 w.heap.size (.cells #[.int .i64 m0, .int .i64 m1, .int .i64 m2, .int .i64 I, .int .i64 m4, .int .i64 m5, .int .i64 m6] 31 (0, 0))) := fun V8 _ h2 => HX6.out.step h2 (fun _ e => .inl e)
              go_wp2_with (go_at_call 39; refine SE.mono ?_; clear SE; rintro e V8 ⟨⟨x, rfl⟩, hT8, hk8⟩; have HX8 := hide (HQ6.out V8 hT8 hk8); have HT8 := hide hT8; clear hT8 hk8 a3; obtain ⟨-, -, -, a3, -, -, -⟩ := kseven (m := ⟨m0, m1, m2, I, m4, m5, m6⟩) HX8.out.1)
              have c4 := HT8.out.k.cellI hI3
              have f4 := HT8.out.k.frozen (5 + I)
              dsimp only at c4
              generalize v.st.s (I : Int) = sx at c4
              have HT9 := hide (HT8.out.set hI3 2)
              have HX9 : Hid (Abj (V8.setCell ⟨p, 5 + I, none⟩ (.int .i64 2)) E6 w.heap.size (.cells #[.int .i64 m0, .int .i64 m1, .int .i64 m2, .int .i64 I, .int .i64 m4, .int .i64 m5, .int .i64 m6] 31 (0, 0))) := HX8.out.step (Rg.Kept.setCell (a := ⟨p, 5 + I, none⟩) _ (fun _ => HT8.out.k.ep)) (fun _ e => .inl e)
              have HTA : Hid (RQ B E w E6 (V8.setCell ⟨p, 5 + I, none⟩ (.int .i64 2)) p (hkS v ⟨m0, m1, m2, I, m4, m5, m6⟩) (n + 3) a l lc q r6 pb mb mc) := by show RQ _ _ _ _ _ _ _ _ _ _ _ _ _ _ _ _; rw [HSF.out]; exact ⟨HT9.out.k.more (by omega), HT9.out.sub, HT9.out.kp⟩
              clear HT9 HSF
              go_region
              all_goals go_wp2
              all_goals go_meet
              all_goals exact ⟨rfl, HK3, _, _, HTA.out.on (Below.refl _ _).drew, HX9.out.on (Below.refl _ _).drew⟩
            · have HSF : Hid (hkS v ⟨m0, m1, m2, I, m4, m5, m6⟩ = ⟨v.node, v.f, v.room, v.T ++ [⟨3, I, m5, m6⟩], v.down, ⟨frS v.node o3 I, Hd.upd v.st.s I 3⟩⟩) := HS3.out
              clear HS3
              have CE : Hid (∀ X, Below wc.heap.size wc X → X.cell? ⟨p, 2, none⟩ = some (.pointer (some ⟨q, 0, none⟩)) ∧ X.cell? ⟨w.heap.size, 3, none⟩ = some (.int .i64 I)) := fun X hX => ⟨(HT3.out.on hX).k.cells.2.2.1, (kseven (m := ⟨m0, m1, m2, I, m4, m5, m6⟩) (HX3.out.on hX).1).2.2.2.1⟩
              have HRE : Hid (∀ X, Calls Tryz.prog 48 #[.string ⟨#[110, 111]⟩, .int .i64 I, .slice none 0 0] X fun e w' => e = .returned (.agg #[.string ⟨#[110, 111]⟩, .int .i64 I, .slice none 0 0]) ∧ Below X.heap.size X w') := fun X => rentry_any _ _ _ _ _ X
              have NT : Hid (∀ V5, Below wc.heap.size wc V5 → ∀ X, X = V5.alloc (.cells #[.string ⟨#[110, 111]⟩, .int .i64 I, .slice none 0 0] 78) → Calls Tryz.prog 47 #[.pointer (some ⟨q, 0, none⟩), .bool true, .slice (some ⟨V5.heap.size, 0, none⟩) 1 1] X fun x u => x = .returned (.bool true) ∧ ∃ E2 r2, RQ B E w E2 u p ⟨v.node, v.f, v.room, v.T ++ [⟨3, (I : Int), m5, m6⟩], v.down, ⟨o3, v.st.s⟩⟩ (n + 1) a l lc q r2 pb mb mc ∧ Abj u E2 w.heap.size (.cells #[.int .i64 m0, .int .i64 m1, .int .i64 m2, .int .i64 I, .int .i64 m4, .int .i64 m5, .int .i64 m6] 31 (0, 0))) := fun V5 h5 X hX => by
                have hbX : Below V5.heap.size V5 X := by rw [hX]; exact (Below.refl _ _).alloc (Nat.le_refl _) _
                have hx := World.alloc_heap_new V5 (.cells #[.string ⟨#[110, 111]⟩, .int .i64 I, .slice none 0 0] 78)
                rw [← hX] at hx
                have t := HT3.out.on (bel_on' h5 hbX)
                refine (t.note (e := ⟨3, (I : Int), m5, m6⟩) HD.out HRM.out HOK.out (b := none) (c := 0) (.inl rfl) (HGL.out X t.kp) hx).mono ?_
                rintro x u ⟨h1, E2, r2, h2, h3, h4⟩
                exact ⟨h1, E2, r2, h2, (HX3.out.on (bel_on' h5 hbX)).step h3 h4⟩
              obtain ⟨c2, -⟩ := CE.out wc (Below.refl _ _)
              have n1 := World.new_ne wc _ c2
              have n2 := World.new_ne wc _ a3
              go_upto_region 15 with fail
              go_region_held3 (fun w' => w'.cell? ⟨p, 2, none⟩ = some (.pointer (some ⟨q, 0, none⟩)) ∧ w'.cell? ⟨w.heap.size, 3, none⟩ = some (.int .i64 I)) (go_keep) (first
                | (go_at_call 48; refine (HRE.out _).mono ?_; clear HRE; rintro e V5 ⟨rfl, hb5⟩; have HB5 : Hid (Below wc.heap.size wc V5) := (by first | exact bel_dr hb5 | exact hb5); clear c2 a3 hb5 n1 n2; obtain ⟨c2, a3⟩ := CE.out V5 HB5.out; have n1 := World.new_ne V5 _ c2; have n2 := World.new_ne V5 _ a3)
                | (go_at_call 47; refine (NT.out V5 HB5.out _ rfl).mono ?_; clear NT; rintro e V6 ⟨rfl, E6, r6, hT6, hX6⟩; have HT6 := hide hT6; have HX6 := hide hX6; clear c2 a3 n1 n2; obtain ⟨-, -, c2, -, -⟩ := hT6.k.cells; obtain ⟨-, -, -, a3, -, -, -⟩ := kseven (m := ⟨m0, m1, m2, I, m4, m5, m6⟩) hX6.1; clear hT6 hX6))
              clear c2
              have SE := HT6.out.free HWI.out (by omega)
              have HQ6 : Hid (∀ V8, RQ B E w E6 V8 p ⟨v.node, v.f, v.room, v.T ++ [⟨3, (I : Int), m5, m6⟩], v.down, ⟨frS v.node o3 I, v.st.s⟩⟩ (n + 1 + 1) a l lc q r6 pb mb mc → Rg.Kept (fun i _ => E6 i) V6 V8 → Abj V8 E6 w.heap.size (.cells #[.int .i64 m0, .int .i64 m1, .int .i64 m2, .int .i64 I, .int .i64 m4, .int .i64 m5, .int .i64 m6] 31 (0, 0))) := fun V8 _ h2 => HX6.out.step h2 (fun _ e => .inl e)
              go_wp2_with (go_at_call 39; refine SE.mono ?_; clear SE; rintro e V8 ⟨⟨x, rfl⟩, hT8, hk8⟩; have HX8 := hide (HQ6.out V8 hT8 hk8); have HT8 := hide hT8; clear hT8 hk8 a3; obtain ⟨-, -, -, a3, -, -, -⟩ := kseven (m := ⟨m0, m1, m2, I, m4, m5, m6⟩) HX8.out.1)
              have c4 := HT8.out.k.cellI hI3
              have f4 := HT8.out.k.frozen (5 + I)
              dsimp only at c4
              generalize v.st.s (I : Int) = sx at c4
              have HT9 := hide (HT8.out.set hI3 3)
              have HX9 : Hid (Abj (V8.setCell ⟨p, 5 + I, none⟩ (.int .i64 3)) E6 w.heap.size (.cells #[.int .i64 m0, .int .i64 m1, .int .i64 m2, .int .i64 I, .int .i64 m4, .int .i64 m5, .int .i64 m6] 31 (0, 0))) := HX8.out.step (Rg.Kept.setCell (a := ⟨p, 5 + I, none⟩) _ (fun _ => HT8.out.k.ep)) (fun _ e => .inl e)
              have HTA : Hid (RQ B E w E6 (V8.setCell ⟨p, 5 + I, none⟩ (.int .i64 3)) p (hkS v ⟨m0, m1, m2, I, m4, m5, m6⟩) (n + 3) a l lc q r6 pb mb mc) := by show RQ _ _ _ _ _ _ _ _ _ _ _ _ _ _ _ _; rw [HSF.out]; exact ⟨HT9.out.k.more (by omega), HT9.out.sub, HT9.out.kp⟩
              clear HT9 HSF
              go_region
              all_goals go_wp2
              all_goals go_meet
              all_goals exact ⟨rfl, HK3, _, _, HTA.out.on (Below.refl _ _).drew, HX9.out.on (Below.refl _ _).drew⟩
          case rest =>
            obtain ⟨rfl, HKK, E2, r2, HT4, HX4⟩ := hcut
            clear HT3 HX3 SAME FULL ROOM hF hbq a0 a1 a2 a3 a4 a5 a6
            have hnd4 : (hkS v ⟨m0, m1, m2, I, m4, m5, m6⟩).node = v.node := by unfold hkS noteK; split; split; rfl; split <;> rfl; rfl
            have HA4 : Hid (∀ k, hkK v ⟨m0, m1, m2, I, m4, m5, m6⟩ = k → hkA v ⟨m0, m1, m2, I, m4, m5, m6⟩ = if k = 0 then [] else [⟨k, v.node, toK k m1, I, 0, 0, 0⟩]) := fun k hk => by unfold hkA; rw [hk]
            obtain ⟨c0, -⟩ := HT4.out.k.cells
            rw [hnd4] at c0
            obtain ⟨a0, a1, a2, a3, a4, a5, a6⟩ := kseven (m := ⟨m0, m1, m2, I, m4, m5, m6⟩) HX4.out.1
            have HAK2 := hide (HA4.out kd HKK.out)
            clear hnd4 HA4
            generalize v.node = nd4 at c0 HAK2
            by_cases hk0 : kd = 0
            · have qk : (kd == 0) = true := by simp [hk0]
              have HZ := hide hk0
              clear hk0
              go_wp2
              go_ret
              rw [HAK2.out, if_pos HZ.out]
              exact HT4.out.no HE.out HB.out HGS.out (by omega)
            have qk : (kd == 0) = false := by simp [hk0]
            have HZ := hide hk0
            clear hk0
            by_cases h11 : kd = 11
            · have q11 : (kd == 11) = true := by simp [h11]
              have HTO : Hid (toK kd m1 = 0) := by show toK kd m1 = 0; unfold toK; rw [if_pos (.inl h11)]
              clear h11
              go_wp2_with fail
              go_region
              all_goals go_wp2
              all_goals go_ret
              all_goals rw [HAK2.out, if_neg HZ.out, HTO.out]
              all_goals exact HT4.out.one HE.out HB.out HGS.out (by omega) (Below.refl _ _).drew
            have q11 : (kd == 11) = false := by simp [h11]
            by_cases h17 : kd = 17
            · have q17 : (kd == 17) = true := by simp [h17]
              have HTO : Hid (toK kd m1 = 0) := by show toK kd m1 = 0; unfold toK; rw [if_pos (.inr h17)]
              clear h11 h17
              go_wp2_with fail
              go_region
              all_goals go_wp2
              all_goals go_ret
              all_goals rw [HAK2.out, if_neg HZ.out, HTO.out]
              all_goals exact HT4.out.one HE.out HB.out HGS.out (by omega) (Below.refl _ _).drew
            have q17 : (kd == 17) = false := by simp [h17]
            have HTO : Hid (toK kd m1 = m1) := by show toK kd m1 = m1; unfold toK; rw [if_neg (fun e => e.elim h11 h17)]
            clear h11 h17
            go_wp2_with fail
            go_region
            all_goals go_wp2
            all_goals go_ret
            all_goals rw [HAK2.out, if_neg HZ.out, HTO.out]
            all_goals exact HT4.out.one HE.out HB.out HGS.out (by omega) (Below.refl _ _).drew
end Go.Proofs.YtepclljoiccieaaGreatDoor
