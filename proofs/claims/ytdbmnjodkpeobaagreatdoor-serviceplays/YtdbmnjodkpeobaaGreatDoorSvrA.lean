/-
  The reference's service in memory: its block of a thousand and four cells, its journal, its book; what a step on each leaves of the others; NewService, State.
-/
import Derived.Test.YtdbmnjodkpeobaaGreatDoorBd11
import Derived.Test.YtdbmnjodkpeobaaGreatDoorBd13
import Derived.Test.YtdbmnjodkpeobaaGreatDoorJrnRC
import Derived.Test.YtdbmnjodkpeobaaGreatDoorSvcW
namespace Go.Proofs.YtdbmnjodkpeobaaGreatDoor
open Go.ChangeShapes Go.WideShapes Go.ChangeAt Go.RowKit Go.Maps

/-- The block's cells. -/
def scs (N : Nat) (nd hold : Int) (j b : Value) (s : Int → Int) : List Value := .int .i64 nd :: .int .i64 hold :: j :: b :: (List.range N).map (fun k : Nat => .int .i64 (s k))
theorem scs_at {N : Nat} (nd hold : Int) (j b : Value) (s : Int → Int) {i : Nat} (hi : i < N) : (scs N nd hold j b s)[4 + i]? = some (.int .i64 (s i)) := by
  rw [Nat.add_comm]
  simp [scs, hi]
theorem scs_put {N : Nat} (nd hold : Int) (j b : Value) (s : Int → Int) {i : Nat} (hi : i < N) (x : Int) : (scs N nd hold j b s).set (4 + i) (.int .i64 x) = scs N nd hold j b (Hd.upd s i x) := by
  rw [Nat.add_comm]
  unfold scs
  rw [List.set_cons_succ, List.set_cons_succ, List.set_cons_succ, List.set_cons_succ]
  congr 4
  apply List.ext_getElem?
  intro k
  rw [List.getElem?_set]
  by_cases e : i = k
  · subst e
    simp [hi, Hd.upd]
  · rw [if_neg e]
    by_cases hk : k < N
    · simp [hk, Hd.upd]
      intro e2
      omega
    · simp [hk]
theorem scs_setB (N : Nat) (nd hold : Int) (j b b' : Value) (s : Int → Int) : (scs N nd hold j b s).set 3 b' = scs N nd hold j b' s := rfl
theorem scs_len (N : Nat) (nd hold : Int) (j b : Value) (s : Int → Int) : (scs N nd hold j b s).length = N + 4 := by simp [scs]
theorem scs_zero (N : Nat) (nd hold : Int) (j b : Value) (s : Int → Int) : (scs N nd hold j b s).take 4 ++ List.replicate N (.int .i64 0) = scs N nd hold j b (fun _ => 0) := by
  unfold scs
  rw [List.map_const', List.length_range]
  rfl

/-- The reference's service at p. -/
structure RsV (B : Nat) (E : Nat → Prop) (w : World) (p : Nat) (v : Sv) (q : Nat) (r : Value) (pb : Nat) : Prop where
  blk : w.heap[p]? = some (.cells (scs 1000 v.node v.hold (.pointer (some ⟨q, 0, none⟩)) (.pointer (some ⟨pb, 0, none⟩)) v.st.s).toArray 44 (0, 0))
  jr : R.Jr B w q r v.room (v.T.map lnE) v.T.length v.down
  rb : Hd.Rb B w pb v.st.left v.st.h
  gd : Hd.Good v.st.left v.st.h
  ep : E p
  eq : E q
  er : ∀ k, r.ownBlock = some k → E k
  eb : E pb
theorem typ_neR : (44 ≠ 47 ∧ 44 ≠ 9 ∧ 44 ≠ 40) ∧ (47 ≠ 9 ∧ 47 ≠ 40) ∧ 9 ≠ 40 := by decide
theorem R.Jr.kept {B : Nat} {w w' : World} {p : Nat} {v : Value} {room : Int} {L : List ByteArray} {sure : Nat} {down : Bool} {F : Nat → Obj → Prop} (h : R.Jr B w p v room L sure down) (hk : Rg.Kept F w w') (hp : ∀ o, ¬ F p o) (hv : ∀ k o, v.ownBlock = some k → ¬ F k o) : R.Jr B w' p v room L sure down := by
  obtain ⟨h1, h2, h3, h4⟩ := h
  refine ⟨hk.block _ _ h1 (hp _), h2, ⟨h3.1, ?_⟩, h4⟩
  rcases h3.2 with h | ⟨g, cap, cur, rfl, hg, hc, rest⟩
  · exact .inl h
  · exact .inr ⟨g, cap, cur, rfl, hg, hk.block _ _ hc (hv g _ rfl), rest⟩
theorem R.Jr.rowObj {B : Nat} {w : World} {p : Nat} {v : Value} {room : Int} {L : List ByteArray} {sure : Nat} {down : Bool} (h : R.Jr B w p v room L sure down) {k : Nat} (e : v.ownBlock = some k) : ∃ cs, w.heap[k]? = some (.cells cs 9 (0, 0)) := by
  obtain ⟨_, _, ⟨_, h3⟩, _⟩ := h
  rcases h3 with ⟨rfl, _⟩ | ⟨g, cap, cur, rfl, _, hg, _⟩
  · simp [Value.ownBlock] at e
  · simp [Value.ownBlock] at e
    subst e
    exact ⟨cur, hg⟩
section
variable {B : Nat} {E E' : Nat → Prop} {w w' : World} {p : Nat} {v : Sv} {q : Nat} {r : Value} {pb : Nat}
theorem RsV.apart (k : RsV B E w p v q r pb) : (p ≠ q ∧ p ≠ pb) ∧ q ≠ pb ∧ ∀ i, r.ownBlock = some i → i ≠ p ∧ i ≠ q ∧ i ≠ pb := by
  obtain ⟨⟨t1, t2, t3⟩, ⟨t4, t5⟩, t6⟩ := typ_neR
  refine ⟨⟨two_cells k.blk k.jr.1 t1, two_cells k.blk k.rb.1 t3⟩, two_cells k.jr.1 k.rb.1 t5, fun i e => ?_⟩
  obtain ⟨cs, hr⟩ := k.jr.rowObj e
  exact ⟨two_cells hr k.blk t2.symm, two_cells hr k.jr.1 t4.symm, two_cells hr k.rb.1 t6⟩
theorem RsV.wide (k : RsV B E w p v q r pb) (h : ∀ k, E k → E' k) : RsV B E' w p v q r pb := ⟨k.blk, k.jr, k.rb, k.gd, h _ k.ep, h _ k.eq, fun i e => h _ (k.er i e), h _ k.eb⟩
theorem RsV.kept {F : Nat → Obj → Prop} (k : RsV B E w p v q r pb) (hk : Rg.Kept F w w') (hE : ∀ k o, E k → ¬ F k o) : RsV B E w' p v q r pb :=
  ⟨hk.block _ _ k.blk (hE _ _ k.ep), k.jr.kept hk (fun o => hE _ o k.eq) (fun i o e => hE _ o (k.er i e)), k.rb.kept hk (fun o => hE _ o k.eb), k.gd, k.ep, k.eq, k.er, k.eb⟩
theorem RsV.on (k : RsV B E w p v q r pb) (hb : Below w.heap.size w w') : RsV B E w' p v q r pb := k.kept (F := fun _ _ => False) (Rg.Kept.of_below hb) (fun _ _ _ h => h)
theorem RsV.lt (k : RsV B E w p v q r pb) : p < w.heap.size := (Array.getElem?_eq_some_iff.1 k.blk).1
theorem RsV.cells (k : RsV B E w p v q r pb) : w.cell? ⟨p, 0, none⟩ = some (.int .i64 v.node) ∧ w.cell? ⟨p, 1, none⟩ = some (.int .i64 v.hold) ∧ w.cell? ⟨p, 2, none⟩ = some (.pointer (some ⟨q, 0, none⟩)) ∧ w.cell? ⟨p, 3, none⟩ = some (.pointer (some ⟨pb, 0, none⟩)) := by
  refine ⟨?_, ?_, ?_, ?_⟩ <;> (rw [cell_of k.blk, List.getElem?_toArray]; rfl)
theorem RsV.cellI (k : RsV B E w p v q r pb) {i : Nat} (hi : i < 1000) : w.cell? ⟨p, 4 + i, none⟩ = some (.int .i64 (v.st.s i)) := by
  rw [cell_of k.blk, List.getElem?_toArray]; exact scs_at _ _ _ _ _ hi
theorem RsV.frozen (k : RsV B E w p v q r pb) (i : Nat) : w.frozen? ⟨p, i, none⟩ = false := frozen_of_row _ _ _ _ _ k.blk
/-- A step on its journal. -/
theorem RsV.jstep (k : RsV B E w p v q r pb) {T' : List En} {d' : Bool} {r' : Value} (j : R.Jr B w' q r' v.room (T'.map lnE) T'.length d') (ho : Off q r r' w w') :
    RsV B (growE E w w') w' p ⟨v.node, v.hold, v.room, T', d', v.st⟩ q r' pb ∧ Rg.Kept (fun k _ => E k) w w' := by
  obtain ⟨⟨a1, a2⟩, b1, d1⟩ := k.apart
  have hk := ho.kept
  have no : ∀ i (_ : Obj), i ≠ q → (∀ g, r.ownBlock = some g → g ≠ i) → ¬ (i = q ∨ r.ownBlock = some i) := fun i _ h1 h2 e => e.elim h1 (fun e => h2 i e rfl)
  refine ⟨⟨hk.block _ _ k.blk (no p default a1 (fun g e => (d1 g e).1)), j, k.rb.kept hk (fun o => no pb o b1.symm (fun g e => (d1 g e).2.2)), k.gd, .inl k.ep, .inl k.eq, fun i e => ?_, .inl k.eb⟩, hk.mono (fun i _ e => e.elim (fun e => e ▸ k.eq) (fun e => k.er i e))⟩
  by_cases hi : i < w.heap.size
  · by_cases h1 : i = q
    · subst h1; exact .inl k.eq
    · by_cases h2 : r.ownBlock = some i
      · exact .inl (k.er i h2)
      · exact absurd e (ho.2 i hi h1 h2).2
  · exact .inr ⟨by omega, (j.2.2.1.lt i e).2⟩
/-- A step on its book. -/
theorem RsV.bstep (k : RsV B E w p v q r pb) {left' : Int} {h' : Int → Int} (b : Hd.Rb B w' pb left' h') (g : Hd.Good left' h') (hk : Rg.Kept (Hd.Own1 pb) w w') :
    RsV B E w' p ⟨v.node, v.hold, v.room, v.T, v.down, ⟨left', h', v.st.s⟩⟩ q r pb ∧ Rg.Kept (fun k _ => E k) w w' := by
  obtain ⟨⟨a1, a2⟩, b1, d1⟩ := k.apart
  exact ⟨⟨hk.block _ _ k.blk a2, k.jr.kept hk (fun o => b1) (fun i o e => (d1 i e).2.2), b, g, k.ep, k.eq, k.er, k.eb⟩, hk.mono (fun i _ (e : i = pb) => e ▸ k.eb)⟩
/-- A state stored. -/
theorem RsV.sstep (k : RsV B E w p v q r pb) {i : Nat} (hi : i < 1000) (x : Int) :
    RsV B E (w.setCell ⟨p, 4 + i, none⟩ (.int .i64 x)) p ⟨v.node, v.hold, v.room, v.T, v.down, ⟨v.st.left, v.st.h, Hd.upd v.st.s i x⟩⟩ q r pb ∧ Rg.Kept (fun k _ => E k) w (w.setCell ⟨p, 4 + i, none⟩ (.int .i64 x)) := by
  obtain ⟨⟨a1, a2⟩, b1, d1⟩ := k.apart
  have hk : Rg.Kept (fun k _ => k = p) w (w.setCell ⟨p, 4 + i, none⟩ (.int .i64 x)) := Rg.Kept.setCell _ (fun _ => rfl)
  refine ⟨⟨?_, k.jr.kept hk (fun o => a1.symm) (fun i o e => (d1 i e).1), k.rb.kept hk (fun o => a2.symm), k.gd, k.ep, k.eq, k.er, k.eb⟩, hk.mono (fun i _ e => by subst e; exact k.ep)⟩
  rw [heap_setCell_same _ _ _ _ _ _ k.blk, ← scs_put v.node v.hold _ _ v.st.s hi x, List.setIfInBounds_toArray]
end
theorem zeroS (w : World) : (zeroValue 44).run Tryz.prog w = .ok (.agg (.int .i64 0 :: .int .i64 0 :: .pointer none :: .pointer none :: List.replicate 1000 (.int .i64 0)).toArray) w := by kernel_rfl
theorem build_serv (nd hold : Int) (j b : Option Addr) (w : World) : (Instr.build 44 #[(0, .int .i64 nd), (1, .int .i64 hold), (2, .pointer j), (3, .pointer b)]).run Tryz.prog w = .ok (.agg (scs 1000 nd hold (.pointer j) (.pointer b) (fun _ => 0)).toArray) w := by
  have e : (scs 1000 nd hold (.pointer j) (.pointer b) (fun _ => 0)).toArray = (((((.int .i64 0 :: .int .i64 0 :: .pointer none :: .pointer none :: List.replicate 1000 (.int .i64 0)).toArray : Array Value).setIfInBounds 0 (.int .i64 nd)).setIfInBounds 1 (.int .i64 hold)).setIfInBounds 2 (.pointer j)).setIfInBounds 3 (.pointer b) := by
    unfold scs
    rw [List.map_const', List.length_range]
    generalize List.replicate 1000 (Value.int .i64 0) = R
    simp
  have hs : ((.int .i64 0 :: .int .i64 0 :: .pointer none :: .pointer none :: List.replicate 1000 (.int .i64 0)).toArray : Array Value).size = 1004 := by rw [List.size_toArray, List.length_cons, List.length_cons, List.length_cons, List.length_cons, List.length_replicate]
  rw [e]
  have hz := zeroS w
  generalize ((.int .i64 0 :: .int .i64 0 :: .pointer none :: .pointer none :: List.replicate 1000 (.int .i64 0)).toArray : Array Value) = Z at hz hs ⊢
  clear e
  simp [Instr.build, hz, run_underlying Tryz.underlying44, Tryz.sizeOf3, Tryz.sizeOf38, Tryz.sizeOf41, Tryz.sizeOf42, Instr.fill, hs, Value.cells, Result.andThen]
end Go.Proofs.YtdbmnjodkpeobaaGreatDoor
