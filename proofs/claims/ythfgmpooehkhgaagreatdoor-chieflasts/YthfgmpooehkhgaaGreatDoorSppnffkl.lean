/-
  Own texts put together: NdB, NdC.
-/
import Derived.Test.YthfgmpooehkhgaaGreatDoorSppnpcpo
import Derived.Test.YthfgmpooehkhgaaGreatDoorSpjkgemh
import Derived.Test.YthfgmpooehkhgaaGreatDoorSpkbhmhl
import Derived.Test.YthfgmpooehkhgaaGreatDoorSpdebelg
import Derived.Test.YthfgmpooehkhgaaGreatDoorSpngfhph
import Derived.Laws.Rows
import Derived.Maps.OwnIn
/-
  What the texts of a node share: maps of numbers, a journal beside other steps, sets of blocks that grow.
-/
namespace Go.Proofs.YthfgmpooehkhgaaGreatDoor
open Go.ChangeShapes Go.WideShapes Go.ChangeAt Go.RowKit Go.Maps

/-- A set of blocks, and what has come behind all that lay there. -/
def growE (E : Nat → Prop) (w w' : World) : Nat → Prop := fun k => E k ∨ (w.heap.size ≤ k ∧ k < w'.heap.size)
/-- The map at b reads as s. -/
def Mp (w : World) (b n : Nat) (s : Int → Int) : Prop := ∃ D : DataW Unit, w.ownsMap Tryz.prog 3 (plainElem Tryz.prog 3) b n D ∧ Hd.Fits D s
theorem Mp.lt {w : World} {b n : Nat} {s : Int → Int} (h : Mp w b n s) : b < w.heap.size := by obtain ⟨D, hD, _⟩ := h; exact hD.lt
theorem Mp.obj {w : World} {b n : Nat} {s : Int → Int} (h : Mp w b n s) : ∃ es c, w.heap[b]? = some (.map es c) := by obtain ⟨D, ⟨es, c, hb, _⟩, _⟩ := h; exact ⟨es, c, hb⟩
theorem Mp.kept {w w' : World} {b n : Nat} {s : Int → Int} {F : Nat → Obj → Prop} (h : Mp w b n s) (hk : Rg.Kept F w w') (hb : ∀ o, ¬ F b o) : Mp w' b n s := by
  obtain ⟨D, h1, h2⟩ := h
  exact ⟨D, Hd.own_kept h1 hk (fun _ _ => hb _), h2⟩
theorem Mp.mono {w : World} {b n n' : Nat} {s : Int → Int} (h : Mp w b n s) (hn : n ≤ n') : Mp w b n' s := by
  obtain ⟨D, h1, h2⟩ := h
  exact ⟨D, h1.mono hn, h2⟩
/-- A look-up in it. -/
theorem Mp.look {w : World} {b n : Nat} {s : Int → Int} (h : Mp w b n s) {id : Int} (hw : (Lit.int .i64 id).wf = true) :
    (Instr.lookup 160 (.map (some b)) (.int .i64 id) false).run Tryz.prog w = .ok (.int .i64 (s id)) w := by
  obtain ⟨D, h5, h6⟩ := h
  obtain ⟨v, ps, hrun, hv⟩ := h5.lookup Hd.lawI Tryz.underlying160 (Hd.zeroI _) (plainElem_int Tryz.underlying3 (by decide)) (keyOf_int_mk Tryz.underlying3 hw)
  obtain ⟨c, rfl, hc, _⟩ := plainElem_int_inv Tryz.underlying3 hv
  have e1 := (h6.2 id).1
  have e2 : D.atKey (.int .i64 id) (.lit (.int .i64 0)) = .lit (.int .i64 c) := congrArg Prod.fst hc
  rw [e1] at e2
  rw [hrun]
  cases e2
  rfl
/-- A state stored. -/
theorem Mp.put {w : World} {b n : Nat} {s : Int → Int} (h : Mp w b n s) (hn : n < 1000000) {id x : Int} (hw : (Lit.int .i64 id).wf = true) (hx : x ≠ 0) (hwx : (Lit.int .i64 x).wf = true) :
    ∃ w', (Instr.mapUpdate 160 (.map (some b)) (.int .i64 id) (.int .i64 x)).run Tryz.prog w = .ok () w' ∧ Mp w' b (n + 1) (Hd.upd s id x) ∧ Rg.Kept (fun k _ => k = b) w w' := by
  obtain ⟨D, h5, h6⟩ := h
  obtain ⟨w', hrun, hown', hturn⟩ := h5.store Hd.lawI Tryz.underlying160 (by unfold maxLen; omega) (keyOf_int_mk Tryz.underlying3 hw) (plainElem_int Tryz.underlying3 hwx)
  exact ⟨w', hrun, ⟨_, hown', h6.put id x hx⟩, Rg.Kept.grown hturn.grown (fun i _ e => by cases e; rfl)⟩
theorem Jr.kept {B : Nat} {w w' : World} {p : Nat} {v : Value} {room : Int} {L : List ByteArray} {sure : Nat} {down : Bool} {F : Nat → Obj → Prop} (h : Jr B w p v room L sure down) (hk : Rg.Kept F w w') (hp : ∀ o, ¬ F p o) (hv : ∀ k o, v.ownBlock = some k → ¬ F k o) : Jr B w' p v room L sure down := by
  obtain ⟨h1, h2, h3, h4⟩ := h
  refine ⟨hk.block _ _ h1 (hp _), h2, ⟨h3.1, ?_⟩, h4⟩
  rcases h3.2 with h | ⟨g, cap, cur, rfl, hg, hc, rest⟩
  · exact .inl h
  · exact .inr ⟨g, cap, cur, rfl, hg, hk.block _ _ hc (hv g _ rfl), rest⟩
theorem Off.kept {p : Nat} {v v' : Value} {w w' : World} (h : Off p v v' w w') : Rg.Kept (fun k _ => k = p ∨ v.ownBlock = some k) w w' :=
  ⟨h.1.1, h.1.2.1, h.1.2.2.1, h.size, fun _ _ hk hx => (h.heap (Array.getElem?_eq_some_iff.1 hk).1 (fun e => hx (.inl e)) (fun e => hx (.inr e))).trans hk⟩
theorem two_cells {w : World} {k l : Nat} {cs cs' : Array Value} {t t' : TypeId} (h : w.heap[k]? = some (.cells cs t (0, 0))) (h' : w.heap[l]? = some (.cells cs' t' (0, 0))) (ht : t ≠ t') : k ≠ l := by
  rintro rfl
  rw [h] at h'
  simp only [Option.some.injEq, Obj.cells.injEq] at h'
  exact ht h'.2.1
theorem kept_cellR {F : Nat → Obj → Prop} {W W' : World} (hk : Rg.Kept F W W') {a : Addr} {x : Value} (hF : ∀ o, ¬ F a.block o) (hc : W.cell? a = some x) : W'.cell? a = some x := by
  have hlt := World.block_lt_of_cell? _ _ hc
  have e : W.heap[a.block]? = some W.heap[a.block] := Array.getElem?_eq_getElem hlt
  rw [World.cell?_of_block ((hk.block _ _ e (hF _)).trans e.symm)]
  exact hc
theorem three_new (w : World) (x y z : Value) (t : TypeId) : (w.alloc (.cells #[x, y, z] t)).cell? ⟨w.heap.size, 0, none⟩ = some x ∧ (w.alloc (.cells #[x, y, z] t)).cell? ⟨w.heap.size, 1, none⟩ = some y ∧ (w.alloc (.cells #[x, y, z] t)).cell? ⟨w.heap.size, 2, none⟩ = some z := by
  have e : (w.alloc (.cells #[x, y, z] t)).heap[w.heap.size]? = some (.cells #[x, y, z] t (0, 0)) := World.alloc_heap_new w _
  refine ⟨?_, ?_, ?_⟩ <;> (rw [cell_of e]; rfl)
/-- What a set of new blocks may turn turns nothing that lay there. -/
theorem kept_grow {E : Nat → Prop} {w u u' : World} (h : Rg.Kept (fun k _ => E k) w u) (h' : Rg.Kept (fun k _ => growE E w u k) u u') : Rg.Kept (fun k _ => E k) w u' :=
  ⟨h'.os.trans h.os, h'.tape.trans h.tape, h'.output.trans h.output, Nat.le_trans h.size h'.size, fun k o hk hx => h'.block k o (h.block k o hk hx) (fun e => e.elim hx (fun e => by have := (Array.getElem?_eq_some_iff.1 hk).1; omega))⟩
theorem Ints.keptR {F : Nat → Obj → Prop} {w w' : World} {a : Option Addr} {l : List Int} (h : Ints w a l) (hk : Rg.Kept F w w') (hF : ∀ ad o, a = some ad → ¬ F ad.block o) : Ints w' a l := by
  rcases h with h | ⟨b, off, ha, hc⟩
  · exact .inl h
  · exact .inr ⟨b, off, ha, fun i hi => kept_cellR hk (fun o => hF ⟨b, off, none⟩ o ha) (hc i hi)⟩
theorem seven_of {w : World} {g : Nat} {x0 x1 x2 x3 x4 x5 x6 : Value} {t : TypeId} (e : w.heap[g]? = some (.cells #[x0, x1, x2, x3, x4, x5, x6] t (0, 0))) :
    w.cell? ⟨g, 0, none⟩ = some x0 ∧ w.cell? ⟨g, 1, none⟩ = some x1 ∧ w.cell? ⟨g, 2, none⟩ = some x2 ∧ w.cell? ⟨g, 3, none⟩ = some x3 ∧ w.cell? ⟨g, 4, none⟩ = some x4 ∧ w.cell? ⟨g, 5, none⟩ = some x5 ∧ w.cell? ⟨g, 6, none⟩ = some x6 := by
  refine ⟨?_, ?_, ?_, ?_, ?_, ?_, ?_⟩ <;> (rw [cell_of e]; rfl)
end Go.Proofs.YthfgmpooehkhgaaGreatDoor
/-
  What the texts of a node share: entries that are told while steps are done; answers behind later steps.
-/
namespace Go.Proofs.YthfgmpooehkhgaaGreatDoor
open Go.ChangeShapes Go.WideShapes Go.ChangeAt Go.RowKit Go.Shelf Go.Maps

theorem ownFrom_kept {β : Type} {X : Nat} {J : β → World → Prop} (h : ∀ s W W', J s W → Rg.Kept (fun k o => X ≤ k ∧ o.isCells = false) W W' → J s W') : OwnFrom X J := fun s W W' row hs hg hr =>
  h s W W' hs ⟨hg.os, hg.tape, hg.output, hg.size, fun k o hk hx => (hg.block k (Array.getElem?_eq_some_iff.1 hk).1 (fun e => by
    obtain ⟨h1, o', h2, h3⟩ := hr k e.symm
    rw [hk] at h2
    cases h2
    exact hx ⟨h1, h3⟩)).trans hk⟩
theorem good_own (N1 X : Nat) (x : Ev) : OwnFrom X (fun (_ : Unit) W => Good N1 x W) := ownFrom_kept (fun _ _ _ hs hk =>
  ⟨hs.1.moveF (fun _ _ ⟨_, hc⟩ => (hk.block _ _ hc (fun e => by cases e.2)).trans hc.symm), hs.2⟩)
/-- The answer at a reads as xs; its block is none of E. -/
def An (w : World) (E : Nat → Prop) (a : Option Addr) (xs : List Ms.Mg) : Prop :=
  xs = [] ∨ ∃ b off, a = some ⟨b, off, none⟩ ∧ ¬ E b ∧ ∀ j u, (Ms.mgCells xs)[j]? = some u → w.cell? ⟨b, off + j, none⟩ = some u
theorem An.lt {w : World} {E : Nat → Prop} {a : Option Addr} {x : Ms.Mg} {xs : List Ms.Mg} (h : An w E a (x :: xs)) : ∃ b off, a = some ⟨b, off, none⟩ ∧ b < w.heap.size := by
  rcases h with h | ⟨b, off, h1, h2, h3⟩
  · cases h
  · exact ⟨b, off, h1, World.block_lt_of_cell? _ _ (h3 0 _ rfl)⟩
theorem An.step {w w' : World} {E E' : Nat → Prop} {a : Option Addr} {xs : List Ms.Mg} (h : An w E a xs) (hk : Rg.Kept (fun k _ => E k) w w') (hE : ∀ k, E' k → growE E w w' k) : An w' E' a xs := by
  rcases h with h | ⟨b, off, h1, h2, h3⟩
  · exact .inl h
  · cases xs with
    | nil => exact .inl rfl
    | cons x xs =>
      have hb : b < w.heap.size := World.block_lt_of_cell? _ _ (h3 0 _ rfl)
      exact .inr ⟨b, off, h1, fun e => (hE b e).elim h2 (fun e => by omega), fun j u hu => kept_cellR hk (fun _ => h2) (h3 j u hu)⟩
theorem An.on {w w' : World} {E : Nat → Prop} {a : Option Addr} {xs : List Ms.Mg} (h : An w E a xs) (hb : Below w.heap.size w w') : An w' E a xs := h.step (Rg.Kept.of_below hb) (fun _ e => .inl e)
theorem An.one {w : World} {E : Nat → Prop} {a : Option Addr} {m : Ms.Mg} (h : An w E a [m]) : ∃ b off, a = some ⟨b, off, none⟩ ∧
    (w.cell? ⟨b, off, none⟩ = some (.int .i64 m.k) ∧ w.cell? ⟨b, off + 1, none⟩ = some (.int .i64 m.fr) ∧ w.cell? ⟨b, off + 2, none⟩ = some (.int .i64 m.to) ∧ w.cell? ⟨b, off + 3, none⟩ = some (.int .i64 m.id) ∧ w.cell? ⟨b, off + 4, none⟩ = some (.int .i64 m.st)) := by
  rcases h with h | ⟨b, off, h1, h2, h3⟩
  · cases h
  · exact ⟨b, off, h1, h3 0 _ rfl, h3 1 _ rfl, h3 2 _ rfl, h3 3 _ rfl, h3 4 _ rfl⟩
end Go.Proofs.YthfgmpooehkhgaaGreatDoor
