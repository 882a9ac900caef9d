/-
  A service in memory: its block, its journal, its book, its states; what a step on each leaves of the others.
-/
import Derived.Test.YtdbmnjodkpeobaaGreatDoorBd11
import Derived.Test.YtdbmnjodkpeobaaGreatDoorHdT
namespace Go.Proofs.YtdbmnjodkpeobaaGreatDoor
open Go.ChangeShapes Go.WideShapes Go.ChangeAt Go.RowKit Go.Maps

/-- A set of blocks, and what has come behind all that lay there. -/
def growE (E : Nat → Prop) (w w' : World) : Nat → Prop := fun k => E k ∨ (w.heap.size ≤ k ∧ k < w'.heap.size)
/-- The map at b reads as s. -/
def Mp (w : World) (b n : Nat) (s : Int → Int) : Prop := ∃ D : DataW Unit, w.ownsMap Tryz.prog 3 (plainElem Tryz.prog 3) b n D ∧ Hd.Fits D s
theorem Mp.lt {w : World} {b n : Nat} {s : Int → Int} (h : Mp w b n s) : b < w.heap.size := by obtain ⟨D, hD, _⟩ := h; exact hD.lt
theorem Mp.obj {w : World} {b n : Nat} {s : Int → Int} (h : Mp w b n s) : ∃ es c, w.heap[b]? = some (.map es c) := by obtain ⟨D, ⟨es, c, hb, _⟩, _⟩ := h; exact ⟨es, c, hb⟩
theorem Mp.kept {w w' : World} {b n : Nat} {s : Int → Int} {F : Nat → Obj → Prop} (h : Mp w b n s) (hk : Rg.Kept F w w') (hb : ∀ o, ¬ F b o) : Mp w' b n s := by
  obtain ⟨D, h1, h2⟩ := h
  exact ⟨D, Hd.own_kept h1 hk (fun _ _ => hb _), h2⟩
theorem Mp.mono {w : World} {b n n' : Nat} {s : Int → Int} (h : Mp w b n s) (hn : n ≤ n') : Mp w b n' s := by
  obtain ⟨D, h1, h2⟩ := h
  exact ⟨D, h1.mono hn, h2⟩
/-- A look-up in it. -/
theorem Mp.look {w : World} {b n : Nat} {s : Int → Int} (h : Mp w b n s) {id : Int} (hw : (Lit.int .i64 id).wf = true) :
    (Instr.lookup 60 (.map (some b)) (.int .i64 id) false).run Tryz.prog w = .ok (.int .i64 (s id)) w := by
  obtain ⟨D, h5, h6⟩ := h
  obtain ⟨v, ps, hrun, hv⟩ := h5.lookup Hd.lawI Tryz.underlying60 (Hd.zeroI _) (plainElem_int Tryz.underlying3 (by decide)) (keyOf_int_mk Tryz.underlying3 hw)
  obtain ⟨c, rfl, hc, _⟩ := plainElem_int_inv Tryz.underlying3 hv
  have e1 := (h6.2 id).1
  have e2 : D.atKey (.int .i64 id) (.lit (.int .i64 0)) = .lit (.int .i64 c) := congrArg Prod.fst hc
  rw [e1] at e2
  rw [hrun]
  cases e2
  rfl
/-- A state stored. -/
theorem Mp.put {w : World} {b n : Nat} {s : Int → Int} (h : Mp w b n s) (hn : n < 1000000) {id x : Int} (hw : (Lit.int .i64 id).wf = true) (hx : x ≠ 0) (hwx : (Lit.int .i64 x).wf = true) :
    ∃ w', (Instr.mapUpdate 60 (.map (some b)) (.int .i64 id) (.int .i64 x)).run Tryz.prog w = .ok () w' ∧ Mp w' b (n + 1) (Hd.upd s id x) ∧ Rg.Kept (fun k _ => k = b) w w' := by
  obtain ⟨D, h5, h6⟩ := h
  obtain ⟨w', hrun, hown', hturn⟩ := h5.store Hd.lawI Tryz.underlying60 (by unfold maxLen; omega) (keyOf_int_mk Tryz.underlying3 hw) (plainElem_int Tryz.underlying3 hwx)
  exact ⟨w', hrun, ⟨_, hown', h6.put id x hx⟩, Rg.Kept.grown hturn.grown (fun i _ e => by cases e; rfl)⟩

theorem Jr.kept {B : Nat} {w w' : World} {p : Nat} {v : Value} {room : Int} {L : List ByteArray} {sure : Nat} {down : Bool} {F : Nat → Obj → Prop} (h : Jr B w p v room L sure down) (hk : Rg.Kept F w w') (hp : ∀ o, ¬ F p o) (hv : ∀ k o, v.ownBlock = some k → ¬ F k o) : Jr B w' p v room L sure down := by
  obtain ⟨h1, h2, h3, h4⟩ := h
  refine ⟨hk.block _ _ h1 (hp _), h2, ⟨h3.1, ?_⟩, h4⟩
  rcases h3.2 with h | ⟨g, cap, cur, rfl, hg, hc, rest⟩
  · exact .inl h
  · exact .inr ⟨g, cap, cur, rfl, hg, hk.block _ _ hc (hv g _ rfl), rest⟩
theorem Jr.rowObj {B : Nat} {w : World} {p : Nat} {v : Value} {room : Int} {L : List ByteArray} {sure : Nat} {down : Bool} (h : Jr B w p v room L sure down) {k : Nat} (e : v.ownBlock = some k) : ∃ cs, w.heap[k]? = some (.cells cs 9 (0, 0)) := by
  obtain ⟨_, _, ⟨_, h3⟩, _⟩ := h
  rcases h3 with ⟨rfl, _⟩ | ⟨g, cap, cur, rfl, _, hg, _⟩
  · simp [Value.ownBlock] at e
  · simp [Value.ownBlock] at e
    subst e
    exact ⟨cur, hg⟩
theorem Off.kept {p : Nat} {v v' : Value} {w w' : World} (h : Off p v v' w w') : Rg.Kept (fun k _ => k = p ∨ v.ownBlock = some k) w w' :=
  ⟨h.1.1, h.1.2.1, h.1.2.2.1, h.size, fun _ _ hk hx => (h.heap (Array.getElem?_eq_some_iff.1 hk).1 (fun e => hx (.inl e)) (fun e => hx (.inr e))).trans hk⟩

/-- The service at p: its journal at q with the row r, its book at pb with the map mb, its states at sb; all its blocks are of E. -/
structure NdV (B : Nat) (E : Nat → Prop) (w : World) (p : Nat) (v : Sv) (n q : Nat) (r : Value) (pb mb sb : Nat) : Prop where
  blk : w.heap[p]? = some (.cells #[.int .i64 v.node, .int .i64 v.hold, .pointer (some ⟨q, 0, none⟩), .pointer (some ⟨pb, 0, none⟩), .map (some sb)] 62 (0, 0))
  jr : Jr B w q r v.room (v.T.map lnE) v.T.length v.down
  bk : Hd.Bk B w pb mb v.st.left v.st.h n
  mp : Mp w sb n v.st.s
  ne : mb ≠ sb
  ep : E p
  eq : E q
  er : ∀ k, r.ownBlock = some k → E k
  eb : E pb
  em : E mb
  es : E sb

theorem two_cells {w : World} {k l : Nat} {cs cs' : Array Value} {t t' : TypeId} (h : w.heap[k]? = some (.cells cs t (0, 0))) (h' : w.heap[l]? = some (.cells cs' t' (0, 0))) (ht : t ≠ t') : k ≠ l := by
  rintro rfl
  rw [h] at h'
  simp only [Option.some.injEq, Obj.cells.injEq] at h'
  exact ht h'.2.1
theorem cells_map {w : World} {k l : Nat} {cs : Array Value} {t : TypeId} {es : Array MapEntry} {c : Nat} (h : w.heap[k]? = some (.cells cs t (0, 0))) (h' : w.heap[l]? = some (.map es c)) : k ≠ l := by
  rintro rfl
  rw [h] at h'
  cases h'
theorem typ_neS : (62 ≠ 83 ∧ 62 ≠ 9 ∧ 62 ≠ 96) ∧ (83 ≠ 9 ∧ 83 ≠ 96) ∧ 9 ≠ 96 := by decide
theorem bk_obj {B : Nat} {w : World} {p b : Nat} {left : Int} {h : Int → Int} {n : Nat} (k : Hd.Bk B w p b left h n) : ∃ es c, w.heap[b]? = some (.map es c) := by obtain ⟨_, _, _, _, D, ⟨es, c, hb, _⟩, _⟩ := k; exact ⟨es, c, hb⟩

section
variable {B : Nat} {E E' : Nat → Prop} {w w' : World} {p : Nat} {v : Sv} {n q : Nat} {r : Value} {pb mb sb : Nat}
/-- No two of its blocks are one. -/
theorem NdV.apart (k : NdV B E w p v n q r pb mb sb) :
    (p ≠ q ∧ p ≠ pb ∧ p ≠ mb ∧ p ≠ sb) ∧ (q ≠ pb ∧ q ≠ mb ∧ q ≠ sb) ∧ (pb ≠ mb ∧ pb ≠ sb) ∧ ∀ i, r.ownBlock = some i → i ≠ p ∧ i ≠ q ∧ i ≠ pb ∧ i ≠ mb ∧ i ≠ sb := by
  obtain ⟨⟨t1, t2, t3⟩, ⟨t4, t5⟩, t6⟩ := typ_neS
  obtain ⟨es, c, hm⟩ := bk_obj k.bk
  obtain ⟨es', c', hs⟩ := k.mp.obj
  refine ⟨⟨two_cells k.blk k.jr.1 t1, two_cells k.blk k.bk.1 t3, cells_map k.blk hm, cells_map k.blk hs⟩, ⟨two_cells k.jr.1 k.bk.1 t5, cells_map k.jr.1 hm, cells_map k.jr.1 hs⟩, ⟨cells_map k.bk.1 hm, cells_map k.bk.1 hs⟩, fun i e => ?_⟩
  obtain ⟨cs, hr⟩ := k.jr.rowObj e
  exact ⟨two_cells hr k.blk t2.symm, two_cells hr k.jr.1 t4.symm, two_cells hr k.bk.1 t6, cells_map hr hm, cells_map hr hs⟩
theorem NdV.wide (k : NdV B E w p v n q r pb mb sb) (h : ∀ k, E k → E' k) : NdV B E' w p v n q r pb mb sb :=
  ⟨k.blk, k.jr, k.bk, k.mp, k.ne, h _ k.ep, h _ k.eq, fun i e => h _ (k.er i e), h _ k.eb, h _ k.em, h _ k.es⟩
theorem NdV.kept {F : Nat → Obj → Prop} (k : NdV B E w p v n q r pb mb sb) (hk : Rg.Kept F w w') (hE : ∀ k o, E k → ¬ F k o) : NdV B E w' p v n q r pb mb sb :=
  ⟨hk.block _ _ k.blk (hE _ _ k.ep), k.jr.kept hk (fun o => hE _ o k.eq) (fun i o e => hE _ o (k.er i e)), k.bk.kept hk (fun o => hE _ o k.eb) (fun o => hE _ o k.em), k.mp.kept hk (fun o => hE _ o k.es), k.ne, k.ep, k.eq, k.er, k.eb, k.em, k.es⟩
theorem NdV.on (k : NdV B E w p v n q r pb mb sb) (hb : Below w.heap.size w w') : NdV B E w' p v n q r pb mb sb := k.kept (F := fun _ _ => False) (Rg.Kept.of_below hb) (fun _ _ _ h => h)
theorem NdV.more (k : NdV B E w p v n q r pb mb sb) {n' : Nat} (hn : n ≤ n') : NdV B E w p v n' q r pb mb sb :=
  ⟨k.blk, k.jr, k.bk.mono hn, k.mp.mono hn, k.ne, k.ep, k.eq, k.er, k.eb, k.em, k.es⟩
theorem NdV.lt (k : NdV B E w p v n q r pb mb sb) : p < w.heap.size := (Array.getElem?_eq_some_iff.1 k.blk).1
theorem NdV.cells (k : NdV B E w p v n q r pb mb sb) :
    (w.cell? ⟨p, 0, none⟩ = some (.int .i64 v.node) ∧ w.cell? ⟨p, 1, none⟩ = some (.int .i64 v.hold) ∧ w.cell? ⟨p, 2, none⟩ = some (.pointer (some ⟨q, 0, none⟩)) ∧ w.cell? ⟨p, 3, none⟩ = some (.pointer (some ⟨pb, 0, none⟩)) ∧ w.cell? ⟨p, 4, none⟩ = some (.map (some sb))) := by
  refine ⟨?_, ?_, ?_, ?_, ?_⟩
  all_goals (rw [cell_of k.blk]; rfl)
/-- A step on its journal. -/
theorem NdV.jstep (k : NdV B E w p v n q r pb mb sb) {T' : List En} {d' : Bool} {r' : Value} (j : Jr B w' q r' v.room (T'.map lnE) T'.length d') (ho : Off q r r' w w') :
    NdV B (growE E w w') w' p ⟨v.node, v.hold, v.room, T', d', v.st⟩ n q r' pb mb sb ∧ Rg.Kept (fun k _ => E k) w w' := by
  obtain ⟨⟨a1, a2, a3, a4⟩, ⟨b1, b2, b3⟩, ⟨c1, c2⟩, d1⟩ := k.apart
  have hk := ho.kept
  have no : ∀ i (_ : Obj), i ≠ q → (∀ g, r.ownBlock = some g → g ≠ i) → ¬ (i = q ∨ r.ownBlock = some i) := fun i _ h1 h2 e => e.elim h1 (fun e => h2 i e rfl)
  refine ⟨⟨hk.block _ _ k.blk (no p default a1 (fun g e => (d1 g e).1)), j, k.bk.kept hk (fun o => no pb o b1.symm (fun g e => (d1 g e).2.2.1)) (fun o => no mb o b2.symm (fun g e => (d1 g e).2.2.2.1)), k.mp.kept hk (fun o => no sb o b3.symm (fun g e => (d1 g e).2.2.2.2)), k.ne, .inl k.ep, .inl k.eq, fun i e => ?_, .inl k.eb, .inl k.em, .inl k.es⟩, hk.mono (fun i _ e => e.elim (fun e => e ▸ k.eq) (fun e => k.er i e))⟩
  by_cases hi : i < w.heap.size
  · by_cases h1 : i = q
    · subst h1; exact .inl k.eq
    · by_cases h2 : r.ownBlock = some i
      · exact .inl (k.er i h2)
      · exact absurd e (ho.2 i hi h1 h2).2
  · exact .inr ⟨by omega, (j.2.2.1.lt i e).2⟩
/-- A step on its book. -/
theorem NdV.bstep (k : NdV B E w p v n q r pb mb sb) {left' : Int} {h' : Int → Int} {n' : Nat} (hn : n ≤ n') (b : Hd.Bk B w' pb mb left' h' n') (hk : Rg.Kept (Hd.Own2 pb mb) w w') :
    NdV B E w' p ⟨v.node, v.hold, v.room, v.T, v.down, ⟨left', h', v.st.s⟩⟩ n' q r pb mb sb ∧ Rg.Kept (fun k _ => E k) w w' := by
  obtain ⟨⟨a1, a2, a3, a4⟩, ⟨b1, b2, b3⟩, ⟨c1, c2⟩, d1⟩ := k.apart
  have no : ∀ i (o : Obj), i ≠ pb → i ≠ mb → ¬ Hd.Own2 pb mb i o := fun i _ h1 h2 e => e.elim h1 h2
  exact ⟨⟨hk.block _ _ k.blk (no _ _ a2 a3), k.jr.kept hk (fun o => no _ o b1 b2) (fun i o e => no _ o (d1 i e).2.2.1 (d1 i e).2.2.2.1), b, (k.mp.kept hk (fun o => no _ o c2.symm k.ne.symm)).mono hn, k.ne, k.ep, k.eq, k.er, k.eb, k.em, k.es⟩, hk.mono (fun i _ e => e.elim (fun e => e ▸ k.eb) (fun e => e ▸ k.em))⟩
/-- A step on its states. -/
theorem NdV.mstep (k : NdV B E w p v n q r pb mb sb) {s' : Int → Int} {n' : Nat} (hn : n ≤ n') (b : Mp w' sb n' s') (hk : Rg.Kept (fun k _ => k = sb) w w') :
    NdV B E w' p ⟨v.node, v.hold, v.room, v.T, v.down, ⟨v.st.left, v.st.h, s'⟩⟩ n' q r pb mb sb ∧ Rg.Kept (fun k _ => E k) w w' := by
  obtain ⟨⟨a1, a2, a3, a4⟩, ⟨b1, b2, b3⟩, ⟨c1, c2⟩, d1⟩ := k.apart
  exact ⟨⟨hk.block _ _ k.blk a4, k.jr.kept hk (fun o => b3) (fun i o e => (d1 i e).2.2.2.2), (k.bk.kept hk (fun o => c2) (fun o => k.ne)).mono hn, b, k.ne, k.ep, k.eq, k.er, k.eb, k.em, k.es⟩, hk.mono (fun i _ e => by subst e; exact k.es)⟩
end

/-- The service at p; all its blocks are of E. -/
def Nd (B : Nat) (E : Nat → Prop) (w : World) (p : Nat) (v : Sv) (n : Nat) : Prop :=
  (∀ k, E k → B ≤ k ∧ k < w.heap.size) ∧ GoodSv v ∧ ∃ q r pb mb sb, NdV B E w p v n q r pb mb sb
section
variable {B : Nat} {E E' : Nat → Prop} {w w' : World} {p : Nat} {v : Sv} {n : Nat}
theorem Nd.good (k : Nd B E w p v n) : GoodSv v := k.2.1
theorem Nd.ep (k : Nd B E w p v n) : E p := by obtain ⟨_, _, q, r, pb, mb, sb, h⟩ := k; exact h.ep
theorem Nd.low (k : Nd B E w p v n) : B ≤ w.heap.size := by have := k.1 p k.ep; omega
theorem Nd.kept {F : Nat → Obj → Prop} (k : Nd B E w p v n) (hk : Rg.Kept F w w') (hE : ∀ k o, E k → ¬ F k o) : Nd B E w' p v n := by
  obtain ⟨h1, h2, q, r, pb, mb, sb, h⟩ := k
  exact ⟨fun k e => ⟨(h1 k e).1, Nat.lt_of_lt_of_le (h1 k e).2 hk.size⟩, h2, q, r, pb, mb, sb, h.kept hk hE⟩
theorem Nd.on (k : Nd B E w p v n) (hb : Below w.heap.size w w') : Nd B E w' p v n := k.kept (F := fun _ _ => False) (Rg.Kept.of_below hb) (fun _ _ _ h => h)
theorem Nd.wide (k : Nd B E w p v n) (h : ∀ k, E k → E' k) (h' : ∀ k, E' k → B ≤ k ∧ k < w.heap.size) : Nd B E' w p v n := by
  obtain ⟨_, h2, q, r, pb, mb, sb, h4⟩ := k
  exact ⟨h', h2, q, r, pb, mb, sb, h4.wide h⟩
theorem Nd.grow {W : World} (k : Nd B E w p v n) (hB : B ≤ W.heap.size) : Nd B (growE E W w) w p v n :=
  k.wide (fun _ e => .inl e) (fun i e => e.elim (k.1 i) (fun e => ⟨by omega, e.2⟩))
theorem Nd.more (k : Nd B E w p v n) {n' : Nat} (hn : n ≤ n') : Nd B E w p v n' := by
  obtain ⟨h1, h2, q, r, pb, mb, sb, h⟩ := k
  exact ⟨h1, h2, q, r, pb, mb, sb, h.more hn⟩
theorem Nd.bel (k : Nd B E w p v n) (hk : Rg.Kept (fun i _ => E i) w w') : Below B w w' := hk.bel k.low (fun i _ e => (k.1 i e).1)
theorem grow_in (h : ∀ k, E k → B ≤ k ∧ k < w.heap.size) (hB : B ≤ w.heap.size) (hs : w.heap.size ≤ w'.heap.size) : ∀ k, growE E w w' k → B ≤ k ∧ k < w'.heap.size := fun k e => by
  rcases e with e | e
  · have := h k e; omega
  · omega
end
end Go.Proofs.YtdbmnjodkpeobaaGreatDoor
