/-
  Own texts put together: JrnJ, CallD, JrnK, JSure.
-/
import Derived.Test.YtdbmnjodkpeobaaGreatDoorJrnI
import Derived.Test.YtdbmnjodkpeobaaGreatDoorBd3
import Derived.Test.YtdbmnjodkpeobaaGreatDoorBd2
import Derived.WalkKit
import Derived.ProofKit
import Derived.OpenShut
import Derived.Lib.SmallJoins
/-
  Contract: the law's same, of rows that say the same.
-/
namespace Go.Proofs.YtdbmnjodkpeobaaGreatDoor
open Go.ChangeShapes Go.WideShapes Go.ChangeAt Go.RowKit

/-- A row of entries: its cells, and where the numbers lie. -/
def Ents (w : World) (a : Option Addr) (xs : List Ev) : Prop :=
  xs = [] ∨ ∃ g off, a = some ⟨g, off, none⟩ ∧ ∀ i x, xs[i]? = some x → (w.cell? ⟨g, off + i * 3, none⟩ = some (.string x.k) ∧ w.cell? ⟨g, off + i * 3 + 1, none⟩ = some (.int .i64 x.id) ∧ w.cell? ⟨g, off + i * 3 + 2, none⟩ = some (.slice x.av x.l.length x.cv)) ∧ Ints w x.av x.l ∧ x.l.length ≤ 4611686018427387904
theorem Ents.below {w w' : World} {a : Option Addr} {xs : List Ev} (h : Ents w a xs) (hb : Below w.heap.size w w') : Ents w' a xs := by
  rcases h with h | ⟨g, off, ha, hc⟩
  · exact .inl h
  · refine .inr ⟨g, off, ha, fun i x hx => ?_⟩
    obtain ⟨⟨h1, h2, h3⟩, h4, h5⟩ := hc i x hx
    exact ⟨⟨cellL h1 hb, cellL h2 hb, cellL h3 hb⟩, h4.below hb, h5⟩
def Alike (xs ys : List Ev) : Prop := xs.length = ys.length ∧ ∀ (i : Nat) (x y : Ev), xs[i]? = some x → ys[i]? = some y → x.k = y.k ∧ x.id = y.id ∧ x.l = y.l

theorem evCells_at : ∀ (xs : List Ev) (i : Nat) (x : Ev), xs[i]? = some x → (evCells xs)[i * 3]? = some (.string x.k) ∧ (evCells xs)[i * 3 + 1]? = some (.int .i64 x.id) ∧ (evCells xs)[i * 3 + 2]? = some (.slice x.av x.l.length x.cv)
  | [], i, x, h => by simp at h
  | y :: r, 0, x, h => by
    simp at h
    subst h
    simp [evCells]
  | y :: r, i + 1, x, h => by
    have ih := evCells_at r i x (by simpa using h)
    have e : evCells (y :: r) = [.string y.k, .int .i64 y.id, .slice y.av y.l.length y.cv] ++ evCells r := by simp [evCells]
    rw [e, show (i + 1) * 3 = i * 3 + 3 by omega]
    refine ⟨?_, ?_, ?_⟩
    · rw [List.getElem?_append_right (by simp)]; simpa using ih.1
    · rw [List.getElem?_append_right (by simp)]; simpa using ih.2.1
    · rw [List.getElem?_append_right (by simp)]; simpa using ih.2.2
theorem ev_cells {W : World} {base : Nat} {a : Option Addr} {c : Nat} {xs : List Ev} (h : W.ownsRow base 70 3 (.slice a xs.length c) xs.length (evCells xs)) (h0 : xs ≠ []) :
    ∃ g, a = some ⟨g, 0, none⟩ ∧ base ≤ g ∧ (∃ cs, W.heap[g]? = some (.cells cs 70 (0, 0))) ∧ ∀ i x, xs[i]? = some x → W.cell? ⟨g, 0 + i * 3, none⟩ = some (.string x.k) ∧ W.cell? ⟨g, 0 + i * 3 + 1, none⟩ = some (.int .i64 x.id) ∧ W.cell? ⟨g, 0 + i * 3 + 2, none⟩ = some (.slice x.av x.l.length x.cv) := by
  have hc := fun g hg => h.cells (g := g) hg
  rcases h.2 with ⟨_, h1⟩ | ⟨g, cap, cur, e, hb, hcur, _⟩
  · exact absurd (List.eq_nil_of_length_eq_zero h1) h0
  · cases e
    refine ⟨g, rfl, hb, ⟨cur, hcur⟩, fun i x hx => ?_⟩
    obtain ⟨e1, e2, e3⟩ := evCells_at xs i x hx
    have c1 := hc g rfl _ _ e1
    have c2 := hc g rfl _ _ e2
    have c3 := hc g rfl _ _ e3
    rw [st_add] at c1 c2 c3
    exact ⟨c1, c2, c3⟩
theorem ents_of {W : World} {base : Nat} {a : Option Addr} {c : Nat} {xs : List Ev} (h : W.ownsRow base 70 3 (.slice a xs.length c) xs.length (evCells xs)) {B : Nat} (hg : ∀ x ∈ xs, Good B x W) : Ents W a xs := by
  by_cases h0 : xs = []
  · exact .inl h0
  · obtain ⟨g, ha, _, _, hc⟩ := ev_cells h h0
    refine .inr ⟨g, 0, ha, fun i x hx => ⟨hc i x hx, ?_, ?_⟩⟩
    · exact (hg x (List.mem_of_getElem? hx)).1.ints
    · have := (hg x (List.mem_of_getElem? hx)).2.1; omega

end Go.Proofs.YtdbmnjodkpeobaaGreatDoor
/-
  A Call that came in: its cells.
-/
namespace Go.Proofs.YtdbmnjodkpeobaaGreatDoor
open Go.ChangeShapes Go.WideShapes Go.ChangeAt Go.RowKit Go.Joins

theorem call_add (b o i : Nat) : (⟨b, o, none⟩ : Addr).add i = ⟨b, o + i, none⟩ := by cases i <;> simp [Addr.add]

theorem call_six {α : Type} {cs : Array α} (h : cs.size = 6) : ∃ c0 c1 c2 c3 c4 c5, cs = #[c0, c1, c2, c3, c4, c5] := by
  obtain ⟨l⟩ := cs
  match l, h with
  | [c0, c1, c2, c3, c4, c5], _ => exact ⟨c0, c1, c2, c3, c4, c5, rfl⟩

/-- A Call as a value. -/
structure Cv where
  d : Int
  s : Int
  t : Int
  k : ByteArray
  id : Int
  l : List Int
  av : Option Addr
  cv : Nat
def CvIn (w : World) (c : Cv) : Prop := c.k.size ≤ maxLen ∧ Ints w c.av c.l ∧ c.l.length ≤ 9223372036854775807
/-- A row of Calls that came in. -/
def CallsAt (w : World) (a : Option Addr) (cl : List Cv) : Prop :=
  cl = [] ∨ ∃ b off, a = some ⟨b, off, none⟩ ∧ ∀ (i : Nat) (c : Cv), cl[i]? = some c → (w.cell? ⟨b, off + i * 6, none⟩ = some (.int .i64 c.d) ∧ w.cell? ⟨b, off + i * 6 + 1, none⟩ = some (.int .i64 c.s) ∧ w.cell? ⟨b, off + i * 6 + 2, none⟩ = some (.int .i64 c.t) ∧
    w.cell? ⟨b, off + i * 6 + 3, none⟩ = some (.string c.k) ∧ w.cell? ⟨b, off + i * 6 + 4, none⟩ = some (.int .i64 c.id) ∧ w.cell? ⟨b, off + i * 6 + 5, none⟩ = some (.slice c.av c.l.length c.cv)) ∧ CvIn w c
theorem CallsAt.below {w w' : World} {a : Option Addr} {cl : List Cv} (h : CallsAt w a cl) (hb : Below w.heap.size w w') : CallsAt w' a cl := by
  rcases h with h | ⟨b, off, ha, hc⟩
  · exact .inl h
  · refine .inr ⟨b, off, ha, fun i c hx => ?_⟩
    have cc : ∀ {p : Addr} {v : Value}, w.cell? p = some v → w'.cell? p = some v := fun h => (hb.cell (World.block_lt_of_cell? _ _ h)).trans h
    obtain ⟨⟨h0, h1, h2, h3, h4, h5⟩, h6, h7, h8⟩ := hc i c hx
    exact ⟨⟨cc h0, cc h1, cc h2, cc h3, cc h4, cc h5⟩, h6, h7.below hb, h8⟩

end Go.Proofs.YtdbmnjodkpeobaaGreatDoor
/-
  Contract: the law's few.
-/
namespace Go.Proofs.YtdbmnjodkpeobaaGreatDoor
open Go.ChangeShapes Go.WideShapes Go.ChangeAt Go.RowKit

def Few (cl : List Cv) : Prop := cl.length ≤ 100 ∧ ∀ c ∈ cl, c.k.size ≤ 50 ∧ c.l.length ≤ 20

end Go.Proofs.YtdbmnjodkpeobaaGreatDoor
/-
  JournalSure: what was made sure is there behind any crash, in order; what is there is a beginning of what was added; no torn line is ever told.
-/
namespace Go.Proofs.YtdbmnjodkpeobaaGreatDoor
open Go.ChangeShapes Go.WideShapes Go.ChangeAt Go.RowKit

theorem typ_ne2 : 70 ≠ 83 ∧ 70 ≠ 9 := by decide

/-- A row of entries lies on where a step has turned a journal alone. -/
theorem row_off {B base : Nat} {w w' : World} {p : Nat} {v v' : Value} {room : Int} {L : List ByteArray} {sure : Nat} {down : Bool} (hj : Jr B w p v room L sure down) (ho : Off p v v' w w') {vw : Value} {n : Nat} {xs : List Value} (h : w.ownsRow base 70 3 vw n xs) : w'.ownsRow base 70 3 vw n xs :=
  row_stays h (fun k cs _ hc => ho.heap (Array.getElem?_eq_some_iff.1 hc).1
    (fun e => by subst e; rw [hj.1] at hc; simp only [Option.some.injEq, Obj.cells.injEq] at hc; exact typ_ne2.1 hc.2.1.symm)
    (fun e => by
      rcases hj.2.2.1.2 with ⟨rfl, _⟩ | ⟨g, cap, cur, rfl, _, hg, _⟩
      · simp [Value.ownBlock] at e
      · simp [Value.ownBlock] at e
        subst e
        rw [hg] at hc
        simp only [Option.some.injEq, Obj.cells.injEq] at hc
        exact typ_ne2.2 hc.2.1.symm))
/-- A journal lies on where a row of entries has grown. -/
theorem Jr.rowed {B base : Nat} {w w' : World} {p : Nat} {v : Value} {room : Int} {L : List ByteArray} {sure : Nat} {down : Bool} (hj : Jr B w p v room L sure down) {vw : Value} {n : Nat} {xs : List Value} (h : w.ownsRow base 70 3 vw n xs) (hg : w.grownBy w' vw.ownBlock) : Jr B w' p v room L sure down := by
  have hne : ∀ (k : Nat) (cs : Array Value) (t : TypeId), 70 ≠ t → w.heap[k]? = some (.cells cs t (0, 0)) → w'.heap[k]? = w.heap[k]? := fun k cs t ht hc => hg.block k (Array.getElem?_eq_some_iff.1 hc).1 (fun e => by
    rcases h.2 with ⟨rfl, _⟩ | ⟨g, cap, cur, rfl, _, hc', _⟩
    · simp [Value.ownBlock] at e
    · simp [Value.ownBlock] at e
      subst e
      rw [hc] at hc'
      simp only [Option.some.injEq, Obj.cells.injEq] at hc'
      exact ht hc'.2.1.symm)
  obtain ⟨h1, h2, h3, h4⟩ := hj
  refine ⟨(hne p _ _ typ_ne2.1 h1).trans h1, h2, ?_, h4⟩
  obtain ⟨hl, h3⟩ := h3
  refine ⟨hl, ?_⟩
  rcases h3 with h3 | ⟨g, cap, cur, e, hb, hc, rest⟩
  · exact .inl h3
  · exact .inr ⟨g, cap, cur, e, hb, (hne g _ _ typ_ne2.2 hc).trans hc, rest⟩

theorem append_ents {w : World} {ops : Array Oper} {rest : List Oper} {o : Oper} {a : Act} {Q : Exit → Act → World → Prop} (hgd : o.guard = none) (s x : Operand)
    (ho : o.op = .call { callee := .builtin .append, args := #[s, x], argTypes := #[72, 72] })
    (base : Nat) (v : Value) (ws : List Ev) (hs : a.eval s = v) (hown : w.ownsRow base 70 3 v ws.length (evCells ws)) (ad : Addr) (y : Ev) (hx : a.eval x = .slice (some ad) 1 1)
    (hc : ∀ j u, [Value.string y.k, .int .i64 y.id, .slice y.av y.l.length y.cv][j]? = some u → w.cell? (ad.add j) = some u) (hb : ws.length ≤ 1000000) (hbase : base ≤ w.heap.size)
    (h : ∀ a' c' w', w'.ownsRow base 70 3 (.slice a' (ws.length + 1) c') (ws ++ [y]).length (evCells (ws ++ [y])) → w.grownBy w' v.ownBlock → wpList Tryz.prog ops Q rest (a.put o.dst (.slice a' (ws.length + 1) c')) w') : wpList Tryz.prog ops Q (o :: rest) a w := by
  obtain ⟨i0, hi, hz0, hz1, hz2⟩ := info_parts Tryz.infoEnt
  refine wpList_append_own_at _ hgd s x 72 ho base 70 i0 _ 3 48 Tryz.underlying72 hi hz0 hz1 hz2 rfl (by decide) v ws.length (evCells ws) hs hown ad 1 1 [.string y.k, .int .i64 y.id, .slice y.av y.l.length y.cv] hx rfl hc (by simp [Value.oneCell']) (by unfold maxLen; omega) (by omega) hbase ?_
  intro v' w' h1 h2 _ _
  obtain ⟨a', c', rfl, -⟩ := row_slice h1
  refine h a' c' w' ?_ h2
  rw [evCells_snoc, List.length_append, List.length_singleton]
  exact h1

theorem row_cap {W : World} {base : Nat} {e : TypeId} {s : Nat} {a : Option Addr} {n c : Nat} {xs : List Value} (h : W.ownsRow base e s (.slice a n c) n xs) : n ≤ c := by
  rcases h.2 with ⟨e, rfl⟩ | ⟨g, cap, cur, e, _, _, hn, _⟩
  · exact Nat.zero_le _
  · cases e; exact hn

def evLine (x : Ev) : ByteArray := lineV x.k x.id x.l
/-- What was added, as the law keeps it. -/
def Was (w : World) (L : List ByteArray) (ws : List Ev) : Prop := L = ws.map evLine ∧ ∀ x ∈ ws, mayB x.k x.id x.l = true ∧ Ints w x.av x.l ∧ x.l.length ≤ 20
theorem Was.snoc {w : World} {L : List ByteArray} {ws : List Ev} (h : Was w L ws) {x : Ev} (h1 : mayB x.k x.id x.l = true) (h2 : Ints w x.av x.l) (h3 : x.l.length ≤ 20) : Was w (L ++ [lineV x.k x.id x.l]) (ws ++ [x]) := by
  refine ⟨by rw [h.1]; simp [evLine], fun y hy => ?_⟩
  rcases List.mem_append.1 hy with hy | hy
  · exact h.2 y hy
  · simp at hy; subst hy; exact ⟨h1, h2, h3⟩
theorem Was.ok {w : World} {L : List ByteArray} {ws : List Ev} (h : Was w L ws) : ∀ x ∈ L, Ok x := fun x hx => by
  rw [h.1] at hx
  obtain ⟨y, hy, rfl⟩ := List.mem_map.1 hx
  exact ok_line (h.2 y hy).1
theorem Was.alike {w : World} {L : List ByteArray} {ws xs : List Ev} {K : Nat} (h : Was w L ws) (hK : K ≤ L.length) (hx : xs.length = K) (hr : Rd xs (L.take K)) : Alike xs (ws.take K) := by
  have hl : L.length = ws.length := by rw [h.1]; simp
  refine ⟨by rw [hx]; simp; omega, fun i x y hxi hyi => ?_⟩
  have hi : i < K := by have := (List.getElem?_eq_some_iff.1 hxi).1; omega
  rw [List.getElem?_take_of_lt hi] at hyi
  have h1 := hr i x hxi
  have h2 : (L.take K).getD i ByteArray.empty = evLine y := by
    rw [h.1]
    simp [List.getD, hi, hyi]
  rw [h2] at h1
  have hm := (h.2 y (List.mem_of_getElem? hyi)).1
  obtain ⟨e1, e2, e3, -⟩ := ParseR.uniq h1 (show ParseR (evLine y) y.k y.id y.l 0 by unfold evLine lineV; rw [if_pos hm]; exact parse_line hm)
  exact ⟨e1, e2, e3⟩
theorem Was.ents {w u : World} {L : List ByteArray} {ws : List Ev} (h : Was w L ws) (hb : Below w.heap.size w u) {base : Nat} {a : Option Addr} {c : Nat} (hr : u.ownsRow base 70 3 (.slice a ws.length c) ws.length (evCells ws)) (K : Nat) : Ents u a (ws.take K) := by
  by_cases h0 : ws = []
  · exact .inl (by simp [h0])
  · obtain ⟨g, ha, _, _, hc⟩ := ev_cells hr h0
    refine .inr ⟨g, 0, ha, fun i x hx => ?_⟩
    have hx' : ws[i]? = some x := by
      by_cases hi : i < K
      · rwa [List.getElem?_take_of_lt hi] at hx
      · rw [List.getElem?_eq_none (by simp; omega)] at hx; cases hx
    have hm := h.2 x (List.mem_of_getElem? hx')
    exact ⟨hc i x hx', hm.2.1.below hb, by have := hm.2.2; omega⟩

end Go.Proofs.YtdbmnjodkpeobaaGreatDoor
