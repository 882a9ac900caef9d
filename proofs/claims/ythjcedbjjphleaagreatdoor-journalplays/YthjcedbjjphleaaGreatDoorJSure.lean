/-
  JournalSure: what was made sure is there behind any crash, in order; what is there is a beginning of what was added; no torn line is ever told.
-/
import Derived.Test.YthjcedbjjphleaaGreatDoorJrnK
namespace Go.Proofs.YthjcedbjjphleaaGreatDoor
open Go.ChangeShapes Go.WideShapes Go.ChangeAt Go.RowKit

theorem typ_ne2 : 32 ≠ 51 ∧ 32 ≠ 9 := by decide

/-- A row of entries lies on where a step has turned a journal alone. -/
theorem row_off {B base : Nat} {w w' : World} {p : Nat} {v v' : Value} {room : Int} {L : List ByteArray} {sure : Nat} {down : Bool} (hj : Jr B w p v room L sure down) (ho : Off p v v' w w') {vw : Value} {n : Nat} {xs : List Value} (h : w.ownsRow base 32 3 vw n xs) : w'.ownsRow base 32 3 vw n xs :=
  row_stays h (fun k cs hc => ho.heap (Array.getElem?_eq_some_iff.1 hc).1
    (fun e => by subst e; rw [hj.1] at hc; simp only [Option.some.injEq, Obj.cells.injEq] at hc; exact typ_ne2.1 hc.2.1.symm)
    (fun e => by
      rcases hj.2.2.1.2 with ⟨rfl, _⟩ | ⟨g, cap, cur, rfl, _, hg, _⟩
      · simp [Value.ownBlock] at e
      · simp [Value.ownBlock] at e
        subst e
        rw [hg] at hc
        simp only [Option.some.injEq, Obj.cells.injEq] at hc
        exact typ_ne2.2 hc.2.1.symm))
/-- A journal lies on where a row of entries has grown. -/
theorem Jr.rowed {B base : Nat} {w w' : World} {p : Nat} {v : Value} {room : Int} {L : List ByteArray} {sure : Nat} {down : Bool} (hj : Jr B w p v room L sure down) {vw : Value} {n : Nat} {xs : List Value} (h : w.ownsRow base 32 3 vw n xs) (hg : w.grownBy w' vw.ownBlock) : Jr B w' p v room L sure down := by
  have hne : ∀ (k : Nat) (cs : Array Value) (t : TypeId), 32 ≠ t → w.heap[k]? = some (.cells cs t (0, 0)) → w'.heap[k]? = w.heap[k]? := fun k cs t ht hc => hg.block k (Array.getElem?_eq_some_iff.1 hc).1 (fun e => by
    rcases h.2 with ⟨rfl, _⟩ | ⟨g, cap, cur, rfl, _, hc', _⟩
    · simp [Value.ownBlock] at e
    · simp [Value.ownBlock] at e
      subst e
      rw [hc] at hc'
      simp only [Option.some.injEq, Obj.cells.injEq] at hc'
      exact ht hc'.2.1.symm)
  obtain ⟨h1, h2, h3, h4⟩ := hj
  refine ⟨(hne p _ _ typ_ne2.1 h1).trans h1, h2, ?_, h4⟩
  obtain ⟨hl, h3⟩ := h3
  refine ⟨hl, ?_⟩
  rcases h3 with h3 | ⟨g, cap, cur, e, hb, hc, rest⟩
  · exact .inl h3
  · exact .inr ⟨g, cap, cur, e, hb, (hne g _ _ typ_ne2.2 hc).trans hc, rest⟩

theorem append_ents {w : World} {ops : Array Oper} {rest : List Oper} {o : Oper} {a : Act} {Q : Exit → Act → World → Prop} (hgd : o.guard = none) (s x : Operand)
    (ho : o.op = .call { callee := .builtin .append, args := #[s, x], argTypes := #[40, 40] })
    (base : Nat) (v : Value) (ws : List Ev) (hs : a.eval s = v) (hown : w.ownsRow base 32 3 v ws.length (evCells ws)) (ad : Addr) (y : Ev) (hx : a.eval x = .slice (some ad) 1 1)
    (hc : ∀ j u, [Value.string y.k, .int .i64 y.id, .slice y.av y.l.length y.cv][j]? = some u → w.cell? (ad.add j) = some u) (hb : ws.length ≤ 1000000) (hbase : base ≤ w.heap.size)
    (h : ∀ a' c' w', w'.ownsRow base 32 3 (.slice a' (ws.length + 1) c') (ws ++ [y]).length (evCells (ws ++ [y])) → w.grownBy w' v.ownBlock → wpList Tryz.prog ops Q rest (a.put o.dst (.slice a' (ws.length + 1) c')) w') : wpList Tryz.prog ops Q (o :: rest) a w := by
  obtain ⟨i0, hi, hz0, hz1, hz2⟩ := info_parts Tryz.infoEnt
  refine wpList_append_own_at _ hgd s x 40 ho base 32 i0 _ 3 48 Tryz.underlying40 hi hz0 hz1 hz2 rfl (by decide) v ws.length (evCells ws) hs hown ad 1 1 [.string y.k, .int .i64 y.id, .slice y.av y.l.length y.cv] hx rfl hc (by simp [Value.oneCell']) (by unfold maxLen; omega) (by omega) hbase ?_
  intro v' w' h1 h2 _ _
  obtain ⟨a', c', rfl⟩ := row_slice h1
  refine h a' c' w' ?_ h2
  rw [evCells_snoc, List.length_append, List.length_singleton]
  exact h1

theorem row_cap {W : World} {base : Nat} {e : TypeId} {s : Nat} {a : Option Addr} {n c : Nat} {xs : List Value} (h : W.ownsRow base e s (.slice a n c) n xs) : n ≤ c := by
  rcases h.2 with ⟨e, rfl⟩ | ⟨g, cap, cur, e, _, _, hn, _⟩
  · exact Nat.zero_le _
  · cases e; exact hn

def evLine (x : Ev) : ByteArray := lineV x.k x.id x.l
/-- What was added, as the law keeps it. -/
def Was (w : World) (L : List ByteArray) (ws : List Ev) : Prop := L = ws.map evLine ∧ ∀ x ∈ ws, mayB x.k x.id x.l = true ∧ Ints w x.av x.l ∧ x.l.length ≤ 20
theorem Was.snoc {w : World} {L : List ByteArray} {ws : List Ev} (h : Was w L ws) {x : Ev} (h1 : mayB x.k x.id x.l = true) (h2 : Ints w x.av x.l) (h3 : x.l.length ≤ 20) : Was w (L ++ [lineV x.k x.id x.l]) (ws ++ [x]) := by
  refine ⟨by rw [h.1]; simp [evLine], fun y hy => ?_⟩
  rcases List.mem_append.1 hy with hy | hy
  · exact h.2 y hy
  · simp at hy; subst hy; exact ⟨h1, h2, h3⟩
theorem Was.ok {w : World} {L : List ByteArray} {ws : List Ev} (h : Was w L ws) : ∀ x ∈ L, Ok x := fun x hx => by
  rw [h.1] at hx
  obtain ⟨y, hy, rfl⟩ := List.mem_map.1 hx
  exact ok_line (h.2 y hy).1
theorem Was.alike {w : World} {L : List ByteArray} {ws xs : List Ev} {K : Nat} (h : Was w L ws) (hK : K ≤ L.length) (hx : xs.length = K) (hr : Rd xs (L.take K)) : Alike xs (ws.take K) := by
  have hl : L.length = ws.length := by rw [h.1]; simp
  refine ⟨by rw [hx]; simp; omega, fun i x y hxi hyi => ?_⟩
  have hi : i < K := by have := (List.getElem?_eq_some_iff.1 hxi).1; omega
  rw [List.getElem?_take_of_lt hi] at hyi
  have h1 := hr i x hxi
  have h2 : (L.take K).getD i ByteArray.empty = evLine y := by
    rw [h.1]
    simp [List.getD, hi, hyi]
  rw [h2] at h1
  have hm := (h.2 y (List.mem_of_getElem? hyi)).1
  obtain ⟨e1, e2, e3, -⟩ := ParseR.uniq h1 (show ParseR (evLine y) y.k y.id y.l 0 by unfold evLine lineV; rw [if_pos hm]; exact parse_line hm)
  exact ⟨e1, e2, e3⟩
theorem Was.ents {w u : World} {L : List ByteArray} {ws : List Ev} (h : Was w L ws) (hb : Below w.heap.size w u) {base : Nat} {a : Option Addr} {c : Nat} (hr : u.ownsRow base 32 3 (.slice a ws.length c) ws.length (evCells ws)) (K : Nat) : Ents u a (ws.take K) := by
  by_cases h0 : ws = []
  · exact .inl (by simp [h0])
  · obtain ⟨g, ha, _, _, hc⟩ := ev_cells hr h0
    refine .inr ⟨g, 0, ha, fun i x hx => ?_⟩
    have hx' : ws[i]? = some x := by
      by_cases hi : i < K
      · rwa [List.getElem?_take_of_lt hi] at hx
      · rw [List.getElem?_eq_none (by simp; omega)] at hx; cases hx
    have hm := h.2 x (List.mem_of_getElem? hx')
    exact ⟨hc i x hx', hm.2.1.below hb, by have := hm.2.2; omega⟩

end Go.Proofs.YthjcedbjjphleaaGreatDoor
