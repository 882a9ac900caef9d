/-
  Facts of the law's own: their box, their two rows of bools; one of them turned.
-/
import Derived.Test.YtinbmnefdhkdfaaSgbB2
import Derived.Test.YtinbmnefdhkdfaaSgaX
namespace Go.Proofs.Ytinbmnefdhkdfaa
open Go.ChangeShapes Go.WideShapes Go.ChangeAt Go.RowKit

def rowB (l : List Bool) : Array Value := (l.map Value.bool).toArray
theorem rowB_set (l : List Bool) (i : Nat) (x : Bool) : (rowB l).setIfInBounds i (.bool x) = rowB (l.set i x) := by
  unfold rowB
  rw [List.map_set, List.setIfInBounds_toArray]
theorem rowB_bls {u : World} {d : Nat} {l : List Bool} (h : u.heap[d]? = some (.cells (rowB l) 4 (0, 0))) : Bls u (some ⟨d, 0, none⟩) l := by
  refine .inr ⟨d, 0, rfl, fun i x hx => ?_⟩
  rw [cell_of h, Nat.zero_add]
  unfold rowB
  simp [hx]
theorem make_row (n : Nat) (hn : n ≤ 3) (W : World) : (Instr.makeSlice 25 (.int .i64 (n : Int)) (.int .i64 (n : Int))).run Try.prog W = .ok (.slice (some ⟨W.heap.size, 0, none⟩) n n) (W.alloc (.cells (rowB (List.replicate n false)) 4)) := by
  obtain ⟨i0, hi, hz0, hz1, hz2⟩ := info_parts Try.infoBool
  rw [run_makeSlice (P := Try.prog) W 25 4 i0 _ Try.underlying25 hi hz0 .i64 .i64 (n : Int) (n : Int) (by omega) (Int.le_refl _) (by rw [hz1]; simp; omega) (by rw [hz2]; omega) (by omega), hz1]
  have e : madeCells (Value.bool false).cells (n * 1) = rowB (List.replicate n false) := by
    obtain rfl | rfl | rfl | rfl : n = 0 ∨ n = 1 ∨ n = 2 ∨ n = 3 := by omega
    all_goals kernel_rfl
  rw [Int.toNat_natCast, e]
/-- Facts in their box at q, their rows at d, e; an order boxed at p. -/
structure Fl (w : World) (p q d e : Nat) (o : Od) (a : Option Addr) (c : Nat) (f : Fa) (n : Nat) (u : World) : Prop where
  ob : u.heap[p]? = some (.cells #[.int .i64 o.id, .int .i64 o.item, .int .i64 o.qty, .int .i64 o.client, .int .i64 o.price, .slice a o.steps.length c] 24 (0, 0))
  fb : u.heap[q]? = some (.cells #[.slice (some ⟨d, 0, none⟩) f.dn.length n, .slice (some ⟨e, 0, none⟩) f.un.length n, .bool f.asked, .bool f.yes, .bool f.turned, .bool f.k0, .bool f.k1, .bool f.ship, .bool f.d0, .bool f.d1, .bool f.acc] 28 (0, 0))
  db : u.heap[d]? = some (.cells (rowB f.dn) 4 (0, 0))
  eb : u.heap[e]? = some (.cells (rowB f.un) 4 (0, 0))
  ne : d ≠ e
  bs : w.heap.size ≤ q ∧ w.heap.size ≤ d ∧ w.heap.size ≤ e
  st : Sts w a o.steps
  hl : o.steps.length ≤ 9223372036854775807
  bel : Below w.heap.size w u
  dl : f.dn.length = n
  ul : f.un.length = n
  n3 : n ≤ 3
section
variable {w : World} {p q d e : Nat} {o : Od} {a : Option Addr} {c : Nat} {f : Fa} {n : Nat} {u v : World}
theorem Fl.rd (h : Fl w p q d e o a c f n u) : Rd w p q 28 o a c f (some ⟨d, 0, none⟩) n (some ⟨e, 0, none⟩) n u :=
  ⟨h.ob, h.fb, h.st.below h.bel, ⟨rowB_bls h.db, rowB_bls h.eb, by rw [h.dl]; exact Nat.le_refl _, by rw [h.ul]; exact Nat.le_refl _, by have := h.n3; omega, by have := h.n3; omega⟩, h.bel, h.hl⟩
theorem Fl.on (h : Fl w p q d e o a c f n u) (hb : Below u.heap.size u v) : Fl w p q d e o a c f n v :=
  ⟨keepB h.ob hb, keepB h.fb hb, keepB h.db hb, keepB h.eb hb, h.ne, h.bs, h.st, h.hl, bel_on' h.bel hb, h.dl, h.ul, h.n3⟩
theorem Fl.drew (h : Fl w p q d e o a c f n u) : Fl w p q d e o a c f n u.drew :=
  ⟨h.ob, h.fb, h.db, h.eb, h.ne, h.bs, h.st, h.hl, h.bel.drew, h.dl, h.ul, h.n3⟩
theorem off_type {k g : Nat} {cs cs' : Array Value} {t t' : TypeId} {i : Nat} {x : Value} (hk : u.heap[k]? = some (.cells cs t (0, 0))) (hg : u.heap[g]? = some (.cells cs' t' (0, 0))) (ht : t ≠ t') : (u.setCell ⟨g, i, none⟩ x).heap[k]? = some (.cells cs t (0, 0)) := by
  refine (Below.heap_setCell _ _ _ _ (fun e => ?_)).trans hk
  subst e
  rw [hg] at hk
  simp only [Option.some.injEq, Obj.cells.injEq] at hk
  exact ht hk.2.1.symm
theorem Fl.setD (h : Fl w p q d e o a c f n u) (i : Nat) (x : Bool) : Fl w p q d e o a c { f with dn := f.dn.set i x } n (u.setCell ⟨d, i, none⟩ (.bool x)) := by
  refine ⟨off_type h.ob h.db (by decide), ?_, ?_, (Below.heap_setCell _ _ _ _ (fun e => h.ne e.symm)).trans h.eb, h.ne, h.bs, h.st, h.hl, h.bel.setCell (p := ⟨d, i, none⟩) h.bs.2.1 _, by simp [h.dl], h.ul, h.n3⟩
  · have := off_type (i := i) (x := .bool x) h.fb h.db (by decide)
    simpa using this
  · rw [heap_setCell_same _ _ _ _ _ _ h.db, rowB_set]
theorem Fl.setE (h : Fl w p q d e o a c f n u) (i : Nat) (x : Bool) : Fl w p q d e o a c { f with un := f.un.set i x } n (u.setCell ⟨e, i, none⟩ (.bool x)) := by
  refine ⟨off_type h.ob h.eb (by decide), ?_, (Below.heap_setCell _ _ _ _ h.ne).trans h.db, ?_, h.ne, h.bs, h.st, h.hl, h.bel.setCell (p := ⟨e, i, none⟩) h.bs.2.2 _, h.dl, by simp [h.ul], h.n3⟩
  · have := off_type (i := i) (x := .bool x) h.fb h.eb (by decide)
    simpa using this
  · rw [heap_setCell_same _ _ _ _ _ _ h.eb, rowB_set]
theorem Fl.setF (h : Fl w p q d e o a c f n u) (i : Nat) (x : Bool) (f' : Fa) (h1 : f'.dn = f.dn) (h2 : f'.un = f.un)
    (hc : (#[.slice (some ⟨d, 0, none⟩) f.dn.length n, .slice (some ⟨e, 0, none⟩) f.un.length n, .bool f.asked, .bool f.yes, .bool f.turned, .bool f.k0, .bool f.k1, .bool f.ship, .bool f.d0, .bool f.d1, .bool f.acc] : Array Value).setIfInBounds i (.bool x) = #[.slice (some ⟨d, 0, none⟩) f'.dn.length n, .slice (some ⟨e, 0, none⟩) f'.un.length n, .bool f'.asked, .bool f'.yes, .bool f'.turned, .bool f'.k0, .bool f'.k1, .bool f'.ship, .bool f'.d0, .bool f'.d1, .bool f'.acc]) : Fl w p q d e o a c f' n (u.setCell ⟨q, i, none⟩ (.bool x)) := by
  refine ⟨off_type h.ob h.fb (by decide), ?_, ?_, ?_, h.ne, h.bs, h.st, h.hl, h.bel.setCell (p := ⟨q, i, none⟩) h.bs.1 _, by rw [h1]; exact h.dl, by rw [h2]; exact h.ul, h.n3⟩
  · rw [heap_setCell_same _ _ _ _ _ _ h.fb, hc]
  · rw [h1]; exact off_type h.db h.fb (by decide)
  · rw [h2]; exact off_type h.eb h.fb (by decide)
theorem Fl.frzD (h : Fl w p q d e o a c f n u) (i : Nat) : u.frozen? ⟨d, i, none⟩ = false := frozen_of_row _ _ _ _ _ h.db
theorem Fl.frzE (h : Fl w p q d e o a c f n u) (i : Nat) : u.frozen? ⟨e, i, none⟩ = false := frozen_of_row _ _ _ _ _ h.eb
theorem Fl.frzF (h : Fl w p q d e o a c f n u) (i : Nat) : u.frozen? ⟨q, i, none⟩ = false := frozen_of_row _ _ _ _ _ h.fb
theorem Fl.cellD (h : Fl w p q d e o a c f n u) {i : Nat} {x : Bool} (hi : f.dn[i]? = some x) : u.cell? ⟨d, i, none⟩ = some (.bool x) := by
  rw [cell_of h.db]; unfold rowB; simp [hi]
theorem Fl.cellE (h : Fl w p q d e o a c f n u) {i : Nat} {x : Bool} (hi : f.un[i]? = some x) : u.cell? ⟨e, i, none⟩ = some (.bool x) := by
  rw [cell_of h.eb]; unfold rowB; simp [hi]
end
end Go.Proofs.Ytinbmnefdhkdfaa
