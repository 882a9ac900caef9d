/-
  Contracts of package saga over facts of the law's own.
-/
import Derived.Test.YtinbmnefdhkdfaaSgbL
import Derived.Test.YtinbmnefdhkdfaaSgbW
import Derived.Test.YtinbmnefdhkdfaaSgbM
namespace Go.Proofs.Ytinbmnefdhkdfaa
open Go.ChangeShapes Go.WideShapes Go.ChangeAt Go.RowKit

section
variable {w : World} {p q d e : Nat} {o : Od} {a : Option Addr} {c : Nat} {f : Fa} {n : Nat} {u : World}
theorem Fl.cells (h : Fl w p q d e o a c f n u) :
    (u.cell? ⟨p, 0, none⟩ = some (.int .i64 o.id) ∧ u.cell? ⟨p, 1, none⟩ = some (.int .i64 o.item) ∧ u.cell? ⟨p, 2, none⟩ = some (.int .i64 o.qty) ∧ u.cell? ⟨p, 3, none⟩ = some (.int .i64 o.client) ∧ u.cell? ⟨p, 4, none⟩ = some (.int .i64 o.price) ∧ u.cell? ⟨p, 5, none⟩ = some (.slice a o.steps.length c)) ∧
    u.cell? ⟨q, 0, none⟩ = some (.slice (some ⟨d, 0, none⟩) n n) ∧ u.cell? ⟨q, 1, none⟩ = some (.slice (some ⟨e, 0, none⟩) n n) ∧ u.cell? ⟨q, 2, none⟩ = some (.bool f.asked) ∧ u.cell? ⟨q, 3, none⟩ = some (.bool f.yes) ∧ u.cell? ⟨q, 4, none⟩ = some (.bool f.turned) ∧ u.cell? ⟨q, 5, none⟩ = some (.bool f.k0) ∧ u.cell? ⟨q, 6, none⟩ = some (.bool f.k1) ∧ u.cell? ⟨q, 7, none⟩ = some (.bool f.ship) ∧ u.cell? ⟨q, 8, none⟩ = some (.bool f.d0) ∧ u.cell? ⟨q, 9, none⟩ = some (.bool f.d1) ∧ u.cell? ⟨q, 10, none⟩ = some (.bool f.acc) := by
  have := h.rd.cells
  rw [h.dl, h.ul] at this
  exact this
theorem Fl.far (h : Fl w p q d e o a c f n u) : q ≠ d ∧ q ≠ e := by
  refine ⟨fun h1 => ?_, fun h1 => ?_⟩
  · have h2 := h.fb
    rw [h1, h.db] at h2
    simp only [Option.some.injEq, Obj.cells.injEq] at h2
    exact absurd h2.2.1 (by decide)
  · have h2 := h.fb
    rw [h1, h.eb] at h2
    simp only [Option.some.injEq, Obj.cells.injEq] at h2
    exact absurd h2.2.1 (by decide)
theorem Fl.next (h : Fl w p q d e o a c f n u) : Calls Try.prog 19 #[.agg #[.int .i64 o.id, .int .i64 o.item, .int .i64 o.qty, .int .i64 o.client, .int .i64 o.price, .slice a o.steps.length c], .agg #[.slice (some ⟨d, 0, none⟩) n n, .slice (some ⟨e, 0, none⟩) n n, .bool f.asked, .bool f.yes, .bool f.turned, .bool f.k0, .bool f.k1, .bool f.ship, .bool f.d0, .bool f.d1, .bool f.acc]] u (OwnM u (nextF o f)) := by
  have := snext_any o a c f (some ⟨d, 0, none⟩) n (some ⟨e, 0, none⟩) n u h.rd.st h.hl h.rd.fi
  rw [h.dl, h.ul] at this
  exact this
theorem Fl.state (h : Fl w p q d e o a c f n u) : Calls Try.prog 14 #[.agg #[.int .i64 o.id, .int .i64 o.item, .int .i64 o.qty, .int .i64 o.client, .int .i64 o.price, .slice a o.steps.length c], .agg #[.slice (some ⟨d, 0, none⟩) n n, .slice (some ⟨e, 0, none⟩) n n, .bool f.asked, .bool f.yes, .bool f.turned, .bool f.k0, .bool f.k1, .bool f.ship, .bool f.d0, .bool f.d1, .bool f.acc]] u fun e w' => e = .returned (.int .i64 (stF o f)) ∧ Below u.heap.size u w' := by
  have := sstate_any o a c f (some ⟨d, 0, none⟩) n (some ⟨e, 0, none⟩) n u h.rd.st h.hl h.rd.fi
  rw [h.dl, h.ul] at this
  exact this
theorem Fl.may (h : Fl w p q d e o a c f n u) : Calls Try.prog 12 #[.agg #[.int .i64 o.id, .int .i64 o.item, .int .i64 o.qty, .int .i64 o.client, .int .i64 o.price, .slice a o.steps.length c], .agg #[.slice (some ⟨d, 0, none⟩) n n, .slice (some ⟨e, 0, none⟩) n n, .bool f.asked, .bool f.yes, .bool f.turned, .bool f.k0, .bool f.k1, .bool f.ship, .bool f.d0, .bool f.d1, .bool f.acc]] u fun e w' => e = .returned (.bool (mayF o f)) ∧ Below u.heap.size u w' := by
  have := smay_any o a c f (some ⟨d, 0, none⟩) n (some ⟨e, 0, none⟩) n u h.rd.st h.hl h.rd.fi
  rw [h.dl, h.ul] at this
  exact this
theorem Fl.over (h : Fl w p q d e o a c f n u) : Calls Try.prog 16 #[.agg #[.int .i64 o.id, .int .i64 o.item, .int .i64 o.qty, .int .i64 o.client, .int .i64 o.price, .slice a o.steps.length c], .agg #[.slice (some ⟨d, 0, none⟩) n n, .slice (some ⟨e, 0, none⟩) n n, .bool f.asked, .bool f.yes, .bool f.turned, .bool f.k0, .bool f.k1, .bool f.ship, .bool f.d0, .bool f.d1, .bool f.acc]] u fun e w' => e = .returned (.bool (overF o f)) ∧ Below u.heap.size u w' := by
  have := sover_any o a c f (some ⟨d, 0, none⟩) n (some ⟨e, 0, none⟩) n u h.rd.st h.hl h.rd.fi
  rw [h.dl, h.ul] at this
  exact this
end
/-- The cells of a message at the front of a row, at the second place. -/
theorem Mgs.one {w : World} {a : Option Addr} {l : List Mg} {m : Mg} (h : Mgs w a l) (hm : l[0]? = some m) : ∃ b off, a = some ⟨b, off, none⟩ ∧
    w.cell? ⟨b, off, none⟩ = some (.int .i64 m.k) ∧ w.cell? ⟨b, off + 1, none⟩ = some (.int .i64 m.fr) ∧ w.cell? ⟨b, off + 2, none⟩ = some (.int .i64 m.to) ∧ w.cell? ⟨b, off + 3, none⟩ = some (.int .i64 m.id) ∧ w.cell? ⟨b, off + 4, none⟩ = some (.int .i64 m.st) ∧ w.cell? ⟨b, off + 5, none⟩ = some (.int .i64 m.a) ∧ w.cell? ⟨b, off + 6, none⟩ = some (.int .i64 m.b) := by
  have := h.get hm
  simpa only [Nat.zero_mul, Nat.add_zero] using this
theorem Mgs.two {w : World} {b off : Nat} {l : List Mg} {m : Mg} (h : Mgs w (some ⟨b, off, none⟩) l) (hm : l[1]? = some m) :
    w.cell? ⟨b, off + 7, none⟩ = some (.int .i64 m.k) ∧ w.cell? ⟨b, off + 7 + 1, none⟩ = some (.int .i64 m.fr) ∧ w.cell? ⟨b, off + 7 + 2, none⟩ = some (.int .i64 m.to) ∧ w.cell? ⟨b, off + 7 + 3, none⟩ = some (.int .i64 m.id) ∧ w.cell? ⟨b, off + 7 + 4, none⟩ = some (.int .i64 m.st) ∧ w.cell? ⟨b, off + 7 + 5, none⟩ = some (.int .i64 m.a) ∧ w.cell? ⟨b, off + 7 + 6, none⟩ = some (.int .i64 m.b) := by
  obtain ⟨b', off', e, h2⟩ := h.get hm
  cases e
  simpa only [Nat.one_mul] using h2
end Go.Proofs.Ytinbmnefdhkdfaa
