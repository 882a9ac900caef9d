/-
  Facts of the law's own, just made: in whatever order their parts were laid.
-/
import Derived.Test.YtinbmnefdhkdfaaSgbN
import Derived.Test.YtinbmnefdhkdfaaSgaP
namespace Go.Proofs.Ytinbmnefdhkdfaa
open Go.ChangeShapes Go.WideShapes Go.ChangeAt Go.RowKit

theorem cellAl {u : World} {o : Obj} {a : Addr} {v : Value} (h : u.cell? a = some v) : (u.alloc o).cell? a = some v := (World.cell?_alloc_some _ _ _ (by rw [h]; rfl)).trans h
theorem cellDr {u : World} {a : Addr} {v : Value} (h : u.cell? a = some v) : u.drew.cell? a = some v := h
theorem flg_deq {w u : World} {o0 : Od} {a0 : Option Addr} {cap0 : Nat} (f : Fa) (hd : f.dn = List.replicate o0.steps.length false) (hu' : f.un = List.replicate o0.steps.length false) (h : Rq w o0 a0 cap0 u) (hs : Sts w a0 o0.steps) (hl : o0.steps.length ≤ 9223372036854775807) (h3 : o0.steps.length ≤ 3) : Fl w w.heap.size (u.heap.size + 1 + 1) (u.heap.size) (u.heap.size + 1) o0 a0 cap0 f o0.steps.length (((u.alloc (.cells (rowB (List.replicate o0.steps.length false)) 4)).alloc (.cells (rowB (List.replicate o0.steps.length false)) 4)).alloc (.cells #[.slice (some ⟨u.heap.size, 0, none⟩) o0.steps.length o0.steps.length, .slice (some ⟨u.heap.size + 1, 0, none⟩) o0.steps.length o0.steps.length, .bool f.asked, .bool f.yes, .bool f.turned, .bool f.k0, .bool f.k1, .bool f.ship, .bool f.d0, .bool f.d1, .bool f.acc] 28)).drew := by
  have hal := allocs_at [.cells (rowB (List.replicate o0.steps.length false)) 4 (0, 0), .cells (rowB (List.replicate o0.steps.length false)) 4 (0, 0), .cells #[.slice (some ⟨u.heap.size, 0, none⟩) o0.steps.length o0.steps.length, .slice (some ⟨u.heap.size + 1, 0, none⟩) o0.steps.length o0.steps.length, .bool f.asked, .bool f.yes, .bool f.turned, .bool f.k0, .bool f.k1, .bool f.ship, .bool f.d0, .bool f.d1, .bool f.acc] 28 (0, 0)] u
  have hB : Below u.heap.size u (allocs u [.cells (rowB (List.replicate o0.steps.length false)) 4 (0, 0), .cells (rowB (List.replicate o0.steps.length false)) 4 (0, 0), .cells #[.slice (some ⟨u.heap.size, 0, none⟩) o0.steps.length o0.steps.length, .slice (some ⟨u.heap.size + 1, 0, none⟩) o0.steps.length o0.steps.length, .bool f.asked, .bool f.yes, .bool f.turned, .bool f.k0, .bool f.k1, .bool f.ship, .bool f.d0, .bool f.d1, .bool f.acc] 28 (0, 0)]).drew := (allocs_below _ u).drew
  have hu := h.bel.size
  have e1 : f.dn.length = o0.steps.length := by rw [hd]; simp
  have e2 : f.un.length = o0.steps.length := by rw [hu']; simp
  refine ⟨keepB h.ob hB, ?_, ?_, ?_, by omega, ⟨by omega, by omega, by omega⟩, hs, hl, bel_on' h.bel hB, e1, e2, h3⟩
  · rw [e1, e2]
    exact at_drew (hal 2 _ rfl)
  · rw [hd]; exact at_drew (hal 0 _ rfl)
  · rw [hu']; exact at_drew (hal 1 _ rfl)
theorem flg_dqe {w u : World} {o0 : Od} {a0 : Option Addr} {cap0 : Nat} (f : Fa) (hd : f.dn = List.replicate o0.steps.length false) (hu' : f.un = List.replicate o0.steps.length false) (h : Rq w o0 a0 cap0 u) (hs : Sts w a0 o0.steps) (hl : o0.steps.length ≤ 9223372036854775807) (h3 : o0.steps.length ≤ 3) : Fl w w.heap.size (u.heap.size + 1) (u.heap.size) (u.heap.size + 1 + 1) o0 a0 cap0 f o0.steps.length (((u.alloc (.cells (rowB (List.replicate o0.steps.length false)) 4)).alloc (.cells #[.slice (some ⟨u.heap.size, 0, none⟩) o0.steps.length o0.steps.length, .slice (some ⟨u.heap.size + 1 + 1, 0, none⟩) o0.steps.length o0.steps.length, .bool f.asked, .bool f.yes, .bool f.turned, .bool f.k0, .bool f.k1, .bool f.ship, .bool f.d0, .bool f.d1, .bool f.acc] 28)).alloc (.cells (rowB (List.replicate o0.steps.length false)) 4)).drew := by
  have hal := allocs_at [.cells (rowB (List.replicate o0.steps.length false)) 4 (0, 0), .cells #[.slice (some ⟨u.heap.size, 0, none⟩) o0.steps.length o0.steps.length, .slice (some ⟨u.heap.size + 1 + 1, 0, none⟩) o0.steps.length o0.steps.length, .bool f.asked, .bool f.yes, .bool f.turned, .bool f.k0, .bool f.k1, .bool f.ship, .bool f.d0, .bool f.d1, .bool f.acc] 28 (0, 0), .cells (rowB (List.replicate o0.steps.length false)) 4 (0, 0)] u
  have hB : Below u.heap.size u (allocs u [.cells (rowB (List.replicate o0.steps.length false)) 4 (0, 0), .cells #[.slice (some ⟨u.heap.size, 0, none⟩) o0.steps.length o0.steps.length, .slice (some ⟨u.heap.size + 1 + 1, 0, none⟩) o0.steps.length o0.steps.length, .bool f.asked, .bool f.yes, .bool f.turned, .bool f.k0, .bool f.k1, .bool f.ship, .bool f.d0, .bool f.d1, .bool f.acc] 28 (0, 0), .cells (rowB (List.replicate o0.steps.length false)) 4 (0, 0)]).drew := (allocs_below _ u).drew
  have hu := h.bel.size
  have e1 : f.dn.length = o0.steps.length := by rw [hd]; simp
  have e2 : f.un.length = o0.steps.length := by rw [hu']; simp
  refine ⟨keepB h.ob hB, ?_, ?_, ?_, by omega, ⟨by omega, by omega, by omega⟩, hs, hl, bel_on' h.bel hB, e1, e2, h3⟩
  · rw [e1, e2]
    exact at_drew (hal 1 _ rfl)
  · rw [hd]; exact at_drew (hal 0 _ rfl)
  · rw [hu']; exact at_drew (hal 2 _ rfl)
theorem flg_edq {w u : World} {o0 : Od} {a0 : Option Addr} {cap0 : Nat} (f : Fa) (hd : f.dn = List.replicate o0.steps.length false) (hu' : f.un = List.replicate o0.steps.length false) (h : Rq w o0 a0 cap0 u) (hs : Sts w a0 o0.steps) (hl : o0.steps.length ≤ 9223372036854775807) (h3 : o0.steps.length ≤ 3) : Fl w w.heap.size (u.heap.size + 1 + 1) (u.heap.size + 1) (u.heap.size) o0 a0 cap0 f o0.steps.length (((u.alloc (.cells (rowB (List.replicate o0.steps.length false)) 4)).alloc (.cells (rowB (List.replicate o0.steps.length false)) 4)).alloc (.cells #[.slice (some ⟨u.heap.size + 1, 0, none⟩) o0.steps.length o0.steps.length, .slice (some ⟨u.heap.size, 0, none⟩) o0.steps.length o0.steps.length, .bool f.asked, .bool f.yes, .bool f.turned, .bool f.k0, .bool f.k1, .bool f.ship, .bool f.d0, .bool f.d1, .bool f.acc] 28)).drew := by
  have hal := allocs_at [.cells (rowB (List.replicate o0.steps.length false)) 4 (0, 0), .cells (rowB (List.replicate o0.steps.length false)) 4 (0, 0), .cells #[.slice (some ⟨u.heap.size + 1, 0, none⟩) o0.steps.length o0.steps.length, .slice (some ⟨u.heap.size, 0, none⟩) o0.steps.length o0.steps.length, .bool f.asked, .bool f.yes, .bool f.turned, .bool f.k0, .bool f.k1, .bool f.ship, .bool f.d0, .bool f.d1, .bool f.acc] 28 (0, 0)] u
  have hB : Below u.heap.size u (allocs u [.cells (rowB (List.replicate o0.steps.length false)) 4 (0, 0), .cells (rowB (List.replicate o0.steps.length false)) 4 (0, 0), .cells #[.slice (some ⟨u.heap.size + 1, 0, none⟩) o0.steps.length o0.steps.length, .slice (some ⟨u.heap.size, 0, none⟩) o0.steps.length o0.steps.length, .bool f.asked, .bool f.yes, .bool f.turned, .bool f.k0, .bool f.k1, .bool f.ship, .bool f.d0, .bool f.d1, .bool f.acc] 28 (0, 0)]).drew := (allocs_below _ u).drew
  have hu := h.bel.size
  have e1 : f.dn.length = o0.steps.length := by rw [hd]; simp
  have e2 : f.un.length = o0.steps.length := by rw [hu']; simp
  refine ⟨keepB h.ob hB, ?_, ?_, ?_, by omega, ⟨by omega, by omega, by omega⟩, hs, hl, bel_on' h.bel hB, e1, e2, h3⟩
  · rw [e1, e2]
    exact at_drew (hal 2 _ rfl)
  · rw [hd]; exact at_drew (hal 1 _ rfl)
  · rw [hu']; exact at_drew (hal 0 _ rfl)
theorem flg_eqd {w u : World} {o0 : Od} {a0 : Option Addr} {cap0 : Nat} (f : Fa) (hd : f.dn = List.replicate o0.steps.length false) (hu' : f.un = List.replicate o0.steps.length false) (h : Rq w o0 a0 cap0 u) (hs : Sts w a0 o0.steps) (hl : o0.steps.length ≤ 9223372036854775807) (h3 : o0.steps.length ≤ 3) : Fl w w.heap.size (u.heap.size + 1) (u.heap.size + 1 + 1) (u.heap.size) o0 a0 cap0 f o0.steps.length (((u.alloc (.cells (rowB (List.replicate o0.steps.length false)) 4)).alloc (.cells #[.slice (some ⟨u.heap.size + 1 + 1, 0, none⟩) o0.steps.length o0.steps.length, .slice (some ⟨u.heap.size, 0, none⟩) o0.steps.length o0.steps.length, .bool f.asked, .bool f.yes, .bool f.turned, .bool f.k0, .bool f.k1, .bool f.ship, .bool f.d0, .bool f.d1, .bool f.acc] 28)).alloc (.cells (rowB (List.replicate o0.steps.length false)) 4)).drew := by
  have hal := allocs_at [.cells (rowB (List.replicate o0.steps.length false)) 4 (0, 0), .cells #[.slice (some ⟨u.heap.size + 1 + 1, 0, none⟩) o0.steps.length o0.steps.length, .slice (some ⟨u.heap.size, 0, none⟩) o0.steps.length o0.steps.length, .bool f.asked, .bool f.yes, .bool f.turned, .bool f.k0, .bool f.k1, .bool f.ship, .bool f.d0, .bool f.d1, .bool f.acc] 28 (0, 0), .cells (rowB (List.replicate o0.steps.length false)) 4 (0, 0)] u
  have hB : Below u.heap.size u (allocs u [.cells (rowB (List.replicate o0.steps.length false)) 4 (0, 0), .cells #[.slice (some ⟨u.heap.size + 1 + 1, 0, none⟩) o0.steps.length o0.steps.length, .slice (some ⟨u.heap.size, 0, none⟩) o0.steps.length o0.steps.length, .bool f.asked, .bool f.yes, .bool f.turned, .bool f.k0, .bool f.k1, .bool f.ship, .bool f.d0, .bool f.d1, .bool f.acc] 28 (0, 0), .cells (rowB (List.replicate o0.steps.length false)) 4 (0, 0)]).drew := (allocs_below _ u).drew
  have hu := h.bel.size
  have e1 : f.dn.length = o0.steps.length := by rw [hd]; simp
  have e2 : f.un.length = o0.steps.length := by rw [hu']; simp
  refine ⟨keepB h.ob hB, ?_, ?_, ?_, by omega, ⟨by omega, by omega, by omega⟩, hs, hl, bel_on' h.bel hB, e1, e2, h3⟩
  · rw [e1, e2]
    exact at_drew (hal 1 _ rfl)
  · rw [hd]; exact at_drew (hal 2 _ rfl)
  · rw [hu']; exact at_drew (hal 0 _ rfl)
theorem flg_qde {w u : World} {o0 : Od} {a0 : Option Addr} {cap0 : Nat} (f : Fa) (hd : f.dn = List.replicate o0.steps.length false) (hu' : f.un = List.replicate o0.steps.length false) (h : Rq w o0 a0 cap0 u) (hs : Sts w a0 o0.steps) (hl : o0.steps.length ≤ 9223372036854775807) (h3 : o0.steps.length ≤ 3) : Fl w w.heap.size (u.heap.size) (u.heap.size + 1) (u.heap.size + 1 + 1) o0 a0 cap0 f o0.steps.length (((u.alloc (.cells #[.slice (some ⟨u.heap.size + 1, 0, none⟩) o0.steps.length o0.steps.length, .slice (some ⟨u.heap.size + 1 + 1, 0, none⟩) o0.steps.length o0.steps.length, .bool f.asked, .bool f.yes, .bool f.turned, .bool f.k0, .bool f.k1, .bool f.ship, .bool f.d0, .bool f.d1, .bool f.acc] 28)).alloc (.cells (rowB (List.replicate o0.steps.length false)) 4)).alloc (.cells (rowB (List.replicate o0.steps.length false)) 4)).drew := by
  have hal := allocs_at [.cells #[.slice (some ⟨u.heap.size + 1, 0, none⟩) o0.steps.length o0.steps.length, .slice (some ⟨u.heap.size + 1 + 1, 0, none⟩) o0.steps.length o0.steps.length, .bool f.asked, .bool f.yes, .bool f.turned, .bool f.k0, .bool f.k1, .bool f.ship, .bool f.d0, .bool f.d1, .bool f.acc] 28 (0, 0), .cells (rowB (List.replicate o0.steps.length false)) 4 (0, 0), .cells (rowB (List.replicate o0.steps.length false)) 4 (0, 0)] u
  have hB : Below u.heap.size u (allocs u [.cells #[.slice (some ⟨u.heap.size + 1, 0, none⟩) o0.steps.length o0.steps.length, .slice (some ⟨u.heap.size + 1 + 1, 0, none⟩) o0.steps.length o0.steps.length, .bool f.asked, .bool f.yes, .bool f.turned, .bool f.k0, .bool f.k1, .bool f.ship, .bool f.d0, .bool f.d1, .bool f.acc] 28 (0, 0), .cells (rowB (List.replicate o0.steps.length false)) 4 (0, 0), .cells (rowB (List.replicate o0.steps.length false)) 4 (0, 0)]).drew := (allocs_below _ u).drew
  have hu := h.bel.size
  have e1 : f.dn.length = o0.steps.length := by rw [hd]; simp
  have e2 : f.un.length = o0.steps.length := by rw [hu']; simp
  refine ⟨keepB h.ob hB, ?_, ?_, ?_, by omega, ⟨by omega, by omega, by omega⟩, hs, hl, bel_on' h.bel hB, e1, e2, h3⟩
  · rw [e1, e2]
    exact at_drew (hal 0 _ rfl)
  · rw [hd]; exact at_drew (hal 1 _ rfl)
  · rw [hu']; exact at_drew (hal 2 _ rfl)
theorem flg_qed {w u : World} {o0 : Od} {a0 : Option Addr} {cap0 : Nat} (f : Fa) (hd : f.dn = List.replicate o0.steps.length false) (hu' : f.un = List.replicate o0.steps.length false) (h : Rq w o0 a0 cap0 u) (hs : Sts w a0 o0.steps) (hl : o0.steps.length ≤ 9223372036854775807) (h3 : o0.steps.length ≤ 3) : Fl w w.heap.size (u.heap.size) (u.heap.size + 1 + 1) (u.heap.size + 1) o0 a0 cap0 f o0.steps.length (((u.alloc (.cells #[.slice (some ⟨u.heap.size + 1 + 1, 0, none⟩) o0.steps.length o0.steps.length, .slice (some ⟨u.heap.size + 1, 0, none⟩) o0.steps.length o0.steps.length, .bool f.asked, .bool f.yes, .bool f.turned, .bool f.k0, .bool f.k1, .bool f.ship, .bool f.d0, .bool f.d1, .bool f.acc] 28)).alloc (.cells (rowB (List.replicate o0.steps.length false)) 4)).alloc (.cells (rowB (List.replicate o0.steps.length false)) 4)).drew := by
  have hal := allocs_at [.cells #[.slice (some ⟨u.heap.size + 1 + 1, 0, none⟩) o0.steps.length o0.steps.length, .slice (some ⟨u.heap.size + 1, 0, none⟩) o0.steps.length o0.steps.length, .bool f.asked, .bool f.yes, .bool f.turned, .bool f.k0, .bool f.k1, .bool f.ship, .bool f.d0, .bool f.d1, .bool f.acc] 28 (0, 0), .cells (rowB (List.replicate o0.steps.length false)) 4 (0, 0), .cells (rowB (List.replicate o0.steps.length false)) 4 (0, 0)] u
  have hB : Below u.heap.size u (allocs u [.cells #[.slice (some ⟨u.heap.size + 1 + 1, 0, none⟩) o0.steps.length o0.steps.length, .slice (some ⟨u.heap.size + 1, 0, none⟩) o0.steps.length o0.steps.length, .bool f.asked, .bool f.yes, .bool f.turned, .bool f.k0, .bool f.k1, .bool f.ship, .bool f.d0, .bool f.d1, .bool f.acc] 28 (0, 0), .cells (rowB (List.replicate o0.steps.length false)) 4 (0, 0), .cells (rowB (List.replicate o0.steps.length false)) 4 (0, 0)]).drew := (allocs_below _ u).drew
  have hu := h.bel.size
  have e1 : f.dn.length = o0.steps.length := by rw [hd]; simp
  have e2 : f.un.length = o0.steps.length := by rw [hu']; simp
  refine ⟨keepB h.ob hB, ?_, ?_, ?_, by omega, ⟨by omega, by omega, by omega⟩, hs, hl, bel_on' h.bel hB, e1, e2, h3⟩
  · rw [e1, e2]
    exact at_drew (hal 0 _ rfl)
  · rw [hd]; exact at_drew (hal 2 _ rfl)
  · rw [hu']; exact at_drew (hal 1 _ rfl)
end Go.Proofs.Ytinbmnefdhkdfaa
