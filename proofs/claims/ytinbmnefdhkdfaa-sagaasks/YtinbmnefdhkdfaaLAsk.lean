/-
  SagaAsks: ahead of the decision one step is asked for at a time, then both keepers at once.
-/
import Derived.Test.YtinbmnefdhkdfaaSgbW
import Derived.Test.YtinbmnefdhkdfaaSgbD
import Derived.Test.YtinbmnefdhkdfaaSgbM
import Derived.Test.YtinbmnefdhkdfaaSgbN
import Derived.Test.YtinbmnefdhkdfaaSgbE
import Derived.Test.YtinbmnefdhkdfaaOrdF
import Derived.Test.YtinbmnefdhkdfaaNum
import Derived.Test.YtinbmnefdhkdfaaLater
namespace Go.Proofs.Ytinbmnefdhkdfaa
open Go.ChangeShapes Go.WideShapes Go.ChangeAt Go.RowKit

/-- Of n steps the first k are done. -/
def askF (n k : Nat) : Fa := ⟨List.replicate k true ++ List.replicate (n - k) false, List.replicate n false, false, false, false, false, false, false, false, false, false⟩
theorem ask_set {n k : Nat} (hn : n ≤ 3) (hk : k < n) : ({ askF n k with dn := (askF n k).dn.set k true } : Fa) = askF n (k + 1) := by
  obtain rfl | rfl | rfl : n = 1 ∨ n = 2 ∨ n = 3 := by omega
  all_goals (obtain rfl | rfl | rfl : k = 0 ∨ k = 1 ∨ k = 2 := by omega)
  all_goals first | rfl | omega
theorem ask_get {n k : Nat} (hn : n ≤ 3) (hk : k < n) : (askF n k).dn[k]? = some false := by
  obtain rfl | rfl | rfl : n = 1 ∨ n = 2 ∨ n = 3 := by omega
  all_goals (obtain rfl | rfl | rfl : k = 0 ∨ k = 1 ∨ k = 2 := by omega)
  all_goals first | rfl | omega
theorem ask_may {o : Od} {k : Nat} (hm : mayO o = true) (hk : k ≤ o.steps.length) : mayF o (askF o.steps.length k) = true := by
  have h3 := mayO_three hm
  unfold mayF
  rw [hm, decide_eq_true (show (askF o.steps.length k).dn.length = o.steps.length by unfold askF; simp; omega), decide_eq_true (show (askF o.steps.length k).un.length = o.steps.length by unfold askF; simp)]
  generalize o.steps.length = n at *
  obtain rfl | rfl | rfl | rfl : n = 0 ∨ n = 1 ∨ n = 2 ∨ n = 3 := by omega
  all_goals (obtain rfl | rfl | rfl | rfl : k = 0 ∨ k = 1 ∨ k = 2 ∨ k = 3 := by omega)
  all_goals first | rfl | omega
theorem ask_state {o : Od} {k : Nat} (hm : mayO o = true) (hk : k ≤ o.steps.length) : stF o (askF o.steps.length k) = 1 := by
  unfold stF
  rw [ask_may hm hk]
  rfl
theorem ask_next {o : Od} {k : Nat} (hm : mayO o = true) (hk : k ≤ o.steps.length) : nextF o (askF o.steps.length k) = if k < o.steps.length then [doM o k] else prepL o := by
  rw [next_need (ask_may hm hk)]
  have h3 := mayO_three hm
  show askL o (askF o.steps.length k) = _
  have hf : firstF (askF o.steps.length k).dn 0 o.steps.length = if k < o.steps.length then some k else none := by
    generalize o.steps.length = n at *
    obtain rfl | rfl | rfl | rfl : n = 0 ∨ n = 1 ∨ n = 2 ∨ n = 3 := by omega
    all_goals (obtain rfl | rfl | rfl | rfl : k = 0 ∨ k = 1 ∨ k = 2 ∨ k = 3 := by omega)
    all_goals first | rfl | omega
  unfold askL
  rw [hf]
  by_cases h : k < o.steps.length
  · rw [if_pos h, if_pos h]
  · rw [if_neg h, if_neg h]
theorem fl_deq {w u : World} {o0 : Od} {a0 : Option Addr} {cap0 : Nat} (h : Rq w o0 a0 cap0 u) (hs : Sts w a0 o0.steps) (hl : o0.steps.length ≤ 9223372036854775807) (h3 : o0.steps.length ≤ 3) : Fl w w.heap.size (u.heap.size + 1 + 1) (u.heap.size) (u.heap.size + 1) o0 a0 cap0 (askF o0.steps.length 0) o0.steps.length (((u.alloc (.cells (rowB (List.replicate o0.steps.length false)) 4)).alloc (.cells (rowB (List.replicate o0.steps.length false)) 4)).alloc (.cells #[.slice (some ⟨u.heap.size, 0, none⟩) o0.steps.length o0.steps.length, .slice (some ⟨u.heap.size + 1, 0, none⟩) o0.steps.length o0.steps.length, .bool false, .bool false, .bool false, .bool false, .bool false, .bool false, .bool false, .bool false, .bool false] 28)).drew := by
  have hal := allocs_at [.cells (rowB (List.replicate o0.steps.length false)) 4 (0, 0), .cells (rowB (List.replicate o0.steps.length false)) 4 (0, 0), .cells #[.slice (some ⟨u.heap.size, 0, none⟩) o0.steps.length o0.steps.length, .slice (some ⟨u.heap.size + 1, 0, none⟩) o0.steps.length o0.steps.length, .bool false, .bool false, .bool false, .bool false, .bool false, .bool false, .bool false, .bool false, .bool false] 28 (0, 0)] u
  have hB : Below u.heap.size u (allocs u [.cells (rowB (List.replicate o0.steps.length false)) 4 (0, 0), .cells (rowB (List.replicate o0.steps.length false)) 4 (0, 0), .cells #[.slice (some ⟨u.heap.size, 0, none⟩) o0.steps.length o0.steps.length, .slice (some ⟨u.heap.size + 1, 0, none⟩) o0.steps.length o0.steps.length, .bool false, .bool false, .bool false, .bool false, .bool false, .bool false, .bool false, .bool false, .bool false] 28 (0, 0)]).drew := (allocs_below _ u).drew
  have hu := h.bel.size
  have e0 : (askF o0.steps.length 0).dn = List.replicate o0.steps.length false := by unfold askF; simp
  refine ⟨keepB h.ob hB, ?_, ?_, ?_, by omega, ⟨by omega, by omega, by omega⟩, hs, hl, bel_on' h.bel hB, by rw [e0]; simp, by unfold askF; simp, h3⟩
  · have := at_drew (hal 2 _ rfl)
    rw [show (askF o0.steps.length 0).dn.length = o0.steps.length by rw [e0]; simp, show (askF o0.steps.length 0).un.length = o0.steps.length by unfold askF; simp]
    exact this
  · rw [e0]; exact at_drew (hal 0 _ rfl)
  · exact at_drew (hal 1 _ rfl)
theorem fl_dqe {w u : World} {o0 : Od} {a0 : Option Addr} {cap0 : Nat} (h : Rq w o0 a0 cap0 u) (hs : Sts w a0 o0.steps) (hl : o0.steps.length ≤ 9223372036854775807) (h3 : o0.steps.length ≤ 3) : Fl w w.heap.size (u.heap.size + 1) (u.heap.size) (u.heap.size + 1 + 1) o0 a0 cap0 (askF o0.steps.length 0) o0.steps.length (((u.alloc (.cells (rowB (List.replicate o0.steps.length false)) 4)).alloc (.cells #[.slice (some ⟨u.heap.size, 0, none⟩) o0.steps.length o0.steps.length, .slice (some ⟨u.heap.size + 1 + 1, 0, none⟩) o0.steps.length o0.steps.length, .bool false, .bool false, .bool false, .bool false, .bool false, .bool false, .bool false, .bool false, .bool false] 28)).alloc (.cells (rowB (List.replicate o0.steps.length false)) 4)).drew := by
  have hal := allocs_at [.cells (rowB (List.replicate o0.steps.length false)) 4 (0, 0), .cells #[.slice (some ⟨u.heap.size, 0, none⟩) o0.steps.length o0.steps.length, .slice (some ⟨u.heap.size + 1 + 1, 0, none⟩) o0.steps.length o0.steps.length, .bool false, .bool false, .bool false, .bool false, .bool false, .bool false, .bool false, .bool false, .bool false] 28 (0, 0), .cells (rowB (List.replicate o0.steps.length false)) 4 (0, 0)] u
  have hB : Below u.heap.size u (allocs u [.cells (rowB (List.replicate o0.steps.length false)) 4 (0, 0), .cells #[.slice (some ⟨u.heap.size, 0, none⟩) o0.steps.length o0.steps.length, .slice (some ⟨u.heap.size + 1 + 1, 0, none⟩) o0.steps.length o0.steps.length, .bool false, .bool false, .bool false, .bool false, .bool false, .bool false, .bool false, .bool false, .bool false] 28 (0, 0), .cells (rowB (List.replicate o0.steps.length false)) 4 (0, 0)]).drew := (allocs_below _ u).drew
  have hu := h.bel.size
  have e0 : (askF o0.steps.length 0).dn = List.replicate o0.steps.length false := by unfold askF; simp
  refine ⟨keepB h.ob hB, ?_, ?_, ?_, by omega, ⟨by omega, by omega, by omega⟩, hs, hl, bel_on' h.bel hB, by rw [e0]; simp, by unfold askF; simp, h3⟩
  · have := at_drew (hal 1 _ rfl)
    rw [show (askF o0.steps.length 0).dn.length = o0.steps.length by rw [e0]; simp, show (askF o0.steps.length 0).un.length = o0.steps.length by unfold askF; simp]
    exact this
  · rw [e0]; exact at_drew (hal 0 _ rfl)
  · exact at_drew (hal 2 _ rfl)
theorem fl_edq {w u : World} {o0 : Od} {a0 : Option Addr} {cap0 : Nat} (h : Rq w o0 a0 cap0 u) (hs : Sts w a0 o0.steps) (hl : o0.steps.length ≤ 9223372036854775807) (h3 : o0.steps.length ≤ 3) : Fl w w.heap.size (u.heap.size + 1 + 1) (u.heap.size + 1) (u.heap.size) o0 a0 cap0 (askF o0.steps.length 0) o0.steps.length (((u.alloc (.cells (rowB (List.replicate o0.steps.length false)) 4)).alloc (.cells (rowB (List.replicate o0.steps.length false)) 4)).alloc (.cells #[.slice (some ⟨u.heap.size + 1, 0, none⟩) o0.steps.length o0.steps.length, .slice (some ⟨u.heap.size, 0, none⟩) o0.steps.length o0.steps.length, .bool false, .bool false, .bool false, .bool false, .bool false, .bool false, .bool false, .bool false, .bool false] 28)).drew := by
  have hal := allocs_at [.cells (rowB (List.replicate o0.steps.length false)) 4 (0, 0), .cells (rowB (List.replicate o0.steps.length false)) 4 (0, 0), .cells #[.slice (some ⟨u.heap.size + 1, 0, none⟩) o0.steps.length o0.steps.length, .slice (some ⟨u.heap.size, 0, none⟩) o0.steps.length o0.steps.length, .bool false, .bool false, .bool false, .bool false, .bool false, .bool false, .bool false, .bool false, .bool false] 28 (0, 0)] u
  have hB : Below u.heap.size u (allocs u [.cells (rowB (List.replicate o0.steps.length false)) 4 (0, 0), .cells (rowB (List.replicate o0.steps.length false)) 4 (0, 0), .cells #[.slice (some ⟨u.heap.size + 1, 0, none⟩) o0.steps.length o0.steps.length, .slice (some ⟨u.heap.size, 0, none⟩) o0.steps.length o0.steps.length, .bool false, .bool false, .bool false, .bool false, .bool false, .bool false, .bool false, .bool false, .bool false] 28 (0, 0)]).drew := (allocs_below _ u).drew
  have hu := h.bel.size
  have e0 : (askF o0.steps.length 0).dn = List.replicate o0.steps.length false := by unfold askF; simp
  refine ⟨keepB h.ob hB, ?_, ?_, ?_, by omega, ⟨by omega, by omega, by omega⟩, hs, hl, bel_on' h.bel hB, by rw [e0]; simp, by unfold askF; simp, h3⟩
  · have := at_drew (hal 2 _ rfl)
    rw [show (askF o0.steps.length 0).dn.length = o0.steps.length by rw [e0]; simp, show (askF o0.steps.length 0).un.length = o0.steps.length by unfold askF; simp]
    exact this
  · rw [e0]; exact at_drew (hal 1 _ rfl)
  · exact at_drew (hal 0 _ rfl)
theorem fl_eqd {w u : World} {o0 : Od} {a0 : Option Addr} {cap0 : Nat} (h : Rq w o0 a0 cap0 u) (hs : Sts w a0 o0.steps) (hl : o0.steps.length ≤ 9223372036854775807) (h3 : o0.steps.length ≤ 3) : Fl w w.heap.size (u.heap.size + 1) (u.heap.size + 1 + 1) (u.heap.size) o0 a0 cap0 (askF o0.steps.length 0) o0.steps.length (((u.alloc (.cells (rowB (List.replicate o0.steps.length false)) 4)).alloc (.cells #[.slice (some ⟨u.heap.size + 1 + 1, 0, none⟩) o0.steps.length o0.steps.length, .slice (some ⟨u.heap.size, 0, none⟩) o0.steps.length o0.steps.length, .bool false, .bool false, .bool false, .bool false, .bool false, .bool false, .bool false, .bool false, .bool false] 28)).alloc (.cells (rowB (List.replicate o0.steps.length false)) 4)).drew := by
  have hal := allocs_at [.cells (rowB (List.replicate o0.steps.length false)) 4 (0, 0), .cells #[.slice (some ⟨u.heap.size + 1 + 1, 0, none⟩) o0.steps.length o0.steps.length, .slice (some ⟨u.heap.size, 0, none⟩) o0.steps.length o0.steps.length, .bool false, .bool false, .bool false, .bool false, .bool false, .bool false, .bool false, .bool false, .bool false] 28 (0, 0), .cells (rowB (List.replicate o0.steps.length false)) 4 (0, 0)] u
  have hB : Below u.heap.size u (allocs u [.cells (rowB (List.replicate o0.steps.length false)) 4 (0, 0), .cells #[.slice (some ⟨u.heap.size + 1 + 1, 0, none⟩) o0.steps.length o0.steps.length, .slice (some ⟨u.heap.size, 0, none⟩) o0.steps.length o0.steps.length, .bool false, .bool false, .bool false, .bool false, .bool false, .bool false, .bool false, .bool false, .bool false] 28 (0, 0), .cells (rowB (List.replicate o0.steps.length false)) 4 (0, 0)]).drew := (allocs_below _ u).drew
  have hu := h.bel.size
  have e0 : (askF o0.steps.length 0).dn = List.replicate o0.steps.length false := by unfold askF; simp
  refine ⟨keepB h.ob hB, ?_, ?_, ?_, by omega, ⟨by omega, by omega, by omega⟩, hs, hl, bel_on' h.bel hB, by rw [e0]; simp, by unfold askF; simp, h3⟩
  · have := at_drew (hal 1 _ rfl)
    rw [show (askF o0.steps.length 0).dn.length = o0.steps.length by rw [e0]; simp, show (askF o0.steps.length 0).un.length = o0.steps.length by unfold askF; simp]
    exact this
  · rw [e0]; exact at_drew (hal 2 _ rfl)
  · exact at_drew (hal 0 _ rfl)
theorem fl_qde {w u : World} {o0 : Od} {a0 : Option Addr} {cap0 : Nat} (h : Rq w o0 a0 cap0 u) (hs : Sts w a0 o0.steps) (hl : o0.steps.length ≤ 9223372036854775807) (h3 : o0.steps.length ≤ 3) : Fl w w.heap.size (u.heap.size) (u.heap.size + 1) (u.heap.size + 1 + 1) o0 a0 cap0 (askF o0.steps.length 0) o0.steps.length (((u.alloc (.cells #[.slice (some ⟨u.heap.size + 1, 0, none⟩) o0.steps.length o0.steps.length, .slice (some ⟨u.heap.size + 1 + 1, 0, none⟩) o0.steps.length o0.steps.length, .bool false, .bool false, .bool false, .bool false, .bool false, .bool false, .bool false, .bool false, .bool false] 28)).alloc (.cells (rowB (List.replicate o0.steps.length false)) 4)).alloc (.cells (rowB (List.replicate o0.steps.length false)) 4)).drew := by
  have hal := allocs_at [.cells #[.slice (some ⟨u.heap.size + 1, 0, none⟩) o0.steps.length o0.steps.length, .slice (some ⟨u.heap.size + 1 + 1, 0, none⟩) o0.steps.length o0.steps.length, .bool false, .bool false, .bool false, .bool false, .bool false, .bool false, .bool false, .bool false, .bool false] 28 (0, 0), .cells (rowB (List.replicate o0.steps.length false)) 4 (0, 0), .cells (rowB (List.replicate o0.steps.length false)) 4 (0, 0)] u
  have hB : Below u.heap.size u (allocs u [.cells #[.slice (some ⟨u.heap.size + 1, 0, none⟩) o0.steps.length o0.steps.length, .slice (some ⟨u.heap.size + 1 + 1, 0, none⟩) o0.steps.length o0.steps.length, .bool false, .bool false, .bool false, .bool false, .bool false, .bool false, .bool false, .bool false, .bool false] 28 (0, 0), .cells (rowB (List.replicate o0.steps.length false)) 4 (0, 0), .cells (rowB (List.replicate o0.steps.length false)) 4 (0, 0)]).drew := (allocs_below _ u).drew
  have hu := h.bel.size
  have e0 : (askF o0.steps.length 0).dn = List.replicate o0.steps.length false := by unfold askF; simp
  refine ⟨keepB h.ob hB, ?_, ?_, ?_, by omega, ⟨by omega, by omega, by omega⟩, hs, hl, bel_on' h.bel hB, by rw [e0]; simp, by unfold askF; simp, h3⟩
  · have := at_drew (hal 0 _ rfl)
    rw [show (askF o0.steps.length 0).dn.length = o0.steps.length by rw [e0]; simp, show (askF o0.steps.length 0).un.length = o0.steps.length by unfold askF; simp]
    exact this
  · rw [e0]; exact at_drew (hal 1 _ rfl)
  · exact at_drew (hal 2 _ rfl)
theorem fl_qed {w u : World} {o0 : Od} {a0 : Option Addr} {cap0 : Nat} (h : Rq w o0 a0 cap0 u) (hs : Sts w a0 o0.steps) (hl : o0.steps.length ≤ 9223372036854775807) (h3 : o0.steps.length ≤ 3) : Fl w w.heap.size (u.heap.size) (u.heap.size + 1 + 1) (u.heap.size + 1) o0 a0 cap0 (askF o0.steps.length 0) o0.steps.length (((u.alloc (.cells #[.slice (some ⟨u.heap.size + 1 + 1, 0, none⟩) o0.steps.length o0.steps.length, .slice (some ⟨u.heap.size + 1, 0, none⟩) o0.steps.length o0.steps.length, .bool false, .bool false, .bool false, .bool false, .bool false, .bool false, .bool false, .bool false, .bool false] 28)).alloc (.cells (rowB (List.replicate o0.steps.length false)) 4)).alloc (.cells (rowB (List.replicate o0.steps.length false)) 4)).drew := by
  have hal := allocs_at [.cells #[.slice (some ⟨u.heap.size + 1 + 1, 0, none⟩) o0.steps.length o0.steps.length, .slice (some ⟨u.heap.size + 1, 0, none⟩) o0.steps.length o0.steps.length, .bool false, .bool false, .bool false, .bool false, .bool false, .bool false, .bool false, .bool false, .bool false] 28 (0, 0), .cells (rowB (List.replicate o0.steps.length false)) 4 (0, 0), .cells (rowB (List.replicate o0.steps.length false)) 4 (0, 0)] u
  have hB : Below u.heap.size u (allocs u [.cells #[.slice (some ⟨u.heap.size + 1 + 1, 0, none⟩) o0.steps.length o0.steps.length, .slice (some ⟨u.heap.size + 1, 0, none⟩) o0.steps.length o0.steps.length, .bool false, .bool false, .bool false, .bool false, .bool false, .bool false, .bool false, .bool false, .bool false] 28 (0, 0), .cells (rowB (List.replicate o0.steps.length false)) 4 (0, 0), .cells (rowB (List.replicate o0.steps.length false)) 4 (0, 0)]).drew := (allocs_below _ u).drew
  have hu := h.bel.size
  have e0 : (askF o0.steps.length 0).dn = List.replicate o0.steps.length false := by unfold askF; simp
  refine ⟨keepB h.ob hB, ?_, ?_, ?_, by omega, ⟨by omega, by omega, by omega⟩, hs, hl, bel_on' h.bel hB, by rw [e0]; simp, by unfold askF; simp, h3⟩
  · have := at_drew (hal 0 _ rfl)
    rw [show (askF o0.steps.length 0).dn.length = o0.steps.length by rw [e0]; simp, show (askF o0.steps.length 0).un.length = o0.steps.length by unfold askF; simp]
    exact this
  · rw [e0]; exact at_drew (hal 2 _ rfl)
  · exact at_drew (hal 1 _ rfl)

set_option maxRecDepth 100000 in
set_option maxHeartbeats 8000000 in
theorem sagaAsks_walk (o0 : Od) (a0 : Option Addr) (cap0 : Nat) (a1 : Int) (w : World) (w0 : OdIn w o0 a0 cap0) (_w1 : (Lit.int .i64 a1).wf = true) :
    Calls Try.prog 7 #[.agg #[.int .i64 o0.id, .int .i64 o0.item, .int .i64 o0.qty, .int .i64 o0.client, .int .i64 o0.price, .slice a0 o0.steps.length cap0], .int .i64 a1] w fun e w' => e = .returned (.bool true) ∧ Below w.heap.size w w' := by
  have HR := Rq.new (w := w) (o := o0) (a := a0) (c := cap0)
  have MY : ∀ u, Rq w o0 a0 cap0 u → Calls Try.prog 21 #[.agg #[.int .i64 o0.id, .int .i64 o0.item, .int .i64 o0.qty, .int .i64 o0.client, .int .i64 o0.price, .slice a0 o0.steps.length cap0]] u fun e w' => e = .returned (.bool (mayO o0)) ∧ Below u.heap.size u w' := fun u h => ref_omay_any o0 a0 cap0 u (w0.2.1.below h.bel) w0.1 w0.2.2.2
  by_cases h10 : (o0.steps.length : Int) > 10
  · go_enter Try.func7, Try.ntmps7
    go_wp2_with (go_at_call 10; refine (gawake_any _).mono ?_; rintro e u3 ⟨rfl, hb⟩; replace HR := HR.on hb)
    go_ret
    exact ⟨rfl, HR.bel⟩
  cases hm : mayO o0
  · rw [hm] at MY
    go_enter Try.func7, Try.ntmps7
    go_wp2_with (first
      | (go_at_call 21; (with_reducible refine (MY _ HR).mono ?_); rintro e u ⟨rfl, hb⟩; replace HR := HR.on hb)
      | (go_at_call 10; refine (gawake_any _).mono ?_; rintro e u3 ⟨rfl, hb⟩; replace HR := HR.on hb))
    go_ret
    exact ⟨rfl, HR.bel⟩
  rw [hm] at MY
  go_enter Try.func7, Try.ntmps7
  go_wp2_with (first
    | (go_at_call 21; (with_reducible refine (MY _ HR).mono ?_); rintro e u ⟨rfl, hb⟩; replace HR := HR.on hb; clear hb; obtain ⟨d0, d1, d2, d3, d4, d5⟩ := six_cells HR.ob))
  have hn3 := mayO_three hm
  have hmk := make_row o0.steps.length hn3
  have hk := um_bd a1 ((o0.steps.length : Int) + 1) (by omega) (by omega)
  unfold um at hk
  obtain ⟨K, hK⟩ : ∃ K, wrap64 ((IntKind.u64.wrap a1).tmod ((o0.steps.length : Int) + 1)) = K := ⟨_, rfl⟩
  rw [hK] at hk ⊢
  clear hK
  have HST := hide w0.2.1
  have HLN := hide w0.1
  have HMY := hide hm
  clear w0 hm MY
  refine region_via (fun a' W => ∃ q d e, a' = { tmps := #[Value.agg #[Value.int IntKind.i64 o0.id, Value.int IntKind.i64 o0.item, Value.int IntKind.i64 o0.qty, Value.int IntKind.i64 o0.client, Value.int IntKind.i64 o0.price, Value.slice a0 o0.steps.length cap0], Value.int IntKind.i64 K, Value.pointer (some { block := w.heap.size, off := 0 }), undef, Value.bool false, Value.int IntKind.i64 (o0.steps.length : Int), Value.pointer (some { block := q, off := 0 }), undef, undef, Value.pointer (some { block := w.heap.size, off := 5 }), Value.slice a0 o0.steps.length cap0, Value.int IntKind.i64 (o0.steps.length : Int), Value.bool false, Value.bool false, Value.agg #[Value.int IntKind.i64 o0.id, Value.int IntKind.i64 o0.item, Value.int IntKind.i64 o0.qty, Value.int IntKind.i64 o0.client, Value.int IntKind.i64 o0.price, Value.slice a0 o0.steps.length cap0], Value.bool true, Value.bool false, Value.bool false, undef, Value.pointer (some { block := w.heap.size, off := 5 }), Value.slice a0 o0.steps.length cap0, Value.int IntKind.i64 (o0.steps.length : Int), Value.int IntKind.i64 a1, Value.int IntKind.u64 (IntKind.u64.wrap a1), Value.int IntKind.i64 (o0.steps.length : Int), Value.int IntKind.i64 ((o0.steps.length : Int) + 1), Value.int IntKind.u64 ((o0.steps.length : Int) + 1), Value.int IntKind.u64 ((IntKind.u64.wrap a1).tmod ((o0.steps.length : Int) + 1)), Value.int IntKind.i64 K, Value.int IntKind.i64 (o0.steps.length : Int), Value.slice (some { block := d, off := 0 }) o0.steps.length o0.steps.length, Value.int IntKind.i64 (o0.steps.length : Int), Value.slice (some { block := e, off := 0 }) o0.steps.length o0.steps.length, Value.agg #[Value.slice (some { block := d, off := 0 }) o0.steps.length o0.steps.length, Value.slice (some { block := e, off := 0 }) o0.steps.length o0.steps.length, Value.bool false, Value.bool false, Value.bool false, Value.bool false, Value.bool false, Value.bool false, Value.bool false, Value.bool false, Value.bool false], undef, undef, undef, undef, undef, undef, undef, undef, undef, undef, undef, undef, undef, undef, undef, undef, undef, undef, undef, undef, undef, undef, undef, undef, undef, undef, undef, undef, undef, undef, undef, undef, undef, undef, undef, undef, undef, undef, undef, undef, undef, undef, undef, undef, undef, undef, undef, undef, undef, undef, undef, undef, undef, undef, undef, undef, undef, undef, undef, undef, undef, undef, undef, undef, undef, undef, undef, undef, undef, undef, undef, undef, undef, undef, undef, undef, undef, undef, undef, undef, undef], defers := [] } ∧ Fl w w.heap.size q d e o0 a0 cap0 (askF o0.steps.length 0) o0.steps.length W) ?_ ?_
  · go_region
    all_goals first
      | exact ⟨rfl, _, _, _, rfl, fl_deq HR HST.out HLN.out hn3⟩
      | exact ⟨rfl, _, _, _, rfl, fl_dqe HR HST.out HLN.out hn3⟩
      | exact ⟨rfl, _, _, _, rfl, fl_edq HR HST.out HLN.out hn3⟩
      | exact ⟨rfl, _, _, _, rfl, fl_eqd HR HST.out HLN.out hn3⟩
      | exact ⟨rfl, _, _, _, rfl, fl_qde HR HST.out HLN.out hn3⟩
      | exact ⟨rfl, _, _, _, rfl, fl_qed HR HST.out HLN.out hn3⟩
  · rintro a' W ⟨q, d, e, rfl, HL⟩
    clear d0 d1 d2 d3 d4 d5 hmk
    obtain ⟨k, rfl⟩ : ∃ k : Nat, K = (k : Int) := ⟨K.toNat, by omega⟩
    have hkn : k ≤ o0.steps.length := by omega
    clear hk
    go_wp2_with fail
    go_loopw [35] (fun i wr => ∃ j : Nat, i = .int .i64 j ∧ j ≤ k ∧ Hid (Fl w w.heap.size q d e o0 a0 cap0 (askF o0.steps.length j) o0.steps.length wr)) (fun i _ => k - (intOf i).toNat)
    case atStart => exact ⟨0, rfl, Nat.zero_le _, HL⟩
    case round =>
      obtain ⟨j, rfl, hj, HJ⟩ := hrel
      have HL := HJ.out
      obtain ⟨⟨d0, d1, d2, d3, d4, d5⟩, e0, e1, e2, e3, e4, e5, e6, e7, e8, e9, e10⟩ := HL.cells
      by_cases hlt : j < k
      · have hjn : j < o0.steps.length := by omega
        have c0 := HL.cellD (ask_get hn3 hjn)
        have z0 := HL.frzD j
        have q1 : (j : Int) < (k : Int) := by omega
        have q2 : (j : Int) < (o0.steps.length : Int) := by omega
        have HS := HL.setD j true
        rw [ask_set hn3 hjn] at HS
        have HSS := hide HS
        clear HS HL
        go_wp2
        go_roundw
        case rel => exact ⟨j + 1, by go_num, by omega, HSS⟩
        case measure => simp [intOf]; omega
      · have q1 : ¬ (j : Int) < (k : Int) := by omega
        obtain rfl : j = k := by omega
        have NX := ask_next HMY.out hkn
        have SX := ask_state HMY.out hkn
        by_cases hkl : j < o0.steps.length
        · rw [if_pos hkl] at NX
          have q2 : (j : Int) < (o0.steps.length : Int) := by omega
          have CN := HL.next
          rw [NX] at CN
          go_wp2_with fail
          refine CN.mono ?_
          rintro e' u1 ⟨av, cv, rfl, -, -, hrow, hb⟩
          have HM := row_mgs hrow
          replace HL := HL.on hb
          clear hb hrow CN NX d0 d1 d2 d3 d4 d5 e0 e1 e2 e3 e4 e5 e6 e7 e8 e9 e10
          have CS := HL.state
          rw [SX] at CS
          obtain ⟨sb, soff, rfl, s0, s1⟩ := (HL.st.below HL.bel).at hkl
          obtain ⟨⟨d0, d1, d2, d3, d4, d5⟩, e0, e1, e2, e3, e4, e5, e6, e7, e8, e9, e10⟩ := HL.cells
          obtain ⟨mb, moff, rfl, m0, m1, m2, m3, m4, m5, m6⟩ := HM.one (m := doM o0 j) rfl
          dsimp only [doM] at m0 m1 m2 m3 m4 m5 m6
          have hne := eql_msg
          have hgd := guard_msg
          have qe : ((1 : Int) == 1 && (0 : Int) == 0 && (stAt o0.steps j).1 == (stAt o0.steps j).1 && o0.id == o0.id && (j : Int) == (j : Int) && (stAt o0.steps j).2 == (stAt o0.steps j).2 && (0 : Int) == 0) = true := by simp
          have CSL : ∀ u : Later u1, Calls Try.prog 14 #[.agg #[.int .i64 o0.id, .int .i64 o0.item, .int .i64 o0.qty, .int .i64 o0.client, .int .i64 o0.price, .slice (some ⟨sb, soff, none⟩) o0.steps.length cap0], .agg #[.slice (some ⟨d, 0, none⟩) o0.steps.length o0.steps.length, .slice (some ⟨e, 0, none⟩) o0.steps.length o0.steps.length, .bool (askF o0.steps.length j).asked, .bool (askF o0.steps.length j).yes, .bool (askF o0.steps.length j).turned, .bool (askF o0.steps.length j).k0, .bool (askF o0.steps.length j).k1, .bool (askF o0.steps.length j).ship, .bool (askF o0.steps.length j).d0, .bool (askF o0.steps.length j).d1, .bool (askF o0.steps.length j).acc]] u.w fun e w' => e = .returned (.int .i64 1) ∧ ∃ u' : Later u1, w' = u'.w := fun u => calls_later u (by have := (HL.on u.below).state; rw [SX] at this; exact this)
          have CAL : ∀ u : Later u1, Calls Try.prog 10 #[] u.w fun e w' => e = .returned (.bool true) ∧ ∃ u' : Later u1, w' = u'.w := fun u => calls_later u (gawake_any u.w)
          have hnn : Nonempty (Later u1) := ⟨Later.now u1⟩
          have l_d0 := Later.cell d0
          have l_d1 := Later.cell d1
          have l_d2 := Later.cell d2
          have l_d3 := Later.cell d3
          have l_d4 := Later.cell d4
          have l_d5 := Later.cell d5
          have l_e0 := Later.cell e0
          have l_e1 := Later.cell e1
          have l_e2 := Later.cell e2
          have l_e3 := Later.cell e3
          have l_e4 := Later.cell e4
          have l_e5 := Later.cell e5
          have l_e6 := Later.cell e6
          have l_e7 := Later.cell e7
          have l_e8 := Later.cell e8
          have l_e9 := Later.cell e9
          have l_e10 := Later.cell e10
          have l_m0 := Later.cell m0
          have l_m1 := Later.cell m1
          have l_m2 := Later.cell m2
          have l_m3 := Later.cell m3
          have l_m4 := Later.cell m4
          have l_m5 := Later.cell m5
          have l_m6 := Later.cell m6
          have l_s0 := Later.cell s0
          have l_s1 := Later.cell s1
          clear d0 d1 d2 d3 d4 d5 e0 e1 e2 e3 e4 e5 e6 e7 e8 e9 e10 m0 m1 m2 m3 m4 m5 m6 s0 s1
          dsimp only [List.length_cons, List.length_nil]
          clear CS
          go_wp2_with fail
          refine region_later (by kernel_rfl) (by kernel_rfl) ?_
          repeat (first | go_big_quiet_step (first | (go_at_call 14; with_reducible exact CSL _) | (go_at_call 10; with_reducible exact CAL _)) | quiet_step (first | (go_at_call 14; with_reducible exact CSL _) | (go_at_call 10; with_reducible exact CAL _)))
          refine wpQuiet_nil ?_
          intro u
          have hbu := u.below
          generalize u.w = uz at hbu ⊢
          have HB2 := hide (bel_on' HL.bel hbu)
          clear hbu
          go_wp2
          go_ret
          exact ⟨rfl, HB2.out⟩
        · rw [if_neg hkl] at NX
          have q2 : ¬ (j : Int) < (o0.steps.length : Int) := by omega
          have CN := HL.next
          rw [NX] at CN
          go_wp2_with fail
          refine CN.mono ?_
          rintro e' u1 ⟨av, cv, rfl, -, -, hrow, hb⟩
          have HM := row_mgs hrow
          replace HL := HL.on hb
          clear hb hrow CN NX d0 d1 d2 d3 d4 d5 e0 e1 e2 e3 e4 e5 e6 e7 e8 e9 e10
          obtain ⟨⟨d0, d1, d2, d3, d4, d5⟩, e0, e1, e2, e3, e4, e5, e6, e7, e8, e9, e10⟩ := HL.cells
          obtain ⟨mb, moff, rfl, m0, m1, m2, m3, m4, m5, m6⟩ := HM.one (m := ⟨6, 0, 1, o0.id, 0, o0.item, o0.qty⟩) rfl
          obtain ⟨r0, r1, r2, r3, r4, r5, r6⟩ := HM.two (m := ⟨6, 0, 2, o0.id, 0, o0.client, o0.price⟩) rfl
          dsimp only at m0 m1 m2 m3 m4 m5 m6 r0 r1 r2 r3 r4 r5 r6
          have hne := eql_msg
          have hgd := guard_msg
          have qe1 : ((6 : Int) == 6 && (0 : Int) == 0 && (1 : Int) == 1 && o0.id == o0.id && (0 : Int) == 0 && o0.item == o0.item && o0.qty == o0.qty) = true := by simp
          have qe2 : ((6 : Int) == 6 && (0 : Int) == 0 && (2 : Int) == 2 && o0.id == o0.id && (0 : Int) == 0 && o0.client == o0.client && o0.price == o0.price) = true := by simp
          have CAL : ∀ u : Later u1, Calls Try.prog 10 #[] u.w fun e w' => e = .returned (.bool true) ∧ ∃ u' : Later u1, w' = u'.w := fun u => calls_later u (gawake_any u.w)
          have hnn : Nonempty (Later u1) := ⟨Later.now u1⟩
          have l_d0 := Later.cell d0
          have l_d1 := Later.cell d1
          have l_d2 := Later.cell d2
          have l_d3 := Later.cell d3
          have l_d4 := Later.cell d4
          have l_d5 := Later.cell d5
          have l_e0 := Later.cell e0
          have l_e1 := Later.cell e1
          have l_e2 := Later.cell e2
          have l_e3 := Later.cell e3
          have l_e4 := Later.cell e4
          have l_e5 := Later.cell e5
          have l_e6 := Later.cell e6
          have l_e7 := Later.cell e7
          have l_e8 := Later.cell e8
          have l_e9 := Later.cell e9
          have l_e10 := Later.cell e10
          have l_m0 := Later.cell m0
          have l_m1 := Later.cell m1
          have l_m2 := Later.cell m2
          have l_m3 := Later.cell m3
          have l_m4 := Later.cell m4
          have l_m5 := Later.cell m5
          have l_m6 := Later.cell m6
          have l_r0 := Later.cell r0
          have l_r1 := Later.cell r1
          have l_r2 := Later.cell r2
          have l_r3 := Later.cell r3
          have l_r4 := Later.cell r4
          have l_r5 := Later.cell r5
          have l_r6 := Later.cell r6
          clear d0 d1 d2 d3 d4 d5 e0 e1 e2 e3 e4 e5 e6 e7 e8 e9 e10 m0 m1 m2 m3 m4 m5 m6 r0 r1 r2 r3 r4 r5 r6
          dsimp only [prepL, List.length_cons, List.length_nil]
          go_wp2_with fail
          refine region_later (by kernel_rfl) (by kernel_rfl) ?_
          repeat (first | go_big_quiet_step (first | (go_at_call 10; with_reducible exact CAL _)) | quiet_step (first | (go_at_call 10; with_reducible exact CAL _)))
          refine wpQuiet_nil ?_
          intro u
          have hbu := u.below
          generalize u.w = uz at hbu ⊢
          have HB2 := hide (bel_on' HL.bel hbu)
          clear hbu
          go_wp2
          go_ret
          exact ⟨rfl, HB2.out⟩
end Go.Proofs.Ytinbmnefdhkdfaa
