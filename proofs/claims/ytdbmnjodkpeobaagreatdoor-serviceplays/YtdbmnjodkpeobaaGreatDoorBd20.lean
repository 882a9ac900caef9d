/-
  Own texts put together: AbK, SvcX, SvdG.
-/
import Derived.Test.YtdbmnjodkpeobaaGreatDoorSvcS
import Derived.Test.YtdbmnjodkpeobaaGreatDoorSvcW
import Derived.Test.YtdbmnjodkpeobaaGreatDoorBd11
/-
  A block beside what a step may turn.
-/
namespace Go.Proofs.YtdbmnjodkpeobaaGreatDoor
open Go.ChangeShapes Go.WideShapes Go.ChangeAt Go.RowKit Go.Maps

/-- Block k lies as o, and is none of E. -/
def Ab (w : World) (E : Nat → Prop) (k : Nat) (o : Obj) : Prop := w.heap[k]? = some o ∧ ¬ E k
section
variable {w w' : World} {E E' : Nat → Prop} {k l i : Nat} {o : Obj} {x : Value}
theorem Ab.lt (h : Ab w E k o) : k < w.heap.size := (Array.getElem?_eq_some_iff.1 h.1).1
theorem Ab.step (h : Ab w E k o) (hk : Rg.Kept (fun k _ => E k) w w') (hE : ∀ k, E' k → growE E w w' k) : Ab w' E' k o :=
  ⟨hk.block _ _ h.1 h.2, fun e => (hE k e).elim h.2 (fun e => by have := h.lt; omega)⟩
theorem Ab.on (h : Ab w E k o) (hb : Below w.heap.size w w') : Ab w' E k o := ⟨(hb.block _ h.lt).trans h.1, h.2⟩
theorem Ab.other (h : Ab w E k o) (hne : k ≠ l) : Ab (w.setCell ⟨l, i, none⟩ x) E k o :=
  ⟨(Rg.Kept.setCell (E := fun k _ => k = l) (a := ⟨l, i, none⟩) x (fun _ => rfl)).block _ _ h.1 hne, h.2⟩
end
end Go.Proofs.YtdbmnjodkpeobaaGreatDoor
/-
  Contracts of service's hears, do, undo.
-/
namespace Go.Proofs.YtdbmnjodkpeobaaGreatDoor
open Go.ChangeShapes Go.WideShapes Go.ChangeAt Go.RowKit Go.Maps

theorem seven_of {w : World} {g : Nat} {x0 x1 x2 x3 x4 x5 x6 : Value} {t : TypeId} (e : w.heap[g]? = some (.cells #[x0, x1, x2, x3, x4, x5, x6] t (0, 0))) :
    w.cell? ⟨g, 0, none⟩ = some x0 ∧ w.cell? ⟨g, 1, none⟩ = some x1 ∧ w.cell? ⟨g, 2, none⟩ = some x2 ∧ w.cell? ⟨g, 3, none⟩ = some x3 ∧ w.cell? ⟨g, 4, none⟩ = some x4 ∧ w.cell? ⟨g, 5, none⟩ = some x5 ∧ w.cell? ⟨g, 6, none⟩ = some x6 := by
  refine ⟨?_, ?_, ?_, ?_, ?_, ?_, ?_⟩ <;> (rw [cell_of e]; rfl)

section
variable {B : Nat} {E : Nat → Prop} {w : World} {p : Nat} {v : Sv} {n q : Nat} {r : Value} {pb mb sb : Nat}
theorem shears_any (k : NdV B E w p v n q r pb mb sb) (m : Ms.Mg) :
    Calls Tryz.prog 34 #[.pointer (some ⟨p, 0, none⟩), .agg #[.int .i64 m.k, .int .i64 m.fr, .int .i64 m.to, .int .i64 m.id, .int .i64 m.st, .int .i64 m.a, .int .i64 m.b]] w fun e w' => e = .returned (.bool (hearsB v m)) ∧ Below w.heap.size w w' := by
  obtain ⟨W, hW⟩ : ∃ W, W = w.alloc (.cells #[.int .i64 m.k, .int .i64 m.fr, .int .i64 m.to, .int .i64 m.id, .int .i64 m.st, .int .i64 m.a, .int .i64 m.b] 29) := ⟨_, rfl⟩
  have hb0 : Below w.heap.size w W := by rw [hW]; exact (Below.refl _ _).alloc (Nat.le_refl _) _
  have hbx : W.heap[w.heap.size]? = some (.cells #[.int .i64 m.k, .int .i64 m.fr, .int .i64 m.to, .int .i64 m.id, .int .i64 m.st, .int .i64 m.a, .int .i64 m.b] 29 (0, 0)) := by rw [hW]; exact World.alloc_heap_new w _
  have kW := k.on hb0
  obtain ⟨a0, a1, a2, a3, a4, a5, a6⟩ := seven_of hbx
  obtain ⟨c0, -, -, -, -⟩ := kW.cells
  have D : ∀ u : Later W, Calls Tryz.prog 20 #[.pointer (some ⟨p, 0, none⟩)] u.w fun e w' => e = .returned (.bool v.down) ∧ ∃ u' : Later W, w' = u'.w := fun u => calls_later u ((sdown_any (kW.on u.below)).mono (fun _ _ ⟨h1, h2⟩ => ⟨h1, by rw [← h2]; exact Below.refl _ _⟩))
  have I : ∀ u : Later W, Calls Tryz.prog 52 #[.int .i64 m.id] u.w fun e w' => e = .returned (.bool (Hd.isI m.id)) ∧ ∃ u' : Later W, w' = u'.w := fun u => calls_later u ((sisid_any m.id u.w).mono (fun _ _ ⟨h1, h2⟩ => ⟨h1, by rw [← h2]; exact Below.refl _ _⟩))
  have HW := hide hW
  have HB0 := hide hb0
  unfold hearsB
  obtain ⟨m0, m1, m2, m3, m4, m5, m6⟩ := m
  simp only at *
  generalize v.down = d at D ⊢
  generalize v.node = nd at c0 ⊢
  generalize Hd.isI m3 = ii at I ⊢
  have z0 := Later.cell c0
  have z1 := Later.cell a1
  have z2 := Later.cell a2
  have z3 := Later.cell a3
  have hne : Nonempty (Later W) := ⟨Later.now W⟩
  obtain ⟨b1, h1⟩ : ∃ b1, (m2 == nd) = b1 := ⟨_, rfl⟩
  obtain ⟨b2, h2⟩ : ∃ b2, (m1 == 0) = b2 := ⟨_, rfl⟩
  rw [h1, h2]
  clear k kW hW hb0 hbx
  cases d <;> cases b1 <;> cases b2 <;> cases ii
  all_goals go_enter Tryz.func34, Tryz.ntmps34
  all_goals go_wp2_with fail
  all_goals rw [← HW.out]
  all_goals refine region_later (by kernel_rfl) (by kernel_rfl) ?_
  all_goals (repeat (first | go_big_quiet_step (first | exact D _ | exact I _) | quiet_step (first | exact D _ | exact I _)))
  all_goals refine wpQuiet_nil ?_
  all_goals intro u
  all_goals go_wp2
  all_goals go_ret
  all_goals exact ⟨rfl, bel_on' HB0.out u.below⟩
theorem shears_nil (m : Ms.Mg) (w : World) : Calls Tryz.prog 34 #[.pointer none, .agg #[.int .i64 m.k, .int .i64 m.fr, .int .i64 m.to, .int .i64 m.id, .int .i64 m.st, .int .i64 m.a, .int .i64 m.b]] w fun e w' => e = .returned (.bool false) ∧ Below w.heap.size w w' := by
  obtain ⟨W, hW⟩ : ∃ W, W = w.alloc (.cells #[.int .i64 m.k, .int .i64 m.fr, .int .i64 m.to, .int .i64 m.id, .int .i64 m.st, .int .i64 m.a, .int .i64 m.b] 29) := ⟨_, rfl⟩
  have hb0 : Below w.heap.size w W := by rw [hW]; exact (Below.refl _ _).alloc (Nat.le_refl _) _
  have HW := hide hW
  have HB0 := hide hb0
  have hne : Nonempty (Later W) := ⟨Later.now W⟩
  clear hW hb0
  go_enter Tryz.func34, Tryz.ntmps34
  go_wp2_with fail
  rw [← HW.out]
  refine region_later (by kernel_rfl) (by kernel_rfl) ?_
  repeat (first | go_big_quiet_step (fail) | quiet_step (fail))
  refine wpQuiet_nil ?_
  intro u
  go_wp2
  go_ret
  exact ⟨rfl, bel_on' HB0.out u.below⟩
end
end Go.Proofs.YtdbmnjodkpeobaaGreatDoor
/-
  A service, plainly: what each message comes to, case by case.
-/
namespace Go.Proofs.YtdbmnjodkpeobaaGreatDoor
open Go.RowKit

def putS (v : Sv) (e : En) : Sv := ⟨v.node, v.hold, v.room, v.T ++ [e], v.down, stp v.st e⟩
theorem noteS_room {v : Sv} (h : hasRoom v = true) (e : En) : noteS v e = putS v e := by unfold noteS putS; rw [if_pos h]
theorem noteS_full {v : Sv} (h : hasRoom v = false) (e : En) : noteS v e = v := by unfold noteS; rw [h]; rfl
theorem hasRoom_iff {v : Sv} : hasRoom v = true ↔ (v.T.length : Int) < v.room := by unfold hasRoom; simp
theorem hasRoom_not {v : Sv} : hasRoom v = false ↔ v.room ≤ (v.T.length : Int) := by unfold hasRoom; simp
theorem takeE_zero {left : Int} {h : Int → Int} {id n : Int} (hi : 1 ≤ id ∧ id ≤ 999) (hn : 1 ≤ n ∧ n ≤ 1000000000) (hh : h id = 0) (hl : n ≤ left) : Hd.takeE left h id n = 0 := by
  unfold Hd.takeE
  rw [if_pos ⟨Hd.isI_iff.2 hi, hn⟩, if_neg (by simp [hh]), if_pos hl]
theorem takeE_less {left : Int} {h : Int → Int} {id n : Int} (hi : 1 ≤ id ∧ id ≤ 999) (hn : 1 ≤ n ∧ n ≤ 1000000000) (hh : h id = 0) (hl : left < n) : Hd.takeE left h id n = 9 := by
  unfold Hd.takeE
  rw [if_pos ⟨Hd.isI_iff.2 hi, hn⟩, if_neg (by simp [hh]), if_neg (by omega)]
theorem stp_did {t : St} {id a : Int} (h : Hd.takeE t.left t.h id a = 0) : stp t ⟨1, id, a⟩ = ⟨t.left - a, Hd.upd t.h id a, Hd.upd t.s id 1⟩ := by
  unfold stp Hd.takeL Hd.takeH
  rw [if_pos rfl, if_pos h, if_pos h]
theorem stp_cant (t : St) (id a : Int) : stp t ⟨2, id, a⟩ = ⟨t.left, t.h, Hd.upd t.s id 2⟩ := rfl
theorem stp_undid (t : St) (id a : Int) : stp t ⟨3, id, a⟩ = ⟨t.left + t.h id, Hd.upd t.h id 0, Hd.upd t.s id 3⟩ := rfl

section
variable {v : Sv} {m : Ms.Mg}
theorem hears_mk (hd : v.down = false) (h1 : m.to = v.node) (h2 : m.fr = 0) (h3 : 1 ≤ m.id ∧ m.id ≤ 999) : hearsB v m = true := by
  unfold hearsB
  rw [hd, h1, h2, Hd.isI_iff.2 h3]
  simp
theorem hd_did (h : hearsB v m = true) (hk : m.k = 1) (hs : v.st.s m.id = 0) (hr : hasRoom v = true) (ht : Hd.takeE v.st.left v.st.h m.id m.a = 0) :
    hdS v m = putS v ⟨1, m.id, m.a⟩ ∧ hdA v m = [⟨2, v.node, 0, m.id, m.st, 0, 0⟩] := by
  have e1 : doS v m.id m.a = putS v ⟨1, m.id, m.a⟩ := by unfold doS triedE; rw [if_pos hs, if_pos ht, noteS_room hr]
  have e2 : doK v m.id m.a = 2 := by
    unfold doK
    rw [if_neg (by rw [hr]; simp), e1, if_pos]
    unfold putS
    rw [stp_did ht]
    exact Hd.upd_same _ _ _
  unfold hdS hdA hdK
  rw [if_pos h, if_pos hk, if_pos h, if_pos hk, e1, e2]
  exact ⟨rfl, rfl⟩
theorem hd_cant (h : hearsB v m = true) (hk : m.k = 1) (hs : v.st.s m.id = 0) (hr : hasRoom v = true) (ht : Hd.takeE v.st.left v.st.h m.id m.a ≠ 0) :
    hdS v m = putS v ⟨2, m.id, 0⟩ ∧ hdA v m = [⟨3, v.node, 0, m.id, m.st, 0, 0⟩] := by
  have e1 : doS v m.id m.a = putS v ⟨2, m.id, 0⟩ := by unfold doS triedE; rw [if_pos hs, if_neg ht, noteS_room hr]
  have e2 : doK v m.id m.a = 3 := by
    unfold doK
    rw [if_neg (by rw [hr]; simp), e1, if_neg]
    show ¬ Hd.upd v.st.s m.id 2 m.id = 1
    rw [Hd.upd_same]
    decide
  unfold hdS hdA hdK
  rw [if_pos h, if_pos hk, if_pos h, if_pos hk, e1, e2]
  exact ⟨rfl, rfl⟩
theorem hd_did_full (h : hearsB v m = true) (hk : m.k = 1) (hs : v.st.s m.id = 0) (hr : hasRoom v = false) : hdS v m = v ∧ hdA v m = [] := by
  have e1 : doS v m.id m.a = v := by unfold doS; rw [if_pos hs, noteS_full hr]
  have e2 : doK v m.id m.a = 0 := by unfold doK; rw [if_pos ⟨hs, hr⟩]
  unfold hdS hdA hdK
  rw [if_pos h, if_pos hk, if_pos h, if_pos hk, e1, e2]
  exact ⟨rfl, rfl⟩
theorem hd_did_again (h : hearsB v m = true) (hk : m.k = 1) (hs : v.st.s m.id ≠ 0) : hdS v m = v ∧ hdA v m = [⟨if v.st.s m.id = 1 then 2 else 3, v.node, 0, m.id, m.st, 0, 0⟩] := by
  have e1 : doS v m.id m.a = v := by unfold doS; rw [if_neg hs]
  have e2 : doK v m.id m.a = if v.st.s m.id = 1 then 2 else 3 := by unfold doK; rw [if_neg (fun h => hs h.1), e1]
  unfold hdS hdA hdK
  rw [if_pos h, if_pos hk, if_pos h, if_pos hk, e1, e2]
  refine ⟨rfl, if_neg ?_⟩
  split <;> decide
theorem hd_undid (h : hearsB v m = true) (hk : m.k = 4) (hs : v.st.s m.id = 0 ∨ v.st.s m.id = 1) (hr : hasRoom v = true) :
    hdS v m = putS v ⟨3, m.id, 0⟩ ∧ hdA v m = [⟨5, v.node, 0, m.id, m.st, 0, 0⟩] := by
  have n1 : ¬ m.k = 1 := by omega
  have e1 : undoS v m.id = putS v ⟨3, m.id, 0⟩ := by unfold undoS; rw [if_pos hs, noteS_room hr]
  have e2 : undoK v m.id = 5 := by unfold undoK; rw [if_neg (by rw [hr]; simp)]
  unfold hdS hdA hdK
  rw [if_pos h, if_neg n1, if_pos hk, if_pos h, if_neg n1, if_pos hk, e1, e2]
  exact ⟨rfl, rfl⟩
theorem hd_undid_full (h : hearsB v m = true) (hk : m.k = 4) (hs : v.st.s m.id = 0 ∨ v.st.s m.id = 1) (hr : hasRoom v = false) : hdS v m = v ∧ hdA v m = [] := by
  have n1 : ¬ m.k = 1 := by omega
  have e1 : undoS v m.id = v := by unfold undoS; rw [if_pos hs, noteS_full hr]
  have e2 : undoK v m.id = 0 := by unfold undoK; rw [if_pos ⟨hs, hr⟩]
  unfold hdS hdA hdK
  rw [if_pos h, if_neg n1, if_pos hk, if_pos h, if_neg n1, if_pos hk, e1, e2]
  exact ⟨rfl, rfl⟩
theorem hd_undid_again (h : hearsB v m = true) (hk : m.k = 4) (hs : ¬ (v.st.s m.id = 0 ∨ v.st.s m.id = 1)) : hdS v m = v ∧ hdA v m = [⟨5, v.node, 0, m.id, m.st, 0, 0⟩] := by
  have n1 : ¬ m.k = 1 := by omega
  have e1 : undoS v m.id = v := by unfold undoS; rw [if_neg hs]
  have e2 : undoK v m.id = 5 := by unfold undoK; rw [if_neg (fun h => hs h.1)]
  unfold hdS hdA hdK
  rw [if_pos h, if_neg n1, if_pos hk, if_pos h, if_neg n1, if_pos hk, e1, e2]
  exact ⟨rfl, rfl⟩
theorem hd_deaf (h : hearsB v m = false) : hdS v m = v ∧ hdA v m = [] := by
  unfold hdS hdA hdK
  rw [h]
  exact ⟨rfl, rfl⟩
theorem hd_other (h1 : m.k ≠ 1) (h4 : m.k ≠ 4) : hdS v m = v ∧ hdA v m = [] := by
  unfold hdS hdA hdK
  rw [if_neg h1, if_neg h4, if_neg h1, if_neg h4]
  refine ⟨by split <;> rfl, if_pos (by split <;> rfl)⟩
/-- With room a message that is heard, of a kind that is here, is answered. -/
theorem hd_one (h : hearsB v m = true) (hk : m.k = 1 ∨ m.k = 4) (hr : hasRoom v = true) : ∃ x, hdA v m = [x] := by
  rcases hk with hk | hk
  · by_cases hs : v.st.s m.id = 0
    · by_cases ht : Hd.takeE v.st.left v.st.h m.id m.a = 0
      · exact ⟨_, (hd_did h hk hs hr ht).2⟩
      · exact ⟨_, (hd_cant h hk hs hr ht).2⟩
    · exact ⟨_, (hd_did_again h hk hs).2⟩
  · by_cases hs : v.st.s m.id = 0 ∨ v.st.s m.id = 1
    · exact ⟨_, (hd_undid h hk hs hr).2⟩
    · exact ⟨_, (hd_undid_again h hk hs).2⟩
end
end Go.Proofs.YtdbmnjodkpeobaaGreatDoor
