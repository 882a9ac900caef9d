/-
  The reference's Handle where it hears: quick ways.
-/
import Derived.Test.YtdbmnjodkpeobaaGreatDoorSvrF
import Derived.Deep.RegionHeld3
import Derived.Deep.CutBlock
namespace Go.Proofs.YtdbmnjodkpeobaaGreatDoor
open Go.ChangeShapes Go.WideShapes Go.ChangeAt Go.RowKit Go.Maps

set_option maxRecDepth 100000 in
set_option maxHeartbeats 4000000 in
theorem rh_other {B : Nat} {E : Nat → Prop} {w : World} {p : Nat} {v : Sv} (k : Rs B E w p v) (m : Ms.Mg) (hh : hearsB v m = true) (k1 : m.k ≠ 1) (k4 : m.k ≠ 4) :
    Calls Tryz.prog 16 #[.pointer (some ⟨p, 0, none⟩), .agg #[.int .i64 m.k, .int .i64 m.fr, .int .i64 m.to, .int .i64 m.id, .int .i64 m.st, .int .i64 m.a, .int .i64 m.b]] w (RHand B E w p (hdS v m) (hdA v m)) := by
  obtain ⟨hE, hG, q, r, pb, k0⟩ := id k
  have hB := k.low
  obtain ⟨hd, h1, h2, h3⟩ := hears_of hh
  obtain ⟨W, hW⟩ : ∃ W, W = w.alloc (.cells #[.int .i64 m.k, .int .i64 m.fr, .int .i64 m.to, .int .i64 m.id, .int .i64 m.st, .int .i64 m.a, .int .i64 m.b] 29) := ⟨_, rfl⟩
  have hb0 : Below w.heap.size w W := by rw [hW]; exact (Below.refl _ _).alloc (Nat.le_refl _) _
  have hbx : Ab W E w.heap.size (.cells #[.int .i64 m.k, .int .i64 m.fr, .int .i64 m.to, .int .i64 m.id, .int .i64 m.st, .int .i64 m.a, .int .i64 m.b] 29 (0, 0)) := ⟨by rw [hW]; exact World.alloc_heap_new w _, fun e => by have := (hE _ e).2; omega⟩
  have kW := k0.on hb0
  obtain ⟨a0, a1, a2, a3, a4, a5, a6⟩ := seven_of hbx.1
  obtain ⟨c0, -, c2, -⟩ := kW.cells
  obtain ⟨ra, rc, hr0, -, -⟩ := k0.jr.row
  subst hr0
  obtain ⟨⟨-, -, -, j3⟩, -⟩ := kW.jr.cells
  have IC : ∀ u : Later W, Calls Tryz.prog 37 #[.int .i64 m.id] u.w fun e w' => e = .returned (.bool true) ∧ ∃ u' : Later W, w' = u'.w := fun u => calls_later u ((Hd.rid_any m.id u.w).mono (fun _ _ ⟨h1, h2⟩ => ⟨by rw [h1, Hd.isI_iff.2 h3], by rw [← h2]; exact Below.refl _ _⟩))
  have NX : Hid (∀ u : Later W, RT B E w E u.w p v q (.slice ra (v.T.map lnE).length rc) pb ∧ Ab u.w E w.heap.size (.cells #[.int .i64 m.k, .int .i64 m.fr, .int .i64 m.to, .int .i64 m.id, .int .i64 m.st, .int .i64 m.a, .int .i64 m.b] 29 (0, 0))) := fun u => ⟨RT.new k0 (bel_on' hb0 u.below), hbx.on u.below⟩
  have HW := hide hW
  have HE := hide hE
  have HB := hide hB
  have HG := hide hG
  have HD := hide hd
  obtain ⟨eS, eA⟩ := hd_other (v := v) (m := m) k1 k4
  rw [eS, eA]
  clear eS eA
  obtain ⟨m0, m1, m2, m3, m4, m5, m6⟩ := m
  simp only at *
  obtain ⟨I, hI⟩ : ∃ I : Nat, m3 = I := ⟨m3.toNat, by omega⟩
  subst hI
  have hI3 : I < 1000 := by omega
  have hI2 : (I : Int) < 1000 := by omega
  rw [hd] at j3
  have b1 : (m2 != v.node) = false := by simp [h1]
  have b2 : (m1 != 0) = false := by simp [h2]
  have c4 := kW.cellI hI3
  have z0 := Later.cell c0
  have z1 := Later.cell a1
  have z2 := Later.cell a2
  have z3 := Later.cell a3
  have z4 := Later.cell c2
  have z5 := Later.cell j3
  have z6 := Later.cell c4
  have z7 := Later.cell a0
  have hne : Nonempty (Later W) := ⟨Later.now W⟩
  have h3' := h3
  clear k kW hW hb0 hbx k0 hE hG hB h1 h2 h3 hh c0 c2 a1 a2 a3 a4 a5 a6 j3 a0
  obtain ⟨s, hs⟩ : ∃ s, v.st.s (I : Int) = s := ⟨_, rfl⟩
  rw [hs] at z6 c4
  have HSS := hide hs
  have e1 : (m0 == 1) = false := by simp [k1]
  have e4 : (m0 == 4) = false := by simp [k4]
  clear k1 k4
  clear hd hs h3'
  go_enter Tryz.func16, Tryz.ntmps16
  go_wp2_with fail
  rw [← HW.out]
  refine region_later (by kernel_rfl) (by kernel_rfl) ?_
  repeat (first | go_big_quiet_step (exact IC _) | quiet_step (exact IC _))
  refine wpQuiet_nil ?_
  intro u
  have y0 := z0 u
  have y3 := z3 u
  have y6 := z6 u
  have y7 := z7 u
  go_wp2_with fail
  go_quiet (fail)
  have hT := (NX.out u).1.on (belowN (Below.refl _ _) nq)
  have hX := (NX.out u).2.on (belowN (Below.refl _ _) nq)
  clear y0 y3 y6 y7 z0 z1 z2 z3 z4 z5 z6 z7 IC NX c4
  generalize u.w.drewN nq = V at hT hX ⊢
  have HT := hide hT
  have HX := hide hX
  obtain ⟨c0, -, c2, c3⟩ := hT.k.cells
  have c4 := hT.k.cellI hI3
  have f4 := hT.k.frozen (4 + I)
  rw [HSS.out] at c4
  obtain ⟨a0, a1, a2, a3, a4, a5, a6⟩ := seven_of hX.1
  obtain ⟨⟨j0, j1, -, j3⟩, -⟩ := hT.k.jr.cells
  have hpl := hT.k.lt
  rw [HD.out] at j3
  clear hT hX
  go_wp2
  go_ret
  exact rhand_no HT.out HE.out HB.out HG.out
set_option maxRecDepth 100000 in
set_option maxHeartbeats 4000000 in
theorem rh_did {B : Nat} {E : Nat → Prop} {w : World} {p : Nat} {v : Sv} (k : Rs B E w p v) (m : Ms.Mg) (hh : hearsB v m = true) (k1 : m.k = 1) (hs1 : v.st.s m.id = 1) :
    Calls Tryz.prog 16 #[.pointer (some ⟨p, 0, none⟩), .agg #[.int .i64 m.k, .int .i64 m.fr, .int .i64 m.to, .int .i64 m.id, .int .i64 m.st, .int .i64 m.a, .int .i64 m.b]] w (RHand B E w p (hdS v m) (hdA v m)) := by
  obtain ⟨hE, hG, q, r, pb, k0⟩ := id k
  have hB := k.low
  obtain ⟨hd, h1, h2, h3⟩ := hears_of hh
  obtain ⟨W, hW⟩ : ∃ W, W = w.alloc (.cells #[.int .i64 m.k, .int .i64 m.fr, .int .i64 m.to, .int .i64 m.id, .int .i64 m.st, .int .i64 m.a, .int .i64 m.b] 29) := ⟨_, rfl⟩
  have hb0 : Below w.heap.size w W := by rw [hW]; exact (Below.refl _ _).alloc (Nat.le_refl _) _
  have hbx : Ab W E w.heap.size (.cells #[.int .i64 m.k, .int .i64 m.fr, .int .i64 m.to, .int .i64 m.id, .int .i64 m.st, .int .i64 m.a, .int .i64 m.b] 29 (0, 0)) := ⟨by rw [hW]; exact World.alloc_heap_new w _, fun e => by have := (hE _ e).2; omega⟩
  have kW := k0.on hb0
  obtain ⟨a0, a1, a2, a3, a4, a5, a6⟩ := seven_of hbx.1
  obtain ⟨c0, -, c2, -⟩ := kW.cells
  obtain ⟨ra, rc, hr0, -, -⟩ := k0.jr.row
  subst hr0
  obtain ⟨⟨-, -, -, j3⟩, -⟩ := kW.jr.cells
  have IC : ∀ u : Later W, Calls Tryz.prog 37 #[.int .i64 m.id] u.w fun e w' => e = .returned (.bool true) ∧ ∃ u' : Later W, w' = u'.w := fun u => calls_later u ((Hd.rid_any m.id u.w).mono (fun _ _ ⟨h1, h2⟩ => ⟨by rw [h1, Hd.isI_iff.2 h3], by rw [← h2]; exact Below.refl _ _⟩))
  have NX : Hid (∀ u : Later W, RT B E w E u.w p v q (.slice ra (v.T.map lnE).length rc) pb ∧ Ab u.w E w.heap.size (.cells #[.int .i64 m.k, .int .i64 m.fr, .int .i64 m.to, .int .i64 m.id, .int .i64 m.st, .int .i64 m.a, .int .i64 m.b] 29 (0, 0))) := fun u => ⟨RT.new k0 (bel_on' hb0 u.below), hbx.on u.below⟩
  have HW := hide hW
  have HE := hide hE
  have HB := hide hB
  have HG := hide hG
  have HD := hide hd
  obtain ⟨eS, eA⟩ := hd_did_again (v := v) (m := m) hh k1 (by rw [hs1]; decide)
  rw [eS, eA, if_pos hs1]
  clear eS eA
  obtain ⟨m0, m1, m2, m3, m4, m5, m6⟩ := m
  simp only at *
  obtain ⟨I, hI⟩ : ∃ I : Nat, m3 = I := ⟨m3.toNat, by omega⟩
  subst hI
  have hI3 : I < 1000 := by omega
  have hI2 : (I : Int) < 1000 := by omega
  rw [hd] at j3
  have b1 : (m2 != v.node) = false := by simp [h1]
  have b2 : (m1 != 0) = false := by simp [h2]
  have c4 := kW.cellI hI3
  have z0 := Later.cell c0
  have z1 := Later.cell a1
  have z2 := Later.cell a2
  have z3 := Later.cell a3
  have z4 := Later.cell c2
  have z5 := Later.cell j3
  have z6 := Later.cell c4
  have z7 := Later.cell a0
  have hne : Nonempty (Later W) := ⟨Later.now W⟩
  have h3' := h3
  clear k kW hW hb0 hbx k0 hE hG hB h1 h2 h3 hh c0 c2 a1 a2 a3 a4 a5 a6 j3 a0
  obtain ⟨s, hs⟩ : ∃ s, v.st.s (I : Int) = s := ⟨_, rfl⟩
  rw [hs] at z6 c4
  have HSS := hide hs
  have e2 : (s == 1) = true := by simp [← hs, hs1]
  have e3 : (s == 0) = false := by simp [← hs, hs1]
  have e1 : (m0 == 1) = true := by simp [k1]
  clear k1 hs1
  clear hd hs h3'
  go_enter Tryz.func16, Tryz.ntmps16
  go_wp2_with fail
  rw [← HW.out]
  refine region_later (by kernel_rfl) (by kernel_rfl) ?_
  repeat (first | go_big_quiet_step (exact IC _) | quiet_step (exact IC _))
  refine wpQuiet_nil ?_
  intro u
  have y0 := z0 u
  have y3 := z3 u
  have y6 := z6 u
  have y7 := z7 u
  go_wp2_with fail
  go_quiet (fail)
  have hT := (NX.out u).1.on (belowN (Below.refl _ _) nq)
  have hX := (NX.out u).2.on (belowN (Below.refl _ _) nq)
  clear y0 y3 y6 y7 z0 z1 z2 z3 z4 z5 z6 z7 IC NX c4
  generalize u.w.drewN nq = V at hT hX ⊢
  have HT := hide hT
  have HX := hide hX
  obtain ⟨c0, -, c2, c3⟩ := hT.k.cells
  have c4 := hT.k.cellI hI3
  have f4 := hT.k.frozen (4 + I)
  rw [HSS.out] at c4
  obtain ⟨a0, a1, a2, a3, a4, a5, a6⟩ := seven_of hX.1
  obtain ⟨⟨j0, j1, -, j3⟩, -⟩ := hT.k.jr.cells
  have hpl := hT.k.lt
  rw [HD.out] at j3
  clear hT hX
  go_wp2_with fail
  go_region
  all_goals go_wp2
  all_goals go_ret
  all_goals exact rhand_one HT.out HE.out HB.out HG.out (Below.refl _ _).drew
set_option maxRecDepth 100000 in
set_option maxHeartbeats 4000000 in
theorem rh_late {B : Nat} {E : Nat → Prop} {w : World} {p : Nat} {v : Sv} (k : Rs B E w p v) (m : Ms.Mg) (hh : hearsB v m = true) (k1 : m.k = 1) (hs0 : v.st.s m.id ≠ 0) (hs1 : v.st.s m.id ≠ 1) :
    Calls Tryz.prog 16 #[.pointer (some ⟨p, 0, none⟩), .agg #[.int .i64 m.k, .int .i64 m.fr, .int .i64 m.to, .int .i64 m.id, .int .i64 m.st, .int .i64 m.a, .int .i64 m.b]] w (RHand B E w p (hdS v m) (hdA v m)) := by
  obtain ⟨hE, hG, q, r, pb, k0⟩ := id k
  have hB := k.low
  obtain ⟨hd, h1, h2, h3⟩ := hears_of hh
  obtain ⟨W, hW⟩ : ∃ W, W = w.alloc (.cells #[.int .i64 m.k, .int .i64 m.fr, .int .i64 m.to, .int .i64 m.id, .int .i64 m.st, .int .i64 m.a, .int .i64 m.b] 29) := ⟨_, rfl⟩
  have hb0 : Below w.heap.size w W := by rw [hW]; exact (Below.refl _ _).alloc (Nat.le_refl _) _
  have hbx : Ab W E w.heap.size (.cells #[.int .i64 m.k, .int .i64 m.fr, .int .i64 m.to, .int .i64 m.id, .int .i64 m.st, .int .i64 m.a, .int .i64 m.b] 29 (0, 0)) := ⟨by rw [hW]; exact World.alloc_heap_new w _, fun e => by have := (hE _ e).2; omega⟩
  have kW := k0.on hb0
  obtain ⟨a0, a1, a2, a3, a4, a5, a6⟩ := seven_of hbx.1
  obtain ⟨c0, -, c2, -⟩ := kW.cells
  obtain ⟨ra, rc, hr0, -, -⟩ := k0.jr.row
  subst hr0
  obtain ⟨⟨-, -, -, j3⟩, -⟩ := kW.jr.cells
  have IC : ∀ u : Later W, Calls Tryz.prog 37 #[.int .i64 m.id] u.w fun e w' => e = .returned (.bool true) ∧ ∃ u' : Later W, w' = u'.w := fun u => calls_later u ((Hd.rid_any m.id u.w).mono (fun _ _ ⟨h1, h2⟩ => ⟨by rw [h1, Hd.isI_iff.2 h3], by rw [← h2]; exact Below.refl _ _⟩))
  have NX : Hid (∀ u : Later W, RT B E w E u.w p v q (.slice ra (v.T.map lnE).length rc) pb ∧ Ab u.w E w.heap.size (.cells #[.int .i64 m.k, .int .i64 m.fr, .int .i64 m.to, .int .i64 m.id, .int .i64 m.st, .int .i64 m.a, .int .i64 m.b] 29 (0, 0))) := fun u => ⟨RT.new k0 (bel_on' hb0 u.below), hbx.on u.below⟩
  have HW := hide hW
  have HE := hide hE
  have HB := hide hB
  have HG := hide hG
  have HD := hide hd
  obtain ⟨eS, eA⟩ := hd_did_again (v := v) (m := m) hh k1 hs0
  rw [eS, eA, if_neg hs1]
  clear eS eA
  obtain ⟨m0, m1, m2, m3, m4, m5, m6⟩ := m
  simp only at *
  obtain ⟨I, hI⟩ : ∃ I : Nat, m3 = I := ⟨m3.toNat, by omega⟩
  subst hI
  have hI3 : I < 1000 := by omega
  have hI2 : (I : Int) < 1000 := by omega
  rw [hd] at j3
  have b1 : (m2 != v.node) = false := by simp [h1]
  have b2 : (m1 != 0) = false := by simp [h2]
  have c4 := kW.cellI hI3
  have z0 := Later.cell c0
  have z1 := Later.cell a1
  have z2 := Later.cell a2
  have z3 := Later.cell a3
  have z4 := Later.cell c2
  have z5 := Later.cell j3
  have z6 := Later.cell c4
  have z7 := Later.cell a0
  have hne : Nonempty (Later W) := ⟨Later.now W⟩
  have h3' := h3
  clear k kW hW hb0 hbx k0 hE hG hB h1 h2 h3 hh c0 c2 a1 a2 a3 a4 a5 a6 j3 a0
  obtain ⟨s, hs⟩ : ∃ s, v.st.s (I : Int) = s := ⟨_, rfl⟩
  rw [hs] at z6 c4
  have HSS := hide hs
  have e2 : (s == 1) = false := by rw [← hs]; simp [hs1]
  have e3 : (s == 0) = false := by rw [← hs]; simp [hs0]
  have e1 : (m0 == 1) = true := by simp [k1]
  clear k1 hs1 hs0
  clear hd hs h3'
  go_enter Tryz.func16, Tryz.ntmps16
  go_wp2_with fail
  rw [← HW.out]
  refine region_later (by kernel_rfl) (by kernel_rfl) ?_
  repeat (first | go_big_quiet_step (exact IC _) | quiet_step (exact IC _))
  refine wpQuiet_nil ?_
  intro u
  have y0 := z0 u
  have y3 := z3 u
  have y6 := z6 u
  have y7 := z7 u
  go_wp2_with fail
  go_quiet (fail)
  have hT := (NX.out u).1.on (belowN (Below.refl _ _) nq)
  have hX := (NX.out u).2.on (belowN (Below.refl _ _) nq)
  clear y0 y3 y6 y7 z0 z1 z2 z3 z4 z5 z6 z7 IC NX c4
  generalize u.w.drewN nq = V at hT hX ⊢
  have HT := hide hT
  have HX := hide hX
  obtain ⟨c0, -, c2, c3⟩ := hT.k.cells
  have c4 := hT.k.cellI hI3
  have f4 := hT.k.frozen (4 + I)
  rw [HSS.out] at c4
  obtain ⟨a0, a1, a2, a3, a4, a5, a6⟩ := seven_of hX.1
  obtain ⟨⟨j0, j1, -, j3⟩, -⟩ := hT.k.jr.cells
  have hpl := hT.k.lt
  rw [HD.out] at j3
  clear hT hX
  go_wp2_with fail
  go_region
  all_goals go_wp2
  all_goals go_ret
  all_goals exact rhand_one HT.out HE.out HB.out HG.out (Below.refl _ _).drew
set_option maxRecDepth 100000 in
set_option maxHeartbeats 4000000 in
theorem rh_dofull {B : Nat} {E : Nat → Prop} {w : World} {p : Nat} {v : Sv} (k : Rs B E w p v) (m : Ms.Mg) (hh : hearsB v m = true) (k1 : m.k = 1) (hs0 : v.st.s m.id = 0) (hr : hasRoom v = false) :
    Calls Tryz.prog 16 #[.pointer (some ⟨p, 0, none⟩), .agg #[.int .i64 m.k, .int .i64 m.fr, .int .i64 m.to, .int .i64 m.id, .int .i64 m.st, .int .i64 m.a, .int .i64 m.b]] w (RHand B E w p (hdS v m) (hdA v m)) := by
  obtain ⟨hE, hG, q, r, pb, k0⟩ := id k
  have hB := k.low
  obtain ⟨hd, h1, h2, h3⟩ := hears_of hh
  obtain ⟨W, hW⟩ : ∃ W, W = w.alloc (.cells #[.int .i64 m.k, .int .i64 m.fr, .int .i64 m.to, .int .i64 m.id, .int .i64 m.st, .int .i64 m.a, .int .i64 m.b] 29) := ⟨_, rfl⟩
  have hb0 : Below w.heap.size w W := by rw [hW]; exact (Below.refl _ _).alloc (Nat.le_refl _) _
  have hbx : Ab W E w.heap.size (.cells #[.int .i64 m.k, .int .i64 m.fr, .int .i64 m.to, .int .i64 m.id, .int .i64 m.st, .int .i64 m.a, .int .i64 m.b] 29 (0, 0)) := ⟨by rw [hW]; exact World.alloc_heap_new w _, fun e => by have := (hE _ e).2; omega⟩
  have kW := k0.on hb0
  obtain ⟨a0, a1, a2, a3, a4, a5, a6⟩ := seven_of hbx.1
  obtain ⟨c0, -, c2, -⟩ := kW.cells
  obtain ⟨ra, rc, hr0, -, -⟩ := k0.jr.row
  subst hr0
  obtain ⟨⟨-, -, -, j3⟩, -⟩ := kW.jr.cells
  have IC : ∀ u : Later W, Calls Tryz.prog 37 #[.int .i64 m.id] u.w fun e w' => e = .returned (.bool true) ∧ ∃ u' : Later W, w' = u'.w := fun u => calls_later u ((Hd.rid_any m.id u.w).mono (fun _ _ ⟨h1, h2⟩ => ⟨by rw [h1, Hd.isI_iff.2 h3], by rw [← h2]; exact Below.refl _ _⟩))
  have NX : Hid (∀ u : Later W, RT B E w E u.w p v q (.slice ra (v.T.map lnE).length rc) pb ∧ Ab u.w E w.heap.size (.cells #[.int .i64 m.k, .int .i64 m.fr, .int .i64 m.to, .int .i64 m.id, .int .i64 m.st, .int .i64 m.a, .int .i64 m.b] 29 (0, 0))) := fun u => ⟨RT.new k0 (bel_on' hb0 u.below), hbx.on u.below⟩
  have HW := hide hW
  have HE := hide hE
  have HB := hide hB
  have HG := hide hG
  have HD := hide hd
  obtain ⟨eS, eA⟩ := hd_did_full (v := v) (m := m) hh k1 hs0 hr
  rw [eS, eA]
  clear eS eA
  obtain ⟨m0, m1, m2, m3, m4, m5, m6⟩ := m
  simp only at *
  obtain ⟨I, hI⟩ : ∃ I : Nat, m3 = I := ⟨m3.toNat, by omega⟩
  subst hI
  have hI3 : I < 1000 := by omega
  have hI2 : (I : Int) < 1000 := by omega
  rw [hd] at j3
  have b1 : (m2 != v.node) = false := by simp [h1]
  have b2 : (m1 != 0) = false := by simp [h2]
  have c4 := kW.cellI hI3
  have z0 := Later.cell c0
  have z1 := Later.cell a1
  have z2 := Later.cell a2
  have z3 := Later.cell a3
  have z4 := Later.cell c2
  have z5 := Later.cell j3
  have z6 := Later.cell c4
  have z7 := Later.cell a0
  have hne : Nonempty (Later W) := ⟨Later.now W⟩
  have h3' := h3
  clear k kW hW hb0 hbx k0 hE hG hB h1 h2 h3 hh c0 c2 a1 a2 a3 a4 a5 a6 j3 a0
  obtain ⟨s, hs⟩ : ∃ s, v.st.s (I : Int) = s := ⟨_, rfl⟩
  rw [hs] at z6 c4
  have HSS := hide hs
  have e1 : (m0 == 1) = true := by simp [k1]
  have e2 : (s == 1) = false := by rw [← hs, hs0]; decide
  have e3 : (s == 0) = true := by rw [← hs, hs0]; decide
  have hlen : ((v.T.map lnE).length : Int) ≥ v.room := by rw [List.length_map]; exact hasRoom_not.1 hr
  clear k1 hs0 hr
  clear hd hs h3'
  go_enter Tryz.func16, Tryz.ntmps16
  go_wp2_with fail
  rw [← HW.out]
  refine region_later (by kernel_rfl) (by kernel_rfl) ?_
  repeat (first | go_big_quiet_step (exact IC _) | quiet_step (exact IC _))
  refine wpQuiet_nil ?_
  intro u
  have y0 := z0 u
  have y3 := z3 u
  have y6 := z6 u
  have y7 := z7 u
  go_wp2_with fail
  go_quiet (fail)
  have hT := (NX.out u).1.on (belowN (Below.refl _ _) nq)
  have hX := (NX.out u).2.on (belowN (Below.refl _ _) nq)
  clear y0 y3 y6 y7 z0 z1 z2 z3 z4 z5 z6 z7 IC NX c4
  generalize u.w.drewN nq = V at hT hX ⊢
  have HT := hide hT
  have HX := hide hX
  obtain ⟨c0, -, c2, c3⟩ := hT.k.cells
  have c4 := hT.k.cellI hI3
  have f4 := hT.k.frozen (4 + I)
  rw [HSS.out] at c4
  obtain ⟨a0, a1, a2, a3, a4, a5, a6⟩ := seven_of hX.1
  obtain ⟨⟨j0, j1, -, j3⟩, -⟩ := hT.k.jr.cells
  have hpl := hT.k.lt
  rw [HD.out] at j3
  clear hT hX
  obtain ⟨n, hn⟩ : ∃ n, (v.T.map lnE).length = n := ⟨_, rfl⟩
  rw [hn] at j1 hlen
  clear hn
  go_wp2_with fail
  go_quiet (fail)
  go_wp2
  go_ret
  exact rhand_no (HT.out.on (belowN (Below.refl _ _) _)) HE.out HB.out HG.out
set_option maxRecDepth 100000 in
set_option maxHeartbeats 4000000 in
theorem rh_undone {B : Nat} {E : Nat → Prop} {w : World} {p : Nat} {v : Sv} (k : Rs B E w p v) (m : Ms.Mg) (hh : hearsB v m = true) (k4 : m.k = 4) (hs0 : ¬ (v.st.s m.id = 0 ∨ v.st.s m.id = 1)) :
    Calls Tryz.prog 16 #[.pointer (some ⟨p, 0, none⟩), .agg #[.int .i64 m.k, .int .i64 m.fr, .int .i64 m.to, .int .i64 m.id, .int .i64 m.st, .int .i64 m.a, .int .i64 m.b]] w (RHand B E w p (hdS v m) (hdA v m)) := by
  obtain ⟨hE, hG, q, r, pb, k0⟩ := id k
  have hB := k.low
  obtain ⟨hd, h1, h2, h3⟩ := hears_of hh
  obtain ⟨W, hW⟩ : ∃ W, W = w.alloc (.cells #[.int .i64 m.k, .int .i64 m.fr, .int .i64 m.to, .int .i64 m.id, .int .i64 m.st, .int .i64 m.a, .int .i64 m.b] 29) := ⟨_, rfl⟩
  have hb0 : Below w.heap.size w W := by rw [hW]; exact (Below.refl _ _).alloc (Nat.le_refl _) _
  have hbx : Ab W E w.heap.size (.cells #[.int .i64 m.k, .int .i64 m.fr, .int .i64 m.to, .int .i64 m.id, .int .i64 m.st, .int .i64 m.a, .int .i64 m.b] 29 (0, 0)) := ⟨by rw [hW]; exact World.alloc_heap_new w _, fun e => by have := (hE _ e).2; omega⟩
  have kW := k0.on hb0
  obtain ⟨a0, a1, a2, a3, a4, a5, a6⟩ := seven_of hbx.1
  obtain ⟨c0, -, c2, -⟩ := kW.cells
  obtain ⟨ra, rc, hr0, -, -⟩ := k0.jr.row
  subst hr0
  obtain ⟨⟨-, -, -, j3⟩, -⟩ := kW.jr.cells
  have IC : ∀ u : Later W, Calls Tryz.prog 37 #[.int .i64 m.id] u.w fun e w' => e = .returned (.bool true) ∧ ∃ u' : Later W, w' = u'.w := fun u => calls_later u ((Hd.rid_any m.id u.w).mono (fun _ _ ⟨h1, h2⟩ => ⟨by rw [h1, Hd.isI_iff.2 h3], by rw [← h2]; exact Below.refl _ _⟩))
  have NX : Hid (∀ u : Later W, RT B E w E u.w p v q (.slice ra (v.T.map lnE).length rc) pb ∧ Ab u.w E w.heap.size (.cells #[.int .i64 m.k, .int .i64 m.fr, .int .i64 m.to, .int .i64 m.id, .int .i64 m.st, .int .i64 m.a, .int .i64 m.b] 29 (0, 0))) := fun u => ⟨RT.new k0 (bel_on' hb0 u.below), hbx.on u.below⟩
  have HW := hide hW
  have HE := hide hE
  have HB := hide hB
  have HG := hide hG
  have HD := hide hd
  obtain ⟨eS, eA⟩ := hd_undid_again (v := v) (m := m) hh k4 hs0
  rw [eS, eA]
  clear eS eA
  obtain ⟨m0, m1, m2, m3, m4, m5, m6⟩ := m
  simp only at *
  obtain ⟨I, hI⟩ : ∃ I : Nat, m3 = I := ⟨m3.toNat, by omega⟩
  subst hI
  have hI3 : I < 1000 := by omega
  have hI2 : (I : Int) < 1000 := by omega
  rw [hd] at j3
  have b1 : (m2 != v.node) = false := by simp [h1]
  have b2 : (m1 != 0) = false := by simp [h2]
  have c4 := kW.cellI hI3
  have z0 := Later.cell c0
  have z1 := Later.cell a1
  have z2 := Later.cell a2
  have z3 := Later.cell a3
  have z4 := Later.cell c2
  have z5 := Later.cell j3
  have z6 := Later.cell c4
  have z7 := Later.cell a0
  have hne : Nonempty (Later W) := ⟨Later.now W⟩
  have h3' := h3
  clear k kW hW hb0 hbx k0 hE hG hB h1 h2 h3 hh c0 c2 a1 a2 a3 a4 a5 a6 j3 a0
  obtain ⟨s, hs⟩ : ∃ s, v.st.s (I : Int) = s := ⟨_, rfl⟩
  rw [hs] at z6 c4
  have HSS := hide hs
  have e1 : (m0 == 1) = false := by simp [k4]
  have e4 : (m0 == 4) = true := by simp [k4]
  have e2 : (s == 1) = false := by rw [← hs]; simp; exact fun e => hs0 (.inr e)
  have e3 : (s == 0) = false := by rw [← hs]; simp; exact fun e => hs0 (.inl e)
  clear k4 hs0
  clear hd hs h3'
  go_enter Tryz.func16, Tryz.ntmps16
  go_wp2_with fail
  rw [← HW.out]
  refine region_later (by kernel_rfl) (by kernel_rfl) ?_
  repeat (first | go_big_quiet_step (exact IC _) | quiet_step (exact IC _))
  refine wpQuiet_nil ?_
  intro u
  have y0 := z0 u
  have y3 := z3 u
  have y6 := z6 u
  have y7 := z7 u
  go_wp2_with fail
  go_quiet (fail)
  have hT := (NX.out u).1.on (belowN (Below.refl _ _) nq)
  have hX := (NX.out u).2.on (belowN (Below.refl _ _) nq)
  clear y0 y3 y6 y7 z0 z1 z2 z3 z4 z5 z6 z7 IC NX c4
  generalize u.w.drewN nq = V at hT hX ⊢
  have HT := hide hT
  have HX := hide hX
  obtain ⟨c0, -, c2, c3⟩ := hT.k.cells
  have c4 := hT.k.cellI hI3
  have f4 := hT.k.frozen (4 + I)
  rw [HSS.out] at c4
  obtain ⟨a0, a1, a2, a3, a4, a5, a6⟩ := seven_of hX.1
  obtain ⟨⟨j0, j1, -, j3⟩, -⟩ := hT.k.jr.cells
  have hpl := hT.k.lt
  rw [HD.out] at j3
  clear hT hX
  go_wp2_with fail
  go_region
  all_goals go_wp2
  all_goals go_ret
  all_goals exact rhand_one HT.out HE.out HB.out HG.out (Below.refl _ _).drew
end Go.Proofs.YtdbmnjodkpeobaaGreatDoor
