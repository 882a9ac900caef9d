/-
  The reference's Handle where it hears: MUndo, noted; all ways together.
-/
import Derived.Test.YtdbmnjodkpeobaaGreatDoorSvrH
import Derived.Deep.RegionHeld3
import Derived.Deep.CutBlock
namespace Go.Proofs.YtdbmnjodkpeobaaGreatDoor
open Go.ChangeShapes Go.WideShapes Go.ChangeAt Go.RowKit Go.Maps

set_option maxRecDepth 100000 in
set_option maxHeartbeats 4000000 in
theorem rh_undofull0 {B : Nat} {E : Nat → Prop} {w : World} {p : Nat} {v : Sv} (k : Rs B E w p v) (m : Ms.Mg) (hh : hearsB v m = true) (k4 : m.k = 4) (hs0 : v.st.s m.id = 0) (hr : hasRoom v = false) :
    Calls Tryz.prog 16 #[.pointer (some ⟨p, 0, none⟩), .agg #[.int .i64 m.k, .int .i64 m.fr, .int .i64 m.to, .int .i64 m.id, .int .i64 m.st, .int .i64 m.a, .int .i64 m.b]] w (RHand B E w p (hdS v m) (hdA v m)) := by
  obtain ⟨hE, hG, q, r, pb, k0⟩ := id k
  have hB := k.low
  obtain ⟨hd, h1, h2, h3⟩ := hears_of hh
  obtain ⟨W, hW⟩ : ∃ W, W = w.alloc (.cells #[.int .i64 m.k, .int .i64 m.fr, .int .i64 m.to, .int .i64 m.id, .int .i64 m.st, .int .i64 m.a, .int .i64 m.b] 29) := ⟨_, rfl⟩
  have hb0 : Below w.heap.size w W := by rw [hW]; exact (Below.refl _ _).alloc (Nat.le_refl _) _
  have hbx : Ab W E w.heap.size (.cells #[.int .i64 m.k, .int .i64 m.fr, .int .i64 m.to, .int .i64 m.id, .int .i64 m.st, .int .i64 m.a, .int .i64 m.b] 29 (0, 0)) := ⟨by rw [hW]; exact World.alloc_heap_new w _, fun e => by have := (hE _ e).2; omega⟩
  have kW := k0.on hb0
  obtain ⟨a0, a1, a2, a3, a4, a5, a6⟩ := seven_of hbx.1
  obtain ⟨c0, -, c2, -⟩ := kW.cells
  obtain ⟨ra, rc, hr0, -, -⟩ := k0.jr.row
  subst hr0
  obtain ⟨⟨-, -, -, j3⟩, -⟩ := kW.jr.cells
  have IC : ∀ u : Later W, Calls Tryz.prog 37 #[.int .i64 m.id] u.w fun e w' => e = .returned (.bool true) ∧ ∃ u' : Later W, w' = u'.w := fun u => calls_later u ((Hd.rid_any m.id u.w).mono (fun _ _ ⟨h1, h2⟩ => ⟨by rw [h1, Hd.isI_iff.2 h3], by rw [← h2]; exact Below.refl _ _⟩))
  have NX : Hid (∀ u : Later W, RT B E w E u.w p v q (.slice ra (v.T.map lnE).length rc) pb ∧ Ab u.w E w.heap.size (.cells #[.int .i64 m.k, .int .i64 m.fr, .int .i64 m.to, .int .i64 m.id, .int .i64 m.st, .int .i64 m.a, .int .i64 m.b] 29 (0, 0))) := fun u => ⟨RT.new k0 (bel_on' hb0 u.below), hbx.on u.below⟩
  have HW := hide hW
  have HE := hide hE
  have HB := hide hB
  have HG := hide hG
  have HD := hide hd
  obtain ⟨eS, eA⟩ := hd_undid_full (v := v) (m := m) hh k4 (.inl hs0) hr
  rw [eS, eA]
  clear eS eA
  obtain ⟨m0, m1, m2, m3, m4, m5, m6⟩ := m
  simp only at *
  obtain ⟨I, hI⟩ : ∃ I : Nat, m3 = I := ⟨m3.toNat, by omega⟩
  subst hI
  have hI3 : I < 1000 := by omega
  have hI2 : (I : Int) < 1000 := by omega
  rw [hd] at j3
  have b1 : (m2 != v.node) = false := by simp [h1]
  have b2 : (m1 != 0) = false := by simp [h2]
  have c4 := kW.cellI hI3
  have z0 := Later.cell c0
  have z1 := Later.cell a1
  have z2 := Later.cell a2
  have z3 := Later.cell a3
  have z4 := Later.cell c2
  have z5 := Later.cell j3
  have z6 := Later.cell c4
  have z7 := Later.cell a0
  have hne : Nonempty (Later W) := ⟨Later.now W⟩
  have h3' := h3
  clear k kW hW hb0 hbx k0 hE hG hB h1 h2 h3 hh c0 c2 a1 a2 a3 a4 a5 a6 j3 a0
  obtain ⟨s, hs⟩ : ∃ s, v.st.s (I : Int) = s := ⟨_, rfl⟩
  rw [hs] at z6 c4
  have HSS := hide hs
  have e2 : (s == 1) = false := by rw [← hs, hs0]; decide
  have e3 : (s == 0) = true := by rw [← hs, hs0]; decide
  have e1 : (m0 == 1) = false := by simp [k4]
  have e4 : (m0 == 4) = true := by simp [k4]
  have HRM := hide hr
  clear k4 hs0 hr
  clear hd hs h3'
  go_enter Tryz.func16, Tryz.ntmps16
  go_wp2_with fail
  rw [← HW.out]
  refine region_later (by kernel_rfl) (by kernel_rfl) ?_
  repeat (first | go_big_quiet_step (exact IC _) | quiet_step (exact IC _))
  refine wpQuiet_nil ?_
  intro u
  have y0 := z0 u
  have y3 := z3 u
  have y6 := z6 u
  have y7 := z7 u
  go_wp2_with fail
  go_quiet (fail)
  have hT := (NX.out u).1.on (belowN (Below.refl _ _) nq)
  have hX := (NX.out u).2.on (belowN (Below.refl _ _) nq)
  clear y0 y3 y6 y7 z0 z1 z2 z3 z4 z5 z6 z7 IC NX c4
  generalize u.w.drewN nq = V at hT hX ⊢
  have HT := hide hT
  have HX := hide hX
  obtain ⟨c0, -, c2, c3⟩ := hT.k.cells
  have c4 := hT.k.cellI hI3
  have f4 := hT.k.frozen (4 + I)
  rw [HSS.out] at c4
  obtain ⟨a0, a1, a2, a3, a4, a5, a6⟩ := seven_of hX.1
  obtain ⟨⟨j0, j1, -, j3⟩, -⟩ := hT.k.jr.cells
  have hpl := hT.k.lt
  rw [HD.out] at j3
  clear hT hX
  have HRE : Hid (∀ X, Calls Tryz.prog 38 #[.string ⟨#[117, 110, 100, 105, 100]⟩, .int .i64 I, .slice none 0 0] X fun e w' => e = .returned (.agg #[.string ⟨#[117, 110, 100, 105, 100]⟩, .int .i64 I, .slice none 0 0]) ∧ Below X.heap.size X w') := fun X => rentry_any _ _ _ _ _ X
  have HCU : Hid (∀ X, Below V.heap.size V X → X.cell? ⟨p, 2, none⟩ = some (.pointer (some ⟨q, 0, none⟩)) ∧ X.cell? ⟨w.heap.size, 3, none⟩ = some (.int .i64 I)) := fun X hX => by
    obtain ⟨-, -, h2, -⟩ := (HT.out.on hX).k.cells
    obtain ⟨-, -, -, b3, -, -, -⟩ := seven_of (HX.out.on hX).1
    exact ⟨h2, b3⟩
  have HNT : Hid (∀ V5 X a, Below V.heap.size V V5 → Below V5.heap.size V5 X → Calls Tryz.prog 39 #[.pointer (some ⟨q, 0, none⟩), .bool true, .slice (some a) 1 1] X fun e u => e = .returned (.bool false) ∧ Below V.heap.size V u) := fun V5 X a h5 hX => ((HT.out.on (bel_on' h5 hX)).full HD.out HRM.out _ _).mono (fun _ _ ⟨h1, h2⟩ => ⟨h1, bel_on' (bel_on' h5 hX) h2⟩)
  go_wp2_with fail
  go_region_held3 (fun w' => w'.cell? ⟨p, 2, none⟩ = some (.pointer (some ⟨q, 0, none⟩)) ∧ w'.cell? ⟨w.heap.size, 3, none⟩ = some (.int .i64 I)) (go_keep) (first
    | (go_at_call 38; refine (HRE.out _).mono ?_; clear HRE; rintro e V5 ⟨rfl, hb5⟩; have HB5 : Hid (Below V.heap.size V V5) := (by first | exact bel_on' (Below.refl _ _).drew hb5 | exact hb5); clear c2 a3 hb5; obtain ⟨c2, a3⟩ := HCU.out V5 HB5.out)
    | (go_at_call 39; refine (HNT.out V5 _ _ HB5.out (by first | exact (Below.refl _ _).alloc (Nat.le_refl _) _ | exact ((Below.refl _ _).alloc (Nat.le_refl _) _).drew | exact (Below.refl _ _).drew.alloc (Nat.le_refl _) _)).mono ?_; clear HNT; rintro e V6 ⟨rfl, hb6⟩; have HB6 := hide hb6; clear c2 a3 hb6; obtain ⟨c2, a3⟩ := HCU.out V6 HB6.out))
  clear c2 a3
  go_wp2
  go_ret
  exact rhand_no (HT.out.on HB6.out) HE.out HB.out HG.out
set_option maxRecDepth 100000 in
set_option maxHeartbeats 4000000 in
theorem rh_undofull1 {B : Nat} {E : Nat → Prop} {w : World} {p : Nat} {v : Sv} (k : Rs B E w p v) (m : Ms.Mg) (hh : hearsB v m = true) (k4 : m.k = 4) (hs0 : v.st.s m.id = 1) (hr : hasRoom v = false) :
    Calls Tryz.prog 16 #[.pointer (some ⟨p, 0, none⟩), .agg #[.int .i64 m.k, .int .i64 m.fr, .int .i64 m.to, .int .i64 m.id, .int .i64 m.st, .int .i64 m.a, .int .i64 m.b]] w (RHand B E w p (hdS v m) (hdA v m)) := by
  obtain ⟨hE, hG, q, r, pb, k0⟩ := id k
  have hB := k.low
  obtain ⟨hd, h1, h2, h3⟩ := hears_of hh
  obtain ⟨W, hW⟩ : ∃ W, W = w.alloc (.cells #[.int .i64 m.k, .int .i64 m.fr, .int .i64 m.to, .int .i64 m.id, .int .i64 m.st, .int .i64 m.a, .int .i64 m.b] 29) := ⟨_, rfl⟩
  have hb0 : Below w.heap.size w W := by rw [hW]; exact (Below.refl _ _).alloc (Nat.le_refl _) _
  have hbx : Ab W E w.heap.size (.cells #[.int .i64 m.k, .int .i64 m.fr, .int .i64 m.to, .int .i64 m.id, .int .i64 m.st, .int .i64 m.a, .int .i64 m.b] 29 (0, 0)) := ⟨by rw [hW]; exact World.alloc_heap_new w _, fun e => by have := (hE _ e).2; omega⟩
  have kW := k0.on hb0
  obtain ⟨a0, a1, a2, a3, a4, a5, a6⟩ := seven_of hbx.1
  obtain ⟨c0, -, c2, -⟩ := kW.cells
  obtain ⟨ra, rc, hr0, -, -⟩ := k0.jr.row
  subst hr0
  obtain ⟨⟨-, -, -, j3⟩, -⟩ := kW.jr.cells
  have IC : ∀ u : Later W, Calls Tryz.prog 37 #[.int .i64 m.id] u.w fun e w' => e = .returned (.bool true) ∧ ∃ u' : Later W, w' = u'.w := fun u => calls_later u ((Hd.rid_any m.id u.w).mono (fun _ _ ⟨h1, h2⟩ => ⟨by rw [h1, Hd.isI_iff.2 h3], by rw [← h2]; exact Below.refl _ _⟩))
  have NX : Hid (∀ u : Later W, RT B E w E u.w p v q (.slice ra (v.T.map lnE).length rc) pb ∧ Ab u.w E w.heap.size (.cells #[.int .i64 m.k, .int .i64 m.fr, .int .i64 m.to, .int .i64 m.id, .int .i64 m.st, .int .i64 m.a, .int .i64 m.b] 29 (0, 0))) := fun u => ⟨RT.new k0 (bel_on' hb0 u.below), hbx.on u.below⟩
  have HW := hide hW
  have HE := hide hE
  have HB := hide hB
  have HG := hide hG
  have HD := hide hd
  obtain ⟨eS, eA⟩ := hd_undid_full (v := v) (m := m) hh k4 (.inr hs0) hr
  rw [eS, eA]
  clear eS eA
  obtain ⟨m0, m1, m2, m3, m4, m5, m6⟩ := m
  simp only at *
  obtain ⟨I, hI⟩ : ∃ I : Nat, m3 = I := ⟨m3.toNat, by omega⟩
  subst hI
  have hI3 : I < 1000 := by omega
  have hI2 : (I : Int) < 1000 := by omega
  rw [hd] at j3
  have b1 : (m2 != v.node) = false := by simp [h1]
  have b2 : (m1 != 0) = false := by simp [h2]
  have c4 := kW.cellI hI3
  have z0 := Later.cell c0
  have z1 := Later.cell a1
  have z2 := Later.cell a2
  have z3 := Later.cell a3
  have z4 := Later.cell c2
  have z5 := Later.cell j3
  have z6 := Later.cell c4
  have z7 := Later.cell a0
  have hne : Nonempty (Later W) := ⟨Later.now W⟩
  have h3' := h3
  clear k kW hW hb0 hbx k0 hE hG hB h1 h2 h3 hh c0 c2 a1 a2 a3 a4 a5 a6 j3 a0
  obtain ⟨s, hs⟩ : ∃ s, v.st.s (I : Int) = s := ⟨_, rfl⟩
  rw [hs] at z6 c4
  have HSS := hide hs
  have e2 : (s == 1) = true := by rw [← hs, hs0]; decide
  have e3 : (s == 0) = false := by rw [← hs, hs0]; decide
  have e1 : (m0 == 1) = false := by simp [k4]
  have e4 : (m0 == 4) = true := by simp [k4]
  have HRM := hide hr
  clear k4 hs0 hr
  clear hd hs h3'
  go_enter Tryz.func16, Tryz.ntmps16
  go_wp2_with fail
  rw [← HW.out]
  refine region_later (by kernel_rfl) (by kernel_rfl) ?_
  repeat (first | go_big_quiet_step (exact IC _) | quiet_step (exact IC _))
  refine wpQuiet_nil ?_
  intro u
  have y0 := z0 u
  have y3 := z3 u
  have y6 := z6 u
  have y7 := z7 u
  go_wp2_with fail
  go_quiet (fail)
  have hT := (NX.out u).1.on (belowN (Below.refl _ _) nq)
  have hX := (NX.out u).2.on (belowN (Below.refl _ _) nq)
  clear y0 y3 y6 y7 z0 z1 z2 z3 z4 z5 z6 z7 IC NX c4
  generalize u.w.drewN nq = V at hT hX ⊢
  have HT := hide hT
  have HX := hide hX
  obtain ⟨c0, -, c2, c3⟩ := hT.k.cells
  have c4 := hT.k.cellI hI3
  have f4 := hT.k.frozen (4 + I)
  rw [HSS.out] at c4
  obtain ⟨a0, a1, a2, a3, a4, a5, a6⟩ := seven_of hX.1
  obtain ⟨⟨j0, j1, -, j3⟩, -⟩ := hT.k.jr.cells
  have hpl := hT.k.lt
  rw [HD.out] at j3
  clear hT hX
  have HRE : Hid (∀ X, Calls Tryz.prog 38 #[.string ⟨#[117, 110, 100, 105, 100]⟩, .int .i64 I, .slice none 0 0] X fun e w' => e = .returned (.agg #[.string ⟨#[117, 110, 100, 105, 100]⟩, .int .i64 I, .slice none 0 0]) ∧ Below X.heap.size X w') := fun X => rentry_any _ _ _ _ _ X
  have HCU : Hid (∀ X, Below V.heap.size V X → X.cell? ⟨p, 2, none⟩ = some (.pointer (some ⟨q, 0, none⟩)) ∧ X.cell? ⟨w.heap.size, 3, none⟩ = some (.int .i64 I)) := fun X hX => by
    obtain ⟨-, -, h2, -⟩ := (HT.out.on hX).k.cells
    obtain ⟨-, -, -, b3, -, -, -⟩ := seven_of (HX.out.on hX).1
    exact ⟨h2, b3⟩
  have HNT : Hid (∀ V5 X a, Below V.heap.size V V5 → Below V5.heap.size V5 X → Calls Tryz.prog 39 #[.pointer (some ⟨q, 0, none⟩), .bool true, .slice (some a) 1 1] X fun e u => e = .returned (.bool false) ∧ Below V.heap.size V u) := fun V5 X a h5 hX => ((HT.out.on (bel_on' h5 hX)).full HD.out HRM.out _ _).mono (fun _ _ ⟨h1, h2⟩ => ⟨h1, bel_on' (bel_on' h5 hX) h2⟩)
  go_wp2_with fail
  go_region_held3 (fun w' => w'.cell? ⟨p, 2, none⟩ = some (.pointer (some ⟨q, 0, none⟩)) ∧ w'.cell? ⟨w.heap.size, 3, none⟩ = some (.int .i64 I)) (go_keep) (first
    | (go_at_call 38; refine (HRE.out _).mono ?_; clear HRE; rintro e V5 ⟨rfl, hb5⟩; have HB5 : Hid (Below V.heap.size V V5) := (by first | exact bel_on' (Below.refl _ _).drew hb5 | exact hb5); clear c2 a3 hb5; obtain ⟨c2, a3⟩ := HCU.out V5 HB5.out)
    | (go_at_call 39; refine (HNT.out V5 _ _ HB5.out (by first | exact (Below.refl _ _).alloc (Nat.le_refl _) _ | exact ((Below.refl _ _).alloc (Nat.le_refl _) _).drew | exact (Below.refl _ _).drew.alloc (Nat.le_refl _) _)).mono ?_; clear HNT; rintro e V6 ⟨rfl, hb6⟩; have HB6 := hide hb6; clear c2 a3 hb6; obtain ⟨c2, a3⟩ := HCU.out V6 HB6.out))
  clear c2 a3
  go_wp2
  go_ret
  exact rhand_no (HT.out.on HB6.out) HE.out HB.out HG.out
set_option maxRecDepth 100000 in
set_option maxHeartbeats 4000000 in
theorem rh_undo0 {B : Nat} {E : Nat → Prop} {w : World} {p : Nat} {v : Sv} (k : Rs B E w p v) (m : Ms.Mg) (hh : hearsB v m = true) (k4 : m.k = 4) (hs0 : v.st.s m.id = 0) (hr : hasRoom v = true) (hg : ∀ u, Rg.Kept (fun k _ => E k) w u → Gl u) :
    Calls Tryz.prog 16 #[.pointer (some ⟨p, 0, none⟩), .agg #[.int .i64 m.k, .int .i64 m.fr, .int .i64 m.to, .int .i64 m.id, .int .i64 m.st, .int .i64 m.a, .int .i64 m.b]] w (RHand B E w p (hdS v m) (hdA v m)) := by
  obtain ⟨hE, hG, q, r, pb, k0⟩ := id k
  have hB := k.low
  obtain ⟨hd, h1, h2, h3⟩ := hears_of hh
  obtain ⟨W, hW⟩ : ∃ W, W = w.alloc (.cells #[.int .i64 m.k, .int .i64 m.fr, .int .i64 m.to, .int .i64 m.id, .int .i64 m.st, .int .i64 m.a, .int .i64 m.b] 29) := ⟨_, rfl⟩
  have hb0 : Below w.heap.size w W := by rw [hW]; exact (Below.refl _ _).alloc (Nat.le_refl _) _
  have hbx : Ab W E w.heap.size (.cells #[.int .i64 m.k, .int .i64 m.fr, .int .i64 m.to, .int .i64 m.id, .int .i64 m.st, .int .i64 m.a, .int .i64 m.b] 29 (0, 0)) := ⟨by rw [hW]; exact World.alloc_heap_new w _, fun e => by have := (hE _ e).2; omega⟩
  have kW := k0.on hb0
  obtain ⟨a0, a1, a2, a3, a4, a5, a6⟩ := seven_of hbx.1
  obtain ⟨c0, -, c2, -⟩ := kW.cells
  obtain ⟨ra, rc, hr0, -, -⟩ := k0.jr.row
  subst hr0
  obtain ⟨⟨-, -, -, j3⟩, -⟩ := kW.jr.cells
  have IC : ∀ u : Later W, Calls Tryz.prog 37 #[.int .i64 m.id] u.w fun e w' => e = .returned (.bool true) ∧ ∃ u' : Later W, w' = u'.w := fun u => calls_later u ((Hd.rid_any m.id u.w).mono (fun _ _ ⟨h1, h2⟩ => ⟨by rw [h1, Hd.isI_iff.2 h3], by rw [← h2]; exact Below.refl _ _⟩))
  have NX : Hid (∀ u : Later W, RT B E w E u.w p v q (.slice ra (v.T.map lnE).length rc) pb ∧ Ab u.w E w.heap.size (.cells #[.int .i64 m.k, .int .i64 m.fr, .int .i64 m.to, .int .i64 m.id, .int .i64 m.st, .int .i64 m.a, .int .i64 m.b] 29 (0, 0))) := fun u => ⟨RT.new k0 (bel_on' hb0 u.below), hbx.on u.below⟩
  have HW := hide hW
  have HE := hide hE
  have HB := hide hB
  have HG := hide hG
  have HD := hide hd
  obtain ⟨eS, eA⟩ := hd_undid (v := v) (m := m) hh k4 (.inl hs0) hr
  rw [eS, eA]
  clear eS eA
  have HOK0 := undid_ok h3
  have HGP : Hid (GoodSv (putS v ⟨3, m.id, 0⟩)) := by show GoodSv _; rw [← noteS_room hr]; exact noteS_good hG hd HOK0
  obtain ⟨m0, m1, m2, m3, m4, m5, m6⟩ := m
  simp only at *
  obtain ⟨I, hI⟩ : ∃ I : Nat, m3 = I := ⟨m3.toNat, by omega⟩
  subst hI
  have hI3 : I < 1000 := by omega
  have hI2 : (I : Int) < 1000 := by omega
  rw [hd] at j3
  have b1 : (m2 != v.node) = false := by simp [h1]
  have b2 : (m1 != 0) = false := by simp [h2]
  have c4 := kW.cellI hI3
  have z0 := Later.cell c0
  have z1 := Later.cell a1
  have z2 := Later.cell a2
  have z3 := Later.cell a3
  have z4 := Later.cell c2
  have z5 := Later.cell j3
  have z6 := Later.cell c4
  have z7 := Later.cell a0
  have hne : Nonempty (Later W) := ⟨Later.now W⟩
  have h3' := h3
  clear k kW hW hb0 hbx k0 hE hG hB h1 h2 h3 hh c0 c2 a1 a2 a3 a4 a5 a6 j3 a0
  obtain ⟨s, hs⟩ : ∃ s, v.st.s (I : Int) = s := ⟨_, rfl⟩
  rw [hs] at z6 c4
  have HSS := hide hs
  have e2 : (s == 1) = false := by rw [← hs, hs0]; decide
  have e3 : (s == 0) = true := by rw [← hs, hs0]; decide
  have e1 : (m0 == 1) = false := by simp [k4]
  have e4 : (m0 == 4) = true := by simp [k4]
  have HRM := hide hr
  have HOK := hide HOK0
  have HGL := hide hg
  clear k4 hs0 hr hg HOK0
  clear hd hs h3'
  go_enter Tryz.func16, Tryz.ntmps16
  go_wp2_with fail
  rw [← HW.out]
  refine region_later (by kernel_rfl) (by kernel_rfl) ?_
  repeat (first | go_big_quiet_step (exact IC _) | quiet_step (exact IC _))
  refine wpQuiet_nil ?_
  intro u
  have y0 := z0 u
  have y3 := z3 u
  have y6 := z6 u
  have y7 := z7 u
  go_wp2_with fail
  go_quiet (fail)
  have hT := (NX.out u).1.on (belowN (Below.refl _ _) nq)
  have hX := (NX.out u).2.on (belowN (Below.refl _ _) nq)
  clear y0 y3 y6 y7 z0 z1 z2 z3 z4 z5 z6 z7 IC NX c4
  generalize u.w.drewN nq = V at hT hX ⊢
  have HT := hide hT
  have HX := hide hX
  obtain ⟨c0, -, c2, c3⟩ := hT.k.cells
  have c4 := hT.k.cellI hI3
  have f4 := hT.k.frozen (4 + I)
  rw [HSS.out] at c4
  obtain ⟨a0, a1, a2, a3, a4, a5, a6⟩ := seven_of hX.1
  obtain ⟨⟨j0, j1, -, j3⟩, -⟩ := hT.k.jr.cells
  have hpl := hT.k.lt
  rw [HD.out] at j3
  clear hT hX
  have HRE : Hid (∀ X, Calls Tryz.prog 38 #[.string ⟨#[117, 110, 100, 105, 100]⟩, .int .i64 I, .slice none 0 0] X fun e w' => e = .returned (.agg #[.string ⟨#[117, 110, 100, 105, 100]⟩, .int .i64 I, .slice none 0 0]) ∧ Below X.heap.size X w') := fun X => rentry_any _ _ _ _ _ X
  have HCU : Hid (∀ X, Below V.heap.size V X → X.cell? ⟨p, 2, none⟩ = some (.pointer (some ⟨q, 0, none⟩)) ∧ X.cell? ⟨w.heap.size, 3, none⟩ = some (.int .i64 I)) := fun X hX => by
    obtain ⟨-, -, h2, -⟩ := (HT.out.on hX).k.cells
    obtain ⟨-, -, -, b3, -, -, -⟩ := seven_of (HX.out.on hX).1
    exact ⟨h2, b3⟩
  have HNT : Hid (∀ V5, Below V.heap.size V V5 → ∀ X, Below V5.heap.size V5 X → X.heap[V5.heap.size]? = some (.cells #[.string ⟨#[117, 110, 100, 105, 100]⟩, .int .i64 I, .slice none 0 0] 70 (0, 0)) → Calls Tryz.prog 39 #[.pointer (some ⟨q, 0, none⟩), .bool true, .slice (some ⟨V5.heap.size, 0, none⟩) 1 1] X fun x u => x = .returned (.bool true) ∧ ∃ E2 r2, RT B E w E2 u p ⟨v.node, v.hold, v.room, v.T ++ [⟨3, (I : Int), 0⟩], v.down, v.st⟩ q r2 pb ∧ Ab u E2 w.heap.size (.cells #[.int .i64 m0, .int .i64 m1, .int .i64 m2, .int .i64 I, .int .i64 m4, .int .i64 m5, .int .i64 m6] 29 (0, 0))) := fun V5 h5 X hX hY => by
    have hA := bel_on' h5 hX
    have t := HT.out.on hA
    refine (t.note (e := ⟨3, (I : Int), 0⟩) HD.out HRM.out HOK.out (a := none) (c := 0) (.inl rfl) (HGL.out X t.kp) hY).mono ?_
    rintro x u ⟨h1, E2, r2, h2, h3, h4⟩
    exact ⟨h1, E2, r2, h2, (HX.out.on hA).step h3 h4⟩
  go_wp2_with fail
  go_region_held3 (fun w' => w'.cell? ⟨p, 2, none⟩ = some (.pointer (some ⟨q, 0, none⟩)) ∧ w'.cell? ⟨w.heap.size, 3, none⟩ = some (.int .i64 I)) (go_keep) (first
    | (go_at_call 38; refine (HRE.out _).mono ?_; clear HRE; rintro e V5 ⟨rfl, hb5⟩; have HB5 : Hid (Below V.heap.size V V5) := (by first | exact bel_on' (Below.refl _ _).drew hb5 | exact hb5); clear c2 a3 hb5; obtain ⟨c2, a3⟩ := HCU.out V5 HB5.out)
    | (go_at_call 39; refine (HNT.out V5 HB5.out _ (by first | exact (Below.refl _ _).alloc (Nat.le_refl _) _ | exact ((Below.refl _ _).alloc (Nat.le_refl _) _).drew | exact (Below.refl _ _).drew.alloc (Nat.le_refl _) _) (by first | exact World.alloc_heap_new V5 _ | exact World.alloc_heap_new V5.drew _)).mono ?_; clear HNT; rintro e V6 ⟨rfl, E2, r2, hT6, hX6⟩; have HT6 := hide hT6; have HX6 := hide hX6; clear c2 a3; obtain ⟨-, -, c2, -⟩ := hT6.k.cells; obtain ⟨-, -, -, a3, -, -, -⟩ := seven_of hX6.1; clear hT6 hX6))
  clear c2 a3 a0 a1 a2 a4 a5 a6 c0 c3 c4 f4 j0 j1 j3 hpl
  have c4 := HT6.out.k.cellI hI3
  have f4 := HT6.out.k.frozen (4 + I)
  obtain ⟨-, -, -, a3, -, -, -⟩ := seven_of HX6.out.1
  go_wp2_with fail
  go_region
  have HT7 := hide ((HT6.out.set hI3 3).on (Below.refl _ _).drew)
  have HX7 := hide ((HX6.out.other (i := 4 + I) (x := .int .i64 3) (fun e => HX6.out.2 (by rw [e]; exact HT6.out.k.ep))).on (Below.refl _ _).drew)
  clear c4 f4 a3 HT6 HX6
  generalize (V6.setCell ⟨p, 4 + I, none⟩ (.int .i64 3)).drew = V7 at HT7 HX7 ⊢
  obtain ⟨-, -, -, c3⟩ := HT7.out.k.cells
  obtain ⟨-, -, -, a3, -, -, -⟩ := seven_of HX7.out.1
  have hbD : Below V7.heap.size V7 V7.drew := (Below.refl _ _).drew
  have BK := (HT7.out.on hbD).back I
  have NX : Hid (∀ u v', RT B E w E2 u p v' q r2 pb → Rg.Kept (fun k _ => E2 k) V7.drew u → u.cell? ⟨p, 3, none⟩ = some (.pointer (some ⟨pb, 0, none⟩)) ∧ u.cell? ⟨w.heap.size, 3, none⟩ = some (.int .i64 I) ∧ Ab u E2 w.heap.size (.cells #[.int .i64 m0, .int .i64 m1, .int .i64 m2, .int .i64 I, .int .i64 m4, .int .i64 m5, .int .i64 m6] 29 (0, 0))) := fun u v' h1 h2 => by
    have h3 := (HX7.out.on hbD).step h2 (fun _ e => .inl e)
    obtain ⟨-, -, -, h5⟩ := h1.k.cells
    obtain ⟨-, -, -, h6, -, -, -⟩ := seven_of h3.1
    exact ⟨h5, h6, h3⟩
  clear hbD HT7 HX7
  go_wp2_with fail
  go_region_held3 (fun w' => w'.cell? ⟨p, 3, none⟩ = some (.pointer (some ⟨pb, 0, none⟩)) ∧ w'.cell? ⟨w.heap.size, 3, none⟩ = some (.int .i64 I)) (go_keep) (first
    | (go_at_call 33; refine BK.mono ?_; clear BK; rintro e V8 ⟨rfl, hT8, hK8⟩; clear c3 a3; obtain ⟨c3, a3, hX8⟩ := NX.out V8 _ hT8 hK8; have HT8 := hide hT8; have HX8 := hide hX8; clear hT8 hK8 hX8))
  clear NX a3 c3
  generalize Hd.backE v.st.h (I : Int) = x
  obtain ⟨c0, -, -, -⟩ := HT8.out.k.cells
  obtain ⟨-, -, -, a3, a4, -, -⟩ := seven_of HX8.out.1
  go_wp2_with fail
  go_region
  all_goals go_wp2
  all_goals go_ret
  all_goals exact rhand_one HT8.out HE.out HB.out HGP.out (Below.refl _ _).drew
set_option maxRecDepth 100000 in
set_option maxHeartbeats 4000000 in
theorem rh_undo1 {B : Nat} {E : Nat → Prop} {w : World} {p : Nat} {v : Sv} (k : Rs B E w p v) (m : Ms.Mg) (hh : hearsB v m = true) (k4 : m.k = 4) (hs0 : v.st.s m.id = 1) (hr : hasRoom v = true) (hg : ∀ u, Rg.Kept (fun k _ => E k) w u → Gl u) :
    Calls Tryz.prog 16 #[.pointer (some ⟨p, 0, none⟩), .agg #[.int .i64 m.k, .int .i64 m.fr, .int .i64 m.to, .int .i64 m.id, .int .i64 m.st, .int .i64 m.a, .int .i64 m.b]] w (RHand B E w p (hdS v m) (hdA v m)) := by
  obtain ⟨hE, hG, q, r, pb, k0⟩ := id k
  have hB := k.low
  obtain ⟨hd, h1, h2, h3⟩ := hears_of hh
  obtain ⟨W, hW⟩ : ∃ W, W = w.alloc (.cells #[.int .i64 m.k, .int .i64 m.fr, .int .i64 m.to, .int .i64 m.id, .int .i64 m.st, .int .i64 m.a, .int .i64 m.b] 29) := ⟨_, rfl⟩
  have hb0 : Below w.heap.size w W := by rw [hW]; exact (Below.refl _ _).alloc (Nat.le_refl _) _
  have hbx : Ab W E w.heap.size (.cells #[.int .i64 m.k, .int .i64 m.fr, .int .i64 m.to, .int .i64 m.id, .int .i64 m.st, .int .i64 m.a, .int .i64 m.b] 29 (0, 0)) := ⟨by rw [hW]; exact World.alloc_heap_new w _, fun e => by have := (hE _ e).2; omega⟩
  have kW := k0.on hb0
  obtain ⟨a0, a1, a2, a3, a4, a5, a6⟩ := seven_of hbx.1
  obtain ⟨c0, -, c2, -⟩ := kW.cells
  obtain ⟨ra, rc, hr0, -, -⟩ := k0.jr.row
  subst hr0
  obtain ⟨⟨-, -, -, j3⟩, -⟩ := kW.jr.cells
  have IC : ∀ u : Later W, Calls Tryz.prog 37 #[.int .i64 m.id] u.w fun e w' => e = .returned (.bool true) ∧ ∃ u' : Later W, w' = u'.w := fun u => calls_later u ((Hd.rid_any m.id u.w).mono (fun _ _ ⟨h1, h2⟩ => ⟨by rw [h1, Hd.isI_iff.2 h3], by rw [← h2]; exact Below.refl _ _⟩))
  have NX : Hid (∀ u : Later W, RT B E w E u.w p v q (.slice ra (v.T.map lnE).length rc) pb ∧ Ab u.w E w.heap.size (.cells #[.int .i64 m.k, .int .i64 m.fr, .int .i64 m.to, .int .i64 m.id, .int .i64 m.st, .int .i64 m.a, .int .i64 m.b] 29 (0, 0))) := fun u => ⟨RT.new k0 (bel_on' hb0 u.below), hbx.on u.below⟩
  have HW := hide hW
  have HE := hide hE
  have HB := hide hB
  have HG := hide hG
  have HD := hide hd
  obtain ⟨eS, eA⟩ := hd_undid (v := v) (m := m) hh k4 (.inr hs0) hr
  rw [eS, eA]
  clear eS eA
  have HOK0 := undid_ok h3
  have HGP : Hid (GoodSv (putS v ⟨3, m.id, 0⟩)) := by show GoodSv _; rw [← noteS_room hr]; exact noteS_good hG hd HOK0
  obtain ⟨m0, m1, m2, m3, m4, m5, m6⟩ := m
  simp only at *
  obtain ⟨I, hI⟩ : ∃ I : Nat, m3 = I := ⟨m3.toNat, by omega⟩
  subst hI
  have hI3 : I < 1000 := by omega
  have hI2 : (I : Int) < 1000 := by omega
  rw [hd] at j3
  have b1 : (m2 != v.node) = false := by simp [h1]
  have b2 : (m1 != 0) = false := by simp [h2]
  have c4 := kW.cellI hI3
  have z0 := Later.cell c0
  have z1 := Later.cell a1
  have z2 := Later.cell a2
  have z3 := Later.cell a3
  have z4 := Later.cell c2
  have z5 := Later.cell j3
  have z6 := Later.cell c4
  have z7 := Later.cell a0
  have hne : Nonempty (Later W) := ⟨Later.now W⟩
  have h3' := h3
  clear k kW hW hb0 hbx k0 hE hG hB h1 h2 h3 hh c0 c2 a1 a2 a3 a4 a5 a6 j3 a0
  obtain ⟨s, hs⟩ : ∃ s, v.st.s (I : Int) = s := ⟨_, rfl⟩
  rw [hs] at z6 c4
  have HSS := hide hs
  have e2 : (s == 1) = true := by rw [← hs, hs0]; decide
  have e3 : (s == 0) = false := by rw [← hs, hs0]; decide
  have e1 : (m0 == 1) = false := by simp [k4]
  have e4 : (m0 == 4) = true := by simp [k4]
  have HRM := hide hr
  have HOK := hide HOK0
  have HGL := hide hg
  clear k4 hs0 hr hg HOK0
  clear hd hs h3'
  go_enter Tryz.func16, Tryz.ntmps16
  go_wp2_with fail
  rw [← HW.out]
  refine region_later (by kernel_rfl) (by kernel_rfl) ?_
  repeat (first | go_big_quiet_step (exact IC _) | quiet_step (exact IC _))
  refine wpQuiet_nil ?_
  intro u
  have y0 := z0 u
  have y3 := z3 u
  have y6 := z6 u
  have y7 := z7 u
  go_wp2_with fail
  go_quiet (fail)
  have hT := (NX.out u).1.on (belowN (Below.refl _ _) nq)
  have hX := (NX.out u).2.on (belowN (Below.refl _ _) nq)
  clear y0 y3 y6 y7 z0 z1 z2 z3 z4 z5 z6 z7 IC NX c4
  generalize u.w.drewN nq = V at hT hX ⊢
  have HT := hide hT
  have HX := hide hX
  obtain ⟨c0, -, c2, c3⟩ := hT.k.cells
  have c4 := hT.k.cellI hI3
  have f4 := hT.k.frozen (4 + I)
  rw [HSS.out] at c4
  obtain ⟨a0, a1, a2, a3, a4, a5, a6⟩ := seven_of hX.1
  obtain ⟨⟨j0, j1, -, j3⟩, -⟩ := hT.k.jr.cells
  have hpl := hT.k.lt
  rw [HD.out] at j3
  clear hT hX
  have HRE : Hid (∀ X, Calls Tryz.prog 38 #[.string ⟨#[117, 110, 100, 105, 100]⟩, .int .i64 I, .slice none 0 0] X fun e w' => e = .returned (.agg #[.string ⟨#[117, 110, 100, 105, 100]⟩, .int .i64 I, .slice none 0 0]) ∧ Below X.heap.size X w') := fun X => rentry_any _ _ _ _ _ X
  have HCU : Hid (∀ X, Below V.heap.size V X → X.cell? ⟨p, 2, none⟩ = some (.pointer (some ⟨q, 0, none⟩)) ∧ X.cell? ⟨w.heap.size, 3, none⟩ = some (.int .i64 I)) := fun X hX => by
    obtain ⟨-, -, h2, -⟩ := (HT.out.on hX).k.cells
    obtain ⟨-, -, -, b3, -, -, -⟩ := seven_of (HX.out.on hX).1
    exact ⟨h2, b3⟩
  have HNT : Hid (∀ V5, Below V.heap.size V V5 → ∀ X, Below V5.heap.size V5 X → X.heap[V5.heap.size]? = some (.cells #[.string ⟨#[117, 110, 100, 105, 100]⟩, .int .i64 I, .slice none 0 0] 70 (0, 0)) → Calls Tryz.prog 39 #[.pointer (some ⟨q, 0, none⟩), .bool true, .slice (some ⟨V5.heap.size, 0, none⟩) 1 1] X fun x u => x = .returned (.bool true) ∧ ∃ E2 r2, RT B E w E2 u p ⟨v.node, v.hold, v.room, v.T ++ [⟨3, (I : Int), 0⟩], v.down, v.st⟩ q r2 pb ∧ Ab u E2 w.heap.size (.cells #[.int .i64 m0, .int .i64 m1, .int .i64 m2, .int .i64 I, .int .i64 m4, .int .i64 m5, .int .i64 m6] 29 (0, 0))) := fun V5 h5 X hX hY => by
    have hA := bel_on' h5 hX
    have t := HT.out.on hA
    refine (t.note (e := ⟨3, (I : Int), 0⟩) HD.out HRM.out HOK.out (a := none) (c := 0) (.inl rfl) (HGL.out X t.kp) hY).mono ?_
    rintro x u ⟨h1, E2, r2, h2, h3, h4⟩
    exact ⟨h1, E2, r2, h2, (HX.out.on hA).step h3 h4⟩
  go_wp2_with fail
  go_region_held3 (fun w' => w'.cell? ⟨p, 2, none⟩ = some (.pointer (some ⟨q, 0, none⟩)) ∧ w'.cell? ⟨w.heap.size, 3, none⟩ = some (.int .i64 I)) (go_keep) (first
    | (go_at_call 38; refine (HRE.out _).mono ?_; clear HRE; rintro e V5 ⟨rfl, hb5⟩; have HB5 : Hid (Below V.heap.size V V5) := (by first | exact bel_on' (Below.refl _ _).drew hb5 | exact hb5); clear c2 a3 hb5; obtain ⟨c2, a3⟩ := HCU.out V5 HB5.out)
    | (go_at_call 39; refine (HNT.out V5 HB5.out _ (by first | exact (Below.refl _ _).alloc (Nat.le_refl _) _ | exact ((Below.refl _ _).alloc (Nat.le_refl _) _).drew | exact (Below.refl _ _).drew.alloc (Nat.le_refl _) _) (by first | exact World.alloc_heap_new V5 _ | exact World.alloc_heap_new V5.drew _)).mono ?_; clear HNT; rintro e V6 ⟨rfl, E2, r2, hT6, hX6⟩; have HT6 := hide hT6; have HX6 := hide hX6; clear c2 a3; obtain ⟨-, -, c2, -⟩ := hT6.k.cells; obtain ⟨-, -, -, a3, -, -, -⟩ := seven_of hX6.1; clear hT6 hX6))
  clear c2 a3 a0 a1 a2 a4 a5 a6 c0 c3 c4 f4 j0 j1 j3 hpl
  have c4 := HT6.out.k.cellI hI3
  have f4 := HT6.out.k.frozen (4 + I)
  obtain ⟨-, -, -, a3, -, -, -⟩ := seven_of HX6.out.1
  go_wp2_with fail
  go_region
  have HT7 := hide ((HT6.out.set hI3 3).on (Below.refl _ _).drew)
  have HX7 := hide ((HX6.out.other (i := 4 + I) (x := .int .i64 3) (fun e => HX6.out.2 (by rw [e]; exact HT6.out.k.ep))).on (Below.refl _ _).drew)
  clear c4 f4 a3 HT6 HX6
  generalize (V6.setCell ⟨p, 4 + I, none⟩ (.int .i64 3)).drew = V7 at HT7 HX7 ⊢
  obtain ⟨-, -, -, c3⟩ := HT7.out.k.cells
  obtain ⟨-, -, -, a3, -, -, -⟩ := seven_of HX7.out.1
  have hbD : Below V7.heap.size V7 V7.drew := (Below.refl _ _).drew
  have BK := (HT7.out.on hbD).back I
  have NX : Hid (∀ u v', RT B E w E2 u p v' q r2 pb → Rg.Kept (fun k _ => E2 k) V7.drew u → u.cell? ⟨p, 3, none⟩ = some (.pointer (some ⟨pb, 0, none⟩)) ∧ u.cell? ⟨w.heap.size, 3, none⟩ = some (.int .i64 I) ∧ Ab u E2 w.heap.size (.cells #[.int .i64 m0, .int .i64 m1, .int .i64 m2, .int .i64 I, .int .i64 m4, .int .i64 m5, .int .i64 m6] 29 (0, 0))) := fun u v' h1 h2 => by
    have h3 := (HX7.out.on hbD).step h2 (fun _ e => .inl e)
    obtain ⟨-, -, -, h5⟩ := h1.k.cells
    obtain ⟨-, -, -, h6, -, -, -⟩ := seven_of h3.1
    exact ⟨h5, h6, h3⟩
  clear hbD HT7 HX7
  go_wp2_with fail
  go_region_held3 (fun w' => w'.cell? ⟨p, 3, none⟩ = some (.pointer (some ⟨pb, 0, none⟩)) ∧ w'.cell? ⟨w.heap.size, 3, none⟩ = some (.int .i64 I)) (go_keep) (first
    | (go_at_call 33; refine BK.mono ?_; clear BK; rintro e V8 ⟨rfl, hT8, hK8⟩; clear c3 a3; obtain ⟨c3, a3, hX8⟩ := NX.out V8 _ hT8 hK8; have HT8 := hide hT8; have HX8 := hide hX8; clear hT8 hK8 hX8))
  clear NX a3 c3
  generalize Hd.backE v.st.h (I : Int) = x
  obtain ⟨c0, -, -, -⟩ := HT8.out.k.cells
  obtain ⟨-, -, -, a3, a4, -, -⟩ := seven_of HX8.out.1
  go_wp2_with fail
  go_region
  all_goals go_wp2
  all_goals go_ret
  all_goals exact rhand_one HT8.out HE.out HB.out HGP.out (Below.refl _ _).drew
theorem rshandle_any {B : Nat} {E : Nat → Prop} {w : World} {p : Nat} {v : Sv} (k : Rs B E w p v) (hg : ∀ u, Rg.Kept (fun k _ => E k) w u → Gl u) (m : Ms.Mg) :
    Calls Tryz.prog 16 #[.pointer (some ⟨p, 0, none⟩), .agg #[.int .i64 m.k, .int .i64 m.fr, .int .i64 m.to, .int .i64 m.id, .int .i64 m.st, .int .i64 m.a, .int .i64 m.b]] w (RHand B E w p (hdS v m) (hdA v m)) := by
  cases hh : hearsB v m
  · have h := rh_deaf k m hh
    obtain ⟨e1, e2⟩ := hd_deaf hh
    rw [e1, e2]
    exact h
  · by_cases k1 : m.k = 1
    · by_cases hs0 : v.st.s m.id = 0
      · cases hr : hasRoom v
        · exact rh_dofull k m hh k1 hs0 hr
        · by_cases ht : Hd.takeE v.st.left v.st.h m.id m.a = 0
          · exact rh_take k m hh k1 hs0 hr ht hg
          · exact rh_cant k m hh k1 hs0 hr ht hg
      · by_cases hs1 : v.st.s m.id = 1
        · exact rh_did k m hh k1 hs1
        · exact rh_late k m hh k1 hs0 hs1
    · by_cases k4 : m.k = 4
      · by_cases hs0 : v.st.s m.id = 0
        · cases hr : hasRoom v
          · exact rh_undofull0 k m hh k4 hs0 hr
          · exact rh_undo0 k m hh k4 hs0 hr hg
        · by_cases hs1 : v.st.s m.id = 1
          · cases hr : hasRoom v
            · exact rh_undofull1 k m hh k4 hs1 hr
            · exact rh_undo1 k m hh k4 hs1 hr hg
          · exact rh_undone k m hh k4 (fun e => e.elim hs0 hs1)
      · exact rh_other k m hh k1 k4
end Go.Proofs.YtdbmnjodkpeobaaGreatDoor
