/-
  The reference's Handle where it hears: MDo, noted.
-/
import Derived.Test.YtdbmnjodkpeobaaGreatDoorSvrG
import Derived.Deep.RegionHeld3
import Derived.Deep.CutBlock
namespace Go.Proofs.YtdbmnjodkpeobaaGreatDoor
open Go.ChangeShapes Go.WideShapes Go.ChangeAt Go.RowKit Go.Maps

/-- Cells of a block beside it turned. -/
theorem RT.beside {B : Nat} {E E1 : Nat → Prop} {w V u : World} {p : Nat} {v : Sv} {q : Nat} {r : Value} {pb G : Nat} (t : RT B E w E1 V p v q r pb) (hk : Rg.Kept (fun k _ => k = G) V u) (hG : ¬ E1 G) (hw : w.heap.size ≤ G) : RT B E w E1 u p v q r pb :=
  ⟨t.k.kept hk (fun i _ e1 e2 => hG (by rw [← e2]; exact e1)), fun i e => (t.sub i e).imp (fun e => e) (fun e => ⟨e.1, Nat.lt_of_lt_of_le e.2 hk.size⟩), kept_one hw t.kp hk⟩
set_option maxRecDepth 100000 in
set_option maxHeartbeats 4000000 in
theorem rh_cant {B : Nat} {E : Nat → Prop} {w : World} {p : Nat} {v : Sv} (k : Rs B E w p v) (m : Ms.Mg) (hh : hearsB v m = true) (k1 : m.k = 1) (hs0 : v.st.s m.id = 0) (hr : hasRoom v = true) (ht : Hd.takeE v.st.left v.st.h m.id m.a ≠ 0) (hg : ∀ u, Rg.Kept (fun k _ => E k) w u → Gl u) :
    Calls Tryz.prog 16 #[.pointer (some ⟨p, 0, none⟩), .agg #[.int .i64 m.k, .int .i64 m.fr, .int .i64 m.to, .int .i64 m.id, .int .i64 m.st, .int .i64 m.a, .int .i64 m.b]] w (RHand B E w p (hdS v m) (hdA v m)) := by
  obtain ⟨hE, hG, q, r, pb, k0⟩ := id k
  have hB := k.low
  obtain ⟨hd, h1, h2, h3⟩ := hears_of hh
  obtain ⟨W, hW⟩ : ∃ W, W = w.alloc (.cells #[.int .i64 m.k, .int .i64 m.fr, .int .i64 m.to, .int .i64 m.id, .int .i64 m.st, .int .i64 m.a, .int .i64 m.b] 29) := ⟨_, rfl⟩
  have hb0 : Below w.heap.size w W := by rw [hW]; exact (Below.refl _ _).alloc (Nat.le_refl _) _
  have hbx : Ab W E w.heap.size (.cells #[.int .i64 m.k, .int .i64 m.fr, .int .i64 m.to, .int .i64 m.id, .int .i64 m.st, .int .i64 m.a, .int .i64 m.b] 29 (0, 0)) := ⟨by rw [hW]; exact World.alloc_heap_new w _, fun e => by have := (hE _ e).2; omega⟩
  have kW := k0.on hb0
  obtain ⟨a0, a1, a2, a3, a4, a5, a6⟩ := seven_of hbx.1
  obtain ⟨c0, -, c2, -⟩ := kW.cells
  obtain ⟨ra, rc, hr0, -, -⟩ := k0.jr.row
  subst hr0
  obtain ⟨⟨-, -, -, j3⟩, -⟩ := kW.jr.cells
  have IC : ∀ u : Later W, Calls Tryz.prog 37 #[.int .i64 m.id] u.w fun e w' => e = .returned (.bool true) ∧ ∃ u' : Later W, w' = u'.w := fun u => calls_later u ((Hd.rid_any m.id u.w).mono (fun _ _ ⟨h1, h2⟩ => ⟨by rw [h1, Hd.isI_iff.2 h3], by rw [← h2]; exact Below.refl _ _⟩))
  have NX : Hid (∀ u : Later W, RT B E w E u.w p v q (.slice ra (v.T.map lnE).length rc) pb ∧ Ab u.w E w.heap.size (.cells #[.int .i64 m.k, .int .i64 m.fr, .int .i64 m.to, .int .i64 m.id, .int .i64 m.st, .int .i64 m.a, .int .i64 m.b] 29 (0, 0))) := fun u => ⟨RT.new k0 (bel_on' hb0 u.below), hbx.on u.below⟩
  have HW := hide hW
  have HE := hide hE
  have HB := hide hB
  have HG := hide hG
  have HD := hide hd
  obtain ⟨eS, eA⟩ := hd_cant (v := v) (m := m) hh k1 hs0 hr ht
  rw [eS, eA]
  clear eS eA
  have HOK0 : OkE ⟨2, m.id, 0⟩ := ⟨.inr (.inl rfl), h3, fun h => by simp at h⟩
  have HGP : Hid (GoodSv (putS v ⟨2, m.id, 0⟩)) := by show GoodSv _; rw [← noteS_room hr]; exact noteS_good hG hd HOK0
  obtain ⟨m0, m1, m2, m3, m4, m5, m6⟩ := m
  simp only at *
  obtain ⟨I, hI⟩ : ∃ I : Nat, m3 = I := ⟨m3.toNat, by omega⟩
  subst hI
  have hI3 : I < 1000 := by omega
  have hI2 : (I : Int) < 1000 := by omega
  rw [hd] at j3
  have b1 : (m2 != v.node) = false := by simp [h1]
  have b2 : (m1 != 0) = false := by simp [h2]
  have c4 := kW.cellI hI3
  have z0 := Later.cell c0
  have z1 := Later.cell a1
  have z2 := Later.cell a2
  have z3 := Later.cell a3
  have z4 := Later.cell c2
  have z5 := Later.cell j3
  have z6 := Later.cell c4
  have z7 := Later.cell a0
  have hne : Nonempty (Later W) := ⟨Later.now W⟩
  have h3' := h3
  clear k kW hW hb0 hbx k0 hE hG hB h1 h2 h3 hh c0 c2 a1 a2 a3 a4 a5 a6 j3 a0
  obtain ⟨s, hs⟩ : ∃ s, v.st.s (I : Int) = s := ⟨_, rfl⟩
  rw [hs] at z6 c4
  have HSS := hide hs
  have HOK := hide HOK0
  have HTE : Hid (Hd.takeL v.st.left v.st.h I m5 = v.st.left ∧ Hd.takeH v.st.left v.st.h I m5 = v.st.h) := ⟨if_neg ht, if_neg ht⟩
  have HEQ := hide ht
  clear ht HOK0
  have e1 : (m0 == 1) = true := by simp [k1]
  have e2 : (s == 1) = false := by rw [← hs, hs0]; decide
  have e3 : (s == 0) = true := by rw [← hs, hs0]; decide
  have hlen : ¬ ((v.T.map lnE).length : Int) ≥ v.room := by rw [List.length_map]; have := hasRoom_iff.1 hr; omega
  have HRM := hide hr
  have HGL := hide hg
  clear k1 hs0 hr hg
  clear hd hs h3'
  go_enter Tryz.func16, Tryz.ntmps16
  go_wp2_with fail
  rw [← HW.out]
  refine region_later (by kernel_rfl) (by kernel_rfl) ?_
  repeat (first | go_big_quiet_step (exact IC _) | quiet_step (exact IC _))
  refine wpQuiet_nil ?_
  intro u
  have y0 := z0 u
  have y3 := z3 u
  have y6 := z6 u
  have y7 := z7 u
  go_wp2_with fail
  go_quiet (fail)
  have hT := (NX.out u).1.on (belowN (Below.refl _ _) nq)
  have hX := (NX.out u).2.on (belowN (Below.refl _ _) nq)
  clear y0 y3 y6 y7 z0 z1 z2 z3 z4 z5 z6 z7 IC NX c4
  generalize u.w.drewN nq = V at hT hX ⊢
  have HT := hide hT
  have HX := hide hX
  obtain ⟨c0, -, c2, c3⟩ := hT.k.cells
  have c4 := hT.k.cellI hI3
  have f4 := hT.k.frozen (4 + I)
  rw [HSS.out] at c4
  obtain ⟨a0, a1, a2, a3, a4, a5, a6⟩ := seven_of hX.1
  obtain ⟨⟨j0, j1, -, j3⟩, -⟩ := hT.k.jr.cells
  have hpl := hT.k.lt
  rw [HD.out] at j3
  clear hT hX
  obtain ⟨n, hn⟩ : ∃ n, (v.T.map lnE).length = n := ⟨_, rfl⟩
  rw [hn] at j1 hlen HT
  clear hn
  go_wp2_with fail
  go_quiet (fail)
  have HT1 := hide (HT.out.on (belowN (Below.refl _ _) nq))
  have HX1 := hide (HX.out.on (belowN (Below.refl _ _) nq))
  clear c0 c2 c3 c4 f4 a0 a1 a2 a3 a4 a5 a6 j0 j1 j3 HT HX hpl
  generalize V.drewN nq = V1 at HT1 HX1 ⊢
  have c4 := HT1.out.k.cellI hI3
  have f4 := HT1.out.k.frozen (4 + I)
  obtain ⟨a0, a1, a2, a3, a4, a5, a6⟩ := seven_of HX1.out.1
  go_wp2_with fail
  go_region
  have HT2 := hide ((HT1.out.set hI3 2).on (Below.refl _ _).drew)
  have HX2 := hide ((HX1.out.other (i := 4 + I) (x := .int .i64 2) (fun e => HX1.out.2 (by rw [e]; exact HT1.out.k.ep))).on (Below.refl _ _).drew)
  clear c4 f4 a0 a1 a2 a3 a4 a5 a6 HT1 HX1
  generalize (V1.setCell ⟨p, 4 + I, none⟩ (.int .i64 2)).drew = V2 at HT2 HX2 ⊢
  obtain ⟨a0, a1, a2, a3, a4, a5, a6⟩ := seven_of HX2.out.1
  have EN := rentry_any ⟨#[99, 97, 110, 116]⟩ I none 0 0 V2
  go_wp2_with fail
  refine EN.mono ?_
  clear EN
  rintro e V3 ⟨rfl, hb3⟩
  have hb4 : Below V2.heap.size V2 (V3.alloc (.cells #[.string ⟨#[99, 97, 110, 116]⟩, .int .i64 I, .slice none 0 0] 70)) := bel_on' hb3 ((Below.refl _ _).alloc (Nat.le_refl _) _)
  have HT4 := hide (HT2.out.on hb4)
  have HX4 := hide (HX2.out.on hb4)
  have HY4 : Hid (Ab (V3.alloc (.cells #[.string ⟨#[99, 97, 110, 116]⟩, .int .i64 I, .slice none 0 0] 70)) E V3.heap.size (.cells #[.string ⟨#[99, 97, 110, 116]⟩, .int .i64 I, .slice none 0 0] 70 (0, 0))) := ⟨World.alloc_heap_new _ _, fun e => by have h5 := (HE.out _ e).2; have h6 := HT2.out.kp.size; have h7 := hb3.size; omega⟩
  clear a0 a1 a2 a3 a4 a5 a6 HX2 hb4
  go_wp2_with fail
  have HGW0 : w.heap.size ≤ V3.heap.size := by have h6 := HT2.out.kp.size; have h7 := hb3.size; omega
  obtain ⟨G, hG⟩ : ∃ G, V3.heap.size = G := ⟨_, rfl⟩
  rw [hG] at HY4 HGW0 ⊢
  have HGW := hide HGW0
  clear hb3 HT2 HGW0
  generalize V3.alloc (.cells #[.string ⟨#[99, 97, 110, 116]⟩, .int .i64 I, .slice none 0 0] 70) = V4 at HT4 HX4 HY4 ⊢
  clear hG
  obtain ⟨-, -, c2, c3⟩ := HT4.out.k.cells
  obtain ⟨a0, a1, a2, a3, a4, a5, a6⟩ := seven_of HX4.out.1
  have hbD : Below V4.heap.size V4 V4.drew := (Below.refl _ _).drew
  have TK := (HT4.out.on hbD).take I m5
  have NX : Hid (∀ u v', RT B E w E u p v' q (.slice ra n rc) pb → Rg.Kept (fun k _ => E k) V4.drew u → u.cell? ⟨p, 3, none⟩ = some (.pointer (some ⟨pb, 0, none⟩)) ∧ u.cell? ⟨w.heap.size, 3, none⟩ = some (.int .i64 I) ∧ u.cell? ⟨w.heap.size, 5, none⟩ = some (.int .i64 m5) ∧ Ab u E w.heap.size (.cells #[.int .i64 m0, .int .i64 m1, .int .i64 m2, .int .i64 I, .int .i64 m4, .int .i64 m5, .int .i64 m6] 29 (0, 0)) ∧ Ab u E G (.cells #[.string ⟨#[99, 97, 110, 116]⟩, .int .i64 I, .slice none 0 0] 70 (0, 0))) := fun u v' h1 h2 => by
    have h3 := (HX4.out.on hbD).step h2 (fun _ e => .inl e)
    have h4 := (HY4.out.on hbD).step h2 (fun _ e => .inl e)
    obtain ⟨-, -, -, h5⟩ := h1.k.cells
    obtain ⟨-, -, -, h6, -, h7, -⟩ := seven_of h3.1
    exact ⟨h5, h6, h7, h3, h4⟩
  dsimp only at TK
  clear hbD HT4 HX4 HY4 c2
  go_region_held3 (fun w' => w'.cell? ⟨p, 3, none⟩ = some (.pointer (some ⟨pb, 0, none⟩)) ∧ w'.cell? ⟨w.heap.size, 3, none⟩ = some (.int .i64 I) ∧ w'.cell? ⟨w.heap.size, 5, none⟩ = some (.int .i64 m5)) (go_keep) (first
    | (go_at_call 32; refine TK.mono ?_; clear TK; rintro e V5 ⟨rfl, hT5, hK5⟩; clear c3 a3 a5; obtain ⟨c3, a3, a5, hX5, hY5⟩ := NX.out V5 _ hT5 hK5; have HT5 := hide hT5; have HX5 := hide hX5; have HY5 := hide hY5; clear hT5 hK5 hX5 hY5))
  clear NX a0 a1 a2 a3 a4 a5 a6 c3
  have ex : (Hd.takeE v.st.left v.st.h (I : Int) m5 == 0) = false := by simp [HEQ.out]
  generalize Hd.takeE v.st.left v.st.h (I : Int) m5 = x at ex ⊢
  rw [HTE.out.1, HTE.out.2] at HT5
  go_wp2_with fail
  obtain ⟨-, -, c2, -⟩ := HT5.out.k.cells
  obtain ⟨g0, g1, g2⟩ : V5.cell? ⟨G, 0, none⟩ = some (.string ⟨#[99, 97, 110, 116]⟩) ∧ V5.cell? ⟨G, 1, none⟩ = some (.int .i64 I) ∧ V5.cell? ⟨G, 2, none⟩ = some (.slice none 0 0) := by refine ⟨?_, ?_, ?_⟩ <;> (rw [cell_of HY5.out.1]; rfl)
  have HNT : Hid (∀ X, Below V5.heap.size V5 X → X.heap[V5.heap.size]? = some (.cells #[.string ⟨#[99, 97, 110, 116]⟩, .int .i64 I, .slice none 0 0] 70 (0, 0)) → Calls Tryz.prog 39 #[.pointer (some ⟨q, 0, none⟩), .bool true, .slice (some ⟨V5.heap.size, 0, none⟩) 1 1] X fun x u => x = .returned (.bool true) ∧ ∃ E2 r2, RT B E w E2 u p (putS v ⟨2, (I : Int), 0⟩) q r2 pb ∧ Ab u E2 w.heap.size (.cells #[.int .i64 m0, .int .i64 m1, .int .i64 m2, .int .i64 I, .int .i64 m4, .int .i64 m5, .int .i64 m6] 29 (0, 0)) ∧ Ab u E2 G (.cells #[.string ⟨#[99, 97, 110, 116]⟩, .int .i64 I, .slice none 0 0] 70 (0, 0))) := fun X hX hY => by
    have t := HT5.out.on hX
    refine (t.note (e := ⟨2, (I : Int), 0⟩) HD.out HRM.out HOK.out (.inl rfl) (HGL.out X t.kp) hY).mono ?_
    rintro x u ⟨h1, E2, r2, h2, h3, h4⟩
    exact ⟨h1, E2, r2, h2, (HX5.out.on hX).step h3 h4, (HY5.out.on hX).step h3 h4⟩
  go_region_held3 (fun w' => w'.cell? ⟨p, 2, none⟩ = some (.pointer (some ⟨q, 0, none⟩)) ∧ w'.cell? ⟨G, 0, none⟩ = some (.string ⟨#[99, 97, 110, 116]⟩) ∧ w'.cell? ⟨G, 1, none⟩ = some (.int .i64 I) ∧ w'.cell? ⟨G, 2, none⟩ = some (.slice none 0 0)) (go_keep) (first
    | (go_at_call 39; refine (HNT.out _ (by first | exact ((Below.refl _ _).alloc (Nat.le_refl _) _).drew | exact (Below.refl _ _).drew.alloc (Nat.le_refl _) _) (by first | exact World.alloc_heap_new V5 _ | exact World.alloc_heap_new V5.drew _)).mono ?_; clear HNT; rintro e V6 ⟨rfl, E2, r2, hT6, hX6, hY6⟩; have HT6 := hide hT6; have HX6 := hide hX6; clear c2 g0 g1 g2; obtain ⟨-, -, c2, -⟩ := hT6.k.cells; obtain ⟨g0, g1, g2⟩ : V6.cell? ⟨G, 0, none⟩ = some (.string ⟨#[99, 97, 110, 116]⟩) ∧ V6.cell? ⟨G, 1, none⟩ = some (.int .i64 I) ∧ V6.cell? ⟨G, 2, none⟩ = some (.slice none 0 0) := (by refine ⟨?_, ?_, ?_⟩ <;> (rw [cell_of hY6.1]; rfl)); clear hT6 hX6 hY6))
  obtain ⟨c0, -, -, -⟩ := HT6.out.k.cells
  obtain ⟨-, -, -, a3, a4, -, -⟩ := seven_of HX6.out.1
  go_wp2_with fail
  go_region
  all_goals go_wp2
  all_goals go_ret
  all_goals exact rhand_one HT6.out HE.out HB.out HGP.out (Below.refl _ _).drew
set_option maxRecDepth 100000 in
set_option maxHeartbeats 4000000 in
theorem rh_take {B : Nat} {E : Nat → Prop} {w : World} {p : Nat} {v : Sv} (k : Rs B E w p v) (m : Ms.Mg) (hh : hearsB v m = true) (k1 : m.k = 1) (hs0 : v.st.s m.id = 0) (hr : hasRoom v = true) (ht : Hd.takeE v.st.left v.st.h m.id m.a = 0) (hg : ∀ u, Rg.Kept (fun k _ => E k) w u → Gl u) :
    Calls Tryz.prog 16 #[.pointer (some ⟨p, 0, none⟩), .agg #[.int .i64 m.k, .int .i64 m.fr, .int .i64 m.to, .int .i64 m.id, .int .i64 m.st, .int .i64 m.a, .int .i64 m.b]] w (RHand B E w p (hdS v m) (hdA v m)) := by
  obtain ⟨hE, hG, q, r, pb, k0⟩ := id k
  have hB := k.low
  obtain ⟨hd, h1, h2, h3⟩ := hears_of hh
  obtain ⟨W, hW⟩ : ∃ W, W = w.alloc (.cells #[.int .i64 m.k, .int .i64 m.fr, .int .i64 m.to, .int .i64 m.id, .int .i64 m.st, .int .i64 m.a, .int .i64 m.b] 29) := ⟨_, rfl⟩
  have hb0 : Below w.heap.size w W := by rw [hW]; exact (Below.refl _ _).alloc (Nat.le_refl _) _
  have hbx : Ab W E w.heap.size (.cells #[.int .i64 m.k, .int .i64 m.fr, .int .i64 m.to, .int .i64 m.id, .int .i64 m.st, .int .i64 m.a, .int .i64 m.b] 29 (0, 0)) := ⟨by rw [hW]; exact World.alloc_heap_new w _, fun e => by have := (hE _ e).2; omega⟩
  have kW := k0.on hb0
  obtain ⟨a0, a1, a2, a3, a4, a5, a6⟩ := seven_of hbx.1
  obtain ⟨c0, -, c2, -⟩ := kW.cells
  obtain ⟨ra, rc, hr0, -, -⟩ := k0.jr.row
  subst hr0
  obtain ⟨⟨-, -, -, j3⟩, -⟩ := kW.jr.cells
  have IC : ∀ u : Later W, Calls Tryz.prog 37 #[.int .i64 m.id] u.w fun e w' => e = .returned (.bool true) ∧ ∃ u' : Later W, w' = u'.w := fun u => calls_later u ((Hd.rid_any m.id u.w).mono (fun _ _ ⟨h1, h2⟩ => ⟨by rw [h1, Hd.isI_iff.2 h3], by rw [← h2]; exact Below.refl _ _⟩))
  have NX : Hid (∀ u : Later W, RT B E w E u.w p v q (.slice ra (v.T.map lnE).length rc) pb ∧ Ab u.w E w.heap.size (.cells #[.int .i64 m.k, .int .i64 m.fr, .int .i64 m.to, .int .i64 m.id, .int .i64 m.st, .int .i64 m.a, .int .i64 m.b] 29 (0, 0))) := fun u => ⟨RT.new k0 (bel_on' hb0 u.below), hbx.on u.below⟩
  have HW := hide hW
  have HE := hide hE
  have HB := hide hB
  have HG := hide hG
  have HD := hide hd
  obtain ⟨eS, eA⟩ := hd_did (v := v) (m := m) hh k1 hs0 hr ht
  rw [eS, eA]
  clear eS eA
  have HOK0 : OkE ⟨1, m.id, m.a⟩ := ⟨.inl rfl, h3, fun _ => by obtain ⟨_, h6, _⟩ := Hd.takeE_ok ht; have := k0.gd.tot; have := Hd.sumTo_nonneg k0.gd.pos 1000; show 1 ≤ m.a ∧ m.a ≤ 1000000000; omega⟩
  have HGP : Hid (GoodSv (putS v ⟨1, m.id, m.a⟩)) := by show GoodSv _; rw [← noteS_room hr]; exact noteS_good hG hd HOK0
  obtain ⟨m0, m1, m2, m3, m4, m5, m6⟩ := m
  simp only at *
  obtain ⟨I, hI⟩ : ∃ I : Nat, m3 = I := ⟨m3.toNat, by omega⟩
  subst hI
  have hI3 : I < 1000 := by omega
  have hI2 : (I : Int) < 1000 := by omega
  rw [hd] at j3
  have b1 : (m2 != v.node) = false := by simp [h1]
  have b2 : (m1 != 0) = false := by simp [h2]
  have c4 := kW.cellI hI3
  have z0 := Later.cell c0
  have z1 := Later.cell a1
  have z2 := Later.cell a2
  have z3 := Later.cell a3
  have z4 := Later.cell c2
  have z5 := Later.cell j3
  have z6 := Later.cell c4
  have z7 := Later.cell a0
  have hne : Nonempty (Later W) := ⟨Later.now W⟩
  have h3' := h3
  clear k kW hW hb0 hbx k0 hE hG hB h1 h2 h3 hh c0 c2 a1 a2 a3 a4 a5 a6 j3 a0
  obtain ⟨s, hs⟩ : ∃ s, v.st.s (I : Int) = s := ⟨_, rfl⟩
  rw [hs] at z6 c4
  have HSS := hide hs
  have HOK := hide HOK0
  have HEQ := hide ht
  clear ht HOK0
  have e1 : (m0 == 1) = true := by simp [k1]
  have e2 : (s == 1) = false := by rw [← hs, hs0]; decide
  have e3 : (s == 0) = true := by rw [← hs, hs0]; decide
  have hlen : ¬ ((v.T.map lnE).length : Int) ≥ v.room := by rw [List.length_map]; have := hasRoom_iff.1 hr; omega
  have HRM := hide hr
  have HGL := hide hg
  clear k1 hs0 hr hg
  clear hd hs h3'
  go_enter Tryz.func16, Tryz.ntmps16
  go_wp2_with fail
  rw [← HW.out]
  refine region_later (by kernel_rfl) (by kernel_rfl) ?_
  repeat (first | go_big_quiet_step (exact IC _) | quiet_step (exact IC _))
  refine wpQuiet_nil ?_
  intro u
  have y0 := z0 u
  have y3 := z3 u
  have y6 := z6 u
  have y7 := z7 u
  go_wp2_with fail
  go_quiet (fail)
  have hT := (NX.out u).1.on (belowN (Below.refl _ _) nq)
  have hX := (NX.out u).2.on (belowN (Below.refl _ _) nq)
  clear y0 y3 y6 y7 z0 z1 z2 z3 z4 z5 z6 z7 IC NX c4
  generalize u.w.drewN nq = V at hT hX ⊢
  have HT := hide hT
  have HX := hide hX
  obtain ⟨c0, -, c2, c3⟩ := hT.k.cells
  have c4 := hT.k.cellI hI3
  have f4 := hT.k.frozen (4 + I)
  rw [HSS.out] at c4
  obtain ⟨a0, a1, a2, a3, a4, a5, a6⟩ := seven_of hX.1
  obtain ⟨⟨j0, j1, -, j3⟩, -⟩ := hT.k.jr.cells
  have hpl := hT.k.lt
  rw [HD.out] at j3
  clear hT hX
  obtain ⟨n, hn⟩ : ∃ n, (v.T.map lnE).length = n := ⟨_, rfl⟩
  rw [hn] at j1 hlen HT
  clear hn
  go_wp2_with fail
  go_quiet (fail)
  have HT1 := hide (HT.out.on (belowN (Below.refl _ _) nq))
  have HX1 := hide (HX.out.on (belowN (Below.refl _ _) nq))
  clear c0 c2 c3 c4 f4 a0 a1 a2 a3 a4 a5 a6 j0 j1 j3 HT HX hpl
  generalize V.drewN nq = V1 at HT1 HX1 ⊢
  have c4 := HT1.out.k.cellI hI3
  have f4 := HT1.out.k.frozen (4 + I)
  obtain ⟨a0, a1, a2, a3, a4, a5, a6⟩ := seven_of HX1.out.1
  go_wp2_with fail
  go_region
  have HT2 := hide ((HT1.out.set hI3 2).on (Below.refl _ _).drew)
  have HX2 := hide ((HX1.out.other (i := 4 + I) (x := .int .i64 2) (fun e => HX1.out.2 (by rw [e]; exact HT1.out.k.ep))).on (Below.refl _ _).drew)
  clear c4 f4 a0 a1 a2 a3 a4 a5 a6 HT1 HX1
  generalize (V1.setCell ⟨p, 4 + I, none⟩ (.int .i64 2)).drew = V2 at HT2 HX2 ⊢
  obtain ⟨a0, a1, a2, a3, a4, a5, a6⟩ := seven_of HX2.out.1
  have EN := rentry_any ⟨#[99, 97, 110, 116]⟩ I none 0 0 V2
  go_wp2_with fail
  refine EN.mono ?_
  clear EN
  rintro e V3 ⟨rfl, hb3⟩
  have hb4 : Below V2.heap.size V2 (V3.alloc (.cells #[.string ⟨#[99, 97, 110, 116]⟩, .int .i64 I, .slice none 0 0] 70)) := bel_on' hb3 ((Below.refl _ _).alloc (Nat.le_refl _) _)
  have HT4 := hide (HT2.out.on hb4)
  have HX4 := hide (HX2.out.on hb4)
  have HY4 : Hid (Ab (V3.alloc (.cells #[.string ⟨#[99, 97, 110, 116]⟩, .int .i64 I, .slice none 0 0] 70)) E V3.heap.size (.cells #[.string ⟨#[99, 97, 110, 116]⟩, .int .i64 I, .slice none 0 0] 70 (0, 0))) := ⟨World.alloc_heap_new _ _, fun e => by have h5 := (HE.out _ e).2; have h6 := HT2.out.kp.size; have h7 := hb3.size; omega⟩
  clear a0 a1 a2 a3 a4 a5 a6 HX2 hb4
  go_wp2_with fail
  have HGW0 : w.heap.size ≤ V3.heap.size := by have h6 := HT2.out.kp.size; have h7 := hb3.size; omega
  obtain ⟨G, hG⟩ : ∃ G, V3.heap.size = G := ⟨_, rfl⟩
  rw [hG] at HY4 HGW0 ⊢
  have HGW := hide HGW0
  clear hb3 HT2 HGW0
  generalize V3.alloc (.cells #[.string ⟨#[99, 97, 110, 116]⟩, .int .i64 I, .slice none 0 0] 70) = V4 at HT4 HX4 HY4 ⊢
  clear hG
  obtain ⟨-, -, c2, c3⟩ := HT4.out.k.cells
  obtain ⟨a0, a1, a2, a3, a4, a5, a6⟩ := seven_of HX4.out.1
  have hbD : Below V4.heap.size V4 V4.drew := (Below.refl _ _).drew
  have TK := (HT4.out.on hbD).take I m5
  have NX : Hid (∀ u v', RT B E w E u p v' q (.slice ra n rc) pb → Rg.Kept (fun k _ => E k) V4.drew u → u.cell? ⟨p, 3, none⟩ = some (.pointer (some ⟨pb, 0, none⟩)) ∧ u.cell? ⟨w.heap.size, 3, none⟩ = some (.int .i64 I) ∧ u.cell? ⟨w.heap.size, 5, none⟩ = some (.int .i64 m5) ∧ Ab u E w.heap.size (.cells #[.int .i64 m0, .int .i64 m1, .int .i64 m2, .int .i64 I, .int .i64 m4, .int .i64 m5, .int .i64 m6] 29 (0, 0)) ∧ Ab u E G (.cells #[.string ⟨#[99, 97, 110, 116]⟩, .int .i64 I, .slice none 0 0] 70 (0, 0))) := fun u v' h1 h2 => by
    have h3 := (HX4.out.on hbD).step h2 (fun _ e => .inl e)
    have h4 := (HY4.out.on hbD).step h2 (fun _ e => .inl e)
    obtain ⟨-, -, -, h5⟩ := h1.k.cells
    obtain ⟨-, -, -, h6, -, h7, -⟩ := seven_of h3.1
    exact ⟨h5, h6, h7, h3, h4⟩
  dsimp only at TK
  clear hbD HT4 HX4 HY4 c2
  go_region_held3 (fun w' => w'.cell? ⟨p, 3, none⟩ = some (.pointer (some ⟨pb, 0, none⟩)) ∧ w'.cell? ⟨w.heap.size, 3, none⟩ = some (.int .i64 I) ∧ w'.cell? ⟨w.heap.size, 5, none⟩ = some (.int .i64 m5)) (go_keep) (first
    | (go_at_call 32; refine TK.mono ?_; clear TK; rintro e V5 ⟨rfl, hT5, hK5⟩; clear c3 a3 a5; obtain ⟨c3, a3, a5, hX5, hY5⟩ := NX.out V5 _ hT5 hK5; have HT5 := hide hT5; have HX5 := hide hX5; have HY5 := hide hY5; clear hT5 hK5 hX5 hY5))
  clear NX a0 a1 a2 a3 a4 a5 a6 c3
  have ex : (Hd.takeE v.st.left v.st.h (I : Int) m5 == 0) = true := by simp [HEQ.out]
  generalize Hd.takeE v.st.left v.st.h (I : Int) m5 = x at ex ⊢
  go_wp2_with fail
  have HWP : Hid (w.heap.size ≠ p ∧ w.heap.size ≠ G ∧ G ≠ p) := by
    refine ⟨fun e => HX5.out.2 (by rw [e]; exact HT5.out.k.ep), fun e => ?_, fun e => HY5.out.2 (by rw [e]; exact HT5.out.k.ep)⟩
    have h1 := HX5.out.1
    rw [e, HY5.out.1] at h1
    cases h1
  have HCU : Hid (∀ X, Below V5.heap.size V5 X → X.cell? ⟨w.heap.size, 3, none⟩ = some (.int .i64 I) ∧ X.cell? ⟨w.heap.size, 5, none⟩ = some (.int .i64 m5) ∧ X.cell? ⟨p, 4 + I, none⟩ = some (.int .i64 2) ∧ X.frozen? ⟨p, 4 + I, none⟩ = false ∧ (X.cell? ⟨G, 0, none⟩ = some (.string ⟨#[99, 97, 110, 116]⟩) ∧ X.cell? ⟨G, 1, none⟩ = some (.int .i64 I) ∧ X.cell? ⟨G, 2, none⟩ = some (.slice none 0 0)) ∧ X.frozen? ⟨G, 0, none⟩ = false ∧ X.frozen? ⟨G, 1, none⟩ = false ∧ X.frozen? ⟨G, 2, none⟩ = false) := fun X hX => by
    have h1 := (HX5.out.on hX).1
    have h2 := (HY5.out.on hX).1
    have h3 := (HT5.out.on hX).k
    obtain ⟨-, -, -, b3, -, b5, -⟩ := seven_of h1
    have h4 := h3.cellI hI3
    dsimp only at h4
    rw [show Hd.upd v.st.s (I : Int) 2 (I : Int) = 2 from Hd.upd_same _ _ _] at h4
    refine ⟨b3, b5, h4, h3.frozen _, ⟨?_, ?_, ?_⟩, frozen_of_row _ _ _ _ _ h2, frozen_of_row _ _ _ _ _ h2, frozen_of_row _ _ _ _ _ h2⟩ <;> (rw [cell_of h2]; rfl)
  obtain ⟨a3, a5, c4, f4, ⟨g0, g1, g2⟩, fg0, fg1, fg2⟩ := HCU.out V5 (Below.refl _ _)
  have HRE : Hid (∀ X, Calls Tryz.prog 38 #[.string ⟨#[100, 105, 100]⟩, .int .i64 I, .slice (some ⟨V5.heap.size, 0, none⟩) 1 1] X fun e w' => e = .returned (.agg #[.string ⟨#[100, 105, 100]⟩, .int .i64 I, .slice (some ⟨V5.heap.size, 0, none⟩) 1 1]) ∧ Below X.heap.size X w') := fun X => rentry_any _ _ _ _ _ X
  obtain ⟨ne1, ne2, ne3⟩ := HWP.out
  go_region_held3 (fun w' => w'.cell? ⟨w.heap.size, 3, none⟩ = some (.int .i64 I) ∧ w'.cell? ⟨w.heap.size, 5, none⟩ = some (.int .i64 m5)) (first | go_keep | (refine ⟨?_, ?_⟩ <;> (repeat (rw [World.cell?_setCell_other _ _ _ _ (by simp [*]; try omega)])) <;> assumption)) (first
    | (go_at_call 38; refine (HRE.out _).mono ?_; clear HRE; rintro e V6 ⟨rfl, hb6⟩; have HB6 : Hid (Below V5.heap.size V5 V6) := (by first | exact bel_on' ((Below.refl _ _).alloc (Nat.le_refl _) _).drew hb6 | exact bel_on' ((Below.refl _ _).drew.alloc (Nat.le_refl _) _) hb6); have HI6 : Hid (V6.heap[V5.heap.size]? = some (.cells #[.int .i64 m5] 3 (0, 0))) := (by first | exact (hb6.block _ (Array.getElem?_eq_some_iff.1 (World.alloc_heap_new V5 (.cells #[.int .i64 m5] 3))).1).trans (World.alloc_heap_new V5 _) | exact (hb6.block _ (Array.getElem?_eq_some_iff.1 (World.alloc_heap_new V5.drew (.cells #[.int .i64 m5] 3))).1).trans (World.alloc_heap_new V5.drew _)); clear a3 a5 c4 f4 g0 g1 g2 fg0 fg1 fg2 hb6; obtain ⟨a3, a5, c4, f4, ⟨g0, g1, g2⟩, fg0, fg1, fg2⟩ := HCU.out V6 HB6.out))
  obtain ⟨s1, s2⟩ := sset3 (w := V6.setCell ⟨p, 4 + I, none⟩ (.int .i64 1)) (a := .string ⟨#[100, 105, 100]⟩) (b := .int .i64 I) (c := .slice (some ⟨V5.heap.size, 0, none⟩) 1 1) ((HY5.out.on HB6.out).other (i := 4 + I) (x := .int .i64 1) HWP.out.2.2).1
  have h5s : w.heap.size ≤ G := HGW.out
  have HT8 := hide (RT.beside ((HT5.out.on HB6.out).set hI3 1) s2 HY5.out.2 h5s)
  have HX8 : Hid (Ab _ E w.heap.size (.cells #[.int .i64 m0, .int .i64 m1, .int .i64 m2, .int .i64 I, .int .i64 m4, .int .i64 m5, .int .i64 m6] 29 (0, 0))) := ⟨s2.block _ _ ((HX5.out.on HB6.out).other (i := 4 + I) (x := .int .i64 1) HWP.out.1).1 HWP.out.2.1, HX5.out.2⟩
  have HY8 : Hid (Ab _ E G (.cells #[.string ⟨#[100, 105, 100]⟩, .int .i64 I, .slice (some ⟨V5.heap.size, 0, none⟩) 1 1] 70 (0, 0))) := ⟨s1, HY5.out.2⟩
  have HI8 : Hid (Ab _ E V5.heap.size (.cells #[.int .i64 m5] 3 (0, 0))) := ⟨s2.block _ _ ((Rg.Kept.setCell (E := fun k _ => k = p) (a := ⟨p, 4 + I, none⟩) (.int .i64 1) (fun _ => rfl)).block _ _ HI6.out (fun e => by have := HT5.out.k.lt; omega)) (fun e => by have := HY5.out.lt; omega), fun e => by have h1 := (HE.out _ e).2; have h2 := HT5.out.kp.size; omega⟩
  clear s1 s2 a3 a5 c4 f4 g0 g1 g2 fg0 fg1 fg2 h5s HCU
  generalize (((V6.setCell ⟨p, 4 + I, none⟩ (.int .i64 1)).setCell ⟨G, 0, none⟩ (.string ⟨#[100, 105, 100]⟩)).setCell ⟨G, 1, none⟩ (.int .i64 I)).setCell ⟨G, 2, none⟩ (.slice (some ⟨V5.heap.size, 0, none⟩) 1 1) = V8 at HT8 HX8 HY8 HI8 ⊢
  generalize V5.heap.size = N5 at HY8 HI8 ⊢
  go_wp2_with fail
  have HIN : Hid (∀ X, Below V8.heap.size V8 X → Ints X (some ⟨N5, 0, none⟩) [m5]) := fun X hX => .inr ⟨N5, 0, rfl, fun i hi => by
    have : i = 0 := by simp at hi; omega
    subst this
    rw [cell_of (HI8.out.on hX).1]
    rfl⟩
  have e8 : Hd.upd (Hd.upd v.st.s (I : Int) 2) (I : Int) 1 = Hd.upd v.st.s (I : Int) 1 := by
    funext y
    unfold Hd.upd
    split <;> rfl
  rw [e8] at HT8
  obtain ⟨-, -, c2, -⟩ := HT8.out.k.cells
  obtain ⟨g0, g1, g2⟩ : V8.cell? ⟨G, 0, none⟩ = some (.string ⟨#[100, 105, 100]⟩) ∧ V8.cell? ⟨G, 1, none⟩ = some (.int .i64 I) ∧ V8.cell? ⟨G, 2, none⟩ = some (.slice (some ⟨N5, 0, none⟩) 1 1) := by refine ⟨?_, ?_, ?_⟩ <;> (rw [cell_of HY8.out.1]; rfl)
  have HNT : Hid (∀ X, Below V8.heap.size V8 X → X.heap[V8.heap.size]? = some (.cells #[.string ⟨#[100, 105, 100]⟩, .int .i64 I, .slice (some ⟨N5, 0, none⟩) 1 1] 70 (0, 0)) → Calls Tryz.prog 39 #[.pointer (some ⟨q, 0, none⟩), .bool true, .slice (some ⟨V8.heap.size, 0, none⟩) 1 1] X fun x u => x = .returned (.bool true) ∧ ∃ E2 r2, RT B E w E2 u p (putS v ⟨1, (I : Int), m5⟩) q r2 pb ∧ Ab u E2 w.heap.size (.cells #[.int .i64 m0, .int .i64 m1, .int .i64 m2, .int .i64 I, .int .i64 m4, .int .i64 m5, .int .i64 m6] 29 (0, 0)) ∧ Ab u E2 G (.cells #[.string ⟨#[100, 105, 100]⟩, .int .i64 I, .slice (some ⟨N5, 0, none⟩) 1 1] 70 (0, 0))) := fun X hX hY => by
    have t := HT8.out.on hX
    refine (t.note (e := ⟨1, (I : Int), m5⟩) HD.out HRM.out HOK.out (a := some ⟨N5, 0, none⟩) (c := 1) (HIN.out X hX) (HGL.out X t.kp) hY).mono ?_
    rintro x u ⟨h1, E2, r2, h2, h3, h4⟩
    exact ⟨h1, E2, r2, h2, (HX8.out.on hX).step h3 h4, (HY8.out.on hX).step h3 h4⟩
  go_region_held3 (fun w' => w'.cell? ⟨p, 2, none⟩ = some (.pointer (some ⟨q, 0, none⟩)) ∧ w'.cell? ⟨G, 0, none⟩ = some (.string ⟨#[100, 105, 100]⟩) ∧ w'.cell? ⟨G, 1, none⟩ = some (.int .i64 I) ∧ w'.cell? ⟨G, 2, none⟩ = some (.slice (some ⟨N5, 0, none⟩) 1 1)) (go_keep) (first
    | (go_at_call 39; refine (HNT.out _ (by first | exact ((Below.refl _ _).alloc (Nat.le_refl _) _).drew | exact (Below.refl _ _).drew.alloc (Nat.le_refl _) _) (by first | exact World.alloc_heap_new V8 _ | exact World.alloc_heap_new V8.drew _)).mono ?_; clear HNT; rintro e V9 ⟨rfl, E2, r2, hT9, hX9, hY9⟩; have HT9 := hide hT9; have HX9 := hide hX9; clear c2 g0 g1 g2; obtain ⟨-, -, c2, -⟩ := hT9.k.cells; obtain ⟨g0, g1, g2⟩ : V9.cell? ⟨G, 0, none⟩ = some (.string ⟨#[100, 105, 100]⟩) ∧ V9.cell? ⟨G, 1, none⟩ = some (.int .i64 I) ∧ V9.cell? ⟨G, 2, none⟩ = some (.slice (some ⟨N5, 0, none⟩) 1 1) := (by refine ⟨?_, ?_, ?_⟩ <;> (rw [cell_of hY9.1]; rfl)); clear hT9 hX9 hY9))
  obtain ⟨c0, -, -, -⟩ := HT9.out.k.cells
  obtain ⟨-, -, -, a3, a4, -, -⟩ := seven_of HX9.out.1
  go_wp2_with fail
  go_region
  all_goals go_wp2
  all_goals go_ret
  all_goals exact rhand_one HT9.out HE.out HB.out HGP.out (Below.refl _ _).drew
end Go.Proofs.YtdbmnjodkpeobaaGreatDoor
