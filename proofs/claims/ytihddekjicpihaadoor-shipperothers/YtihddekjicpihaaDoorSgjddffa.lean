/-
  ShipperOthers: the walk.
-/
import Derived.Test.YtihddekjicpihaaDoorSgiaigfg
import Derived.Test.YtihddekjicpihaaDoorSgggmone
import Derived.Test.YtihddekjicpihaaDoorSgnjbmek
import Derived.Deep.CutBlock
namespace Go.Proofs.YtihddekjicpihaaDoor
open Go.ChangeShapes Go.WideShapes Go.ChangeAt Go.RowKit Go.Maps Gd.Pu

/-- A message that is to be answered. -/
def gdM (m : Ms.Mg) : Prop := m.to = 3 ∧ m.fr = 0 ∧ m.k = 15 ∧ m.id ≥ 1 ∧ m.id ≤ 999 ∧ m.a ≥ 0 ∧ m.a < 8 ∧ m.b ≥ 1 ∧ m.b ≤ 1000000000
theorem gd_yes {m : Ms.Mg} (h : gdM m) : ∃ v1, hsS (newSh 20) m = v1 ∧ hsA (newSh 20) m = [⟨16, 3, 0, m.id, 0, 0, 0⟩] ∧ Pa.wentP v1.l m.a = m.b := by
  obtain ⟨h1, h2, h3, h4, h5, h6, h7, h8, h9⟩ := h
  have i1 : Gd.isI m.id = true := Gd.isI_iff.2 ⟨h4, h5⟩
  have hh : hearS (newSh 20) m = true := by unfold hearS; rw [i1, h1, h2, h3]; rfl
  have he : shE (newSh 20) m.id m.a m.b = 0 := by
    unfold shE
    rw [Pa.shipE_of ⟨i1, Gd.isIt_iff.2 ⟨h6, h7⟩, h8, h9⟩]
    rfl
  have hr : hasR (newSh 20) = true := by rfl
  refine ⟨_, rfl, ?_, ?_⟩
  · unfold hsA hsB shB
    rw [hh, if_pos he, hr]
    rfl
  · unfold hsS shS noteP
    rw [hh, if_pos rfl, if_pos he, if_pos hr]
    have e1 : Pa.shipE (newSh 20).l m.id m.a m.b = 0 := he
    show Pa.wentP (Pa.shipL (newSh 20).l m.id m.a m.b) m.a = m.b
    rw [Pa.wentP_ship e1, if_pos rfl, show Pa.wentP (newSh 20).l m.a = 0 from rfl]
    omega
theorem gd_no {m : Ms.Mg} (h : ¬ gdM m) : hsS (newSh 20) m = newSh 20 ∧ hsA (newSh 20) m = [] := by
  by_cases hh : hearS (newSh 20) m = true
  · obtain ⟨_, h3, h2, h1, h4, h5⟩ := hearS_of hh
    have he : shE (newSh 20) m.id m.a m.b = 1 := Pa.shipE_arg (fun e => h (by
      obtain ⟨_, e2, e3, e4⟩ := e
      obtain ⟨e5, e6⟩ := Gd.isIt_iff.1 e2
      exact ⟨h1, h2, h3, h4, h5, e5, e6, e3, e4⟩))
    have h0 : ¬ shE (newSh 20) m.id m.a m.b = 0 := by omega
    refine ⟨?_, ?_⟩
    · unfold hsS shS
      rw [if_pos hh, if_neg h0]
    · unfold hsA hsB shB
      rw [if_neg h0, he]
      simp
  · refine ⟨?_, ?_⟩
    · unfold hsS
      rw [if_neg hh]
    · unfold hsA hsB
      rw [show hearS (newSh 20) m = false by simpa using hh]
      rfl
set_option maxRecDepth 100000 in
set_option maxHeartbeats 4000000 in
theorem shipperOthers_walk (m : Ms.Mg) (w : World) (_h0 : M19.one_ok m) (hg : Gl w) :
    Calls Tryd.prog 3 #[.agg #[.int .i64 m.k, .int .i64 m.fr, .int .i64 m.to, .int .i64 m.id, .int .i64 m.st, .int .i64 m.a, .int .i64 m.b]] w fun e w' => e = .returned (.bool true) ∧ Below w.heap.size w w' := by
  obtain ⟨W, hW⟩ : ∃ W, W = w.alloc (.cells #[.int .i64 m.k, .int .i64 m.fr, .int .i64 m.to, .int .i64 m.id, .int .i64 m.st, .int .i64 m.a, .int .i64 m.b] 23) := ⟨_, rfl⟩
  have hb0 : Below w.heap.size w W := by rw [hW]; exact (Below.refl _ _).alloc (Nat.le_refl _) _
  have hbx : W.heap[w.heap.size]? = some (.cells #[.int .i64 m.k, .int .i64 m.fr, .int .i64 m.to, .int .i64 m.id, .int .i64 m.st, .int .i64 m.a, .int .i64 m.b] 23 (0, 0)) := by rw [hW]; exact World.alloc_heap_new w _
  have CU : Hid (∀ u, Below W.heap.size W u → u.cell? ⟨w.heap.size, 0, none⟩ = some (.int .i64 m.k) ∧ u.cell? ⟨w.heap.size, 1, none⟩ = some (.int .i64 m.fr) ∧ u.cell? ⟨w.heap.size, 2, none⟩ = some (.int .i64 m.to) ∧ u.cell? ⟨w.heap.size, 3, none⟩ = some (.int .i64 m.id) ∧ u.cell? ⟨w.heap.size, 4, none⟩ = some (.int .i64 m.st) ∧ u.cell? ⟨w.heap.size, 5, none⟩ = some (.int .i64 m.a) ∧ u.cell? ⟨w.heap.size, 6, none⟩ = some (.int .i64 m.b)) := fun u hu => seven_of ((hu.block _ (Array.getElem?_eq_some_iff.1 hbx).1).trans hbx)
  have HG := hide (hg.on hb0)
  have HW := hide hW
  have HB0 := hide hb0
  have N := Sp.new (w0 := W) 20
  obtain ⟨g, hgd⟩ : ∃ g : Bool, (g = true ↔ gdM m) := ⟨@decide (gdM m) (Classical.propDecidable _), by simp⟩
  have HGD := hide hgd
  clear hW hb0 hbx hgd
  go_enter Tryd.func3, Tryd.ntmps3
  go_wp2_with fail
  rw [← HW.out]
  refine N.mono ?_
  clear N
  rintro e w1 ⟨p, E0, rfl, k0⟩
  have K0 := hide k0
  obtain ⟨a0, a1, a2, a3, a4, a5, a6⟩ := CU.out w1 k0.2
  clear k0
  go_upto_region 2 with fail
  go_cut [4] from 7 to 49 (fun x wx => x = .bool g ∧ w1 = wx)
  case first =>
    by_cases h1 : m.to = 3
    rotate_left
    · have e : g = false := by cases g; rfl; exact absurd (HGD.out.1 rfl).1 h1
      subst e
      have q1 : (m.to == 3) = false := by simp [h1]
      clear h1
      go_wp2
      go_meet
      exact ⟨rfl, rfl⟩
    have q1 : (m.to == 3) = true := by simp [h1]
    by_cases h2 : m.fr = 0
    rotate_left
    · have e : g = false := by cases g; rfl; exact absurd (HGD.out.1 rfl).2.1 h2
      subst e
      have q2 : (m.fr == 0) = false := by simp [h2]
      clear h1 h2
      go_wp2
      go_meet
      exact ⟨rfl, rfl⟩
    have q2 : (m.fr == 0) = true := by simp [h2]
    by_cases h3 : m.k = 15
    rotate_left
    · have e : g = false := by cases g; rfl; exact absurd (HGD.out.1 rfl).2.2.1 h3
      subst e
      have q3 : (m.k == 15) = false := by simp [h3]
      clear h1 h2 h3
      go_wp2
      go_meet
      exact ⟨rfl, rfl⟩
    have q3 : (m.k == 15) = true := by simp [h3]
    have H1 := hide h1
    have H2 := hide h2
    have H3 := hide h3
    clear h1 h2 h3
    by_cases h4 : m.id ≥ 1
    rotate_left
    · have e : g = false := by cases g; rfl; exact absurd (HGD.out.1 rfl).2.2.2.1 h4
      subst e
      go_wp2
      go_meet
      exact ⟨rfl, rfl⟩
    by_cases h5 : m.id ≤ 999
    rotate_left
    · have e : g = false := by cases g; rfl; exact absurd (HGD.out.1 rfl).2.2.2.2.1 h5
      subst e
      go_wp2
      go_meet
      exact ⟨rfl, rfl⟩
    by_cases h6 : m.a ≥ 0
    rotate_left
    · have e : g = false := by cases g; rfl; exact absurd (HGD.out.1 rfl).2.2.2.2.2.1 h6
      subst e
      go_wp2
      go_meet
      exact ⟨rfl, rfl⟩
    by_cases h7 : m.a < 8
    rotate_left
    · have e : g = false := by cases g; rfl; exact absurd (HGD.out.1 rfl).2.2.2.2.2.2.1 h7
      subst e
      go_wp2
      go_meet
      exact ⟨rfl, rfl⟩
    by_cases h8 : m.b ≥ 1
    rotate_left
    · have e : g = false := by cases g; rfl; exact absurd (HGD.out.1 rfl).2.2.2.2.2.2.2.1 h8
      subst e
      go_wp2
      go_meet
      exact ⟨rfl, rfl⟩
    by_cases h9 : m.b ≤ 1000000000
    rotate_left
    · have e : g = false := by cases g; rfl; exact absurd (HGD.out.1 rfl).2.2.2.2.2.2.2.2 h9
      subst e
      go_wp2
      go_meet
      exact ⟨rfl, rfl⟩
    have e : g = true := HGD.out.2 ⟨H1.out, H2.out, H3.out, h4, h5, h6, h7, h8, h9⟩
    subst e
    go_wp2
    go_meet
    exact ⟨rfl, rfl⟩
  case rest =>
    obtain ⟨rfl, rfl⟩ := hcut
    cases g
    · obtain ⟨hv, hx⟩ := gd_no (m := m) (fun e => by have := HGD.out.2 e; cases this)
      have H := K0.out.handle HG.out m hx hv
      clear K0 hv hx HGD
      go_wp2_with (first
        | (go_at_call 6; refine H.mono ?_; clear H; rintro e u1 ⟨b1, c1, E1, rfl, -, k1, -, -⟩; clear a0 a1 a2 a3 a4 a5 a6; have ID := k1.ids (l := []) rfl; have HB1 := hide (bel_on' HB0.out k1.2); clear k1)
        | (go_at_call 7; refine (shparcels_any p _).mono ?_; rintro e w' ⟨rfl, rfl⟩)
        | (go_at_call 10; refine ID.mono ?_; clear ID; rintro e u2 ⟨b2, c2, rfl, -, -, hb2⟩; have HB2 := hide (bel_on' HB1.out hb2); clear hb2)
        | (go_at_call 9; refine (shwake_any _ (hg.on HB2.out)).mono ?_; rintro e u7 ⟨rfl, hb7⟩; have HB7 := hide (bel_on' HB2.out hb7); clear hb7))
      go_ret
      exact ⟨rfl, HB7.out⟩
    · obtain ⟨v1, hv, hx, hw⟩ := gd_yes (HGD.out.1 rfl)
      have H := K0.out.handle HG.out m hx hv
      have HWW := hide hw
      clear K0 hv hx HGD hw
      go_wp2_with (first
        | (go_at_call 6; refine H.mono ?_; clear H; rintro e u1 ⟨b1, c1, E1, rfl, -, k1, -, -⟩; clear a0 a1 a2 a3 a4 a5 a6; have K1 := hide k1; clear k1)
        | (go_at_call 7; refine (shparcels_any p _).mono ?_; rintro e w' ⟨rfl, rfl⟩))
      obtain ⟨a0, a1, a2, a3, a4, a5, a6⟩ := CU.out u1 K1.out.2
      have PC : ∀ u : Later u1, Calls Tryd.prog 7 #[.pointer (some ⟨p, 0, none⟩)] u.w fun e w' => e = .returned (.pointer (some ⟨p, 1, none⟩)) ∧ ∃ u' : Later u1, w' = u'.w := fun u => calls_later u ((shparcels_any p u.w).mono (fun _ _ ⟨h1, h2⟩ => ⟨h1, by rw [← h2]; exact Below.refl _ _⟩))
      have WE : ∀ u : Later u1, Calls Tryd.prog 8 #[.pointer (some ⟨p, 1, none⟩), .int .i64 m.a] u.w fun e w' => e = .returned (.int .i64 m.b) ∧ ∃ u' : Later u1, w' = u'.w := fun u => calls_later u ((K1.out.on u.below).went m.a HWW.out)
      have AW : ∀ u : Later u1, Calls Tryd.prog 9 #[] u.w fun e w' => e = .returned (.bool true) ∧ ∃ u' : Later u1, w' = u'.w := fun u => calls_later u (shwake_any u.w (hg.on (bel_on' HB0.out (bel_on' K1.out.2 u.below))))
      have z5 := Later.cell a5
      have z6 := Later.cell a6
      have HB1 := hide (bel_on' HB0.out K1.out.2)
      have hne : Nonempty (Later u1) := ⟨Later.now u1⟩
      have qq : (m.b == m.b) = true := by simp
      clear a0 a1 a2 a3 a4 a5 a6 CU K1 HWW HW HG HB0 hg
      refine region_later (by kernel_rfl) (by kernel_rfl) ?_
      repeat (first | go_big_quiet_step (first | exact PC _ | exact WE _ | exact AW _) | quiet_step (first | exact PC _ | exact WE _ | exact AW _))
      refine wpQuiet_nil ?_
      intro u
      go_wp2
      go_ret
      exact ⟨rfl, bel_on' HB1.out u.below⟩
end Go.Proofs.YtihddekjicpihaaDoor
