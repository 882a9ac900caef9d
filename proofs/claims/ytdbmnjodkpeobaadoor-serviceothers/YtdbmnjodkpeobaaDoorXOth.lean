/-
  ServiceOthers: the walk.
-/
import Derived.Test.YtdbmnjodkpeobaaDoorSvdC
import Derived.Test.YtdbmnjodkpeobaaDoorSvdG
import Derived.Test.YtdbmnjodkpeobaaDoorSvdF
namespace Go.Proofs.YtdbmnjodkpeobaaDoor
open Go.ChangeShapes Go.WideShapes Go.ChangeAt Go.RowKit Go.Maps

theorem ot_first : ∃ v1, hdS (newSv 6 50 20) ⟨1, 0, 6, 9, 0, 5, 0⟩ = v1 ∧ hdA (newSv 6 50 20) ⟨1, 0, 6, 9, 0, 5, 0⟩ = [⟨2, 6, 0, 9, 0, 0, 0⟩] ∧ v1.node = 6 ∧ v1.down = false ∧ hasRoom v1 = true ∧ v1.st.left = 45 ∧ v1.st.s 9 = 1 :=
  ⟨_, rfl, rfl, rfl, rfl, rfl, rfl, rfl⟩

set_option maxHeartbeats 4000000 in
theorem serviceOthers_walk (m : Ms.Mg) (w : World) (_h0 : M19.one_ok m) (hg : Gl w) :
    Calls Tryd.prog 4 #[.agg #[.int .i64 m.k, .int .i64 m.fr, .int .i64 m.to, .int .i64 m.id, .int .i64 m.st, .int .i64 m.a, .int .i64 m.b]] w fun e w' => e = .returned (.bool true) ∧ Below w.heap.size w w' := by
  obtain ⟨W, hW⟩ : ∃ W, W = w.alloc (.cells #[.int .i64 m.k, .int .i64 m.fr, .int .i64 m.to, .int .i64 m.id, .int .i64 m.st, .int .i64 m.a, .int .i64 m.b] 28) := ⟨_, rfl⟩
  have hb0 : Below w.heap.size w W := by rw [hW]; exact (Below.refl _ _).alloc (Nat.le_refl _) _
  have hbx : W.heap[w.heap.size]? = some (.cells #[.int .i64 m.k, .int .i64 m.fr, .int .i64 m.to, .int .i64 m.id, .int .i64 m.st, .int .i64 m.a, .int .i64 m.b] 28 (0, 0)) := by rw [hW]; exact World.alloc_heap_new w _
  have CU : Hid (∀ u, Below W.heap.size W u → u.cell? ⟨w.heap.size, 0, none⟩ = some (.int .i64 m.k) ∧ u.cell? ⟨w.heap.size, 1, none⟩ = some (.int .i64 m.fr) ∧ u.cell? ⟨w.heap.size, 2, none⟩ = some (.int .i64 m.to) ∧ u.cell? ⟨w.heap.size, 3, none⟩ = some (.int .i64 m.id) ∧ u.cell? ⟨w.heap.size, 4, none⟩ = some (.int .i64 m.st) ∧ u.cell? ⟨w.heap.size, 5, none⟩ = some (.int .i64 m.a) ∧ u.cell? ⟨w.heap.size, 6, none⟩ = some (.int .i64 m.b)) := fun u hu => seven_of ((hu.block _ (Array.getElem?_eq_some_iff.1 hbx).1).trans hbx)
  have HG := hide (hg.on hb0)
  have HW := hide hW
  have HB0 := hide hb0
  have N := Sn.new (w0 := W) (node := 6) (hold := 50) (room := 20) (by omega)
  obtain ⟨v1, hv1, hx1, hnd, hdn, hrm, hl, hs⟩ := ot_first
  have HL := hide hl
  have HS := hide hs
  clear hW hb0 hbx hl hs
  have deaf : hearsB v1 m = false → hdA v1 m = [] ∧ hdS v1 m = v1 := fun h => ⟨(hd_deaf h).2, (hd_deaf h).1⟩
  have hb : hearsB v1 m = (m.to == 6 && m.fr == 0 && Hd.isI m.id) := by unfold hearsB; rw [hnd, hdn]; simp
  by_cases q : m.to = 6
  rotate_left
  · have q1 : (m.to == 6) = false := by simp [q]
    obtain ⟨hx2, hv2⟩ := deaf (by rw [hb]; simp [q])
    clear q deaf hb hnd hdn hrm
    go_enter Tryd.func4, Tryd.ntmps4
    go_wp2_with fail
    rw [← HW.out]
    refine N.mono ?_
    clear N
    rintro e w1 ⟨p, E0, rfl, k0⟩
    have H1 := k0.handle HG.out (by omega) ⟨1, 0, 6, 9, 0, 5, 0⟩ hx1 hv1
    clear k0
    go_wp2_with (first
      | (go_at_call 6; refine H1.mono ?_; clear H1; rintro e u1 ⟨a1, c1, E1, rfl, -, k1, -, -⟩; obtain ⟨z0, z1, z2, z3, z4, z5, z6⟩ := CU.out u1 k1.2; have H2 := k1.handle HG.out (by omega) m hx2 hv2; clear k1 CU)
      | (go_at_call 6; refine H2.mono ?_; clear H2; rintro e u2 ⟨a2, c2, E2, rfl, -, k2, -, -⟩; have L6 := k2.left HL.out; have S6 := k2.state (id := 9) (by decide) HS.out; have W6 := hide (bel_on' HB0.out k2.2); clear k2)
      | (go_at_call 8; refine S6.mono ?_; clear S6; rintro e w' ⟨rfl, rfl⟩)
      | (go_at_call 7; refine L6.mono ?_; clear L6; rintro e w' ⟨rfl, rfl⟩)
      | (go_at_call 9; refine (swake_any _ (hg.on W6.out)).mono ?_; rintro e u7 ⟨rfl, hb7⟩; have HB7 := hide (bel_on' W6.out hb7); clear hb7))
    go_ret
    exact ⟨rfl, HB7.out⟩
  have q1 : (m.to == 6) = true := by simp [q]
  by_cases r : m.fr = 0
  rotate_left
  · have q2 : (m.fr == 0) = false := by simp [r]
    obtain ⟨hx2, hv2⟩ := deaf (by rw [hb]; simp [r])
    clear q r deaf hb hnd hdn hrm
    go_enter Tryd.func4, Tryd.ntmps4
    go_wp2_with fail
    rw [← HW.out]
    refine N.mono ?_
    clear N
    rintro e w1 ⟨p, E0, rfl, k0⟩
    have H1 := k0.handle HG.out (by omega) ⟨1, 0, 6, 9, 0, 5, 0⟩ hx1 hv1
    clear k0
    go_wp2_with (first
      | (go_at_call 6; refine H1.mono ?_; clear H1; rintro e u1 ⟨a1, c1, E1, rfl, -, k1, -, -⟩; obtain ⟨z0, z1, z2, z3, z4, z5, z6⟩ := CU.out u1 k1.2; have H2 := k1.handle HG.out (by omega) m hx2 hv2; clear k1 CU)
      | (go_at_call 6; refine H2.mono ?_; clear H2; rintro e u2 ⟨a2, c2, E2, rfl, -, k2, -, -⟩; have L6 := k2.left HL.out; have S6 := k2.state (id := 9) (by decide) HS.out; have W6 := hide (bel_on' HB0.out k2.2); clear k2)
      | (go_at_call 8; refine S6.mono ?_; clear S6; rintro e w' ⟨rfl, rfl⟩)
      | (go_at_call 7; refine L6.mono ?_; clear L6; rintro e w' ⟨rfl, rfl⟩)
      | (go_at_call 9; refine (swake_any _ (hg.on W6.out)).mono ?_; rintro e u7 ⟨rfl, hb7⟩; have HB7 := hide (bel_on' W6.out hb7); clear hb7))
    go_ret
    exact ⟨rfl, HB7.out⟩
  have q2 : (m.fr == 0) = true := by simp [r]
  by_cases q3 : m.id ≥ 1
  rotate_left
  · obtain ⟨hx2, hv2⟩ := deaf (by rw [hb]; simp [Hd.isI]; omega)
    clear q r deaf hb hnd hdn hrm
    go_enter Tryd.func4, Tryd.ntmps4
    go_wp2_with fail
    rw [← HW.out]
    refine N.mono ?_
    clear N
    rintro e w1 ⟨p, E0, rfl, k0⟩
    have H1 := k0.handle HG.out (by omega) ⟨1, 0, 6, 9, 0, 5, 0⟩ hx1 hv1
    clear k0
    go_wp2_with (first
      | (go_at_call 6; refine H1.mono ?_; clear H1; rintro e u1 ⟨a1, c1, E1, rfl, -, k1, -, -⟩; obtain ⟨z0, z1, z2, z3, z4, z5, z6⟩ := CU.out u1 k1.2; have H2 := k1.handle HG.out (by omega) m hx2 hv2; clear k1 CU)
      | (go_at_call 6; refine H2.mono ?_; clear H2; rintro e u2 ⟨a2, c2, E2, rfl, -, k2, -, -⟩; have L6 := k2.left HL.out; have S6 := k2.state (id := 9) (by decide) HS.out; have W6 := hide (bel_on' HB0.out k2.2); clear k2)
      | (go_at_call 8; refine S6.mono ?_; clear S6; rintro e w' ⟨rfl, rfl⟩)
      | (go_at_call 7; refine L6.mono ?_; clear L6; rintro e w' ⟨rfl, rfl⟩)
      | (go_at_call 9; refine (swake_any _ (hg.on W6.out)).mono ?_; rintro e u7 ⟨rfl, hb7⟩; have HB7 := hide (bel_on' W6.out hb7); clear hb7))
    go_ret
    exact ⟨rfl, HB7.out⟩
  by_cases q4 : m.id ≤ 999
  rotate_left
  · obtain ⟨hx2, hv2⟩ := deaf (by rw [hb]; simp [Hd.isI]; omega)
    clear q r deaf hb hnd hdn hrm
    go_enter Tryd.func4, Tryd.ntmps4
    go_wp2_with fail
    rw [← HW.out]
    refine N.mono ?_
    clear N
    rintro e w1 ⟨p, E0, rfl, k0⟩
    have H1 := k0.handle HG.out (by omega) ⟨1, 0, 6, 9, 0, 5, 0⟩ hx1 hv1
    clear k0
    go_wp2_with (first
      | (go_at_call 6; refine H1.mono ?_; clear H1; rintro e u1 ⟨a1, c1, E1, rfl, -, k1, -, -⟩; obtain ⟨z0, z1, z2, z3, z4, z5, z6⟩ := CU.out u1 k1.2; have H2 := k1.handle HG.out (by omega) m hx2 hv2; clear k1 CU)
      | (go_at_call 6; refine H2.mono ?_; clear H2; rintro e u2 ⟨a2, c2, E2, rfl, -, k2, -, -⟩; have L6 := k2.left HL.out; have S6 := k2.state (id := 9) (by decide) HS.out; have W6 := hide (bel_on' HB0.out k2.2); clear k2)
      | (go_at_call 8; refine S6.mono ?_; clear S6; rintro e w' ⟨rfl, rfl⟩)
      | (go_at_call 7; refine L6.mono ?_; clear L6; rintro e w' ⟨rfl, rfl⟩)
      | (go_at_call 9; refine (swake_any _ (hg.on W6.out)).mono ?_; rintro e u7 ⟨rfl, hb7⟩; have HB7 := hide (bel_on' W6.out hb7); clear hb7))
    go_ret
    exact ⟨rfl, HB7.out⟩
  have hh : hearsB v1 m = true := by rw [hb]; simp [q, r, Hd.isI]; omega
  by_cases k1 : m.k = 1
  · obtain ⟨x, hx2⟩ := hd_one hh (.inl k1) hrm
    obtain ⟨v2, hv2⟩ : ∃ v2, hdS v1 m = v2 := ⟨_, rfl⟩
    have q5 : (m.k == 1) = true := by simp [k1]
    clear q r k1 deaf hb hnd hdn hrm hh HL HS
    go_enter Tryd.func4, Tryd.ntmps4
    go_wp2_with fail
    rw [← HW.out]
    refine N.mono ?_
    clear N
    rintro e w1 ⟨p, E0, rfl, k0⟩
    have H1 := k0.handle HG.out (by omega) ⟨1, 0, 6, 9, 0, 5, 0⟩ hx1 hv1
    clear k0
    go_wp2_with (first
      | (go_at_call 6; refine H1.mono ?_; clear H1; rintro e u1 ⟨a1, c1, E1, rfl, -, k1, -, -⟩; obtain ⟨z0, z1, z2, z3, z4, z5, z6⟩ := CU.out u1 k1.2; have H2 := k1.handle HG.out (by omega) m hx2 hv2; clear k1 CU)
      | (go_at_call 6; refine H2.mono ?_; clear H2; rintro e u2 ⟨a2, c2, E2, rfl, -, k2, -, -⟩; have W6 := hide (bel_on' HB0.out k2.2); clear k2)
      | (go_at_call 9; refine (swake_any _ (hg.on W6.out)).mono ?_; rintro e u7 ⟨rfl, hb7⟩; have HB7 := hide (bel_on' W6.out hb7); clear hb7))
    go_ret
    exact ⟨rfl, HB7.out⟩
  · have q5 : (m.k == 1) = false := by simp [k1]
    by_cases k4 : m.k = 4
    · obtain ⟨x, hx2⟩ := hd_one hh (.inr k4) hrm
      obtain ⟨v2, hv2⟩ : ∃ v2, hdS v1 m = v2 := ⟨_, rfl⟩
      have q6 : (m.k == 4) = true := by simp [k4]
      clear q r k1 k4 deaf hb hnd hdn hrm hh HL HS
      go_enter Tryd.func4, Tryd.ntmps4
      go_wp2_with fail
      rw [← HW.out]
      refine N.mono ?_
      clear N
      rintro e w1 ⟨p, E0, rfl, k0⟩
      have H1 := k0.handle HG.out (by omega) ⟨1, 0, 6, 9, 0, 5, 0⟩ hx1 hv1
      clear k0
      go_wp2_with (first
        | (go_at_call 6; refine H1.mono ?_; clear H1; rintro e u1 ⟨a1, c1, E1, rfl, -, k1, -, -⟩; obtain ⟨z0, z1, z2, z3, z4, z5, z6⟩ := CU.out u1 k1.2; have H2 := k1.handle HG.out (by omega) m hx2 hv2; clear k1 CU)
        | (go_at_call 6; refine H2.mono ?_; clear H2; rintro e u2 ⟨a2, c2, E2, rfl, -, k2, -, -⟩; have W6 := hide (bel_on' HB0.out k2.2); clear k2)
        | (go_at_call 9; refine (swake_any _ (hg.on W6.out)).mono ?_; rintro e u7 ⟨rfl, hb7⟩; have HB7 := hide (bel_on' W6.out hb7); clear hb7))
      go_ret
      exact ⟨rfl, HB7.out⟩
    · obtain ⟨hv2, hx2⟩ := hd_other (v := v1) (m := m) k1 k4
      have q6 : (m.k == 4) = false := by simp [k4]
      clear q r k1 k4 deaf hb hnd hdn hrm hh
      go_enter Tryd.func4, Tryd.ntmps4
      go_wp2_with fail
      rw [← HW.out]
      refine N.mono ?_
      clear N
      rintro e w1 ⟨p, E0, rfl, k0⟩
      have H1 := k0.handle HG.out (by omega) ⟨1, 0, 6, 9, 0, 5, 0⟩ hx1 hv1
      clear k0
      go_wp2_with (first
        | (go_at_call 6; refine H1.mono ?_; clear H1; rintro e u1 ⟨a1, c1, E1, rfl, -, k1, -, -⟩; obtain ⟨z0, z1, z2, z3, z4, z5, z6⟩ := CU.out u1 k1.2; have H2 := k1.handle HG.out (by omega) m hx2 hv2; clear k1 CU)
        | (go_at_call 6; refine H2.mono ?_; clear H2; rintro e u2 ⟨a2, c2, E2, rfl, -, k2, -, -⟩; have L6 := k2.left HL.out; have S6 := k2.state (id := 9) (by decide) HS.out; have W6 := hide (bel_on' HB0.out k2.2); clear k2)
        | (go_at_call 8; refine S6.mono ?_; clear S6; rintro e w' ⟨rfl, rfl⟩)
        | (go_at_call 7; refine L6.mono ?_; clear L6; rintro e w' ⟨rfl, rfl⟩)
        | (go_at_call 9; refine (swake_any _ (hg.on W6.out)).mono ?_; rintro e u7 ⟨rfl, hb7⟩; have HB7 := hide (bel_on' W6.out hb7); clear hb7))
      go_ret
      exact ⟨rfl, HB7.out⟩
end Go.Proofs.YtdbmnjodkpeobaaDoor
