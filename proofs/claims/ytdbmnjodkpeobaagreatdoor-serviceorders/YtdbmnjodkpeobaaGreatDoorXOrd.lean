/-
  ServiceOrders: the walk.
-/
import Derived.Test.YtdbmnjodkpeobaaGreatDoorSvdC
import Derived.Test.YtdbmnjodkpeobaaGreatDoorSvdG
import Derived.Test.YtdbmnjodkpeobaaGreatDoorNum
namespace Go.Proofs.YtdbmnjodkpeobaaGreatDoor
open Go.ChangeShapes Go.WideShapes Go.ChangeAt Go.RowKit Go.Maps

/-- A service of this law. -/
structure Oc (v : Sv) (len : Nat) (left : Int) : Prop where
  nd : v.node = 4
  dn : v.down = false
  rm : v.room = 50
  ln : v.T.length = len
  lf : v.st.left = left
  s2 : v.st.s 2 = 0
  h2 : v.st.h 2 = 0
theorem oc_new : Oc (newSv 4 200 50) 0 200 := ⟨rfl, rfl, rfl, rfl, rfl, rfl, rfl⟩
theorem oc_first {A : Int} (hA : 1 ≤ A ∧ A ≤ 100) : ∃ v1, hdS (newSv 4 200 50) ⟨1, 0, 4, 1, 0, A, 0⟩ = v1 ∧ hdA (newSv 4 200 50) ⟨1, 0, 4, 1, 0, A, 0⟩ = [⟨2, 4, 0, 1, 0, 0, 0⟩] ∧ Oc v1 1 (200 - A) ∧ v1.st.s 1 = 1 ∧ v1.st.h 1 = A := by
  have ht : Hd.takeE (newSv 4 200 50).st.left (newSv 4 200 50).st.h 1 A = 0 := takeE_zero (by omega) (by omega) rfl (by show A ≤ 200; omega)
  obtain ⟨e1, e2⟩ := hd_did (v := newSv 4 200 50) (m := ⟨1, 0, 4, 1, 0, A, 0⟩) (by rfl) rfl rfl (by rfl) ht
  refine ⟨_, e1, e2, ?_, ?_, ?_⟩
  all_goals (unfold putS; rw [stp_did ht])
  · exact ⟨rfl, rfl, rfl, rfl, rfl, rfl, rfl⟩
  · rfl
  · rfl
theorem oc_undo {v : Sv} {A : Int} (h : Oc v 1 (200 - A)) (hs : v.st.s 1 = 1) (hh : v.st.h 1 = A) : ∃ v2, hdS v ⟨4, 0, 4, 1, 0, 0, 0⟩ = v2 ∧ hdA v ⟨4, 0, 4, 1, 0, 0, 0⟩ = [⟨5, 4, 0, 1, 0, 0, 0⟩] ∧ Oc v2 2 200 := by
  have hr : hasRoom v = true := hasRoom_iff.2 (by rw [h.rm, h.ln]; decide)
  obtain ⟨e1, e2⟩ := hd_undid (v := v) (m := ⟨4, 0, 4, 1, 0, 0, 0⟩) (hears_mk h.dn h.nd.symm rfl (by decide)) rfl (.inr hs) hr
  rw [h.nd] at e2
  refine ⟨_, e1, e2, ?_⟩
  unfold putS
  rw [stp_undid]
  refine ⟨h.nd, h.dn, h.rm, by simp [h.ln], ?_, ?_, ?_⟩
  · show v.st.left + v.st.h 1 = 200
    rw [h.lf, hh]
    omega
  · show Hd.upd v.st.s 1 3 2 = 0
    rw [Hd.upd_other _ _ (by decide)]
    exact h.s2
  · show Hd.upd v.st.h 1 0 2 = 0
    rw [Hd.upd_other _ _ (by decide)]
    exact h.h2
theorem two_id : (1 : Int) ≤ 2 ∧ (2 : Int) ≤ 999 := by decide
theorem oc_last {v : Sv} {len : Nat} {left C : Int} (h : Oc v len left) (hl : len ≤ 2) (hC : 1 ≤ C ∧ C ≤ 100) (hle : C ≤ left) : ∃ v3, hdS v ⟨1, 0, 4, 2, 0, C, 0⟩ = v3 ∧ hdA v ⟨1, 0, 4, 2, 0, C, 0⟩ = [⟨2, 4, 0, 2, 0, 0, 0⟩] ∧ v3.st.left = left - C ∧ v3.st.s 2 = 1 ∧ v3.down = false := by
  have hr : hasRoom v = true := hasRoom_iff.2 (by rw [h.rm, h.ln]; omega)
  have ht : Hd.takeE v.st.left v.st.h 2 C = 0 := takeE_zero (by omega) (by omega) h.h2 (by rw [h.lf]; exact hle)
  obtain ⟨e1, e2⟩ := hd_did (v := v) (m := ⟨1, 0, 4, 2, 0, C, 0⟩) (hears_mk h.dn h.nd.symm rfl two_id) rfl h.s2 hr ht
  rw [h.nd] at e2
  refine ⟨_, e1, e2, ?_⟩
  unfold putS
  rw [stp_did ht]
  refine ⟨?_, rfl, h.dn⟩
  show v.st.left - C = _
  rw [h.lf]

set_option maxHeartbeats 2000000 in
theorem serviceOrders_walk (a b : Int) (undo : Bool) (w : World) (_h0 : (Lit.int .i64 a).wf = true) (_h1 : (Lit.int .i64 b).wf = true) (hg : Gl w) :
    Calls Tryz.prog 6 #[.int .i64 a, .int .i64 b, .bool undo] w fun e w' => e = .returned (.bool true) ∧ Below w.heap.size w w' := by
  obtain ⟨ba1, ba2⟩ := um_bd a 100 (by omega) (by omega)
  obtain ⟨bb1, bb2⟩ := um_bd b 100 (by omega) (by omega)
  obtain ⟨A, hA⟩ : ∃ A, um a 100 = A := ⟨_, rfl⟩
  obtain ⟨C, hC⟩ : ∃ C, um b 100 = C := ⟨_, rfl⟩
  rw [hA] at ba1 ba2
  rw [hC] at bb1 bb2
  unfold um at hA hC
  have N := Sn.new (w0 := w) (node := 4) (hold := 200) (room := 50) (by omega)
  obtain ⟨v1, hv1, hx1, o1, hs1, hh1⟩ := oc_first (A := 1 + A) (by omega)
  cases undo
  · obtain ⟨v3, hv3, hx3, hl3, hs3, hd3⟩ := oc_last o1 (C := 1 + C) (by omega) (by omega) (by omega)
    have HL3 : Hid (v3.st.left = 200 - (1 + A) - (1 + C)) := by show _ = _; omega
    have HS3 := hide hs3
    have HD3 := hide hd3
    have qL : (200 - (1 + A) - (1 + C) == 200 - (1 + A) - (1 + C)) = true := by simp
    clear o1 hs1 hh1 hl3 hs3 hd3
    go_enter Tryz.func6, Tryz.ntmps6
    go_wp2_with (first
      | (go_at_call 7; refine N.mono ?_; clear N; rintro e w1 ⟨p, E0, rfl, k0⟩; have H1 := k0.handle hg (by omega) ⟨1, 0, 4, 1, 0, 1 + A, 0⟩ hx1 hv1; clear k0)
      | (go_at_call 15; refine H1.mono ?_; clear H1; rintro e u1 ⟨a1, c1, E1, rfl, x1, k1, -, -⟩; have H3 := k1.handle hg (by omega) ⟨1, 0, 4, 2, 0, 1 + C, 0⟩ hx3 hv3; have X2 := hide x1; clear x1; clear k1)
      | (go_at_call 15; refine H3.mono ?_; clear H3; rintro e u3 ⟨a3, c3, E3, rfl, x3, k3, s3, t3⟩; have X3 := hide (X2.out.step t3 s3); have Y3 := hide x3; have G3 := hide k3.1.good; have C4 := k3.crash 0 0; clear x3 k3 s3 t3 X2)
      | (go_at_call 10; refine C4.mono ?_; clear C4; rintro e u4 ⟨⟨z4, rfl⟩, E4, k4, s4, t4⟩; have X4 := hide (X3.out.step t4 s4); have Y4 := hide (Y3.out.step t4 s4); have T5 := k4.start hg (by omega); clear k4 s4 t4 X3 Y3)
      | (go_at_call 12; refine T5.mono ?_; clear T5; rintro e u5 ⟨⟨z5, rfl⟩, E5, k5, s5, t5⟩; rw [up_cr G3.out HD3.out] at k5; obtain ⟨b1, o1', rfl, x0, -⟩ := (X4.out.step t5 s5).one; obtain ⟨b2, o2', rfl, y0, -⟩ := (Y4.out.step t5 s5).one; have S6 := k5.state (id := 2) (by decide) HS3.out; have L6 := k5.left HL3.out; have W6 := hide k5.2; clear k5 s5 t5 X4 Y4)
      | (go_at_call 17; refine S6.mono ?_; clear S6; rintro e w' ⟨rfl, rfl⟩)
      | (go_at_call 19; refine L6.mono ?_; clear L6; rintro e w' ⟨rfl, rfl⟩)
      | (go_at_call 9; refine (swake_any _ (hg.on W6.out)).mono ?_; rintro e u7 ⟨rfl, hb7⟩; have HB7 := hide (bel_on' W6.out hb7); clear hb7))
    go_ret
    exact ⟨rfl, HB7.out⟩
  · obtain ⟨v2, hv2, hx2, o2⟩ := oc_undo o1 hs1 hh1
    obtain ⟨v3, hv3, hx3, hl3, hs3, hd3⟩ := oc_last o2 (C := 1 + C) (by omega) (by omega) (by omega)
    have HL3 : Hid (v3.st.left = 200 - 0 - (1 + C)) := by show _ = _; omega
    have HS3 := hide hs3
    have HD3 := hide hd3
    clear o1 o2 hs1 hh1 hl3 hs3 hd3
    go_enter Tryz.func6, Tryz.ntmps6
    go_wp2_with (first
      | (go_at_call 7; refine N.mono ?_; clear N; rintro e w1 ⟨p, E0, rfl, k0⟩; have H1 := k0.handle hg (by omega) ⟨1, 0, 4, 1, 0, 1 + A, 0⟩ hx1 hv1; clear k0)
      | (go_at_call 15; refine H1.mono ?_; clear H1; rintro e u1 ⟨a1, c1, E1, rfl, x1, k1, -, -⟩; have H2 := k1.handle hg (by omega) ⟨4, 0, 4, 1, 0, 0, 0⟩ hx2 hv2; have X1 := hide x1; clear x1; clear k1)
      | (go_at_call 15; refine H2.mono ?_; clear H2; rintro e u2 ⟨a2, c2, E2, rfl, -, k2, s2, t2⟩; have x1 := X1.out.step t2 s2; have H3 := k2.handle hg (by omega) ⟨1, 0, 4, 2, 0, 1 + C, 0⟩ hx3 hv3; have X2 := hide x1; clear x1 k2 s2 t2 X1)
      | (go_at_call 15; refine H3.mono ?_; clear H3; rintro e u3 ⟨a3, c3, E3, rfl, x3, k3, s3, t3⟩; have X3 := hide (X2.out.step t3 s3); have Y3 := hide x3; have G3 := hide k3.1.good; have C4 := k3.crash 0 0; clear x3 k3 s3 t3 X2)
      | (go_at_call 10; refine C4.mono ?_; clear C4; rintro e u4 ⟨⟨z4, rfl⟩, E4, k4, s4, t4⟩; have X4 := hide (X3.out.step t4 s4); have Y4 := hide (Y3.out.step t4 s4); have T5 := k4.start hg (by omega); clear k4 s4 t4 X3 Y3)
      | (go_at_call 12; refine T5.mono ?_; clear T5; rintro e u5 ⟨⟨z5, rfl⟩, E5, k5, s5, t5⟩; rw [up_cr G3.out HD3.out] at k5; obtain ⟨b1, o1', rfl, x0, -⟩ := (X4.out.step t5 s5).one; obtain ⟨b2, o2', rfl, y0, -⟩ := (Y4.out.step t5 s5).one; have S6 := k5.state (id := 2) (by decide) HS3.out; have L6 := k5.left HL3.out; have W6 := hide k5.2; clear k5 s5 t5 X4 Y4)
      | (go_at_call 17; refine S6.mono ?_; clear S6; rintro e w' ⟨rfl, rfl⟩)
      | (go_at_call 19; refine L6.mono ?_; clear L6; rintro e w' ⟨rfl, rfl⟩)
      | (go_at_call 9; refine (swake_any _ (hg.on W6.out)).mono ?_; rintro e u7 ⟨rfl, hb7⟩; have HB7 := hide (bel_on' W6.out hb7); clear hb7))
    go_ret
    exact ⟨rfl, HB7.out⟩
end Go.Proofs.YtdbmnjodkpeobaaGreatDoor
