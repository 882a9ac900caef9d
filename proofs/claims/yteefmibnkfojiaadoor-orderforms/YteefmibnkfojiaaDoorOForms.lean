/-
  OrderForms: any orders, any texts: package order answers as the reference does.
-/
import Derived.Test.YteefmibnkfojiaaDoorOrdA
import Derived.Test.YteefmibnkfojiaaDoorOrdI
import Derived.Test.YteefmibnkfojiaaDoorLater
namespace Go.Proofs.YteefmibnkfojiaaDoor
open Go.ChangeShapes Go.WideShapes Go.ChangeAt Go.RowKit

set_option maxRecDepth 100000 in
set_option maxHeartbeats 16000000 in
theorem orderForms_walk (o0 : Od) (a0 : Option Addr) (cap0 : Nat) (o1 : Od) (a1 : Option Addr) (cap1 : Nat) (a2 : Int) (a3 : ByteArray) (w : World) (w0 : OdIn w o0 a0 cap0) (w1 : OdIn w o1 a1 cap1) (_w2 : (Lit.int .i64 a2).wf = true) (_w3 : a3.size ≤ maxLen) (hg : Gl w) :
    Calls Tryd.prog 3 #[.agg #[.int .i64 o0.id, .int .i64 o0.item, .int .i64 o0.qty, .int .i64 o0.client, .int .i64 o0.price, .slice a0 o0.steps.length cap0], .agg #[.int .i64 o1.id, .int .i64 o1.item, .int .i64 o1.qty, .int .i64 o1.client, .int .i64 o1.price, .slice a1 o1.steps.length cap1], .int .i64 a2, .string a3] w fun e w' => e = .returned (.bool true) ∧ Below w.heap.size w w' := by
  have hsm : a3.size ≤ 9223372036854775807 := by unfold maxLen at _w3; omega
  have HCAP := hide w0.2.2.2
  clear _w2 _w3
  obtain ⟨hl0, hst0, -, -⟩ := w0
  obtain ⟨hl1, hst1, -, -⟩ := w1
  have HG := hide hg
  obtain ⟨V, hV⟩ : ∃ V, V = (w.alloc (.cells #[.int .i64 o0.id, .int .i64 o0.item, .int .i64 o0.qty, .int .i64 o0.client, .int .i64 o0.price, .slice a0 o0.steps.length cap0] 24)).alloc (.cells #[.int .i64 o1.id, .int .i64 o1.item, .int .i64 o1.qty, .int .i64 o1.client, .int .i64 o1.price, .slice a1 o1.steps.length cap1] 24) := ⟨_, rfl⟩
  have hbV : Below w.heap.size w V := by rw [hV]; exact ((Below.refl _ _).alloc (Nat.le_refl _) _).alloc (by simp) _
  have hVa : V.heap[w.heap.size]? = some (.cells #[.int .i64 o0.id, .int .i64 o0.item, .int .i64 o0.qty, .int .i64 o0.client, .int .i64 o0.price, .slice a0 o0.steps.length cap0] 24 (0, 0)) := by
    rw [hV]
    show ((w.heap.push _).push _)[w.heap.size]? = _
    simp [Array.getElem?_push]
  have hVc : V.heap[w.heap.size + 1]? = some (.cells #[.int .i64 o1.id, .int .i64 o1.item, .int .i64 o1.qty, .int .i64 o1.client, .int .i64 o1.price, .slice a1 o1.steps.length cap1] 24 (0, 0)) := by
    rw [hV]
    show ((w.heap.push _).push _)[w.heap.size + 1]? = _
    rw [Array.getElem?_push]
    simp
  have LT := light_any o0 a0 cap0 V hl0
  rw [hV] at LT
  have HV := hide hV
  have HBV := hide hbV
  have HVa := hide hVa
  have HVc := hide hVc
  have HSTA := hide hst0
  have HSTB := hide hst1
  have HLA := hide hl0
  have HLB := hide hl1
  have AWK : Hid (∀ u, Below w.heap.size w u → Calls Tryd.prog 9 #[] u fun e w' => e = .returned (.bool true) ∧ Below u.heap.size u w') := fun u hu => oawake_any u (HG.out.on hu)
  clear hV hbV hVa hVc hst0 hst1 hg
  by_cases h20 : o0.steps.length ≤ 20
  rotate_left
  · have e20 : decide (o0.steps.length ≤ 20) = false := by simpa using h20
    rw [e20] at LT
    clear e20 h20
    go_enter Tryd.func3, Tryd.ntmps3
    go_wp2_with fail
    refine LT.mono ?_
    rintro e u1 ⟨rfl, hb1⟩
    rw [← HV.out] at hb1
    have HB1 := hide (bel_on' HBV.out hb1)
    go_wp2_with fail
    refine (AWK.out _ HB1.out).mono ?_
    rintro e uz ⟨rfl, hbz⟩
    go_wp2
    go_ret
    exact ⟨rfl, bel_on' HB1.out hbz⟩
  have e20 : decide (o0.steps.length ≤ 20) = true := by simpa using h20
  rw [e20] at LT
  clear e20
  by_cases k20 : o1.steps.length ≤ 20
  rotate_left
  · have e20 : decide (o1.steps.length ≤ 20) = false := by simpa using k20
    go_enter Tryd.func3, Tryd.ntmps3
    go_wp2_with fail
    refine LT.mono ?_
    rintro e u1 ⟨rfl, hb1⟩
    rw [← HV.out] at hb1
    have HB0 := hide (bel_on' HBV.out hb1)
    obtain ⟨⟨d0, d1, d2, d3, d4, d5⟩, -⟩ := six_of ((hb1.block _ (Array.getElem?_eq_some_iff.1 HVc.out).1).trans HVc.out)
    have L2 := light_any o1 a1 cap1 u1 HLB.out
    rw [e20] at L2
    clear hb1 LT e20 k20
    go_wp2_with fail
    refine L2.mono ?_
    rintro e u2 ⟨rfl, hb2⟩
    have HB1 := hide (bel_on' HB0.out hb2)
    clear d0 d1 d2 d3 d4 d5 hb2
    go_wp2_with fail
    refine (AWK.out _ HB1.out).mono ?_
    rintro e uz ⟨rfl, hbz⟩
    go_wp2
    go_ret
    exact ⟨rfl, bel_on' HB1.out hbz⟩
  have e20 : decide (o1.steps.length ≤ 20) = true := by simpa using k20
  by_cases hs3 : (a3.size : Int) > 300
  · go_enter Tryd.func3, Tryd.ntmps3
    go_wp2_with fail
    refine LT.mono ?_
    rintro e u1 ⟨rfl, hb1⟩
    rw [← HV.out] at hb1
    have HB0 := hide (bel_on' HBV.out hb1)
    obtain ⟨⟨d0, d1, d2, d3, d4, d5⟩, -⟩ := six_of ((hb1.block _ (Array.getElem?_eq_some_iff.1 HVc.out).1).trans HVc.out)
    have L2 := light_any o1 a1 cap1 u1 HLB.out
    rw [e20] at L2
    clear hb1 LT e20 k20
    go_wp2_with fail
    refine L2.mono ?_
    rintro e u2 ⟨rfl, hb2⟩
    have HB1 := hide (bel_on' HB0.out hb2)
    clear d0 d1 d2 d3 d4 d5 hb2
    go_wp2_with fail
    refine (AWK.out _ HB1.out).mono ?_
    rintro e uz ⟨rfl, hbz⟩
    go_wp2
    go_ret
    exact ⟨rfl, bel_on' HB1.out hbz⟩
  obtain ⟨s, hs⟩ : ∃ s, s = a3.data.toList := ⟨_, rfl⟩
  have hsb : a3 = byB s := by rw [hs, byB_of]
  have hsl : s.length ≤ 300 := by
    have e : a3.data.toList.length = a3.size := Array.length_toList
    rw [hs, e]; omega
  have HSB := hide hsb
  have HSL := hide hsl
  clear hs hsb hsl
  go_enter Tryd.func3, Tryd.ntmps3
  go_wp2_with fail
  refine LT.mono ?_
  rintro e u1 ⟨rfl, hb1⟩
  rw [← HV.out] at hb1
  have HB1 := hide (bel_on' HBV.out hb1)
  have HXa1 := hide ((hb1.block _ (Array.getElem?_eq_some_iff.1 HVa.out).1).trans HVa.out)
  have HXb1 := hide ((hb1.block _ (Array.getElem?_eq_some_iff.1 HVc.out).1).trans HVc.out)
  obtain ⟨⟨d0, d1, d2, d3, d4, d5⟩, -⟩ := six_of HXb1.out
  have L2 := light_any o1 a1 cap1 u1 HLB.out
  rw [e20] at L2
  clear hb1 LT e20
  go_wp2_with fail
  refine L2.mono ?_
  rintro e u2 ⟨rfl, hb2⟩
  have HB2 := hide (bel_on' HB1.out hb2)
  have HXa2 := hide ((hb2.block _ (Array.getElem?_eq_some_iff.1 HXa1.out).1).trans HXa1.out)
  have HXb2 := hide ((hb2.block _ (Array.getElem?_eq_some_iff.1 HXb1.out).1).trans HXb1.out)
  clear d0 d1 d2 d3 d4 d5 hb2 L2
  have P1 := oparse_any s u2 (by have := HSL.out; omega)
  rw [← HSB.out] at P1
  go_wp2_with fail
  refine P1.mono ?_
  rintro e w4 ⟨⟨p, ep, av, cv, hpo, rfl, hst4, hl4⟩, hb4⟩
  have HPO := hide hpo
  have HB4 := hide (bel_on' HB2.out hb4)
  have HXa4 := hide ((hb4.block _ (Array.getElem?_eq_some_iff.1 HXa2.out).1).trans HXa2.out)
  have HXb4 := hide ((hb4.block _ (Array.getElem?_eq_some_iff.1 HXb2.out).1).trans HXb2.out)
  have HST4 := hide hst4
  have HPL := hide hl4
  clear hpo hst4 hb4 P1 hl4
  obtain ⟨V4, hV4⟩ : ∃ V, V = w4.alloc (.cells #[.int .i64 p.id, .int .i64 p.item, .int .i64 p.qty, .int .i64 p.client, .int .i64 p.price, .slice av p.steps.length cv] 24) := ⟨_, rfl⟩
  have hbV4 : Below w4.heap.size w4 V4 := by rw [hV4]; exact (Below.refl _ _).alloc (Nat.le_refl _) _
  have hV4b : V4.heap[w4.heap.size]? = some (.cells #[.int .i64 p.id, .int .i64 p.item, .int .i64 p.qty, .int .i64 p.client, .int .i64 p.price, .slice av p.steps.length cv] 24 (0, 0)) := by
    rw [hV4]
    show (w4.heap.push _)[w4.heap.size]? = _
    simp
  have HC4 := hide (bel_on' HB4.out hbV4)
  have HA4 := hide ((hbV4.block _ (Array.getElem?_eq_some_iff.1 HXa4.out).1).trans HXa4.out)
  have HD4 := hide ((hbV4.block _ (Array.getElem?_eq_some_iff.1 HXb4.out).1).trans HXb4.out)
  have HP4 := hide hV4b
  have HSP4 := hide (HST4.out.below hbV4)
  have P2 := ref_parse_any s V4 HSL.out (HG.out.on HC4.out)
  rw [← HSB.out, hV4] at P2
  have HV4 := hide hV4
  clear hV4 hbV4 hV4b
  go_wp2_with fail
  refine P2.mono ?_
  rintro e w5 ⟨⟨q, eq, aq, cq, hqo, rfl, hst5, hl5⟩, hb⟩
  rw [← HV4.out] at hb
  have HC5 := hide (bel_on' HC4.out hb)
  have HA5 := hide ((hb.block _ (Array.getElem?_eq_some_iff.1 HA4.out).1).trans HA4.out)
  have HD5 := hide ((hb.block _ (Array.getElem?_eq_some_iff.1 HD4.out).1).trans HD4.out)
  have HP5 := hide ((hb.block _ (Array.getElem?_eq_some_iff.1 HP4.out).1).trans HP4.out)
  have HSP5 := hide (HSP4.out.below hb)
  obtain ⟨rfl, rfl⟩ := ParO.uniq hqo HPO.out
  have HSQ5 := hide hst5
  clear hqo hst5 hb P2 hl5
  obtain ⟨V6, hV6⟩ : ∃ V, V = w5.alloc (.cells #[.int .i64 q.id, .int .i64 q.item, .int .i64 q.qty, .int .i64 q.client, .int .i64 q.price, .slice aq q.steps.length cq] 24) := ⟨_, rfl⟩
  have hbV6 : Below w5.heap.size w5 V6 := by rw [hV6]; exact (Below.refl _ _).alloc (Nat.le_refl _) _
  have HQ6 : Hid (V6.heap[w5.heap.size]? = some (.cells #[.int .i64 q.id, .int .i64 q.item, .int .i64 q.qty, .int .i64 q.client, .int .i64 q.price, .slice aq q.steps.length cq] 24 (0, 0))) := by
    show _ = _
    rw [hV6]
    show (w5.heap.push _)[w5.heap.size]? = _
    simp
  have HC6 := hide (bel_on' HC5.out hbV6)
  have HA6 := hide ((hbV6.block _ (Array.getElem?_eq_some_iff.1 HA5.out).1).trans HA5.out)
  have HD6 := hide ((hbV6.block _ (Array.getElem?_eq_some_iff.1 HD5.out).1).trans HD5.out)
  have HP6 := hide ((hbV6.block _ (Array.getElem?_eq_some_iff.1 HP5.out).1).trans HP5.out)
  have HSP6 := hide (HSP5.out.below hbV6)
  have HSQ6 := hide (HSQ5.out.below hbV6)
  have HV6 := hide hV6
  clear hV6 hbV6
  obtain ⟨m, hm⟩ : ∃ m, m = mayO o0 := ⟨_, rfl⟩
  obtain ⟨sm, hsm2⟩ : ∃ m, m = sameO o0 o1 := ⟨_, rfl⟩
  obtain ⟨ai, hai⟩ : ∃ i, i = atF o0.steps a2 := ⟨_, rfl⟩
  obtain ⟨tx, htx⟩ : ∃ x, x = byB (textV o0) := ⟨_, rfl⟩
  have HAB : Hid (∀ u : Later V6, Sts u.w a0 o0.steps) := fun u => HSTA.out.below (bel_on' HC6.out u.below)
  have HBB : Hid (∀ u : Later V6, Sts u.w a1 o1.steps) := fun u => HSTB.out.below (bel_on' HC6.out u.below)
  have HGU : Hid (∀ u : Later V6, Gl u.w) := fun u => HG.out.on (bel_on' HC6.out u.below)
  have C1 : ∀ u : Later V6, Calls Tryd.prog 12 #[.agg #[.int .i64 o0.id, .int .i64 o0.item, .int .i64 o0.qty, .int .i64 o0.client, .int .i64 o0.price, .slice a0 o0.steps.length cap0]] u.w fun e w' => e = .returned (.bool m) ∧ ∃ u' : Later V6, w' = u'.w := fun u => calls_later u (by
    rw [hm]; exact omay_any o0 a0 cap0 u.w (HAB.out u) HLA.out)
  have C2 : ∀ u : Later V6, Calls Tryd.prog 13 #[.agg #[.int .i64 o0.id, .int .i64 o0.item, .int .i64 o0.qty, .int .i64 o0.client, .int .i64 o0.price, .slice a0 o0.steps.length cap0]] u.w fun e w' => e = .returned (.bool m) ∧ ∃ u' : Later V6, w' = u'.w := fun u => calls_later u (by
    rw [hm]; exact ref_omay_any o0 a0 cap0 u.w (HAB.out u) HLA.out HCAP.out)
  have C3 : ∀ u : Later V6, Calls Tryd.prog 14 #[.agg #[.int .i64 o0.id, .int .i64 o0.item, .int .i64 o0.qty, .int .i64 o0.client, .int .i64 o0.price, .slice a0 o0.steps.length cap0], .agg #[.int .i64 o1.id, .int .i64 o1.item, .int .i64 o1.qty, .int .i64 o1.client, .int .i64 o1.price, .slice a1 o1.steps.length cap1]] u.w fun e w' => e = .returned (.bool sm) ∧ ∃ u' : Later V6, w' = u'.w := fun u => calls_later u (by
    rw [hsm2]; exact osame_any o0 o1 a0 a1 cap0 cap1 u.w (HAB.out u) (HBB.out u) HLA.out)
  have C4 : ∀ u : Later V6, Calls Tryd.prog 15 #[.agg #[.int .i64 o0.id, .int .i64 o0.item, .int .i64 o0.qty, .int .i64 o0.client, .int .i64 o0.price, .slice a0 o0.steps.length cap0], .agg #[.int .i64 o1.id, .int .i64 o1.item, .int .i64 o1.qty, .int .i64 o1.client, .int .i64 o1.price, .slice a1 o1.steps.length cap1]] u.w fun e w' => e = .returned (.bool sm) ∧ ∃ u' : Later V6, w' = u'.w := fun u => calls_later u (by
    rw [hsm2]; exact ref_same_any o0 o1 a0 a1 cap0 cap1 u.w (HAB.out u) (HBB.out u) HLA.out)
  have C5 : ∀ u : Later V6, Calls Tryd.prog 16 #[.agg #[.int .i64 o0.id, .int .i64 o0.item, .int .i64 o0.qty, .int .i64 o0.client, .int .i64 o0.price, .slice a0 o0.steps.length cap0], .int .i64 a2] u.w fun e w' => e = .returned (.int .i64 ai) ∧ ∃ u' : Later V6, w' = u'.w := fun u => calls_later u (by
    rw [hai]; exact at_any o0 a0 cap0 a2 u.w (HAB.out u) HLA.out)
  have C6 : ∀ u : Later V6, Calls Tryd.prog 17 #[.agg #[.int .i64 o0.id, .int .i64 o0.item, .int .i64 o0.qty, .int .i64 o0.client, .int .i64 o0.price, .slice a0 o0.steps.length cap0], .int .i64 a2] u.w fun e w' => e = .returned (.int .i64 ai) ∧ ∃ u' : Later V6, w' = u'.w := fun u => calls_later u (by
    rw [hai]; exact ref_at_any o0 a0 cap0 a2 u.w (HAB.out u) HLA.out)
  have C7 : ∀ u : Later V6, Calls Tryd.prog 18 #[.agg #[.int .i64 o0.id, .int .i64 o0.item, .int .i64 o0.qty, .int .i64 o0.client, .int .i64 o0.price, .slice a0 o0.steps.length cap0]] u.w fun e w' => e = .returned (.string tx) ∧ ∃ u' : Later V6, w' = u'.w := fun u => calls_later u (by
    rw [htx]; exact otext_any o0 a0 cap0 u.w (HAB.out u) HLA.out (HGU.out u))
  have C8 : ∀ u : Later V6, Calls Tryd.prog 19 #[.agg #[.int .i64 o0.id, .int .i64 o0.item, .int .i64 o0.qty, .int .i64 o0.client, .int .i64 o0.price, .slice a0 o0.steps.length cap0]] u.w fun e w' => e = .returned (.string tx) ∧ ∃ u' : Later V6, w' = u'.w := fun u => calls_later u (by
    rw [htx]; exact ref_text_any o0 a0 cap0 u.w (HAB.out u) HLA.out HCAP.out (HGU.out u))
  have C9 : ∀ u : Later V6, Calls Tryd.prog 15 #[.agg #[.int .i64 q.id, .int .i64 q.item, .int .i64 q.qty, .int .i64 q.client, .int .i64 q.price, .slice av q.steps.length cv], .agg #[.int .i64 q.id, .int .i64 q.item, .int .i64 q.qty, .int .i64 q.client, .int .i64 q.price, .slice aq q.steps.length cq]] u.w fun e w' => e = .returned (.bool true) ∧ ∃ u' : Later V6, w' = u'.w := fun u => calls_later u (by
    have h := ref_same_any q q av aq cv cq u.w (HSP6.out.below u.below) (HSQ6.out.below u.below) (by have := HPL.out; omega)
    rwa [(sameO_iff q q).2 rfl] at h)
  have CA : ∀ u : Later V6, Calls Tryd.prog 9 #[] u.w fun e w' => e = .returned (.bool true) ∧ ∃ u' : Later V6, w' = u'.w := fun u => calls_later u (AWK.out u.w (bel_on' HC6.out u.below))
  clear hm hsm2 hai htx hsm
  go_wp2_with fail
  rw [← HV6.out]
  have hne : Nonempty (Later V6) := ⟨Later.now V6⟩
  obtain ⟨⟨a0', a1', a2', a3', a4', a5'⟩, -⟩ := six_of HA6.out
  obtain ⟨⟨d0', d1', d2', d3', d4', d5'⟩, -⟩ := six_of HD6.out
  obtain ⟨⟨p0', p1', p2', p3', p4', p5'⟩, -⟩ := six_of HP6.out
  obtain ⟨⟨q0', q1', q2', q3', q4', q5'⟩, -⟩ := six_of HQ6.out
  have lA0 := Later.cell a0'
  have lA1 := Later.cell a1'
  have lA2 := Later.cell a2'
  have lA3 := Later.cell a3'
  have lA4 := Later.cell a4'
  have lA5 := Later.cell a5'
  have lD0 := Later.cell d0'
  have lD1 := Later.cell d1'
  have lD2 := Later.cell d2'
  have lD3 := Later.cell d3'
  have lD4 := Later.cell d4'
  have lD5 := Later.cell d5'
  have lP0 := Later.cell p0'
  have lP1 := Later.cell p1'
  have lP2 := Later.cell p2'
  have lP3 := Later.cell p3'
  have lP4 := Later.cell p4'
  have lP5 := Later.cell p5'
  have lQ0 := Later.cell q0'
  have lQ1 := Later.cell q1'
  have lQ2 := Later.cell q2'
  have lQ3 := Later.cell q3'
  have lQ4 := Later.cell q4'
  have lQ5 := Later.cell q5'
  clear a0' a1' a2' a3' a4' a5' d0' d1' d2' d3' d4' d5' p0' p1' p2' p3' p4' p5' q0' q1' q2' q3' q4' q5'
  refine region_later (by kernel_rfl) (by kernel_rfl) ?_
  repeat (first | go_big_quiet_step (first | (go_at_call 12; with_reducible exact C1 _) | (go_at_call 13; with_reducible exact C2 _) | (go_at_call 14; with_reducible exact C3 _) | (go_at_call 15; with_reducible exact C4 _) | (go_at_call 15; with_reducible exact C9 _) | (go_at_call 16; with_reducible exact C5 _) | (go_at_call 17; with_reducible exact C6 _) | (go_at_call 18; with_reducible exact C7 _) | (go_at_call 19; with_reducible exact C8 _) | (go_at_call 9; with_reducible exact CA _)) | quiet_step (first | (go_at_call 12; with_reducible exact C1 _) | (go_at_call 13; with_reducible exact C2 _) | (go_at_call 14; with_reducible exact C3 _) | (go_at_call 15; with_reducible exact C4 _) | (go_at_call 15; with_reducible exact C9 _) | (go_at_call 16; with_reducible exact C5 _) | (go_at_call 17; with_reducible exact C6 _) | (go_at_call 18; with_reducible exact C7 _) | (go_at_call 19; with_reducible exact C8 _) | (go_at_call 9; with_reducible exact CA _)))
  refine wpQuiet_nil ?_
  intro u
  have hbu := u.below
  generalize u.w = wu at hbu ⊢
  have HC7 := hide (bel_on' HC6.out hbu)
  clear hbu hne lA0 lA1 lA2 lA3 lA4 lA5 lD0 lD1 lD2 lD3 lD4 lD5 lP0 lP1 lP2 lP3 lP4 lP5 lQ0 lQ1 lQ2 lQ3 lQ4 lQ5
  go_wp2
  go_ret
  exact ⟨rfl, HC7.out⟩
end Go.Proofs.YteefmibnkfojiaaDoor
