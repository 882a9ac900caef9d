/-
  OrderBack: what is written is read as it was; what is read may be, and is written as that; two have one text just if they are the same.
-/
import Derived.Test.YteefmibnkfojiaaDoorOrdA
import Derived.Test.YteefmibnkfojiaaDoorLater
import Derived.Deep.CutBlock
namespace Go.Proofs.YteefmibnkfojiaaDoor
open Go.ChangeShapes Go.WideShapes Go.ChangeAt Go.RowKit

set_option maxRecDepth 100000 in
set_option maxHeartbeats 8000000 in
theorem orderBack_walk (o0 : Od) (a0 : Option Addr) (cap0 : Nat) (o1 : Od) (a1 : Option Addr) (cap1 : Nat) (a2 : ByteArray) (w : World) (w0 : OdIn w o0 a0 cap0) (w1 : OdIn w o1 a1 cap1) (_w2 : a2.size ≤ maxLen) (hg : Gl w) :
    Calls Tryd.prog 4 #[.agg #[.int .i64 o0.id, .int .i64 o0.item, .int .i64 o0.qty, .int .i64 o0.client, .int .i64 o0.price, .slice a0 o0.steps.length cap0], .agg #[.int .i64 o1.id, .int .i64 o1.item, .int .i64 o1.qty, .int .i64 o1.client, .int .i64 o1.price, .slice a1 o1.steps.length cap1], .string a2] w fun e w' => e = .returned (.bool true) ∧ Below w.heap.size w w' := by
  have hsm : a2.size ≤ 9223372036854775807 := by unfold maxLen at _w2; omega
  clear _w2
  obtain ⟨hl0, hst0, -, -⟩ := w0
  obtain ⟨hl1, hst1, -, -⟩ := w1
  have HG := hide hg
  obtain ⟨V, hV⟩ : ∃ V, V = (w.alloc (.cells #[.int .i64 o0.id, .int .i64 o0.item, .int .i64 o0.qty, .int .i64 o0.client, .int .i64 o0.price, .slice a0 o0.steps.length cap0] 24)).alloc (.cells #[.int .i64 o1.id, .int .i64 o1.item, .int .i64 o1.qty, .int .i64 o1.client, .int .i64 o1.price, .slice a1 o1.steps.length cap1] 24) := ⟨_, rfl⟩
  have hbV : Below w.heap.size w V := by rw [hV]; exact ((Below.refl _ _).alloc (Nat.le_refl _) _).alloc (by simp) _
  have hVa : V.heap[w.heap.size]? = some (.cells #[.int .i64 o0.id, .int .i64 o0.item, .int .i64 o0.qty, .int .i64 o0.client, .int .i64 o0.price, .slice a0 o0.steps.length cap0] 24 (0, 0)) := by
    rw [hV]
    show ((w.heap.push _).push _)[w.heap.size]? = _
    simp [Array.getElem?_push]
  have hVc : V.heap[w.heap.size + 1]? = some (.cells #[.int .i64 o1.id, .int .i64 o1.item, .int .i64 o1.qty, .int .i64 o1.client, .int .i64 o1.price, .slice a1 o1.steps.length cap1] 24 (0, 0)) := by
    rw [hV]
    show ((w.heap.push _).push _)[w.heap.size + 1]? = _
    rw [Array.getElem?_push]
    simp
  have LT := light_any o0 a0 cap0 V hl0
  rw [hV] at LT
  have HV := hide hV
  have HBV := hide hbV
  have HVa := hide hVa
  have HVc := hide hVc
  have HSTA := hide hst0
  have HSTB := hide hst1
  have HLA := hide hl0
  have HLB := hide hl1
  have AWK : Hid (∀ u, Below w.heap.size w u → Calls Tryd.prog 9 #[] u fun e w' => e = .returned (.bool true) ∧ Below u.heap.size u w') := fun u hu => oawake_any u (HG.out.on hu)
  clear hV hbV hVa hVc hst0 hst1 hg
  by_cases h20 : o0.steps.length ≤ 20
  rotate_left
  · have e20 : decide (o0.steps.length ≤ 20) = false := by simpa using h20
    rw [e20] at LT
    clear e20 h20
    go_enter Tryd.func4, Tryd.ntmps4
    go_wp2_with fail
    refine LT.mono ?_
    rintro e u1 ⟨rfl, hb1⟩
    rw [← HV.out] at hb1
    have HB1 := hide (bel_on' HBV.out hb1)
    go_wp2_with fail
    refine (AWK.out _ HB1.out).mono ?_
    rintro e uz ⟨rfl, hbz⟩
    go_wp2
    go_ret
    exact ⟨rfl, bel_on' HB1.out hbz⟩
  have e20 : decide (o0.steps.length ≤ 20) = true := by simpa using h20
  rw [e20] at LT
  clear e20
  by_cases k20 : o1.steps.length ≤ 20
  rotate_left
  · have e20 : decide (o1.steps.length ≤ 20) = false := by simpa using k20
    go_enter Tryd.func4, Tryd.ntmps4
    go_wp2_with fail
    refine LT.mono ?_
    rintro e u1 ⟨rfl, hb1⟩
    rw [← HV.out] at hb1
    have HB0 := hide (bel_on' HBV.out hb1)
    obtain ⟨⟨d0, d1, d2, d3, d4, d5⟩, -⟩ := six_of ((hb1.block _ (Array.getElem?_eq_some_iff.1 HVc.out).1).trans HVc.out)
    have L2 := light_any o1 a1 cap1 u1 HLB.out
    rw [e20] at L2
    clear hb1 LT e20 k20
    go_wp2_with fail
    refine L2.mono ?_
    rintro e u2 ⟨rfl, hb2⟩
    have HB1 := hide (bel_on' HB0.out hb2)
    clear d0 d1 d2 d3 d4 d5 hb2
    go_wp2_with fail
    refine (AWK.out _ HB1.out).mono ?_
    rintro e uz ⟨rfl, hbz⟩
    go_wp2
    go_ret
    exact ⟨rfl, bel_on' HB1.out hbz⟩
  have e20 : decide (o1.steps.length ≤ 20) = true := by simpa using k20
  by_cases hs3 : (a2.size : Int) > 300
  · go_enter Tryd.func4, Tryd.ntmps4
    go_wp2_with fail
    refine LT.mono ?_
    rintro e u1 ⟨rfl, hb1⟩
    rw [← HV.out] at hb1
    have HB0 := hide (bel_on' HBV.out hb1)
    obtain ⟨⟨d0, d1, d2, d3, d4, d5⟩, -⟩ := six_of ((hb1.block _ (Array.getElem?_eq_some_iff.1 HVc.out).1).trans HVc.out)
    have L2 := light_any o1 a1 cap1 u1 HLB.out
    rw [e20] at L2
    clear hb1 LT e20 k20
    go_wp2_with fail
    refine L2.mono ?_
    rintro e u2 ⟨rfl, hb2⟩
    have HB1 := hide (bel_on' HB0.out hb2)
    clear d0 d1 d2 d3 d4 d5 hb2
    go_wp2_with fail
    refine (AWK.out _ HB1.out).mono ?_
    rintro e uz ⟨rfl, hbz⟩
    go_wp2
    go_ret
    exact ⟨rfl, bel_on' HB1.out hbz⟩
  obtain ⟨s, hs⟩ : ∃ s, s = a2.data.toList := ⟨_, rfl⟩
  have hsb : a2 = byB s := by rw [hs, byB_of]
  have hsl : s.length ≤ 300 := by
    have e : a2.data.toList.length = a2.size := Array.length_toList
    rw [hs, e]; omega
  have HSB := hide hsb
  have HSL := hide hsl
  clear hs hsb hsl
  go_enter Tryd.func4, Tryd.ntmps4
  go_wp2_with fail
  refine LT.mono ?_
  rintro e u1 ⟨rfl, hb1⟩
  rw [← HV.out] at hb1
  have HB1 := hide (bel_on' HBV.out hb1)
  have HXa1 := hide ((hb1.block _ (Array.getElem?_eq_some_iff.1 HVa.out).1).trans HVa.out)
  have HXb1 := hide ((hb1.block _ (Array.getElem?_eq_some_iff.1 HVc.out).1).trans HVc.out)
  obtain ⟨⟨d0, d1, d2, d3, d4, d5⟩, -⟩ := six_of HXb1.out
  have L2 := light_any o1 a1 cap1 u1 HLB.out
  rw [e20] at L2
  clear hb1 LT e20
  go_wp2_with fail
  refine L2.mono ?_
  rintro e u2 ⟨rfl, hb2⟩
  have HB2 := hide (bel_on' HB1.out hb2)
  have HXa2 := hide ((hb2.block _ (Array.getElem?_eq_some_iff.1 HXa1.out).1).trans HXa1.out)
  have HXb2 := hide ((hb2.block _ (Array.getElem?_eq_some_iff.1 HXb1.out).1).trans HXb1.out)
  clear d0 d1 d2 d3 d4 d5 hb2 L2
  obtain ⟨⟨d0, d1, d2, d3, d4, d5⟩, -⟩ := six_of HXa2.out
  have TX := otext_any o0 a0 cap0 u2 (HSTA.out.below HB2.out) HLA.out (HG.out.on HB2.out)
  go_wp2_with fail
  refine TX.mono ?_
  rintro e u3 ⟨rfl, hb3⟩
  have HB3 := hide (bel_on' HB2.out hb3)
  have HXa3 := hide ((hb3.block _ (Array.getElem?_eq_some_iff.1 HXa2.out).1).trans HXa2.out)
  have HXb3 := hide ((hb3.block _ (Array.getElem?_eq_some_iff.1 HXb2.out).1).trans HXb2.out)
  clear d0 d1 d2 d3 d4 d5 hb3 TX
  obtain ⟨T, hT⟩ : ∃ T, T = textV o0 := ⟨_, rfl⟩
  have hTl : T.length ≤ 143 := by
    rw [hT]
    unfold textV
    split
    · rename_i h; exact textL_len h
    · simp
  rw [← hT]
  have HT := hide hT
  have P1 := oparse_any T u3 (by omega)
  clear hT hTl
  obtain ⟨S, hS⟩ : ∃ S, S = byB T := ⟨_, rfl⟩
  rw [← hS] at P1 ⊢
  have HS := hide hS
  clear hS
  go_wp2_with fail
  refine P1.mono ?_
  rintro e w4 ⟨⟨p, ep, av, cv, hpo, rfl, hst4, hl4⟩, hb4⟩
  have HPO := hide hpo
  have HB4 := hide (bel_on' HB3.out hb4)
  have HXa4 := hide ((hb4.block _ (Array.getElem?_eq_some_iff.1 HXa3.out).1).trans HXa3.out)
  have HXb4 := hide ((hb4.block _ (Array.getElem?_eq_some_iff.1 HXb3.out).1).trans HXb3.out)
  have HST4 := hide hst4
  have HPL := hide hl4
  clear hpo hst4 hb4 P1 hl4
  obtain ⟨V4, hV4⟩ : ∃ V, V = w4.alloc (.cells #[.int .i64 p.id, .int .i64 p.item, .int .i64 p.qty, .int .i64 p.client, .int .i64 p.price, .slice av p.steps.length cv] 24) := ⟨_, rfl⟩
  have hbV4 : Below w4.heap.size w4 V4 := by rw [hV4]; exact (Below.refl _ _).alloc (Nat.le_refl _) _
  have hV4b : V4.heap[w4.heap.size]? = some (.cells #[.int .i64 p.id, .int .i64 p.item, .int .i64 p.qty, .int .i64 p.client, .int .i64 p.price, .slice av p.steps.length cv] 24 (0, 0)) := by
    rw [hV4]
    show (w4.heap.push _)[w4.heap.size]? = _
    simp
  have HC4 := hide (bel_on' HB4.out hbV4)
  have HA4 := hide ((hbV4.block _ (Array.getElem?_eq_some_iff.1 HXa4.out).1).trans HXa4.out)
  have HD4 := hide ((hbV4.block _ (Array.getElem?_eq_some_iff.1 HXb4.out).1).trans HXb4.out)
  have HP4 := hide hV4b
  have HSP4 := hide (HST4.out.below hbV4)
  have HV4 := hide hV4
  clear hV4 hbV4 hV4b
  have hwl : w.heap.size < w4.heap.size := (Array.getElem?_eq_some_iff.1 HXa4.out).1
  have hwl2 : w.heap.size + 1 < w4.heap.size := (Array.getElem?_eq_some_iff.1 HXb4.out).1
  have CM : Hid (∀ u, Below w.heap.size w u → Calls Tryd.prog 12 #[.agg #[.int .i64 o0.id, .int .i64 o0.item, .int .i64 o0.qty, .int .i64 o0.client, .int .i64 o0.price, .slice a0 o0.steps.length cap0]] u fun e w' => e = .returned (.bool (mayO o0)) ∧ Below u.heap.size u w') := fun u hu => omay_any o0 a0 cap0 u (HSTA.out.below hu) HLA.out
  have CB : Hid (∀ u, Below w.heap.size w u → Calls Tryd.prog 12 #[.agg #[.int .i64 o1.id, .int .i64 o1.item, .int .i64 o1.qty, .int .i64 o1.client, .int .i64 o1.price, .slice a1 o1.steps.length cap1]] u fun e w' => e = .returned (.bool (mayO o1)) ∧ Below u.heap.size u w') := fun u hu => omay_any o1 a1 cap1 u (HSTB.out.below hu) HLB.out
  cases hm : mayO o0
  · have hT0 : T = [] := by rw [HT.out]; exact (textV_nil o0).2 hm
    have qS : S.toList.isEmpty = true := by rw [HS.out, byB_empty, hT0]; rfl
    obtain ⟨rfl, hep⟩ : ep = 2 ∧ True := by
      rcases HPO.out with ⟨_, _, h⟩ | ⟨h, _, _⟩
      · rw [hT0] at h; exact absurd h.symm (textL_ne p)
      · exact ⟨h, trivial⟩
    clear hT0 hep
    have M4 := CM.out V4 HC4.out
    rw [hm, HV4.out] at M4
    obtain ⟨⟨a0', a1', a2', a3', a4', a5'⟩, -⟩ := six_of HXa4.out
    go_wp2_with fail
    refine M4.mono ?_
    rintro e u5 ⟨rfl, hb⟩
    rw [← HV4.out] at hb
    have HC5 := hide (bel_on' HC4.out hb)
    have HA5 := hide ((hb.block _ (Array.getElem?_eq_some_iff.1 HA4.out).1).trans HA4.out)
    have HD5 := hide ((hb.block _ (Array.getElem?_eq_some_iff.1 HD4.out).1).trans HD4.out)
    have HP5 := hide ((hb.block _ (Array.getElem?_eq_some_iff.1 HP4.out).1).trans HP4.out)
    clear hb M4
    clear a0' a1' a2' a3' a4' a5'
    have CM5 : ∀ u : Later u5, Calls Tryd.prog 12 #[.agg #[.int .i64 o0.id, .int .i64 o0.item, .int .i64 o0.qty, .int .i64 o0.client, .int .i64 o0.price, .slice a0 o0.steps.length cap0]] u.w fun e w' => e = .returned (.bool false) ∧ ∃ u' : Later u5, w' = u'.w := fun u => calls_later u (by
      have h := CM.out u.w (bel_on' HC5.out u.below)
      rwa [hm] at h)
    clear hm
    go_wp2_with fail
    have hne : Nonempty (Later u5) := ⟨Later.now u5⟩
    obtain ⟨⟨a0', a1', a2', a3', a4', a5'⟩, -⟩ := six_of HA5.out
    have lA0 := Later.cell a0'
    have lA1 := Later.cell a1'
    have lA2 := Later.cell a2'
    have lA3 := Later.cell a3'
    have lA4 := Later.cell a4'
    have lA5 := Later.cell a5'
    clear a0' a1' a2' a3' a4' a5'
    refine region_later (by kernel_rfl) (by kernel_rfl) ?_
    repeat (first | go_big_quiet_step (first | (go_at_call 12; with_reducible exact CM5 _)) | quiet_step (first | (go_at_call 12; with_reducible exact CM5 _)))
    refine wpQuiet_nil ?_
    intro u
    have hbu := u.below
    generalize u.w = u6 at hbu ⊢
    have HC6 := hide (bel_on' HC5.out hbu)
    have HA6 := hide ((hbu.block _ (Array.getElem?_eq_some_iff.1 HA5.out).1).trans HA5.out)
    have HD6 := hide ((hbu.block _ (Array.getElem?_eq_some_iff.1 HD5.out).1).trans HD5.out)
    have HP6 := hide ((hbu.block _ (Array.getElem?_eq_some_iff.1 HP5.out).1).trans HP5.out)
    clear hbu hne lA0 lA1 lA2 lA3 lA4 lA5
    clear CM5
    have P2 := oparse_any s u6 (by have := HSL.out; omega)
    rw [← HSB.out] at P2
    go_wp2_with fail
    refine P2.mono ?_
    rintro e w9 ⟨⟨q, eq, aq, cq, hqo, rfl, hst9, hl9⟩, hb⟩
    have HC9 := hide (bel_on' HC6.out hb)
    have HQO := hide hqo
    have HQL := hide hl9
    obtain ⟨V9, hV9⟩ : ∃ V, V = w9.alloc (.cells #[.int .i64 q.id, .int .i64 q.item, .int .i64 q.qty, .int .i64 q.client, .int .i64 q.price, .slice aq q.steps.length cq] 24) := ⟨_, rfl⟩
    have hbV9 : Below w9.heap.size w9 V9 := by rw [hV9]; exact (Below.refl _ _).alloc (Nat.le_refl _) _
    have HQ10 : Hid (V9.heap[w9.heap.size]? = some (.cells #[.int .i64 q.id, .int .i64 q.item, .int .i64 q.qty, .int .i64 q.client, .int .i64 q.price, .slice aq q.steps.length cq] 24 (0, 0))) := by
      show _ = _
      rw [hV9]
      show (w9.heap.push _)[w9.heap.size]? = _
      simp
    have HC10 := hide (bel_on' HC9.out hbV9)
    have HSQ10 := hide (hst9.below hbV9)
    have HV9 := hide hV9
    clear hqo hl9 hst9 hb P2 hV9 hbV9
    rcases HQO.out with ⟨rfl, hmq, hxq⟩ | ⟨rfl, -, -⟩
    · have hq9 : w9.heap.size < V9.heap.size := (Array.getElem?_eq_some_iff.1 HQ10.out).1
      have M9 := omay_any q aq cq V9 HSQ10.out (by have := HQL.out; omega)
      rw [hmq, HV9.out] at M9
      go_wp2_with fail
      refine M9.mono ?_
      rintro e v11 ⟨rfl, hb⟩
      rw [← HV9.out] at hb
      have HC11 := hide (bel_on' HC10.out hb)
      have HQ11 := hide ((hb.block _ (Array.getElem?_eq_some_iff.1 HQ10.out).1).trans HQ10.out)
      have HSQ11 := hide (HSQ10.out.below hb)
      clear hb M9 hq9
      obtain ⟨⟨q0', q1', q2', q3', q4', q5'⟩, -⟩ := six_of HQ11.out
      have T11 := otext_any q aq cq v11 HSQ11.out (by have := HQL.out; omega) (HG.out.on HC11.out)
      rw [show textV q = s by unfold textV; rw [if_pos hmq, ← hxq], ← HSB.out] at T11
      go_wp2_with fail
      refine T11.mono ?_
      rintro e v12 ⟨rfl, hb⟩
      have HC12 := hide (bel_on' HC11.out hb)
      clear hb T11
      clear q0' q1' q2' q3' q4' q5'
      go_wp2_with fail
      refine (AWK.out _ HC12.out).mono ?_
      rintro e uz ⟨rfl, hbz⟩
      go_wp2
      go_ret
      exact ⟨rfl, bel_on' HC12.out hbz⟩
    · go_wp2_with fail
      rw [← HV9.out]
      refine (AWK.out _ HC10.out).mono ?_
      rintro e uz ⟨rfl, hbz⟩
      go_wp2
      go_ret
      exact ⟨rfl, bel_on' HC10.out hbz⟩
  · have hT0 : T = textL o0 := by rw [HT.out]; unfold textV; rw [if_pos hm]
    have qS : S.toList.isEmpty = false := by
      rw [HS.out, byB_empty, hT0]
      have := textL_ne o0
      cases h : textL o0 with
      | nil => exact absurd h this
      | cons => rfl
    obtain ⟨rfl, rfl⟩ : o0 = p ∧ 0 = ep := by
      have h := HPO.out
      rw [hT0] at h
      obtain ⟨h1, h2⟩ := ParO.uniq h (parO_text hm)
      exact ⟨h1.symm, h2.symm⟩
    have HT0 := hide hT0
    have HMA := hide hm
    clear hT0
    have M4 := CM.out V4 HC4.out
    rw [hm, HV4.out] at M4
    obtain ⟨⟨a0', a1', a2', a3', a4', a5'⟩, -⟩ := six_of HXa4.out
    go_wp2_with fail
    refine M4.mono ?_
    rintro e u5 ⟨rfl, hb⟩
    rw [← HV4.out] at hb
    have HC5 := hide (bel_on' HC4.out hb)
    have HA5 := hide ((hb.block _ (Array.getElem?_eq_some_iff.1 HA4.out).1).trans HA4.out)
    have HD5 := hide ((hb.block _ (Array.getElem?_eq_some_iff.1 HD4.out).1).trans HD4.out)
    have HP5 := hide ((hb.block _ (Array.getElem?_eq_some_iff.1 HP4.out).1).trans HP4.out)
    have HSP5 := hide (HSP4.out.below hb)
    clear hb M4
    clear a0' a1' a2' a3' a4' a5'
    obtain ⟨⟨a0', a1', a2', a3', a4', a5'⟩, -⟩ := six_of HA5.out
    obtain ⟨⟨p0', p1', p2', p3', p4', p5'⟩, -⟩ := six_of HP5.out
    have S5 := ref_same_any o0 o0 a0 av cap0 cv u5 (HSTA.out.below HC5.out) HSP5.out HLA.out
    rw [(sameO_iff o0 o0).2 rfl] at S5
    go_wp2_with fail
    refine S5.mono ?_
    rintro e u6 ⟨rfl, hb⟩
    have HC6 := hide (bel_on' HC5.out hb)
    have HA6 := hide ((hb.block _ (Array.getElem?_eq_some_iff.1 HA5.out).1).trans HA5.out)
    have HD6 := hide ((hb.block _ (Array.getElem?_eq_some_iff.1 HD5.out).1).trans HD5.out)
    have HP6 := hide ((hb.block _ (Array.getElem?_eq_some_iff.1 HP5.out).1).trans HP5.out)
    clear hb S5
    clear a0' a1' a2' a3' a4' a5' p0' p1' p2' p3' p4' p5'
    have CM6 : ∀ u : Later u6, Calls Tryd.prog 12 #[.agg #[.int .i64 o0.id, .int .i64 o0.item, .int .i64 o0.qty, .int .i64 o0.client, .int .i64 o0.price, .slice a0 o0.steps.length cap0]] u.w fun e w' => e = .returned (.bool true) ∧ ∃ u' : Later u6, w' = u'.w := fun u => calls_later u (by
      have h := CM.out u.w (bel_on' HC6.out u.below)
      rwa [hm] at h)
    go_wp2_with fail
    clear hm
    cases hb1 : mayO o1
    · have CB6 : ∀ u : Later u6, Calls Tryd.prog 12 #[.agg #[.int .i64 o1.id, .int .i64 o1.item, .int .i64 o1.qty, .int .i64 o1.client, .int .i64 o1.price, .slice a1 o1.steps.length cap1]] u.w fun e w' => e = .returned (.bool false) ∧ ∃ u' : Later u6, w' = u'.w := fun u => calls_later u (by
        have h := CB.out u.w (bel_on' HC6.out u.below)
        rwa [hb1] at h)
      clear hb1
      have hne : Nonempty (Later u6) := ⟨Later.now u6⟩
      obtain ⟨⟨a0', a1', a2', a3', a4', a5'⟩, -⟩ := six_of HA6.out
      obtain ⟨⟨d0', d1', d2', d3', d4', d5'⟩, -⟩ := six_of HD6.out
      have lA0 := Later.cell a0'
      have lA1 := Later.cell a1'
      have lA2 := Later.cell a2'
      have lA3 := Later.cell a3'
      have lA4 := Later.cell a4'
      have lA5 := Later.cell a5'
      have lD0 := Later.cell d0'
      have lD1 := Later.cell d1'
      have lD2 := Later.cell d2'
      have lD3 := Later.cell d3'
      have lD4 := Later.cell d4'
      have lD5 := Later.cell d5'
      clear a0' a1' a2' a3' a4' a5' d0' d1' d2' d3' d4' d5'
      refine region_later (by kernel_rfl) (by kernel_rfl) ?_
      repeat (first | go_big_quiet_step (first | (go_at_call 12; with_reducible exact CM6 _) | (go_at_call 12; with_reducible exact CB6 _)) | quiet_step (first | (go_at_call 12; with_reducible exact CM6 _) | (go_at_call 12; with_reducible exact CB6 _)))
      refine wpQuiet_nil ?_
      intro u
      have hbu := u.below
      generalize u.w = u7 at hbu ⊢
      have HC7 := hide (bel_on' HC6.out hbu)
      have HA7 := hide ((hbu.block _ (Array.getElem?_eq_some_iff.1 HA6.out).1).trans HA6.out)
      have HD7 := hide ((hbu.block _ (Array.getElem?_eq_some_iff.1 HD6.out).1).trans HD6.out)
      have HP7 := hide ((hbu.block _ (Array.getElem?_eq_some_iff.1 HP6.out).1).trans HP6.out)
      clear hbu hne lA0 lA1 lA2 lA3 lA4 lA5 lD0 lD1 lD2 lD3 lD4 lD5
      clear CM6 CB6
      have P2 := oparse_any s u7 (by have := HSL.out; omega)
      rw [← HSB.out] at P2
      go_wp2_with fail
      refine P2.mono ?_
      rintro e w9 ⟨⟨q, eq, aq, cq, hqo, rfl, hst9, hl9⟩, hb⟩
      have HC9 := hide (bel_on' HC7.out hb)
      have HQO := hide hqo
      have HQL := hide hl9
      obtain ⟨V9, hV9⟩ : ∃ V, V = w9.alloc (.cells #[.int .i64 q.id, .int .i64 q.item, .int .i64 q.qty, .int .i64 q.client, .int .i64 q.price, .slice aq q.steps.length cq] 24) := ⟨_, rfl⟩
      have hbV9 : Below w9.heap.size w9 V9 := by rw [hV9]; exact (Below.refl _ _).alloc (Nat.le_refl _) _
      have HQ10 : Hid (V9.heap[w9.heap.size]? = some (.cells #[.int .i64 q.id, .int .i64 q.item, .int .i64 q.qty, .int .i64 q.client, .int .i64 q.price, .slice aq q.steps.length cq] 24 (0, 0))) := by
        show _ = _
        rw [hV9]
        show (w9.heap.push _)[w9.heap.size]? = _
        simp
      have HC10 := hide (bel_on' HC9.out hbV9)
      have HSQ10 := hide (hst9.below hbV9)
      have HV9 := hide hV9
      clear hqo hl9 hst9 hb P2 hV9 hbV9
      rcases HQO.out with ⟨rfl, hmq, hxq⟩ | ⟨rfl, -, -⟩
      · have hq9 : w9.heap.size < V9.heap.size := (Array.getElem?_eq_some_iff.1 HQ10.out).1
        have M9 := omay_any q aq cq V9 HSQ10.out (by have := HQL.out; omega)
        rw [hmq, HV9.out] at M9
        go_wp2_with fail
        refine M9.mono ?_
        rintro e v11 ⟨rfl, hb⟩
        rw [← HV9.out] at hb
        have HC11 := hide (bel_on' HC10.out hb)
        have HQ11 := hide ((hb.block _ (Array.getElem?_eq_some_iff.1 HQ10.out).1).trans HQ10.out)
        have HSQ11 := hide (HSQ10.out.below hb)
        clear hb M9 hq9
        obtain ⟨⟨q0', q1', q2', q3', q4', q5'⟩, -⟩ := six_of HQ11.out
        have T11 := otext_any q aq cq v11 HSQ11.out (by have := HQL.out; omega) (HG.out.on HC11.out)
        rw [show textV q = s by unfold textV; rw [if_pos hmq, ← hxq], ← HSB.out] at T11
        go_wp2_with fail
        refine T11.mono ?_
        rintro e v12 ⟨rfl, hb⟩
        have HC12 := hide (bel_on' HC11.out hb)
        clear hb T11
        clear q0' q1' q2' q3' q4' q5'
        go_wp2_with fail
        refine (AWK.out _ HC12.out).mono ?_
        rintro e uz ⟨rfl, hbz⟩
        go_wp2
        go_ret
        exact ⟨rfl, bel_on' HC12.out hbz⟩
      · go_wp2_with fail
        rw [← HV9.out]
        refine (AWK.out _ HC10.out).mono ?_
        rintro e uz ⟨rfl, hbz⟩
        go_wp2
        go_ret
        exact ⟨rfl, bel_on' HC10.out hbz⟩
    · have CB6 : ∀ u : Later u6, Calls Tryd.prog 12 #[.agg #[.int .i64 o1.id, .int .i64 o1.item, .int .i64 o1.qty, .int .i64 o1.client, .int .i64 o1.price, .slice a1 o1.steps.length cap1]] u.w fun e w' => e = .returned (.bool true) ∧ ∃ u' : Later u6, w' = u'.w := fun u => calls_later u (by
        have h := CB.out u.w (bel_on' HC6.out u.below)
        rwa [hb1] at h)
      obtain ⟨S1, hS1⟩ : ∃ S1, S1 = byB (textL o1) := ⟨_, rfl⟩
      have CT6 : ∀ u : Later u6, Calls Tryd.prog 18 #[.agg #[.int .i64 o1.id, .int .i64 o1.item, .int .i64 o1.qty, .int .i64 o1.client, .int .i64 o1.price, .slice a1 o1.steps.length cap1]] u.w fun e w' => e = .returned (.string S1) ∧ ∃ u' : Later u6, w' = u'.w := fun u => calls_later u (by
        have h := otext_any o1 a1 cap1 u.w (HSTB.out.below (bel_on' HC6.out u.below)) HLB.out (HG.out.on (bel_on' HC6.out u.below))
        rwa [show textV o1 = textL o1 by unfold textV; rw [if_pos hb1], ← hS1] at h)
      have CS6 : ∀ u : Later u6, Calls Tryd.prog 14 #[.agg #[.int .i64 o0.id, .int .i64 o0.item, .int .i64 o0.qty, .int .i64 o0.client, .int .i64 o0.price, .slice a0 o0.steps.length cap0], .agg #[.int .i64 o1.id, .int .i64 o1.item, .int .i64 o1.qty, .int .i64 o1.client, .int .i64 o1.price, .slice a1 o1.steps.length cap1]] u.w fun e w' => e = .returned (.bool (sameO o0 o1)) ∧ ∃ u' : Later u6, w' = u'.w := fun u => calls_later u (by
        exact osame_any o0 o1 a0 a1 cap0 cap1 u.w (HSTA.out.below (bel_on' HC6.out u.below)) (HSTB.out.below (bel_on' HC6.out u.below)) HLA.out)
      have hBB : (S.toList == S1.toList) = sameO o0 o1 := by
        rw [HS.out, hS1, byB_list, byB_list, HT0.out]
        rw [Bool.eq_iff_iff, sameO_iff, beq_iff_eq]
        exact ⟨fun h => text_inj HMA.out hb1 h, fun h => by rw [h]⟩
      obtain ⟨bb, hbb⟩ : ∃ bb, sameO o0 o1 = bb := ⟨_, rfl⟩
      rw [hbb] at hBB CS6
      clear hb1 hS1 hbb
      cases bb
      · have hne : Nonempty (Later u6) := ⟨Later.now u6⟩
        obtain ⟨⟨a0', a1', a2', a3', a4', a5'⟩, -⟩ := six_of HA6.out
        obtain ⟨⟨d0', d1', d2', d3', d4', d5'⟩, -⟩ := six_of HD6.out
        have lA0 := Later.cell a0'
        have lA1 := Later.cell a1'
        have lA2 := Later.cell a2'
        have lA3 := Later.cell a3'
        have lA4 := Later.cell a4'
        have lA5 := Later.cell a5'
        have lD0 := Later.cell d0'
        have lD1 := Later.cell d1'
        have lD2 := Later.cell d2'
        have lD3 := Later.cell d3'
        have lD4 := Later.cell d4'
        have lD5 := Later.cell d5'
        clear a0' a1' a2' a3' a4' a5' d0' d1' d2' d3' d4' d5'
        refine region_later (by kernel_rfl) (by kernel_rfl) ?_
        repeat (first | go_big_quiet_step (first | (go_at_call 12; with_reducible exact CM6 _) | (go_at_call 12; with_reducible exact CB6 _) | (go_at_call 18; with_reducible exact CT6 _) | (go_at_call 14; with_reducible exact CS6 _)) | quiet_step (first | (go_at_call 12; with_reducible exact CM6 _) | (go_at_call 12; with_reducible exact CB6 _) | (go_at_call 18; with_reducible exact CT6 _) | (go_at_call 14; with_reducible exact CS6 _)))
        refine wpQuiet_nil ?_
        intro u
        have hbu := u.below
        generalize u.w = u7 at hbu ⊢
        have HC7 := hide (bel_on' HC6.out hbu)
        have HA7 := hide ((hbu.block _ (Array.getElem?_eq_some_iff.1 HA6.out).1).trans HA6.out)
        have HD7 := hide ((hbu.block _ (Array.getElem?_eq_some_iff.1 HD6.out).1).trans HD6.out)
        have HP7 := hide ((hbu.block _ (Array.getElem?_eq_some_iff.1 HP6.out).1).trans HP6.out)
        clear hbu hne lA0 lA1 lA2 lA3 lA4 lA5 lD0 lD1 lD2 lD3 lD4 lD5
        clear CM6 CB6 CT6 CS6 hBB
        have P2 := oparse_any s u7 (by have := HSL.out; omega)
        rw [← HSB.out] at P2
        go_wp2_with fail
        refine P2.mono ?_
        rintro e w9 ⟨⟨q, eq, aq, cq, hqo, rfl, hst9, hl9⟩, hb⟩
        have HC9 := hide (bel_on' HC7.out hb)
        have HQO := hide hqo
        have HQL := hide hl9
        obtain ⟨V9, hV9⟩ : ∃ V, V = w9.alloc (.cells #[.int .i64 q.id, .int .i64 q.item, .int .i64 q.qty, .int .i64 q.client, .int .i64 q.price, .slice aq q.steps.length cq] 24) := ⟨_, rfl⟩
        have hbV9 : Below w9.heap.size w9 V9 := by rw [hV9]; exact (Below.refl _ _).alloc (Nat.le_refl _) _
        have HQ10 : Hid (V9.heap[w9.heap.size]? = some (.cells #[.int .i64 q.id, .int .i64 q.item, .int .i64 q.qty, .int .i64 q.client, .int .i64 q.price, .slice aq q.steps.length cq] 24 (0, 0))) := by
          show _ = _
          rw [hV9]
          show (w9.heap.push _)[w9.heap.size]? = _
          simp
        have HC10 := hide (bel_on' HC9.out hbV9)
        have HSQ10 := hide (hst9.below hbV9)
        have HV9 := hide hV9
        clear hqo hl9 hst9 hb P2 hV9 hbV9
        rcases HQO.out with ⟨rfl, hmq, hxq⟩ | ⟨rfl, -, -⟩
        · have hq9 : w9.heap.size < V9.heap.size := (Array.getElem?_eq_some_iff.1 HQ10.out).1
          have M9 := omay_any q aq cq V9 HSQ10.out (by have := HQL.out; omega)
          rw [hmq, HV9.out] at M9
          go_wp2_with fail
          refine M9.mono ?_
          rintro e v11 ⟨rfl, hb⟩
          rw [← HV9.out] at hb
          have HC11 := hide (bel_on' HC10.out hb)
          have HQ11 := hide ((hb.block _ (Array.getElem?_eq_some_iff.1 HQ10.out).1).trans HQ10.out)
          have HSQ11 := hide (HSQ10.out.below hb)
          clear hb M9 hq9
          obtain ⟨⟨q0', q1', q2', q3', q4', q5'⟩, -⟩ := six_of HQ11.out
          have T11 := otext_any q aq cq v11 HSQ11.out (by have := HQL.out; omega) (HG.out.on HC11.out)
          rw [show textV q = s by unfold textV; rw [if_pos hmq, ← hxq], ← HSB.out] at T11
          go_wp2_with fail
          refine T11.mono ?_
          rintro e v12 ⟨rfl, hb⟩
          have HC12 := hide (bel_on' HC11.out hb)
          clear hb T11
          clear q0' q1' q2' q3' q4' q5'
          go_wp2_with fail
          refine (AWK.out _ HC12.out).mono ?_
          rintro e uz ⟨rfl, hbz⟩
          go_wp2
          go_ret
          exact ⟨rfl, bel_on' HC12.out hbz⟩
        · go_wp2_with fail
          rw [← HV9.out]
          refine (AWK.out _ HC10.out).mono ?_
          rintro e uz ⟨rfl, hbz⟩
          go_wp2
          go_ret
          exact ⟨rfl, bel_on' HC10.out hbz⟩
      · have hne : Nonempty (Later u6) := ⟨Later.now u6⟩
        obtain ⟨⟨a0', a1', a2', a3', a4', a5'⟩, -⟩ := six_of HA6.out
        obtain ⟨⟨d0', d1', d2', d3', d4', d5'⟩, -⟩ := six_of HD6.out
        have lA0 := Later.cell a0'
        have lA1 := Later.cell a1'
        have lA2 := Later.cell a2'
        have lA3 := Later.cell a3'
        have lA4 := Later.cell a4'
        have lA5 := Later.cell a5'
        have lD0 := Later.cell d0'
        have lD1 := Later.cell d1'
        have lD2 := Later.cell d2'
        have lD3 := Later.cell d3'
        have lD4 := Later.cell d4'
        have lD5 := Later.cell d5'
        clear a0' a1' a2' a3' a4' a5' d0' d1' d2' d3' d4' d5'
        refine region_later (by kernel_rfl) (by kernel_rfl) ?_
        repeat (first | go_big_quiet_step (first | (go_at_call 12; with_reducible exact CM6 _) | (go_at_call 12; with_reducible exact CB6 _) | (go_at_call 18; with_reducible exact CT6 _) | (go_at_call 14; with_reducible exact CS6 _)) | quiet_step (first | (go_at_call 12; with_reducible exact CM6 _) | (go_at_call 12; with_reducible exact CB6 _) | (go_at_call 18; with_reducible exact CT6 _) | (go_at_call 14; with_reducible exact CS6 _)))
        refine wpQuiet_nil ?_
        intro u
        have hbu := u.below
        generalize u.w = u7 at hbu ⊢
        have HC7 := hide (bel_on' HC6.out hbu)
        have HA7 := hide ((hbu.block _ (Array.getElem?_eq_some_iff.1 HA6.out).1).trans HA6.out)
        have HD7 := hide ((hbu.block _ (Array.getElem?_eq_some_iff.1 HD6.out).1).trans HD6.out)
        have HP7 := hide ((hbu.block _ (Array.getElem?_eq_some_iff.1 HP6.out).1).trans HP6.out)
        clear hbu hne lA0 lA1 lA2 lA3 lA4 lA5 lD0 lD1 lD2 lD3 lD4 lD5
        clear CM6 CB6 CT6 CS6 hBB
        have P2 := oparse_any s u7 (by have := HSL.out; omega)
        rw [← HSB.out] at P2
        go_wp2_with fail
        refine P2.mono ?_
        rintro e w9 ⟨⟨q, eq, aq, cq, hqo, rfl, hst9, hl9⟩, hb⟩
        have HC9 := hide (bel_on' HC7.out hb)
        have HQO := hide hqo
        have HQL := hide hl9
        obtain ⟨V9, hV9⟩ : ∃ V, V = w9.alloc (.cells #[.int .i64 q.id, .int .i64 q.item, .int .i64 q.qty, .int .i64 q.client, .int .i64 q.price, .slice aq q.steps.length cq] 24) := ⟨_, rfl⟩
        have hbV9 : Below w9.heap.size w9 V9 := by rw [hV9]; exact (Below.refl _ _).alloc (Nat.le_refl _) _
        have HQ10 : Hid (V9.heap[w9.heap.size]? = some (.cells #[.int .i64 q.id, .int .i64 q.item, .int .i64 q.qty, .int .i64 q.client, .int .i64 q.price, .slice aq q.steps.length cq] 24 (0, 0))) := by
          show _ = _
          rw [hV9]
          show (w9.heap.push _)[w9.heap.size]? = _
          simp
        have HC10 := hide (bel_on' HC9.out hbV9)
        have HSQ10 := hide (hst9.below hbV9)
        have HV9 := hide hV9
        clear hqo hl9 hst9 hb P2 hV9 hbV9
        rcases HQO.out with ⟨rfl, hmq, hxq⟩ | ⟨rfl, -, -⟩
        · have hq9 : w9.heap.size < V9.heap.size := (Array.getElem?_eq_some_iff.1 HQ10.out).1
          have M9 := omay_any q aq cq V9 HSQ10.out (by have := HQL.out; omega)
          rw [hmq, HV9.out] at M9
          go_wp2_with fail
          refine M9.mono ?_
          rintro e v11 ⟨rfl, hb⟩
          rw [← HV9.out] at hb
          have HC11 := hide (bel_on' HC10.out hb)
          have HQ11 := hide ((hb.block _ (Array.getElem?_eq_some_iff.1 HQ10.out).1).trans HQ10.out)
          have HSQ11 := hide (HSQ10.out.below hb)
          clear hb M9 hq9
          obtain ⟨⟨q0', q1', q2', q3', q4', q5'⟩, -⟩ := six_of HQ11.out
          have T11 := otext_any q aq cq v11 HSQ11.out (by have := HQL.out; omega) (HG.out.on HC11.out)
          rw [show textV q = s by unfold textV; rw [if_pos hmq, ← hxq], ← HSB.out] at T11
          go_wp2_with fail
          refine T11.mono ?_
          rintro e v12 ⟨rfl, hb⟩
          have HC12 := hide (bel_on' HC11.out hb)
          clear hb T11
          clear q0' q1' q2' q3' q4' q5'
          go_wp2_with fail
          refine (AWK.out _ HC12.out).mono ?_
          rintro e uz ⟨rfl, hbz⟩
          go_wp2
          go_ret
          exact ⟨rfl, bel_on' HC12.out hbz⟩
        · go_wp2_with fail
          rw [← HV9.out]
          refine (AWK.out _ HC10.out).mono ?_
          rintro e uz ⟨rfl, hbz⟩
          go_wp2
          go_ret
          exact ⟨rfl, bel_on' HC10.out hbz⟩
end Go.Proofs.YteefmibnkfojiaaDoor
