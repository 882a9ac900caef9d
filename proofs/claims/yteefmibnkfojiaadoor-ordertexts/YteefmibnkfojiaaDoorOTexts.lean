/-
  OrderTexts: a text with a byte more is none, or another order's; a beginning of a text is none, or an order's.
-/
import Derived.Test.YteefmibnkfojiaaDoorOrdA
import Derived.Test.YteefmibnkfojiaaDoorNum
import Derived.Test.YteefmibnkfojiaaDoorLater
import Derived.Laws.OwnMore
import Derived.Deep.CutBlock
namespace Go.Proofs.YteefmibnkfojiaaDoor
open Go.ChangeShapes Go.WideShapes Go.ChangeAt Go.RowKit

theorem u8_of' {n : Int} (h : (Lit.int .u8 n).wf = true) : ((UInt8.ofNat n.toNat).toNat : Int) = n := by
  simp only [Lit.wf, Bool.and_eq_true, decide_eq_true_eq] at h
  have h1 : IntKind.u8.min = 0 := rfl
  have h2 : IntKind.u8.max = 255 := rfl
  rw [h1, h2] at h
  rw [UInt8.toNat_ofNat']
  omega
theorem conv_one (w : World) (x : UInt8) (b : Nat) (hc : w.cell? ⟨b, 0, none⟩ = some (.int .u8 (x.toNat : Int))) : (convert 39 9 (.slice (some ⟨b, 0, none⟩) 1 1)).run Tryd.prog w = .ok (.string (byB [x])) w := by
  refine run_convert_bytes_back (P := Tryd.prog) w 39 9 5 ⟨b, 0, none⟩ 1 [x] Tryd.underlying39 Tryd.underlying5 Tryd.underlying9 ?_
  intro j hj
  have h0 : j = 0 := by simp at hj; exact hj
  subst h0
  simpa [Addr.add] using hc
theorem text_more {o p : Od} {a b c : List UInt8} (h : textL o = a ++ c) (hb : b.length = 1) (hp : a ++ b ++ c = textL p) : sameO o p = false := by
  cases hs : sameO o p
  · rfl
  · have e := (sameO_iff o p).1 hs
    subst e
    have := congrArg List.length (h.symm.trans hp.symm)
    simp only [List.length_append] at this
    omega

set_option maxRecDepth 100000 in
set_option maxHeartbeats 8000000 in
theorem orderTexts_walk (o0 : Od) (a0 : Option Addr) (cap0 : Nat) (a1 : Int) (a2 : Int) (w : World) (w0 : OdIn w o0 a0 cap0) (_w1 : (Lit.int .i64 a1).wf = true) (w2 : (Lit.int .u8 a2).wf = true) (hg : Gl w) :
    Calls Tryd.prog 7 #[.agg #[.int .i64 o0.id, .int .i64 o0.item, .int .i64 o0.qty, .int .i64 o0.client, .int .i64 o0.price, .slice a0 o0.steps.length cap0], .int .i64 a1, .int .u8 a2] w fun e w' => e = .returned (.bool true) ∧ Below w.heap.size w w' := by
  clear _w1
  obtain ⟨x, hx⟩ : ∃ x : UInt8, (x.toNat : Int) = a2 := ⟨_, u8_of' w2⟩
  subst hx
  clear w2
  obtain ⟨hl, hst, hno, hcap⟩ := w0
  have HG := hide hg
  obtain ⟨V, hV⟩ : ∃ V, V = w.alloc (.cells #[.int .i64 o0.id, .int .i64 o0.item, .int .i64 o0.qty, .int .i64 o0.client, .int .i64 o0.price, .slice a0 o0.steps.length cap0] 24) := ⟨_, rfl⟩
  have hbV : Below w.heap.size w V := by rw [hV]; exact (Below.refl _ _).alloc (Nat.le_refl _) _
  have hVb : V.heap[w.heap.size]? = some (.cells #[.int .i64 o0.id, .int .i64 o0.item, .int .i64 o0.qty, .int .i64 o0.client, .int .i64 o0.price, .slice a0 o0.steps.length cap0] 24 (0, 0)) := by
    rw [hV]
    show (w.heap.push _)[w.heap.size]? = _
    simp
  have LT := light_any o0 a0 cap0 V hl
  rw [hV] at LT
  have HV := hide hV
  have HBV := hide hbV
  have HVB := hide hVb
  have HST := hide hst
  have HLN := hide hl
  have HNO := hide hno
  have HCAP := hide hcap
  have AWK : Hid (∀ u, Below w.heap.size w u → Calls Tryd.prog 9 #[] u fun e w' => e = .returned (.bool true) ∧ Below u.heap.size u w') := fun u hu => oawake_any u (HG.out.on hu)
  clear hV hbV hVb hst hg hno hcap
  by_cases h20 : o0.steps.length ≤ 20
  rotate_left
  · have e20 : decide (o0.steps.length ≤ 20) = false := by simpa using h20
    rw [e20] at LT
    clear e20 h20
    go_enter Tryd.func7, Tryd.ntmps7
    go_wp2_with fail
    refine LT.mono ?_
    rintro e u1 ⟨rfl, hb1⟩
    rw [← HV.out] at hb1
    have HB1 := hide (bel_on' HBV.out hb1)
    go_wp2_with fail
    refine (AWK.out _ HB1.out).mono ?_
    rintro e u2 ⟨rfl, hb2⟩
    go_wp2
    go_ret
    exact ⟨rfl, bel_on' HB1.out hb2⟩
  have e20 : decide (o0.steps.length ≤ 20) = true := by simpa using h20
  rw [e20] at LT
  clear e20
  cases hm : mayO o0
  · go_enter Tryd.func7, Tryd.ntmps7
    go_wp2_with fail
    refine LT.mono ?_
    rintro e u1 ⟨rfl, hb1⟩
    rw [← HV.out] at hb1
    have HB1 := hide (bel_on' HBV.out hb1)
    have hx := (hb1.block _ (Array.getElem?_eq_some_iff.1 HVB.out).1).trans HVB.out
    obtain ⟨⟨d0, d1, d2, d3, d4, d5⟩, -⟩ := six_of hx
    have MY := omay_any o0 a0 cap0 u1 (HST.out.below HB1.out) HLN.out
    rw [hm] at MY
    clear hb1 hx LT
    go_wp2_with fail
    refine MY.mono ?_
    rintro e u2 ⟨rfl, hb2⟩
    have HB2 := hide (bel_on' HB1.out hb2)
    clear d0 d1 d2 d3 d4 d5 hb2
    go_wp2_with fail
    refine (AWK.out _ HB2.out).mono ?_
    rintro e u3 ⟨rfl, hb3⟩
    go_wp2
    go_ret
    exact ⟨rfl, bel_on' HB2.out hb3⟩
  have HMB := hide hm
  go_enter Tryd.func7, Tryd.ntmps7
  go_wp2_with fail
  refine LT.mono ?_
  rintro e u1 ⟨rfl, hb1⟩
  rw [← HV.out] at hb1
  have HB1 := hide (bel_on' HBV.out hb1)
  have hx := (hb1.block _ (Array.getElem?_eq_some_iff.1 HVB.out).1).trans HVB.out
  have HX1 := hide hx
  obtain ⟨⟨d0, d1, d2, d3, d4, d5⟩, -⟩ := six_of hx
  have MY := omay_any o0 a0 cap0 u1 (HST.out.below HB1.out) HLN.out
  rw [hm] at MY
  clear hb1 hx LT
  go_wp2_with fail
  refine MY.mono ?_
  rintro e u2 ⟨rfl, hb2⟩
  have HB2 := hide (bel_on' HB1.out hb2)
  have HX2 := hide ((hb2.block _ (Array.getElem?_eq_some_iff.1 HX1.out).1).trans HX1.out)
  clear d0 d1 d2 d3 d4 d5 hb2 hm MY
  obtain ⟨⟨d0, d1, d2, d3, d4, d5⟩, -⟩ := six_of HX2.out
  have TX := otext_any o0 a0 cap0 u2 (HST.out.below HB2.out) HLN.out (HG.out.on HB2.out)
  have eT : textV o0 = textL o0 := by unfold textV; rw [if_pos HMB.out]
  rw [eT] at TX
  clear eT
  obtain ⟨T, hT⟩ : ∃ T, T = textL o0 := ⟨_, rfl⟩
  have hTl : T.length ≤ 143 := by rw [hT]; exact textL_len HMB.out
  rw [← hT] at TX
  have HT := hide hT
  obtain ⟨S, hS⟩ : ∃ S, S = byB T := ⟨_, rfl⟩
  have hSs : S.size = T.length := by rw [hS, byB_size]
  rw [← hS] at TX
  have HSS := hide hS
  have HSZ := hide hSs
  have hS143 : S.size ≤ 143 := by omega
  clear hT hS hSs
  obtain ⟨c0, c1⟩ := um_bd a1 ((S.size : Int) + 1) (by omega) (by omega)
  obtain ⟨c, hc⟩ : ∃ c : Nat, um a1 ((S.size : Int) + 1) = c := ⟨(um a1 ((S.size : Int) + 1)).toNat, by omega⟩
  have hcS : c ≤ S.size := by omega
  unfold um at hc
  clear c0 c1
  go_wp2_with fail
  refine TX.mono ?_
  rintro e u3 ⟨rfl, hb3⟩
  have HB3 := hide (bel_on' HB2.out hb3)
  have HX3 := hide ((hb3.block _ (Array.getElem?_eq_some_iff.1 HX2.out).1).trans HX2.out)
  clear d0 d1 d2 d3 d4 d5 hb3 TX
  have hcv : ∀ W : World, W.cell? ⟨u3.heap.size, 0, none⟩ = some (.int .u8 (x.toNat : Int)) → (convert 39 9 (.slice (some ⟨u3.heap.size, 0, none⟩) 1 1)).run Tryd.prog W = .ok (.string (byB [x])) W := fun W h => conv_one W x _ h
  have hcv1 := hcv (u3.alloc (.cells #[.int .u8 (x.toNat : Int)] 5)) (by simp)
  have hcv2 := hcv (u3.alloc (.cells #[.int .u8 (x.toNat : Int)] 5)).drew (by simp)
  clear hcv
  have hci0 : (0 : Int) ≤ (c : Int) := by omega
  have hci1 : (c : Int) ≤ (S.size : Int) := by omega
  have hbx : (byB [x]).size = 1 := by rw [byB_size]; rfl
  have hxs : (S.extract 0 c).size ≤ 143 := by simp; omega
  have hxt : (S.extract c S.size).size ≤ 143 := by simp; omega
  have hE0 : S.extract 0 c = byB (T.take c) := by rw [HSS.out, byB_take]
  obtain ⟨X, hX⟩ : ∃ X, X = T.take c ++ [x] ++ T.drop c := ⟨_, rfl⟩
  have hZX : S.extract 0 c ++ byB [x] ++ S.extract c S.size = byB X := by
    rw [hE0, HSS.out, byB_drop, byB_append, byB_append, hX]
  have hXl : X.length ≤ 144 := by rw [hX]; simp; omega
  have HXD : Hid (∀ p, X = textL p → sameO o0 p = false) := fun p hp => text_more (a := T.take c) (b := [x]) (c := T.drop c) (by rw [List.take_append_drop]; exact HT.out.symm) rfl (by rw [← hX]; exact hp)
  obtain ⟨Z, hZ⟩ : ∃ Z, Z = S.extract 0 c ++ byB [x] ++ S.extract c S.size := ⟨_, rfl⟩
  have HZX : Hid (Z = byB X) := hZ.trans hZX
  have HYY := hide hE0
  have HYL : Hid ((T.take c).length ≤ 9223372036854775807) := by show _ ≤ _; simp; omega
  have HXL : Hid (X.length ≤ 9223372036854775807) := by show _ ≤ _; omega
  have HZ0 := hide hZ
  clear hX hZX hE0 hXl hZ
  go_wp2_with fail
  go_region
  clear hcv1 hcv2 hxs hxt hbx
  rw [← HZ0.out]
  obtain ⟨U, hU⟩ : ∃ U, U = (u3.alloc (.cells #[.int .u8 (x.toNat : Int)] 5)).drew := ⟨_, rfl⟩
  have HBU : Hid (Below w.heap.size w U) := by show Below w.heap.size w U; rw [hU]; exact (HB3.out.alloc HB3.out.size _).drew
  have HXU : Hid (U.heap[w.heap.size]? = some (.cells #[.int .i64 o0.id, .int .i64 o0.item, .int .i64 o0.qty, .int .i64 o0.client, .int .i64 o0.price, .slice a0 o0.steps.length cap0] 24 (0, 0))) := by
    show _ = _
    rw [hU]
    exact (((Below.refl _ u3).alloc (Nat.le_refl _) _).block _ (Array.getElem?_eq_some_iff.1 HX3.out).1).trans HX3.out
  rw [← hU]
  have P1 := oparse_any X U HXL.out
  rw [← HZX.out] at P1
  clear hU
  go_wp2_with fail
  refine P1.mono ?_
  rintro e w4 ⟨⟨p, ep, av, cv, hpo, rfl, hst4, hl4⟩, hb4⟩
  have HPO := hide hpo
  have HB4 := hide (bel_on' HBU.out hb4)
  have HX4 := hide ((hb4.block _ (Array.getElem?_eq_some_iff.1 HXU.out).1).trans HXU.out)
  have HST4 := hide hst4
  clear hpo hst4 hb4 P1
  obtain ⟨V4, hV4⟩ : ∃ V, V = w4.alloc (.cells #[.int .i64 p.id, .int .i64 p.item, .int .i64 p.qty, .int .i64 p.client, .int .i64 p.price, .slice av p.steps.length cv] 24) := ⟨_, rfl⟩
  have hbV4 : Below w4.heap.size w4 V4 := by rw [hV4]; exact (Below.refl _ _).alloc (Nat.le_refl _) _
  have hV4b : V4.heap[w4.heap.size]? = some (.cells #[.int .i64 p.id, .int .i64 p.item, .int .i64 p.qty, .int .i64 p.client, .int .i64 p.price, .slice av p.steps.length cv] 24 (0, 0)) := by
    rw [hV4]
    show (w4.heap.push _)[w4.heap.size]? = _
    simp
  have P2 := oparse_any (T.take c) V4 HYL.out
  rw [← HYY.out] at P2
  have HV4 := hide hV4
  have HBV4 := hide hbV4
  have HVB4 := hide hV4b
  rw [hV4] at P2
  clear hV4 hbV4 hV4b
  go_wp2_with fail
  refine P2.mono ?_
  rintro e w5 ⟨⟨q, eq, aq, cq, hqo, rfl, hst5, hl5⟩, hb5⟩
  rw [← HV4.out] at hb5
  have HQO := hide hqo
  have HB5 := hide (bel_on' (bel_on' HB4.out HBV4.out) hb5)
  have HX5 := hide ((hb5.block _ (by have := HBV4.out.size; have := (Array.getElem?_eq_some_iff.1 HX4.out).1; omega)).trans ((HBV4.out.block _ (Array.getElem?_eq_some_iff.1 HX4.out).1).trans HX4.out))
  have HP5 := hide ((hb5.block _ (Array.getElem?_eq_some_iff.1 HVB4.out).1).trans HVB4.out)
  have HSP5 := hide ((HST4.out.below HBV4.out).below hb5)
  have HSQ5 := hide hst5
  have HPL := hide hl4
  have HQL := hide hl5
  clear hqo hst5 hb5 P2
  have hpl : w4.heap.size < w5.heap.size := (Array.getElem?_eq_some_iff.1 HP5.out).1
  have hol : w.heap.size < w5.heap.size := (Array.getElem?_eq_some_iff.1 HX5.out).1
  obtain ⟨V5, hV5⟩ : ∃ V, V = w5.alloc (.cells #[.int .i64 q.id, .int .i64 q.item, .int .i64 q.qty, .int .i64 q.client, .int .i64 q.price, .slice aq q.steps.length cq] 24) := ⟨_, rfl⟩
  have hbV5 : Below w5.heap.size w5 V5 := by rw [hV5]; exact (Below.refl _ _).alloc (Nat.le_refl _) _
  have hV5b : V5.heap[w5.heap.size]? = some (.cells #[.int .i64 q.id, .int .i64 q.item, .int .i64 q.qty, .int .i64 q.client, .int .i64 q.price, .slice aq q.steps.length cq] 24 (0, 0)) := by
    rw [hV5]
    show (w5.heap.push _)[w5.heap.size]? = _
    simp
  have HC0 := hide (bel_on' HB5.out hbV5)
  have HO0 := hide ((hbV5.block _ hol).trans HX5.out)
  have HP0 := hide ((hbV5.block _ hpl).trans HP5.out)
  have HQ0 := hide hV5b
  have HSP0 := hide (HSP5.out.below hbV5)
  have HSQ0 := hide (HSQ5.out.below hbV5)
  have HV5 := hide hV5
  go_wp2_with fail
  rw [← HV5.out]
  clear hV5 hbV5 hV5b hl4 hl5 hpl hol
  have hne : Nonempty (Later V5) := ⟨Later.now V5⟩
  obtain ⟨⟨o0', o1', o2', o3', o4', o5'⟩, -⟩ := six_of HO0.out
  obtain ⟨⟨p0', p1', p2', p3', p4', p5'⟩, -⟩ := six_of HP0.out
  obtain ⟨⟨q0', q1', q2', q3', q4', q5'⟩, -⟩ := six_of HQ0.out
  have la0 := Later.cell o0'
  have la1 := Later.cell o1'
  have la2 := Later.cell o2'
  have la3 := Later.cell o3'
  have la4 := Later.cell o4'
  have la5 := Later.cell o5'
  have lb0 := Later.cell p0'
  have lb1 := Later.cell p1'
  have lb2 := Later.cell p2'
  have lb3 := Later.cell p3'
  have lb4 := Later.cell p4'
  have lb5 := Later.cell p5'
  have lc0 := Later.cell q0'
  have lc1 := Later.cell q1'
  have lc2 := Later.cell q2'
  have lc3 := Later.cell q3'
  have lc4 := Later.cell q4'
  have lc5 := Later.cell q5'
  have CA : ∀ u : Later V5, Calls Tryd.prog 9 #[] u.w fun e w' => e = .returned (.bool true) ∧ ∃ u' : Later V5, w' = u'.w := fun u => calls_later u (AWK.out u.w (bel_on' HC0.out u.below))
  clear o0' o1' o2' o3' o4' o5' p0' p1' p2' p3' p4' p5' q0' q1' q2' q3' q4' q5'
  rcases HPO.out with ⟨rfl, hmp, hxp⟩ | ⟨rfl, -, -⟩
  · rcases HQO.out with ⟨rfl, hmq, hxq⟩ | ⟨rfl, -, -⟩
    · clear HPO HQO
      have CT1 : ∀ u : Later V5, Calls Tryd.prog 18 #[.agg #[.int .i64 p.id, .int .i64 p.item, .int .i64 p.qty, .int .i64 p.client, .int .i64 p.price, .slice av p.steps.length cv]] u.w fun e w' => e = .returned (.string Z) ∧ ∃ u' : Later V5, w' = u'.w := fun u => calls_later u (by
        have h := otext_any p av cv u.w (HSP0.out.below u.below) (by have := HPL.out; omega) (HG.out.on (bel_on' HC0.out u.below))
        rwa [show textV p = X by unfold textV; rw [if_pos hmp, ← hxp], ← HZX.out] at h)
      have CS1 : ∀ u : Later V5, Calls Tryd.prog 15 #[.agg #[.int .i64 o0.id, .int .i64 o0.item, .int .i64 o0.qty, .int .i64 o0.client, .int .i64 o0.price, .slice a0 o0.steps.length cap0], .agg #[.int .i64 p.id, .int .i64 p.item, .int .i64 p.qty, .int .i64 p.client, .int .i64 p.price, .slice av p.steps.length cv]] u.w fun e w' => e = .returned (.bool false) ∧ ∃ u' : Later V5, w' = u'.w := fun u => calls_later u (by
        have h := ref_same_any o0 p a0 av cap0 cv u.w (HST.out.below (bel_on' HC0.out u.below)) (HSP0.out.below u.below) HLN.out
        rwa [HXD.out p hxp] at h)
      clear hmp hxp
      have CT2 : ∀ u : Later V5, Calls Tryd.prog 18 #[.agg #[.int .i64 q.id, .int .i64 q.item, .int .i64 q.qty, .int .i64 q.client, .int .i64 q.price, .slice aq q.steps.length cq]] u.w fun e w' => e = .returned (.string (S.extract 0 c)) ∧ ∃ u' : Later V5, w' = u'.w := fun u => calls_later u (by
        have h := otext_any q aq cq u.w (HSQ0.out.below u.below) (by have := HQL.out; omega) (HG.out.on (bel_on' HC0.out u.below))
        rwa [show textV q = T.take c by unfold textV; rw [if_pos hmq, ← hxq], ← HYY.out] at h)
      clear hmq hxq
      refine region_later (by kernel_rfl) (by kernel_rfl) ?_
      repeat (first | go_big_quiet_step (first | (go_at_call 9; with_reducible exact CA _) | (go_at_call 18; with_reducible exact CT1 _) | (go_at_call 15; with_reducible exact CS1 _) | (go_at_call 18; with_reducible exact CT2 _)) | quiet_step (first | (go_at_call 9; with_reducible exact CA _) | (go_at_call 18; with_reducible exact CT1 _) | (go_at_call 15; with_reducible exact CS1 _) | (go_at_call 18; with_reducible exact CT2 _)))
      refine wpQuiet_nil ?_
      intro u
      have HBu := hide (bel_on' HC0.out u.below)
      generalize u.w = wu at HBu
      go_wp2
      go_ret
      exact ⟨rfl, HBu.out⟩
    · clear HPO HQO
      have CT1 : ∀ u : Later V5, Calls Tryd.prog 18 #[.agg #[.int .i64 p.id, .int .i64 p.item, .int .i64 p.qty, .int .i64 p.client, .int .i64 p.price, .slice av p.steps.length cv]] u.w fun e w' => e = .returned (.string Z) ∧ ∃ u' : Later V5, w' = u'.w := fun u => calls_later u (by
        have h := otext_any p av cv u.w (HSP0.out.below u.below) (by have := HPL.out; omega) (HG.out.on (bel_on' HC0.out u.below))
        rwa [show textV p = X by unfold textV; rw [if_pos hmp, ← hxp], ← HZX.out] at h)
      have CS1 : ∀ u : Later V5, Calls Tryd.prog 15 #[.agg #[.int .i64 o0.id, .int .i64 o0.item, .int .i64 o0.qty, .int .i64 o0.client, .int .i64 o0.price, .slice a0 o0.steps.length cap0], .agg #[.int .i64 p.id, .int .i64 p.item, .int .i64 p.qty, .int .i64 p.client, .int .i64 p.price, .slice av p.steps.length cv]] u.w fun e w' => e = .returned (.bool false) ∧ ∃ u' : Later V5, w' = u'.w := fun u => calls_later u (by
        have h := ref_same_any o0 p a0 av cap0 cv u.w (HST.out.below (bel_on' HC0.out u.below)) (HSP0.out.below u.below) HLN.out
        rwa [HXD.out p hxp] at h)
      clear hmp hxp
      refine region_later (by kernel_rfl) (by kernel_rfl) ?_
      repeat (first | go_big_quiet_step (first | (go_at_call 9; with_reducible exact CA _) | (go_at_call 18; with_reducible exact CT1 _) | (go_at_call 15; with_reducible exact CS1 _)) | quiet_step (first | (go_at_call 9; with_reducible exact CA _) | (go_at_call 18; with_reducible exact CT1 _) | (go_at_call 15; with_reducible exact CS1 _)))
      refine wpQuiet_nil ?_
      intro u
      have HBu := hide (bel_on' HC0.out u.below)
      generalize u.w = wu at HBu
      go_wp2
      go_ret
      exact ⟨rfl, HBu.out⟩
  · rcases HQO.out with ⟨rfl, hmq, hxq⟩ | ⟨rfl, -, -⟩
    · clear HPO HQO
      have CT2 : ∀ u : Later V5, Calls Tryd.prog 18 #[.agg #[.int .i64 q.id, .int .i64 q.item, .int .i64 q.qty, .int .i64 q.client, .int .i64 q.price, .slice aq q.steps.length cq]] u.w fun e w' => e = .returned (.string (S.extract 0 c)) ∧ ∃ u' : Later V5, w' = u'.w := fun u => calls_later u (by
        have h := otext_any q aq cq u.w (HSQ0.out.below u.below) (by have := HQL.out; omega) (HG.out.on (bel_on' HC0.out u.below))
        rwa [show textV q = T.take c by unfold textV; rw [if_pos hmq, ← hxq], ← HYY.out] at h)
      clear hmq hxq
      refine region_later (by kernel_rfl) (by kernel_rfl) ?_
      repeat (first | go_big_quiet_step (first | (go_at_call 9; with_reducible exact CA _) | (go_at_call 18; with_reducible exact CT2 _)) | quiet_step (first | (go_at_call 9; with_reducible exact CA _) | (go_at_call 18; with_reducible exact CT2 _)))
      refine wpQuiet_nil ?_
      intro u
      have HBu := hide (bel_on' HC0.out u.below)
      generalize u.w = wu at HBu
      go_wp2
      go_ret
      exact ⟨rfl, HBu.out⟩
    · clear HPO HQO
      refine region_later (by kernel_rfl) (by kernel_rfl) ?_
      repeat (first | go_big_quiet_step (first | (go_at_call 9; with_reducible exact CA _)) | quiet_step (first | (go_at_call 9; with_reducible exact CA _)))
      refine wpQuiet_nil ?_
      intro u
      have HBu := hide (bel_on' HC0.out u.below)
      generalize u.w = wu at HBu
      go_wp2
      go_ret
      exact ⟨rfl, HBu.out⟩
end Go.Proofs.YteefmibnkfojiaaDoor
