/-
  EntryForms: any entries, any texts, signed or not: the program's answers are the reference's.
-/
import Derived.Test.YtabgeelckflcdaaDoorEntRP
namespace Go.Proofs.YtabgeelckflcdaaDoor
open Go.ChangeShapes Go.WideShapes Go.ChangeAt Go.RowKit

set_option maxRecDepth 100000 in
set_option maxHeartbeats 8000000 in
theorem entryForms_walk (k0 : ByteArray) (id0 : Int) (a0 : Option Addr) (len0 cap0 : Nat) (z0 : List Int) (k1 : ByteArray) (id1 : Int) (a1 : Option Addr) (len1 cap1 : Nat) (z1 : List Int) (a2 : ByteArray) (a3 : Bool) (w : World)
    (wk0 : k0.size ≤ maxLen) (_wi0 : (Lit.int .i64 id0).wf = true) (w0 : IsRow .i64 w a0 len0 cap0 z0) (wk1 : k1.size ≤ maxLen) (_wi1 : (Lit.int .i64 id1).wf = true) (w1 : IsRow .i64 w a1 len1 cap1 z1) (_w2 : a2.size ≤ maxLen) (hg : Gl w) :
    Calls Tryd.prog 3 #[.agg #[.string k0, .int .i64 id0, .slice a0 len0 cap0], .agg #[.string k1, .int .i64 id1, .slice a1 len1 cap1], .string a2, .bool a3] w fun e w' => e = .returned (.bool true) ∧ Below w.heap.size w w' := by
  obtain ⟨l, rfl, hl, hi⟩ := w0.ints
  obtain ⟨m, rfl, hm, hj⟩ := w1.ints
  clear w0 w1 _wi0 _wi1 _w2
  obtain ⟨W, hW⟩ : ∃ W, W = (w.alloc (.cells #[.string k0, .int .i64 id0, .slice a0 l.length cap0] 24)).alloc (.cells #[.string k1, .int .i64 id1, .slice a1 m.length cap1] 24) := ⟨_, rfl⟩
  have HB : Hid (Below w.heap.size w W) := by show Below w.heap.size w W; rw [hW]; exact ((Below.refl _ _).alloc (Nat.le_refl _) _).alloc (by simp) _
  have HI : Hid (Ints w a0 l) := hi
  have HJ : Hid (Ints w a1 m) := hj
  have HG : Hid (Gl w) := hg
  have HL : Hid (l.length ≤ 9223372036854775807) := hl
  have HM : Hid (m.length ≤ 9223372036854775807) := hm
  have HK0 : Hid (k0.size ≤ maxLen) := wk0
  have HK1 : Hid (k1.size ≤ maxLen) := wk1
  have C00 : Hid (W.cell? ⟨w.heap.size, 0, none⟩ = some (.string k0)) := by show _ = _; rw [hW]; simp
  have C01 : Hid (W.cell? ⟨w.heap.size, 1, none⟩ = some (.int .i64 id0)) := by show _ = _; rw [hW]; simp
  have C02 : Hid (W.cell? ⟨w.heap.size, 2, none⟩ = some (.slice a0 l.length cap0)) := by show _ = _; rw [hW]; simp
  have C10 : Hid (W.cell? ⟨w.heap.size + 1, 0, none⟩ = some (.string k1)) := by show _ = _; rw [hW]; simp
  have C11 : Hid (W.cell? ⟨w.heap.size + 1, 1, none⟩ = some (.int .i64 id1)) := by show _ = _; rw [hW]; simp
  have C12 : Hid (W.cell? ⟨w.heap.size + 1, 2, none⟩ = some (.slice a1 m.length cap1)) := by show _ = _; rw [hW]; simp
  clear hi hj hg hl hm wk0 wk1
  have HWW : Hid (W = (w.alloc (.cells #[.string k0, .int .i64 id0, .slice a0 l.length cap0] 24)).alloc (.cells #[.string k1, .int .i64 id1, .slice a1 m.length cap1] 24)) := hW
  clear hW
  have L0 := light_any k0 id0 a0 l cap0 W
  have CL1 : ∀ u, Calls Tryd.prog 4 #[.agg #[.string k1, .int .i64 id1, .slice a1 m.length cap1]] u fun e w' => e = .returned (.bool (lightB k1 m)) ∧ Below u.heap.size u w' := fun u => light_any k1 id1 a1 m cap1 u
  rw [HWW.out] at L0
  have AW : Hid (∀ u, Below W.heap.size W u → Calls Tryd.prog 5 #[] u fun e w' => e = .returned (.bool true) ∧ Below u.heap.size u w') := fun u hu => awake_any u (HG.out.on (bel_on' HB.out hu))
  cases h0 : lightB k0 l
  · rw [h0] at L0
    go_enter Tryd.func3, Tryd.ntmps3
    go_wp2_with fail
    refine L0.mono ?_
    rintro e u1 ⟨rfl, hb_u1⟩
    have B_u1 : Hid (Below W.heap.size W u1) := by show Below W.heap.size W u1; rw [HWW.out]; exact hb_u1
    clear hb_u1 L0
    go_wp2_with fail
    refine (AW.out _ B_u1.out).mono ?_
    rintro e wz ⟨rfl, hbz⟩
    go_wp2
    go_ret
    exact ⟨rfl, bel_on' (bel_on' HB.out B_u1.out) hbz⟩
  rw [h0] at L0
  cases h1 : lightB k1 m
  · rw [h1] at CL1
    go_enter Tryd.func3, Tryd.ntmps3
    go_wp2_with fail
    refine L0.mono ?_
    rintro e u1 ⟨rfl, hb_u1⟩
    have B_u1 : Hid (Below W.heap.size W u1) := by show Below W.heap.size W u1; rw [HWW.out]; exact hb_u1
    clear hb_u1 L0
    have c00_u1 := cellL C00.out B_u1.out
    have c01_u1 := cellL C01.out B_u1.out
    have c02_u1 := cellL C02.out B_u1.out
    have c10_u1 := cellL C10.out B_u1.out
    have c11_u1 := cellL C11.out B_u1.out
    have c12_u1 := cellL C12.out B_u1.out
    go_wp2_with fail
    refine (CL1 _).mono ?_
    rintro e u2 ⟨rfl, hb_u2⟩
    have B_u2 : Hid (Below W.heap.size W u2) := bel_on' B_u1.out hb_u2
    clear hb_u2 CL1
    go_wp2_with fail
    refine (AW.out _ B_u2.out).mono ?_
    rintro e wz ⟨rfl, hbz⟩
    go_wp2
    go_ret
    exact ⟨rfl, bel_on' (bel_on' HB.out B_u2.out) hbz⟩
  rw [h1] at CL1
  obtain ⟨_, hl20⟩ := light_len h0
  obtain ⟨_, hm20⟩ := light_len h1
  have HL4 : Hid (l.length ≤ 4611686018427387904) := by show _ ≤ _; omega
  clear hl20 hm20 h0 h1
  by_cases h300 : (a2.size : Int) > 300
  · go_enter Tryd.func3, Tryd.ntmps3
    go_wp2_with fail
    refine L0.mono ?_
    rintro e u1 ⟨rfl, hb_u1⟩
    have B_u1 : Hid (Below W.heap.size W u1) := by show Below W.heap.size W u1; rw [HWW.out]; exact hb_u1
    clear hb_u1 L0
    have c00_u1 := cellL C00.out B_u1.out
    have c01_u1 := cellL C01.out B_u1.out
    have c02_u1 := cellL C02.out B_u1.out
    have c10_u1 := cellL C10.out B_u1.out
    have c11_u1 := cellL C11.out B_u1.out
    have c12_u1 := cellL C12.out B_u1.out
    go_wp2_with fail
    refine (CL1 _).mono ?_
    rintro e u2 ⟨rfl, hb_u2⟩
    have B_u2 : Hid (Below W.heap.size W u2) := bel_on' B_u1.out hb_u2
    clear hb_u2 CL1
    go_wp2_with fail
    refine (AW.out _ B_u2.out).mono ?_
    rintro e wz ⟨rfl, hbz⟩
    go_wp2
    go_ret
    exact ⟨rfl, bel_on' (bel_on' HB.out B_u2.out) hbz⟩
  have HS0 : Hid (a2.size ≤ 300) := by show _ ≤ _; omega
  cases a3
  · have HS3 : Hid (a2.size ≤ 303) := by show _ ≤ _; have := HS0.out; omega
    go_enter Tryd.func3, Tryd.ntmps3
    go_wp2_with fail
    refine L0.mono ?_
    rintro e u1 ⟨rfl, hb_u1⟩
    have B_u1 : Hid (Below W.heap.size W u1) := by show Below W.heap.size W u1; rw [HWW.out]; exact hb_u1
    clear hb_u1 L0
    have c00_u1 := cellL C00.out B_u1.out
    have c01_u1 := cellL C01.out B_u1.out
    have c02_u1 := cellL C02.out B_u1.out
    have c10_u1 := cellL C10.out B_u1.out
    have c11_u1 := cellL C11.out B_u1.out
    have c12_u1 := cellL C12.out B_u1.out
    go_wp2_with fail
    refine (CL1 _).mono ?_
    rintro e u2 ⟨rfl, hb_u2⟩
    have B_u2 : Hid (Below W.heap.size W u2) := bel_on' B_u1.out hb_u2
    clear hb_u2 CL1
    have c00_u2 := cellL C00.out B_u2.out
    have c01_u2 := cellL C01.out B_u2.out
    have c02_u2 := cellL C02.out B_u2.out
    have c10_u2 := cellL C10.out B_u2.out
    have c11_u2 := cellL C11.out B_u2.out
    have c12_u2 := cellL C12.out B_u2.out
    have TL := line_any k0 id0 a0 l cap0 u2 HK0.out (HI.out.below (bel_on' HB.out B_u2.out)) HL.out (HG.out.on (bel_on' HB.out B_u2.out))
    have TL2 : ∀ v, Below u2.heap.size u2 v → Calls Tryd.prog 8 #[.agg #[.string k0, .int .i64 id0, .slice a0 l.length cap0]] v fun e w' => e = .returned (.tuple #[.string (lineV k0 id0 l), .int .i64 (lineE k0 id0 l)]) ∧ Below v.heap.size v w' := fun v hv => ref_line_any k0 id0 a0 l cap0 v HK0.out (HI.out.below (bel_on' HB.out (bel_on' B_u2.out hv))) HL.out (HG.out.on (bel_on' HB.out (bel_on' B_u2.out hv)))
    generalize lineV k0 id0 l = X at TL TL2
    generalize lineE k0 id0 l = E at TL TL2
    go_wp2_with fail
    refine TL.mono ?_
    rintro e u3 ⟨rfl, hb_u3⟩
    have TL3 := TL2 _ hb_u3
    have B_u3 : Hid (Below W.heap.size W u3) := bel_on' B_u2.out hb_u3
    clear hb_u3 TL TL2
    have c00_u3 := cellL C00.out B_u3.out
    have c01_u3 := cellL C01.out B_u3.out
    have c02_u3 := cellL C02.out B_u3.out
    have c10_u3 := cellL C10.out B_u3.out
    have c11_u3 := cellL C11.out B_u3.out
    have c12_u3 := cellL C12.out B_u3.out
    go_wp2_with fail
    refine (TL3).mono ?_
    rintro e u4 ⟨rfl, hb_u4⟩
    have B_u4 : Hid (Below W.heap.size W u4) := bel_on' B_u3.out hb_u4
    clear hb_u4
    clear TL3
    go_wp2_with fail
    refine (parse_any a2 _ (by have := HS3.out; omega) (HG.out.on (bel_on' HB.out B_u4.out))).mono ?_
    rintro e u5 ⟨k2, id2, l2, av2, cv2, er2, rfl, hin2, hll2, hpr2, hb_u5⟩
    have B_u5 : Hid (Below W.heap.size W u5) := bel_on' B_u4.out hb_u5
    clear hb_u5
    obtain ⟨V, hV⟩ : ∃ V, V = u5.alloc (.cells #[.string k2, .int .i64 id2, .slice av2 l2.length cv2] 24) := ⟨_, rfl⟩
    have HV : Hid (V = u5.alloc (.cells #[.string k2, .int .i64 id2, .slice av2 l2.length cv2] 24)) := hV
    have B_V : Hid (Below W.heap.size W V) := by show Below W.heap.size W V; rw [hV]; exact B_u5.out.alloc B_u5.out.size _
    have HIV : Hid (Ints V av2 l2) := by show Ints V av2 l2; rw [hV]; exact hin2.below ((Below.refl _ _).alloc (Nat.le_refl _) _)
    have HPR2 : Hid (ParseR a2 k2 id2 l2 er2) := hpr2
    have HL2 : Hid (l2.length ≤ 4611686018427387904) := by show _ ≤ _; have := hll2.1; omega
    clear hV hin2 hll2 hpr2
    have TP := ref_parse_any a2 V (by have := HS3.out; omega) (HG.out.on (bel_on' HB.out B_V.out))
    rw [HV.out] at TP
    go_wp2_with fail
    refine TP.mono ?_
    rintro e u6 ⟨k3, id3, l3, av3, cv3, er3, rfl, hin3, hll3, hpr3, hb_u6⟩
    obtain ⟨rfl, rfl, rfl, rfl⟩ := ParseR.uniq HPR2.out hpr3
    have V_u6 : Hid (Below V.heap.size V u6) := by show Below V.heap.size V u6; rw [HV.out]; exact hb_u6
    have B_u6 : Hid (Below W.heap.size W u6) := bel_on' B_V.out V_u6.out
    obtain ⟨X2, hX2⟩ : ∃ V, V = u6.alloc (.cells #[.string k2, .int .i64 id2, .slice av3 l2.length cv3] 24) := ⟨_, rfl⟩
    have HX2 : Hid (X2 = u6.alloc (.cells #[.string k2, .int .i64 id2, .slice av3 l2.length cv3] 24)) := hX2
    have V_X2 : Hid (Below V.heap.size V X2) := by show Below V.heap.size V X2; rw [hX2]; exact V_u6.out.alloc V_u6.out.size _
    have B_X2 : Hid (Below W.heap.size W X2) := bel_on' B_V.out V_X2.out
    have HI3 : Hid (Ints X2 av3 l2) := by show Ints X2 av3 l2; rw [hX2]; exact hin3.below ((Below.refl _ _).alloc (Nat.le_refl _) _)
    have HI2 : Hid (Ints X2 av2 l2) := HIV.out.below V_X2.out
    clear hX2 hin3 hll3 hpr3 hb_u6 TP
    have c00_u6 := cellL C00.out B_u6.out
    have c01_u6 := cellL C01.out B_u6.out
    have c02_u6 := cellL C02.out B_u6.out
    have c10_u6 := cellL C10.out B_u6.out
    have c11_u6 := cellL C11.out B_u6.out
    have c12_u6 := cellL C12.out B_u6.out
    obtain ⟨p0, p1, p2⟩ := box3 HV.out V_X2.out
    obtain ⟨q0, q1, q2⟩ := box3 HX2.out (Below.refl _ _)
    have c00_X2 := cellL C00.out B_X2.out
    have c01_X2 := cellL C01.out B_X2.out
    have c02_X2 := cellL C02.out B_X2.out
    have c10_X2 := cellL C10.out B_X2.out
    have c11_X2 := cellL C11.out B_X2.out
    have c12_X2 := cellL C12.out B_X2.out
    have hlt6 : w.heap.size + 1 < u6.heap.size := World.block_lt_of_cell? _ _ c10_u6
    have hlt6' : w.heap.size < u6.heap.size := World.block_lt_of_cell? _ _ c00_u6
    go_wp2_with fail
    rw [← HX2.out]
    have hne : Nonempty (Later X2) := ⟨Later.now X2⟩
    have la0 := Later.cell c00_X2
    have la1 := Later.cell c01_X2
    have la2 := Later.cell c02_X2
    have la3 := Later.cell c10_X2
    have la4 := Later.cell c11_X2
    have la5 := Later.cell c12_X2
    have la6 := Later.cell p0
    have la7 := Later.cell p1
    have la8 := Later.cell p2
    have la9 := Later.cell q0
    have la10 := Later.cell q1
    have la11 := Later.cell q2
    have CM : ∀ u : Later X2, Calls Tryd.prog 11 #[.agg #[.string k0, .int .i64 id0, .slice a0 l.length cap0]] u.w fun e w' => e = .returned (.bool (mayB k0 id0 l)) ∧ ∃ u' : Later X2, w' = u'.w := fun u => calls_later u (may_any k0 id0 a0 l cap0 u.w HK0.out (HI.out.below (bel_on' HB.out (bel_on' B_X2.out u.below))) HL.out)
    have CR : ∀ u : Later X2, Calls Tryd.prog 12 #[.agg #[.string k0, .int .i64 id0, .slice a0 l.length cap0]] u.w fun e w' => e = .returned (.bool (mayB k0 id0 l)) ∧ ∃ u' : Later X2, w' = u'.w := fun u => calls_later u (ref_may_any k0 id0 a0 l cap0 u.w HK0.out (HI.out.below (bel_on' HB.out (bel_on' B_X2.out u.below))) HL.out)
    have CS : ∀ u : Later X2, Calls Tryd.prog 13 #[.agg #[.string k0, .int .i64 id0, .slice a0 l.length cap0], .agg #[.string k1, .int .i64 id1, .slice a1 m.length cap1]] u.w fun e w' => e = .returned (.bool (sameB k0 id0 l k1 id1 m)) ∧ ∃ u' : Later X2, w' = u'.w := fun u => calls_later u (same_entry k0 id0 a0 l cap0 k1 id1 a1 m cap1 u.w (HI.out.below (bel_on' HB.out (bel_on' B_X2.out u.below))) (HJ.out.below (bel_on' HB.out (bel_on' B_X2.out u.below))) HL4.out)
    have CT : ∀ u : Later X2, Calls Tryd.prog 14 #[.agg #[.string k0, .int .i64 id0, .slice a0 l.length cap0], .agg #[.string k1, .int .i64 id1, .slice a1 m.length cap1]] u.w fun e w' => e = .returned (.bool (sameB k0 id0 l k1 id1 m)) ∧ ∃ u' : Later X2, w' = u'.w := fun u => calls_later u (ref_same_entry k0 id0 a0 l cap0 k1 id1 a1 m cap1 u.w (HI.out.below (bel_on' HB.out (bel_on' B_X2.out u.below))) (HJ.out.below (bel_on' HB.out (bel_on' B_X2.out u.below))) HL4.out)
    have CQ : ∀ u : Later X2, Calls Tryd.prog 14 #[.agg #[.string k2, .int .i64 id2, .slice av2 l2.length cv2], .agg #[.string k2, .int .i64 id2, .slice av3 l2.length cv3]] u.w fun e w' => e = .returned (.bool true) ∧ ∃ u' : Later X2, w' = u'.w := fun u => calls_later u (by rw [← (same_iff k2 id2 l2 k2 id2 l2).2 ⟨rfl, rfl, rfl⟩]; exact ref_same_entry k2 id2 av2 l2 cv2 k2 id2 av3 l2 cv3 u.w (HI2.out.below u.below) (HI3.out.below u.below) HL2.out)
    have CA : ∀ u : Later X2, Calls Tryd.prog 5 #[] u.w fun e w' => e = .returned (.bool true) ∧ ∃ u' : Later X2, w' = u'.w := fun u => calls_later u (AW.out _ (bel_on' B_X2.out u.below))
    generalize mayB k0 id0 l = bm at CM CR
    generalize sameB k0 id0 l k1 id1 m = bs at CS CT
    refine region_later (by kernel_rfl) (by kernel_rfl) ?_
    repeat (first | go_big_quiet_step (first | (go_at_call 11; exact CM _) | (go_at_call 12; exact CR _) | (go_at_call 13; exact CS _) | (go_at_call 14; with_reducible exact CT _) | (go_at_call 14; with_reducible exact CQ _) | (go_at_call 5; exact CA _)) | quiet_step (first | (go_at_call 11; exact CM _) | (go_at_call 12; exact CR _) | (go_at_call 13; exact CS _) | (go_at_call 14; with_reducible exact CT _) | (go_at_call 14; with_reducible exact CQ _) | (go_at_call 5; exact CA _)))
    refine wpQuiet_nil ?_
    intro u
    go_wp2
    go_ret
    exact ⟨rfl, bel_on' (bel_on' HB.out B_X2.out) u.below⟩
  · have HS3 : Hid ((sign a2).size ≤ 303) := by show _ ≤ _; have := HS0.out; rw [sign_size]; omega
    have HA : Hid (a2.size ≤ 140737488355328) := by show _ ≤ _; have := HS0.out; omega
    go_enter Tryd.func3, Tryd.ntmps3
    go_wp2_with fail
    refine L0.mono ?_
    rintro e u1 ⟨rfl, hb_u1⟩
    have B_u1 : Hid (Below W.heap.size W u1) := by show Below W.heap.size W u1; rw [HWW.out]; exact hb_u1
    clear hb_u1 L0
    have c00_u1 := cellL C00.out B_u1.out
    have c01_u1 := cellL C01.out B_u1.out
    have c02_u1 := cellL C02.out B_u1.out
    have c10_u1 := cellL C10.out B_u1.out
    have c11_u1 := cellL C11.out B_u1.out
    have c12_u1 := cellL C12.out B_u1.out
    go_wp2_with fail
    refine (CL1 _).mono ?_
    rintro e u2 ⟨rfl, hb_u2⟩
    have B_u2 : Hid (Below W.heap.size W u2) := bel_on' B_u1.out hb_u2
    clear hb_u2 CL1
    have c00_u2 := cellL C00.out B_u2.out
    have c01_u2 := cellL C01.out B_u2.out
    have c02_u2 := cellL C02.out B_u2.out
    have c10_u2 := cellL C10.out B_u2.out
    have c11_u2 := cellL C11.out B_u2.out
    have c12_u2 := cellL C12.out B_u2.out
    go_wp2_with fail
    refine (ref_sign_any a2 _ HA.out).mono ?_
    rintro e u2s ⟨rfl, hb_u2s⟩
    generalize sign a2 = SA at HS3 ⊢
    have B_u2s : Hid (Below W.heap.size W u2s) := bel_on' B_u2.out hb_u2s
    clear hb_u2s
    have c00_u2s := cellL C00.out B_u2s.out
    have c01_u2s := cellL C01.out B_u2s.out
    have c02_u2s := cellL C02.out B_u2s.out
    have c10_u2s := cellL C10.out B_u2s.out
    have c11_u2s := cellL C11.out B_u2s.out
    have c12_u2s := cellL C12.out B_u2s.out
    have TL := line_any k0 id0 a0 l cap0 u2s HK0.out (HI.out.below (bel_on' HB.out B_u2s.out)) HL.out (HG.out.on (bel_on' HB.out B_u2s.out))
    have TL2 : ∀ v, Below u2s.heap.size u2s v → Calls Tryd.prog 8 #[.agg #[.string k0, .int .i64 id0, .slice a0 l.length cap0]] v fun e w' => e = .returned (.tuple #[.string (lineV k0 id0 l), .int .i64 (lineE k0 id0 l)]) ∧ Below v.heap.size v w' := fun v hv => ref_line_any k0 id0 a0 l cap0 v HK0.out (HI.out.below (bel_on' HB.out (bel_on' B_u2s.out hv))) HL.out (HG.out.on (bel_on' HB.out (bel_on' B_u2s.out hv)))
    generalize lineV k0 id0 l = X at TL TL2
    generalize lineE k0 id0 l = E at TL TL2
    go_wp2_with fail
    refine TL.mono ?_
    rintro e u3 ⟨rfl, hb_u3⟩
    have TL3 := TL2 _ hb_u3
    have B_u3 : Hid (Below W.heap.size W u3) := bel_on' B_u2s.out hb_u3
    clear hb_u3 TL TL2
    have c00_u3 := cellL C00.out B_u3.out
    have c01_u3 := cellL C01.out B_u3.out
    have c02_u3 := cellL C02.out B_u3.out
    have c10_u3 := cellL C10.out B_u3.out
    have c11_u3 := cellL C11.out B_u3.out
    have c12_u3 := cellL C12.out B_u3.out
    go_wp2_with fail
    refine (TL3).mono ?_
    rintro e u4 ⟨rfl, hb_u4⟩
    have B_u4 : Hid (Below W.heap.size W u4) := bel_on' B_u3.out hb_u4
    clear hb_u4
    clear TL3
    go_wp2_with fail
    refine (parse_any SA _ (by have := HS3.out; omega) (HG.out.on (bel_on' HB.out B_u4.out))).mono ?_
    rintro e u5 ⟨k2, id2, l2, av2, cv2, er2, rfl, hin2, hll2, hpr2, hb_u5⟩
    have B_u5 : Hid (Below W.heap.size W u5) := bel_on' B_u4.out hb_u5
    clear hb_u5
    obtain ⟨V, hV⟩ : ∃ V, V = u5.alloc (.cells #[.string k2, .int .i64 id2, .slice av2 l2.length cv2] 24) := ⟨_, rfl⟩
    have HV : Hid (V = u5.alloc (.cells #[.string k2, .int .i64 id2, .slice av2 l2.length cv2] 24)) := hV
    have B_V : Hid (Below W.heap.size W V) := by show Below W.heap.size W V; rw [hV]; exact B_u5.out.alloc B_u5.out.size _
    have HIV : Hid (Ints V av2 l2) := by show Ints V av2 l2; rw [hV]; exact hin2.below ((Below.refl _ _).alloc (Nat.le_refl _) _)
    have HPR2 : Hid (ParseR SA k2 id2 l2 er2) := hpr2
    have HL2 : Hid (l2.length ≤ 4611686018427387904) := by show _ ≤ _; have := hll2.1; omega
    clear hV hin2 hll2 hpr2
    have TP := ref_parse_any SA V (by have := HS3.out; omega) (HG.out.on (bel_on' HB.out B_V.out))
    rw [HV.out] at TP
    go_wp2_with fail
    refine TP.mono ?_
    rintro e u6 ⟨k3, id3, l3, av3, cv3, er3, rfl, hin3, hll3, hpr3, hb_u6⟩
    obtain ⟨rfl, rfl, rfl, rfl⟩ := ParseR.uniq HPR2.out hpr3
    have V_u6 : Hid (Below V.heap.size V u6) := by show Below V.heap.size V u6; rw [HV.out]; exact hb_u6
    have B_u6 : Hid (Below W.heap.size W u6) := bel_on' B_V.out V_u6.out
    obtain ⟨X2, hX2⟩ : ∃ V, V = u6.alloc (.cells #[.string k2, .int .i64 id2, .slice av3 l2.length cv3] 24) := ⟨_, rfl⟩
    have HX2 : Hid (X2 = u6.alloc (.cells #[.string k2, .int .i64 id2, .slice av3 l2.length cv3] 24)) := hX2
    have V_X2 : Hid (Below V.heap.size V X2) := by show Below V.heap.size V X2; rw [hX2]; exact V_u6.out.alloc V_u6.out.size _
    have B_X2 : Hid (Below W.heap.size W X2) := bel_on' B_V.out V_X2.out
    have HI3 : Hid (Ints X2 av3 l2) := by show Ints X2 av3 l2; rw [hX2]; exact hin3.below ((Below.refl _ _).alloc (Nat.le_refl _) _)
    have HI2 : Hid (Ints X2 av2 l2) := HIV.out.below V_X2.out
    clear hX2 hin3 hll3 hpr3 hb_u6 TP
    have c00_u6 := cellL C00.out B_u6.out
    have c01_u6 := cellL C01.out B_u6.out
    have c02_u6 := cellL C02.out B_u6.out
    have c10_u6 := cellL C10.out B_u6.out
    have c11_u6 := cellL C11.out B_u6.out
    have c12_u6 := cellL C12.out B_u6.out
    obtain ⟨p0, p1, p2⟩ := box3 HV.out V_X2.out
    obtain ⟨q0, q1, q2⟩ := box3 HX2.out (Below.refl _ _)
    have c00_X2 := cellL C00.out B_X2.out
    have c01_X2 := cellL C01.out B_X2.out
    have c02_X2 := cellL C02.out B_X2.out
    have c10_X2 := cellL C10.out B_X2.out
    have c11_X2 := cellL C11.out B_X2.out
    have c12_X2 := cellL C12.out B_X2.out
    have hlt6 : w.heap.size + 1 < u6.heap.size := World.block_lt_of_cell? _ _ c10_u6
    have hlt6' : w.heap.size < u6.heap.size := World.block_lt_of_cell? _ _ c00_u6
    go_wp2_with fail
    rw [← HX2.out]
    have hne : Nonempty (Later X2) := ⟨Later.now X2⟩
    have la0 := Later.cell c00_X2
    have la1 := Later.cell c01_X2
    have la2 := Later.cell c02_X2
    have la3 := Later.cell c10_X2
    have la4 := Later.cell c11_X2
    have la5 := Later.cell c12_X2
    have la6 := Later.cell p0
    have la7 := Later.cell p1
    have la8 := Later.cell p2
    have la9 := Later.cell q0
    have la10 := Later.cell q1
    have la11 := Later.cell q2
    have CM : ∀ u : Later X2, Calls Tryd.prog 11 #[.agg #[.string k0, .int .i64 id0, .slice a0 l.length cap0]] u.w fun e w' => e = .returned (.bool (mayB k0 id0 l)) ∧ ∃ u' : Later X2, w' = u'.w := fun u => calls_later u (may_any k0 id0 a0 l cap0 u.w HK0.out (HI.out.below (bel_on' HB.out (bel_on' B_X2.out u.below))) HL.out)
    have CR : ∀ u : Later X2, Calls Tryd.prog 12 #[.agg #[.string k0, .int .i64 id0, .slice a0 l.length cap0]] u.w fun e w' => e = .returned (.bool (mayB k0 id0 l)) ∧ ∃ u' : Later X2, w' = u'.w := fun u => calls_later u (ref_may_any k0 id0 a0 l cap0 u.w HK0.out (HI.out.below (bel_on' HB.out (bel_on' B_X2.out u.below))) HL.out)
    have CS : ∀ u : Later X2, Calls Tryd.prog 13 #[.agg #[.string k0, .int .i64 id0, .slice a0 l.length cap0], .agg #[.string k1, .int .i64 id1, .slice a1 m.length cap1]] u.w fun e w' => e = .returned (.bool (sameB k0 id0 l k1 id1 m)) ∧ ∃ u' : Later X2, w' = u'.w := fun u => calls_later u (same_entry k0 id0 a0 l cap0 k1 id1 a1 m cap1 u.w (HI.out.below (bel_on' HB.out (bel_on' B_X2.out u.below))) (HJ.out.below (bel_on' HB.out (bel_on' B_X2.out u.below))) HL4.out)
    have CT : ∀ u : Later X2, Calls Tryd.prog 14 #[.agg #[.string k0, .int .i64 id0, .slice a0 l.length cap0], .agg #[.string k1, .int .i64 id1, .slice a1 m.length cap1]] u.w fun e w' => e = .returned (.bool (sameB k0 id0 l k1 id1 m)) ∧ ∃ u' : Later X2, w' = u'.w := fun u => calls_later u (ref_same_entry k0 id0 a0 l cap0 k1 id1 a1 m cap1 u.w (HI.out.below (bel_on' HB.out (bel_on' B_X2.out u.below))) (HJ.out.below (bel_on' HB.out (bel_on' B_X2.out u.below))) HL4.out)
    have CQ : ∀ u : Later X2, Calls Tryd.prog 14 #[.agg #[.string k2, .int .i64 id2, .slice av2 l2.length cv2], .agg #[.string k2, .int .i64 id2, .slice av3 l2.length cv3]] u.w fun e w' => e = .returned (.bool true) ∧ ∃ u' : Later X2, w' = u'.w := fun u => calls_later u (by rw [← (same_iff k2 id2 l2 k2 id2 l2).2 ⟨rfl, rfl, rfl⟩]; exact ref_same_entry k2 id2 av2 l2 cv2 k2 id2 av3 l2 cv3 u.w (HI2.out.below u.below) (HI3.out.below u.below) HL2.out)
    have CA : ∀ u : Later X2, Calls Tryd.prog 5 #[] u.w fun e w' => e = .returned (.bool true) ∧ ∃ u' : Later X2, w' = u'.w := fun u => calls_later u (AW.out _ (bel_on' B_X2.out u.below))
    generalize mayB k0 id0 l = bm at CM CR
    generalize sameB k0 id0 l k1 id1 m = bs at CS CT
    refine region_later (by kernel_rfl) (by kernel_rfl) ?_
    repeat (first | go_big_quiet_step (first | (go_at_call 11; exact CM _) | (go_at_call 12; exact CR _) | (go_at_call 13; exact CS _) | (go_at_call 14; with_reducible exact CT _) | (go_at_call 14; with_reducible exact CQ _) | (go_at_call 5; exact CA _)) | quiet_step (first | (go_at_call 11; exact CM _) | (go_at_call 12; exact CR _) | (go_at_call 13; exact CS _) | (go_at_call 14; with_reducible exact CT _) | (go_at_call 14; with_reducible exact CQ _) | (go_at_call 5; exact CA _)))
    refine wpQuiet_nil ?_
    intro u
    go_wp2
    go_ret
    exact ⟨rfl, bel_on' (bel_on' HB.out B_X2.out) u.below⟩
end Go.Proofs.YtabgeelckflcdaaDoor
