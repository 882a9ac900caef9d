/-
  EntryOne: two entries that may be have one line just if they are the same.
-/
import Derived.Test.YthcjlieegihdlaaDoorEntA
namespace Go.Proofs.YthcjlieegihdlaaDoor
open Go.ChangeShapes Go.WideShapes Go.ChangeAt Go.RowKit

theorem line_one {k k' : ByteArray} {id id' : Int} {l l' : List Int} (h : mayB k id l = true) (h' : mayB k' id' l' = true) :
    ((sign (txt k id l)).toList == (sign (txt k' id' l')).toList) = sameB k id l k' id' l' := by
  rw [Bool.eq_iff_iff, same_iff, beq_iff_eq, ByteArray.toList_eq, ByteArray.toList_eq]
  constructor
  · intro e
    have e2 : txt k id l = txt k' id' l' := by
      have h1 := (read_sign (txt k id l)).2
      have h2 := (read_sign (txt k' id' l')).2
      rw [← h1, ← h2, bytes_ext e]
    exact txt_inj h h' e2
  · rintro ⟨rfl, rfl, rfl⟩
    rfl

theorem cellL {W u : World} {p : Addr} {v : Value} (h : W.cell? p = some v) (hb : Below W.heap.size W u) : u.cell? p = some v := (hb.cell (World.block_lt_of_cell? _ _ h)).trans h

theorem light_len {k : ByteArray} {l : List Int} (h : lightB k l = true) : k.size ≤ 50 ∧ l.length ≤ 20 := by
  unfold lightB at h
  simpa using h

set_option maxRecDepth 100000 in
set_option maxHeartbeats 4000000 in
theorem entryOne_walk (k0 : ByteArray) (id0 : Int) (a0 : Option Addr) (len0 cap0 : Nat) (z0 : List Int) (k1 : ByteArray) (id1 : Int) (a1 : Option Addr) (len1 cap1 : Nat) (z1 : List Int) (w : World)
    (wk0 : k0.size ≤ maxLen) (_wi0 : (Lit.int .i64 id0).wf = true) (w0 : IsRow .i64 w a0 len0 cap0 z0) (wk1 : k1.size ≤ maxLen) (_wi1 : (Lit.int .i64 id1).wf = true) (w1 : IsRow .i64 w a1 len1 cap1 z1) (hg : Gl w) :
    Calls Tryd.prog 6 #[.agg #[.string k0, .int .i64 id0, .slice a0 len0 cap0], .agg #[.string k1, .int .i64 id1, .slice a1 len1 cap1]] w fun e w' => e = .returned (.bool true) ∧ Below w.heap.size w w' := by
  obtain ⟨l, rfl, hl, hi⟩ := w0.ints
  obtain ⟨m, rfl, hm, hj⟩ := w1.ints
  clear w0 w1 _wi0 _wi1
  obtain ⟨W, hW⟩ : ∃ W, W = (w.alloc (.cells #[.string k0, .int .i64 id0, .slice a0 l.length cap0] 24)).alloc (.cells #[.string k1, .int .i64 id1, .slice a1 m.length cap1] 24) := ⟨_, rfl⟩
  have HB : Hid (Below w.heap.size w W) := by show Below w.heap.size w W; rw [hW]; exact ((Below.refl _ _).alloc (Nat.le_refl _) _).alloc (by simp) _
  have HSz : Hid (w.heap.size + 2 ≤ W.heap.size) := by show _ ≤ _; rw [hW]; simp
  have HI : Hid (Ints w a0 l) := hi
  have HJ : Hid (Ints w a1 m) := hj
  have HG : Hid (Gl w) := hg
  have HL : Hid (l.length ≤ 9223372036854775807) := hl
  have HM : Hid (m.length ≤ 9223372036854775807) := hm
  have HK0 : Hid (k0.size ≤ maxLen) := wk0
  have HK1 : Hid (k1.size ≤ maxLen) := wk1
  have C00 : Hid (W.cell? ⟨w.heap.size, 0, none⟩ = some (.string k0)) := by show _ = _; rw [hW]; simp
  have C01 : Hid (W.cell? ⟨w.heap.size, 1, none⟩ = some (.int .i64 id0)) := by show _ = _; rw [hW]; simp
  have C02 : Hid (W.cell? ⟨w.heap.size, 2, none⟩ = some (.slice a0 l.length cap0)) := by show _ = _; rw [hW]; simp
  have C10 : Hid (W.cell? ⟨w.heap.size + 1, 0, none⟩ = some (.string k1)) := by show _ = _; rw [hW]; simp
  have C11 : Hid (W.cell? ⟨w.heap.size + 1, 1, none⟩ = some (.int .i64 id1)) := by show _ = _; rw [hW]; simp
  have C12 : Hid (W.cell? ⟨w.heap.size + 1, 2, none⟩ = some (.slice a1 m.length cap1)) := by show _ = _; rw [hW]; simp
  clear hi hj hg hl hm wk0 wk1
  have HWW : Hid (W = (w.alloc (.cells #[.string k0, .int .i64 id0, .slice a0 l.length cap0] 24)).alloc (.cells #[.string k1, .int .i64 id1, .slice a1 m.length cap1] 24)) := hW
  clear hW
  have L0 := light_any k0 id0 a0 l cap0 W
  have CL1 : ∀ u, Calls Tryd.prog 8 #[.agg #[.string k1, .int .i64 id1, .slice a1 m.length cap1]] u fun e w' => e = .returned (.bool (lightB k1 m)) ∧ Below u.heap.size u w' := fun u => light_any k1 id1 a1 m cap1 u
  rw [HWW.out] at L0
  cases h0 : lightB k0 l
  · rw [h0] at L0
    go_enter Tryd.func6, Tryd.ntmps6
    go_wp2_with fail
    refine L0.mono ?_
    rintro e u1 ⟨rfl, hb_u1⟩
    have B_u1 : Hid (Below W.heap.size W u1) := by show Below W.heap.size W u1; rw [HWW.out]; exact hb_u1
    clear hb_u1
    go_wp2_with fail
    refine (awake_any _ (HG.out.on (bel_on' HB.out B_u1.out))).mono ?_
    rintro e wz ⟨rfl, hbz⟩
    go_wp2
    go_ret
    exact ⟨rfl, bel_on' (bel_on' HB.out B_u1.out) hbz⟩
  rw [h0] at L0
  cases h1 : lightB k1 m
  · rw [h1] at CL1
    go_enter Tryd.func6, Tryd.ntmps6
    go_wp2_with fail
    refine L0.mono ?_
    rintro e u1 ⟨rfl, hb_u1⟩
    have B_u1 : Hid (Below W.heap.size W u1) := by show Below W.heap.size W u1; rw [HWW.out]; exact hb_u1
    clear hb_u1
    have c00_u1 := cellL C00.out B_u1.out
    have c01_u1 := cellL C01.out B_u1.out
    have c02_u1 := cellL C02.out B_u1.out
    have c10_u1 := cellL C10.out B_u1.out
    have c11_u1 := cellL C11.out B_u1.out
    have c12_u1 := cellL C12.out B_u1.out
    clear L0
    go_wp2_with fail
    refine (CL1 _).mono ?_
    rintro e u2 ⟨rfl, hb_u2⟩
    have B_u2 : Hid (Below W.heap.size W u2) := bel_on' B_u1.out hb_u2
    clear hb_u2 CL1
    go_wp2_with fail
    refine (awake_any _ (HG.out.on (bel_on' HB.out B_u2.out))).mono ?_
    rintro e wz ⟨rfl, hbz⟩
    go_wp2
    go_ret
    exact ⟨rfl, bel_on' (bel_on' HB.out B_u2.out) hbz⟩
  rw [h1] at CL1
  obtain ⟨_, hl20⟩ := light_len h0
  obtain ⟨_, hm20⟩ := light_len h1
  have HL4 : Hid (l.length ≤ 4611686018427387904) := by show _ ≤ _; omega
  clear hl20 hm20 h0 h1
  have T0 : ∀ u, Below W.heap.size W u → Calls Tryd.prog 11 #[.agg #[.string k0, .int .i64 id0, .slice a0 l.length cap0]] u fun e w' => e = .returned (.tuple #[.string (lineV k0 id0 l), .int .i64 (lineE k0 id0 l)]) ∧ Below u.heap.size u w' := fun u hu =>
    line_any k0 id0 a0 l cap0 u HK0.out (HI.out.below (bel_on' HB.out hu)) HL.out (HG.out.on (bel_on' HB.out hu))
  have T1 : ∀ u, Below W.heap.size W u → Calls Tryd.prog 11 #[.agg #[.string k1, .int .i64 id1, .slice a1 m.length cap1]] u fun e w' => e = .returned (.tuple #[.string (lineV k1 id1 m), .int .i64 (lineE k1 id1 m)]) ∧ Below u.heap.size u w' := fun u hu =>
    line_any k1 id1 a1 m cap1 u HK1.out (HJ.out.below (bel_on' HB.out hu)) HM.out (HG.out.on (bel_on' HB.out hu))
  cases e0 : mayB k0 id0 l
  · have q0 : lineE k0 id0 l = 1 := by unfold lineE; rw [e0]; rfl
    rw [q0] at T0
    clear q0 e0
    go_enter Tryd.func6, Tryd.ntmps6
    go_wp2_with fail
    refine L0.mono ?_
    rintro e u1 ⟨rfl, hb_u1⟩
    have B_u1 : Hid (Below W.heap.size W u1) := by show Below W.heap.size W u1; rw [HWW.out]; exact hb_u1
    clear hb_u1
    have c00_u1 := cellL C00.out B_u1.out
    have c01_u1 := cellL C01.out B_u1.out
    have c02_u1 := cellL C02.out B_u1.out
    have c10_u1 := cellL C10.out B_u1.out
    have c11_u1 := cellL C11.out B_u1.out
    have c12_u1 := cellL C12.out B_u1.out
    clear L0
    go_wp2_with fail
    refine (CL1 _).mono ?_
    rintro e u2 ⟨rfl, hb_u2⟩
    have B_u2 : Hid (Below W.heap.size W u2) := bel_on' B_u1.out hb_u2
    clear hb_u2 CL1
    have c00_u2 := cellL C00.out B_u2.out
    have c01_u2 := cellL C01.out B_u2.out
    have c02_u2 := cellL C02.out B_u2.out
    have c10_u2 := cellL C10.out B_u2.out
    have c11_u2 := cellL C11.out B_u2.out
    have c12_u2 := cellL C12.out B_u2.out
    go_wp2_with fail
    refine (T0 _ B_u2.out).mono ?_
    rintro e u3 ⟨rfl, hb_u3⟩
    have B_u3 : Hid (Below W.heap.size W u3) := bel_on' B_u2.out hb_u3
    clear hb_u3
    have c00_u3 := cellL C00.out B_u3.out
    have c01_u3 := cellL C01.out B_u3.out
    have c02_u3 := cellL C02.out B_u3.out
    have c10_u3 := cellL C10.out B_u3.out
    have c11_u3 := cellL C11.out B_u3.out
    have c12_u3 := cellL C12.out B_u3.out
    go_wp2_with fail
    refine (T1 _ B_u3.out).mono ?_
    rintro e u4 ⟨rfl, hb_u4⟩
    have B_u4 : Hid (Below W.heap.size W u4) := bel_on' B_u3.out hb_u4
    clear hb_u4 T0 T1
    have c00_u4 := cellL C00.out B_u4.out
    have c01_u4 := cellL C01.out B_u4.out
    have c02_u4 := cellL C02.out B_u4.out
    have c10_u4 := cellL C10.out B_u4.out
    have c11_u4 := cellL C11.out B_u4.out
    have c12_u4 := cellL C12.out B_u4.out
    go_wp2_with fail
    refine (awake_any _ (HG.out.on (bel_on' HB.out B_u4.out))).mono ?_
    rintro e wz ⟨rfl, hbz⟩
    go_wp2
    go_ret
    exact ⟨rfl, bel_on' (bel_on' HB.out B_u4.out) hbz⟩
  have q0 : lineE k0 id0 l = 0 := by unfold lineE; rw [e0]; rfl
  rw [q0] at T0
  cases e1 : mayB k1 id1 m
  · have q1 : lineE k1 id1 m = 1 := by unfold lineE; rw [e1]; rfl
    rw [q1] at T1
    clear q0 q1 e0 e1
    go_enter Tryd.func6, Tryd.ntmps6
    go_wp2_with fail
    refine L0.mono ?_
    rintro e u1 ⟨rfl, hb_u1⟩
    have B_u1 : Hid (Below W.heap.size W u1) := by show Below W.heap.size W u1; rw [HWW.out]; exact hb_u1
    clear hb_u1
    have c00_u1 := cellL C00.out B_u1.out
    have c01_u1 := cellL C01.out B_u1.out
    have c02_u1 := cellL C02.out B_u1.out
    have c10_u1 := cellL C10.out B_u1.out
    have c11_u1 := cellL C11.out B_u1.out
    have c12_u1 := cellL C12.out B_u1.out
    clear L0
    go_wp2_with fail
    refine (CL1 _).mono ?_
    rintro e u2 ⟨rfl, hb_u2⟩
    have B_u2 : Hid (Below W.heap.size W u2) := bel_on' B_u1.out hb_u2
    clear hb_u2 CL1
    have c00_u2 := cellL C00.out B_u2.out
    have c01_u2 := cellL C01.out B_u2.out
    have c02_u2 := cellL C02.out B_u2.out
    have c10_u2 := cellL C10.out B_u2.out
    have c11_u2 := cellL C11.out B_u2.out
    have c12_u2 := cellL C12.out B_u2.out
    go_wp2_with fail
    refine (T0 _ B_u2.out).mono ?_
    rintro e u3 ⟨rfl, hb_u3⟩
    have B_u3 : Hid (Below W.heap.size W u3) := bel_on' B_u2.out hb_u3
    clear hb_u3
    have c00_u3 := cellL C00.out B_u3.out
    have c01_u3 := cellL C01.out B_u3.out
    have c02_u3 := cellL C02.out B_u3.out
    have c10_u3 := cellL C10.out B_u3.out
    have c11_u3 := cellL C11.out B_u3.out
    have c12_u3 := cellL C12.out B_u3.out
    go_wp2_with fail
    refine (T1 _ B_u3.out).mono ?_
    rintro e u4 ⟨rfl, hb_u4⟩
    have B_u4 : Hid (Below W.heap.size W u4) := bel_on' B_u3.out hb_u4
    clear hb_u4 T0 T1
    have c00_u4 := cellL C00.out B_u4.out
    have c01_u4 := cellL C01.out B_u4.out
    have c02_u4 := cellL C02.out B_u4.out
    have c10_u4 := cellL C10.out B_u4.out
    have c11_u4 := cellL C11.out B_u4.out
    have c12_u4 := cellL C12.out B_u4.out
    go_wp2_with fail
    refine (awake_any _ (HG.out.on (bel_on' HB.out B_u4.out))).mono ?_
    rintro e wz ⟨rfl, hbz⟩
    go_wp2
    go_ret
    exact ⟨rfl, bel_on' (bel_on' HB.out B_u4.out) hbz⟩
  have q1 : lineE k1 id1 m = 0 := by unfold lineE; rw [e1]; rfl
  rw [q1] at T1
  have hone : ((lineV k0 id0 l).toList == (lineV k1 id1 m).toList) = sameB k0 id0 l k1 id1 m := by
    unfold lineV
    rw [if_pos e0, if_pos e1]
    exact line_one e0 e1
  have hself : sameB k0 id0 l k0 id0 l = true := (same_iff _ _ _ _ _ _).2 ⟨rfl, rfl, rfl⟩
  obtain ⟨X, hX⟩ : ∃ X, lineV k0 id0 l = X := ⟨_, rfl⟩
  obtain ⟨Y, hY⟩ : ∃ Y, lineV k1 id1 m = Y := ⟨_, rfl⟩
  obtain ⟨sb, hsb⟩ : ∃ b, sameB k0 id0 l k1 id1 m = b := ⟨_, rfl⟩
  rw [hX, hY, hsb] at hone
  rw [hX] at T0
  rw [hY] at T1
  have HSB : Hid (sameB k0 id0 l k1 id1 m = sb) := hsb
  have HSE : Hid (sameB k0 id0 l k0 id0 l = true) := hself
  clear hX hY hsb hself q0 q1 e0 e1
  go_enter Tryd.func6, Tryd.ntmps6
  go_wp2_with fail
  refine L0.mono ?_
  rintro e u1 ⟨rfl, hb_u1⟩
  have B_u1 : Hid (Below W.heap.size W u1) := by show Below W.heap.size W u1; rw [HWW.out]; exact hb_u1
  clear hb_u1
  have c00_u1 := cellL C00.out B_u1.out
  have c01_u1 := cellL C01.out B_u1.out
  have c02_u1 := cellL C02.out B_u1.out
  have c10_u1 := cellL C10.out B_u1.out
  have c11_u1 := cellL C11.out B_u1.out
  have c12_u1 := cellL C12.out B_u1.out
  clear L0
  go_wp2_with fail
  refine (CL1 _).mono ?_
  rintro e u2 ⟨rfl, hb_u2⟩
  have B_u2 : Hid (Below W.heap.size W u2) := bel_on' B_u1.out hb_u2
  clear hb_u2 CL1
  have c00_u2 := cellL C00.out B_u2.out
  have c01_u2 := cellL C01.out B_u2.out
  have c02_u2 := cellL C02.out B_u2.out
  have c10_u2 := cellL C10.out B_u2.out
  have c11_u2 := cellL C11.out B_u2.out
  have c12_u2 := cellL C12.out B_u2.out
  go_wp2_with fail
  refine (T0 _ B_u2.out).mono ?_
  rintro e u3 ⟨rfl, hb_u3⟩
  have B_u3 : Hid (Below W.heap.size W u3) := bel_on' B_u2.out hb_u3
  clear hb_u3
  have c00_u3 := cellL C00.out B_u3.out
  have c01_u3 := cellL C01.out B_u3.out
  have c02_u3 := cellL C02.out B_u3.out
  have c10_u3 := cellL C10.out B_u3.out
  have c11_u3 := cellL C11.out B_u3.out
  have c12_u3 := cellL C12.out B_u3.out
  go_wp2_with fail
  refine (T1 _ B_u3.out).mono ?_
  rintro e u4 ⟨rfl, hb_u4⟩
  have B_u4 : Hid (Below W.heap.size W u4) := bel_on' B_u3.out hb_u4
  clear hb_u4 T0 T1
  have c00_u4 := cellL C00.out B_u4.out
  have c01_u4 := cellL C01.out B_u4.out
  have c02_u4 := cellL C02.out B_u4.out
  have c10_u4 := cellL C10.out B_u4.out
  have c11_u4 := cellL C11.out B_u4.out
  have c12_u4 := cellL C12.out B_u4.out
  go_wp2_with fail
  refine (same_entry k0 id0 a0 l cap0 k1 id1 a1 m cap1 _ (HI.out.below (bel_on' HB.out B_u4.out)) (HJ.out.below (bel_on' HB.out B_u4.out)) HL4.out).mono ?_
  rintro e u5 ⟨rfl, hb_u5⟩
  rw [HSB.out]
  have B_u5 : Hid (Below W.heap.size W u5) := bel_on' B_u4.out hb_u5
  clear hb_u5
  have c00_u5 := cellL C00.out B_u5.out
  have c01_u5 := cellL C01.out B_u5.out
  have c02_u5 := cellL C02.out B_u5.out
  have c10_u5 := cellL C10.out B_u5.out
  have c11_u5 := cellL C11.out B_u5.out
  have c12_u5 := cellL C12.out B_u5.out
  go_wp2_with fail
  refine (same_entry k0 id0 a0 l cap0 k0 id0 a0 l cap0 _ (HI.out.below (bel_on' HB.out B_u5.out)) (HI.out.below (bel_on' HB.out B_u5.out)) HL4.out).mono ?_
  rintro e u6 ⟨rfl, hb_u6⟩
  rw [HSE.out]
  have B_u6 : Hid (Below W.heap.size W u6) := bel_on' B_u5.out hb_u6
  clear hb_u6
  go_wp2_with fail
  refine (awake_any _ (HG.out.on (bel_on' HB.out B_u6.out))).mono ?_
  rintro e wz ⟨rfl, hbz⟩
  go_wp2
  go_ret
  exact ⟨rfl, bel_on' (bel_on' HB.out B_u6.out) hbz⟩
end Go.Proofs.YthcjlieegihdlaaDoor
