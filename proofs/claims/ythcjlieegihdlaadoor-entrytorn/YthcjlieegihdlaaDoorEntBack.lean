/-
  EntryBack: what is written is read as it was; what is read, of whatever text, is written as that.
-/
import Derived.Test.YthcjlieegihdlaaDoorEntOne
namespace Go.Proofs.YthcjlieegihdlaaDoor
open Go.ChangeShapes Go.WideShapes Go.ChangeAt Go.RowKit

theorem box3 {v : World} {c0 c1 c2 : Value} {W u : World} (hW : W = v.alloc (.cells #[c0, c1, c2] 24)) (hb : Below W.heap.size W u) :
    u.cell? ⟨v.heap.size, 0, none⟩ = some c0 ∧ u.cell? ⟨v.heap.size, 1, none⟩ = some c1 ∧ u.cell? ⟨v.heap.size, 2, none⟩ = some c2 := by
  refine ⟨cellL (W := W) ?_ hb, cellL (W := W) ?_ hb, cellL (W := W) ?_ hb⟩
  all_goals (rw [hW]; simp)

theorem line_of_read {s k : ByteArray} {id : Int} {l : List Int} (h : ParseR s k id l 0) : lineE k id l = 0 ∧ ((lineV k id l).toList == s.toList) = true ∧ mayB k id l = true := by
  rcases h with ⟨_, h2, h3, h4, h5⟩ | ⟨h1, _⟩
  · refine ⟨by unfold lineE; rw [if_pos h2], ?_, h2⟩
    unfold lineV
    rw [if_pos h2, ← h5]
    exact sign_read s h4
  · exact absurd rfl h1
theorem parse_none {s k : ByteArray} {id : Int} {l : List Int} {er : Int} (h : ParseR s k id l er) (he : er ≠ 0) : k = ⟨#[]⟩ ∧ l = [] := by
  rcases h with ⟨h1, _⟩ | ⟨_, h2, _, h4, _⟩
  · exact absurd h1 he
  · exact ⟨h2, h4⟩
theorem lineV_size {k : ByteArray} {id : Int} {l : List Int} : (lineV k id l).size ≤ 63 := by
  unfold lineV
  split
  · rename_i h
    rw [sign_size]
    have := txt_size h
    omega
  · exact Nat.zero_le _

set_option maxRecDepth 100000 in
set_option maxHeartbeats 8000000 in
theorem entryBack_walk (k0 : ByteArray) (id0 : Int) (a0 : Option Addr) (len0 cap0 : Nat) (z0 : List Int) (a1 : ByteArray) (a2 : Bool) (w : World)
    (wk0 : k0.size ≤ maxLen) (_wi0 : (Lit.int .i64 id0).wf = true) (w0 : IsRow .i64 w a0 len0 cap0 z0) (_w1 : a1.size ≤ maxLen) (hg : Gl w) :
    Calls Tryd.prog 4 #[.agg #[.string k0, .int .i64 id0, .slice a0 len0 cap0], .string a1, .bool a2] w fun e w' => e = .returned (.bool true) ∧ Below w.heap.size w w' := by
  obtain ⟨l, rfl, hl, hi⟩ := w0.ints
  clear w0 _wi0 _w1
  obtain ⟨W, hW⟩ : ∃ W, W = w.alloc (.cells #[.string k0, .int .i64 id0, .slice a0 l.length cap0] 24) := ⟨_, rfl⟩
  have HB : Hid (Below w.heap.size w W) := by show Below w.heap.size w W; rw [hW]; exact (Below.refl _ _).alloc (Nat.le_refl _) _
  have HI : Hid (Ints w a0 l) := hi
  have HG : Hid (Gl w) := hg
  have HL : Hid (l.length ≤ 9223372036854775807) := hl
  have HK0 : Hid (k0.size ≤ maxLen) := wk0
  have HWW : Hid (W = w.alloc (.cells #[.string k0, .int .i64 id0, .slice a0 l.length cap0] 24)) := hW
  have L0 := light_any k0 id0 a0 l cap0 W
  rw [hW] at L0
  clear hi hg hl wk0 hW
  have AW : Hid (∀ u, Below W.heap.size W u → Calls Tryd.prog 9 #[] u fun e w' => e = .returned (.bool true) ∧ Below u.heap.size u w') := fun u hu => awake_any u (HG.out.on (bel_on' HB.out hu))
  cases h0 : lightB k0 l
  · rw [h0] at L0
    go_enter Tryd.func4, Tryd.ntmps4
    go_wp2_with fail
    refine L0.mono ?_
    rintro e u1 ⟨rfl, hb_u1⟩
    have B_u1 : Hid (Below W.heap.size W u1) := by show Below W.heap.size W u1; rw [HWW.out]; exact hb_u1
    clear hb_u1 L0
    go_wp2_with fail
    refine (AW.out _ B_u1.out).mono ?_
    rintro e wz ⟨rfl, hbz⟩
    go_wp2
    go_ret
    exact ⟨rfl, bel_on' (bel_on' HB.out B_u1.out) hbz⟩
  rw [h0] at L0
  obtain ⟨_, hl20⟩ := light_len h0
  have HL4 : Hid (l.length ≤ 4611686018427387904) := by show _ ≤ _; omega
  clear hl20 h0
  by_cases h300 : (a1.size : Int) > 300
  · go_enter Tryd.func4, Tryd.ntmps4
    go_wp2_with fail
    refine L0.mono ?_
    rintro e u1 ⟨rfl, hb_u1⟩
    have B_u1 : Hid (Below W.heap.size W u1) := by show Below W.heap.size W u1; rw [HWW.out]; exact hb_u1
    clear hb_u1 L0
    go_wp2_with fail
    refine (AW.out _ B_u1.out).mono ?_
    rintro e wz ⟨rfl, hbz⟩
    go_wp2
    go_ret
    exact ⟨rfl, bel_on' (bel_on' HB.out B_u1.out) hbz⟩
  have HS0 : Hid (a1.size ≤ 300) := by show _ ≤ _; omega
  cases a2
  · have HS3 : Hid (a1.size ≤ 303) := by show _ ≤ _; have := HS0.out; omega
    go_enter Tryd.func4, Tryd.ntmps4
    go_wp2_with fail
    refine L0.mono ?_
    rintro e u1 ⟨rfl, hb_u1⟩
    have B_u1 : Hid (Below W.heap.size W u1) := by show Below W.heap.size W u1; rw [HWW.out]; exact hb_u1
    clear hb_u1 L0
    obtain ⟨p0_u1, p1_u1, p2_u1⟩ := box3 HWW.out B_u1.out
    cases hm : mayB k0 id0 l
    · have q0 : lineE k0 id0 l = 1 := by unfold lineE; rw [hm]; rfl
      have HM : Hid (mayB k0 id0 l = false) := hm
      have TL := line_any k0 id0 a0 l cap0 u1 HK0.out (HI.out.below (bel_on' HB.out B_u1.out)) HL.out (HG.out.on (bel_on' HB.out B_u1.out))
      rw [q0] at TL
      clear q0 hm
      obtain ⟨X, hX⟩ : ∃ X, lineV k0 id0 l = X := ⟨_, rfl⟩
      have HXS : Hid (X.size ≤ 63) := by show X.size ≤ 63; rw [← hX]; exact lineV_size
      rw [hX] at TL
      have HX : Hid (lineV k0 id0 l = X) := hX
      clear hX
      go_wp2_with fail
      refine (TL).mono ?_
      rintro e u3 ⟨rfl, hb_u3⟩
      have B_u3 : Hid (Below W.heap.size W u3) := bel_on' B_u1.out hb_u3
      clear hb_u3
      clear TL
      go_wp2_with fail
      refine (parse_any X _ (by have := HXS.out; omega) (HG.out.on (bel_on' HB.out B_u3.out))).mono ?_
      rintro e u4 ⟨k1, id1, l1, av1, cv1, er1, rfl, hin1, hll1, hpr1, hb_u4⟩
      have B_u4 : Hid (Below W.heap.size W u4) := bel_on' B_u3.out hb_u4
      have HI1 : Hid (Ints u4 av1 l1) := hin1
      clear hb_u4 hin1 hll1 hpr1
      obtain ⟨V, hV⟩ : ∃ V, V = u4.alloc (.cells #[.string k1, .int .i64 id1, .slice av1 l1.length cv1] 24) := ⟨_, rfl⟩
      have HV : Hid (V = u4.alloc (.cells #[.string k1, .int .i64 id1, .slice av1 l1.length cv1] 24)) := hV
      have B_V : Hid (Below W.heap.size W V) := by show Below W.heap.size W V; rw [hV]; exact B_u4.out.alloc B_u4.out.size _
      clear hV
      have TM := may_any k0 id0 a0 l cap0 V HK0.out (HI.out.below (bel_on' HB.out B_V.out)) HL.out
      rw [HM.out, HV.out] at TM
      obtain ⟨p0_u4, p1_u4, p2_u4⟩ := box3 HWW.out B_u4.out
      have hlt4 : w.heap.size < u4.heap.size := World.block_lt_of_cell? _ _ p0_u4
      go_wp2_with fail
      refine TM.mono ?_
      rintro e u5 ⟨rfl, hb_u5⟩
      have hb5 : Below V.heap.size V u5 := by rw [HV.out]; exact hb_u5
      have B_u5 : Hid (Below W.heap.size W u5) := bel_on' B_V.out hb5
      obtain ⟨v0, v1, v2⟩ := box3 HV.out hb5
      have HI5 : Hid (Ints u5 av1 l1) := HI1.out.below (bel_on' ((Below.refl u4.heap.size u4).alloc (Nat.le_refl _) _) hb_u5)
      clear hb_u5 hb5 TM
      obtain ⟨p0_u5, p1_u5, p2_u5⟩ := box3 HWW.out B_u5.out
      go_wp2_with fail
      refine (parse_any a1 _ (by have := HS3.out; omega) (HG.out.on (bel_on' HB.out B_u5.out))).mono ?_
      rintro e u7 ⟨k2, id2, l2, av2, cv2, er2, rfl, hin2, hll2, hpr2, hb_u7⟩
      have B_u7 : Hid (Below W.heap.size W u7) := bel_on' B_u5.out hb_u7
      have HI2 : Hid (Ints u7 av2 l2) := hin2
      have HLL2 : Hid (l2.length ≤ 1000) := hll2.1
      clear hb_u7 hin2 hll2
      by_cases her : er2 = 0
      · subst her
        obtain ⟨y1, y2, y3⟩ := line_of_read hpr2
        have HK2 : Hid (k2.size ≤ maxLen) := by show k2.size ≤ maxLen; have := (may_parts y3).2.1; unfold maxLen; omega
        have HL2 : Hid (l2.length ≤ 9223372036854775807) := by show _ ≤ _; have := HLL2.out; omega
        obtain ⟨V2, hV2⟩ : ∃ V, V = u7.alloc (.cells #[.string k2, .int .i64 id2, .slice av2 l2.length cv2] 24) := ⟨_, rfl⟩
        have HV2 : Hid (V2 = u7.alloc (.cells #[.string k2, .int .i64 id2, .slice av2 l2.length cv2] 24)) := hV2
        have B_V2 : Hid (Below W.heap.size W V2) := by show Below W.heap.size W V2; rw [hV2]; exact B_u7.out.alloc B_u7.out.size _
        have HI8 : Hid (Ints V2 av2 l2) := by show Ints V2 av2 l2; rw [hV2]; exact HI2.out.below ((Below.refl _ _).alloc (Nat.le_refl _) _)
        clear hV2
        have TL2 := line_any k2 id2 av2 l2 cv2 V2 HK2.out HI8.out HL2.out (HG.out.on (bel_on' HB.out B_V2.out))
        have TM2 : Hid (∀ u, Below V2.heap.size V2 u → Calls Tryd.prog 15 #[.agg #[.string k2, .int .i64 id2, .slice av2 l2.length cv2]] u fun e w' => e = .returned (.bool true) ∧ Below u.heap.size u w') := fun u hu => by
          have := may_any k2 id2 av2 l2 cv2 u HK2.out (HI8.out.below hu) HL2.out
          rwa [y3] at this
        rw [y1, HV2.out] at TL2
        obtain ⟨Z, hZ⟩ : ∃ Z, lineV k2 id2 l2 = Z := ⟨_, rfl⟩
        rw [hZ] at y2 TL2
        clear hZ y1 y3 hpr2
        go_wp2_with fail
        refine TL2.mono ?_
        rintro e u8 ⟨rfl, hb_u8⟩
        have hb8 : Below V2.heap.size V2 u8 := by rw [HV2.out]; exact hb_u8
        have H8 : Hid (Below V2.heap.size V2 u8) := hb8
        have B_u8 : Hid (Below W.heap.size W u8) := bel_on' B_V2.out hb8
        obtain ⟨x0, x1, x2⟩ := box3 HV2.out hb8
        clear hb_u8 hb8 TL2
        go_wp2_with fail
        refine (TM2.out _ H8.out).mono ?_
        rintro e u9 ⟨rfl, hb_u9⟩
        have B_u9 : Hid (Below W.heap.size W u9) := bel_on' B_u8.out hb_u9
        clear hb_u9
        go_wp2_with fail
        refine (AW.out _ B_u9.out).mono ?_
        rintro e wz ⟨rfl, hbz⟩
        go_wp2
        go_ret
        exact ⟨rfl, bel_on' (bel_on' HB.out B_u9.out) hbz⟩
      · obtain ⟨rfl, rfl⟩ := parse_none hpr2 her
        have hne : (er2 != 0) = true := by simpa using her
        have B_V2 : Hid (Below W.heap.size W (u7.alloc (.cells #[.string ⟨#[]⟩, .int .i64 id2, .slice av2 0 cv2] 24))) := B_u7.out.alloc B_u7.out.size _
        clear hpr2
        go_wp2_with fail
        refine (AW.out _ B_V2.out).mono ?_
        rintro e wz ⟨rfl, hbz⟩
        go_wp2
        go_ret
        exact ⟨rfl, bel_on' (bel_on' HB.out B_V2.out) hbz⟩
    · have q0 : lineE k0 id0 l = 0 := by unfold lineE; rw [hm]; rfl
      have HM : Hid (mayB k0 id0 l = true) := hm
      have HX0 : Hid (lineV k0 id0 l = sign (txt k0 id0 l)) := by show _ = _; unfold lineV; rw [if_pos hm]
      have TL := line_any k0 id0 a0 l cap0 u1 HK0.out (HI.out.below (bel_on' HB.out B_u1.out)) HL.out (HG.out.on (bel_on' HB.out B_u1.out))
      rw [q0] at TL
      clear q0 hm
      obtain ⟨X, hX⟩ : ∃ X, lineV k0 id0 l = X := ⟨_, rfl⟩
      have HXS : Hid (X.size ≤ 63) := by show X.size ≤ 63; rw [← hX]; exact lineV_size
      rw [hX] at TL
      have HX : Hid (lineV k0 id0 l = X) := hX
      clear hX
      go_wp2_with fail
      refine (TL).mono ?_
      rintro e u3 ⟨rfl, hb_u3⟩
      have B_u3 : Hid (Below W.heap.size W u3) := bel_on' B_u1.out hb_u3
      clear hb_u3
      clear TL
      go_wp2_with fail
      refine (parse_any X _ (by have := HXS.out; omega) (HG.out.on (bel_on' HB.out B_u3.out))).mono ?_
      rintro e u4 ⟨k1, id1, l1, av1, cv1, er1, rfl, hin1, hll1, hpr1, hb_u4⟩
      have B_u4 : Hid (Below W.heap.size W u4) := bel_on' B_u3.out hb_u4
      have HI1 : Hid (Ints u4 av1 l1) := hin1
      obtain ⟨rfl, rfl, rfl, rfl⟩ := ParseR.uniq hpr1 (show ParseR X k0 id0 l 0 by rw [← HX.out, HX0.out]; exact parse_line HM.out)
      clear hb_u4 hin1 hll1 hpr1
      obtain ⟨V, hV⟩ : ∃ V, V = u4.alloc (.cells #[.string k1, .int .i64 id1, .slice av1 l1.length cv1] 24) := ⟨_, rfl⟩
      have HV : Hid (V = u4.alloc (.cells #[.string k1, .int .i64 id1, .slice av1 l1.length cv1] 24)) := hV
      have B_V : Hid (Below W.heap.size W V) := by show Below W.heap.size W V; rw [hV]; exact B_u4.out.alloc B_u4.out.size _
      clear hV
      have TM := may_any k1 id1 a0 l1 cap0 V HK0.out (HI.out.below (bel_on' HB.out B_V.out)) HL.out
      rw [HM.out, HV.out] at TM
      obtain ⟨p0_u4, p1_u4, p2_u4⟩ := box3 HWW.out B_u4.out
      have hlt4 : w.heap.size < u4.heap.size := World.block_lt_of_cell? _ _ p0_u4
      go_wp2_with fail
      refine TM.mono ?_
      rintro e u5 ⟨rfl, hb_u5⟩
      have hb5 : Below V.heap.size V u5 := by rw [HV.out]; exact hb_u5
      have B_u5 : Hid (Below W.heap.size W u5) := bel_on' B_V.out hb5
      obtain ⟨v0, v1, v2⟩ := box3 HV.out hb5
      have HI5 : Hid (Ints u5 av1 l1) := HI1.out.below (bel_on' ((Below.refl u4.heap.size u4).alloc (Nat.le_refl _) _) hb_u5)
      clear hb_u5 hb5 TM
      obtain ⟨p0_u5, p1_u5, p2_u5⟩ := box3 HWW.out B_u5.out
      have TS := ref_same_entry k1 id1 a0 l1 cap0 k1 id1 av1 l1 cv1 u5 (HI.out.below (bel_on' HB.out B_u5.out)) HI5.out HL4.out
      rw [(same_iff k1 id1 l1 k1 id1 l1).2 ⟨rfl, rfl, rfl⟩] at TS
      have hx80 : ¬ (X.size : Int) > 80 := by have := HXS.out; omega
      go_wp2_with fail
      refine (TS).mono ?_
      rintro e u6 ⟨rfl, hb_u6⟩
      have B_u6 : Hid (Below W.heap.size W u6) := bel_on' B_u5.out hb_u6
      clear hb_u6
      clear TS
      go_wp2_with fail
      refine (parse_any a1 _ (by have := HS3.out; omega) (HG.out.on (bel_on' HB.out B_u6.out))).mono ?_
      rintro e u7 ⟨k2, id2, l2, av2, cv2, er2, rfl, hin2, hll2, hpr2, hb_u7⟩
      have B_u7 : Hid (Below W.heap.size W u7) := bel_on' B_u6.out hb_u7
      have HI2 : Hid (Ints u7 av2 l2) := hin2
      have HLL2 : Hid (l2.length ≤ 1000) := hll2.1
      clear hb_u7 hin2 hll2
      by_cases her : er2 = 0
      · subst her
        obtain ⟨y1, y2, y3⟩ := line_of_read hpr2
        have HK2 : Hid (k2.size ≤ maxLen) := by show k2.size ≤ maxLen; have := (may_parts y3).2.1; unfold maxLen; omega
        have HL2 : Hid (l2.length ≤ 9223372036854775807) := by show _ ≤ _; have := HLL2.out; omega
        obtain ⟨V2, hV2⟩ : ∃ V, V = u7.alloc (.cells #[.string k2, .int .i64 id2, .slice av2 l2.length cv2] 24) := ⟨_, rfl⟩
        have HV2 : Hid (V2 = u7.alloc (.cells #[.string k2, .int .i64 id2, .slice av2 l2.length cv2] 24)) := hV2
        have B_V2 : Hid (Below W.heap.size W V2) := by show Below W.heap.size W V2; rw [hV2]; exact B_u7.out.alloc B_u7.out.size _
        have HI8 : Hid (Ints V2 av2 l2) := by show Ints V2 av2 l2; rw [hV2]; exact HI2.out.below ((Below.refl _ _).alloc (Nat.le_refl _) _)
        clear hV2
        have TL2 := line_any k2 id2 av2 l2 cv2 V2 HK2.out HI8.out HL2.out (HG.out.on (bel_on' HB.out B_V2.out))
        have TM2 : Hid (∀ u, Below V2.heap.size V2 u → Calls Tryd.prog 15 #[.agg #[.string k2, .int .i64 id2, .slice av2 l2.length cv2]] u fun e w' => e = .returned (.bool true) ∧ Below u.heap.size u w') := fun u hu => by
          have := may_any k2 id2 av2 l2 cv2 u HK2.out (HI8.out.below hu) HL2.out
          rwa [y3] at this
        rw [y1, HV2.out] at TL2
        obtain ⟨Z, hZ⟩ : ∃ Z, lineV k2 id2 l2 = Z := ⟨_, rfl⟩
        rw [hZ] at y2 TL2
        clear hZ y1 y3 hpr2
        go_wp2_with fail
        refine TL2.mono ?_
        rintro e u8 ⟨rfl, hb_u8⟩
        have hb8 : Below V2.heap.size V2 u8 := by rw [HV2.out]; exact hb_u8
        have H8 : Hid (Below V2.heap.size V2 u8) := hb8
        have B_u8 : Hid (Below W.heap.size W u8) := bel_on' B_V2.out hb8
        obtain ⟨x0, x1, x2⟩ := box3 HV2.out hb8
        clear hb_u8 hb8 TL2
        go_wp2_with fail
        refine (TM2.out _ H8.out).mono ?_
        rintro e u9 ⟨rfl, hb_u9⟩
        have B_u9 : Hid (Below W.heap.size W u9) := bel_on' B_u8.out hb_u9
        clear hb_u9
        go_wp2_with fail
        refine (AW.out _ B_u9.out).mono ?_
        rintro e wz ⟨rfl, hbz⟩
        go_wp2
        go_ret
        exact ⟨rfl, bel_on' (bel_on' HB.out B_u9.out) hbz⟩
      · obtain ⟨rfl, rfl⟩ := parse_none hpr2 her
        have hne : (er2 != 0) = true := by simpa using her
        have B_V2 : Hid (Below W.heap.size W (u7.alloc (.cells #[.string ⟨#[]⟩, .int .i64 id2, .slice av2 0 cv2] 24))) := B_u7.out.alloc B_u7.out.size _
        clear hpr2
        go_wp2_with fail
        refine (AW.out _ B_V2.out).mono ?_
        rintro e wz ⟨rfl, hbz⟩
        go_wp2
        go_ret
        exact ⟨rfl, bel_on' (bel_on' HB.out B_V2.out) hbz⟩
  · have HS3 : Hid ((sign a1).size ≤ 303) := by show _ ≤ _; have := HS0.out; rw [sign_size]; omega
    have HA : Hid (a1.size ≤ 140737488355328) := by show _ ≤ _; have := HS0.out; omega
    go_enter Tryd.func4, Tryd.ntmps4
    go_wp2_with fail
    refine L0.mono ?_
    rintro e u1 ⟨rfl, hb_u1⟩
    have B_u1 : Hid (Below W.heap.size W u1) := by show Below W.heap.size W u1; rw [HWW.out]; exact hb_u1
    clear hb_u1 L0
    go_wp2_with fail
    refine (sign_any a1 _ HA.out).mono ?_
    rintro e u2 ⟨rfl, hb_u2⟩
    generalize sign a1 = SA at HS3 ⊢
    have B_u2 : Hid (Below W.heap.size W u2) := bel_on' B_u1.out hb_u2
    clear hb_u2
    obtain ⟨p0_u2, p1_u2, p2_u2⟩ := box3 HWW.out B_u2.out
    cases hm : mayB k0 id0 l
    · have q0 : lineE k0 id0 l = 1 := by unfold lineE; rw [hm]; rfl
      have HM : Hid (mayB k0 id0 l = false) := hm
      have TL := line_any k0 id0 a0 l cap0 u2 HK0.out (HI.out.below (bel_on' HB.out B_u2.out)) HL.out (HG.out.on (bel_on' HB.out B_u2.out))
      rw [q0] at TL
      clear q0 hm
      obtain ⟨X, hX⟩ : ∃ X, lineV k0 id0 l = X := ⟨_, rfl⟩
      have HXS : Hid (X.size ≤ 63) := by show X.size ≤ 63; rw [← hX]; exact lineV_size
      rw [hX] at TL
      have HX : Hid (lineV k0 id0 l = X) := hX
      clear hX
      go_wp2_with fail
      refine (TL).mono ?_
      rintro e u3 ⟨rfl, hb_u3⟩
      have B_u3 : Hid (Below W.heap.size W u3) := bel_on' B_u2.out hb_u3
      clear hb_u3
      clear TL
      go_wp2_with fail
      refine (parse_any X _ (by have := HXS.out; omega) (HG.out.on (bel_on' HB.out B_u3.out))).mono ?_
      rintro e u4 ⟨k1, id1, l1, av1, cv1, er1, rfl, hin1, hll1, hpr1, hb_u4⟩
      have B_u4 : Hid (Below W.heap.size W u4) := bel_on' B_u3.out hb_u4
      have HI1 : Hid (Ints u4 av1 l1) := hin1
      clear hb_u4 hin1 hll1 hpr1
      obtain ⟨V, hV⟩ : ∃ V, V = u4.alloc (.cells #[.string k1, .int .i64 id1, .slice av1 l1.length cv1] 24) := ⟨_, rfl⟩
      have HV : Hid (V = u4.alloc (.cells #[.string k1, .int .i64 id1, .slice av1 l1.length cv1] 24)) := hV
      have B_V : Hid (Below W.heap.size W V) := by show Below W.heap.size W V; rw [hV]; exact B_u4.out.alloc B_u4.out.size _
      clear hV
      have TM := may_any k0 id0 a0 l cap0 V HK0.out (HI.out.below (bel_on' HB.out B_V.out)) HL.out
      rw [HM.out, HV.out] at TM
      obtain ⟨p0_u4, p1_u4, p2_u4⟩ := box3 HWW.out B_u4.out
      have hlt4 : w.heap.size < u4.heap.size := World.block_lt_of_cell? _ _ p0_u4
      go_wp2_with fail
      refine TM.mono ?_
      rintro e u5 ⟨rfl, hb_u5⟩
      have hb5 : Below V.heap.size V u5 := by rw [HV.out]; exact hb_u5
      have B_u5 : Hid (Below W.heap.size W u5) := bel_on' B_V.out hb5
      obtain ⟨v0, v1, v2⟩ := box3 HV.out hb5
      have HI5 : Hid (Ints u5 av1 l1) := HI1.out.below (bel_on' ((Below.refl u4.heap.size u4).alloc (Nat.le_refl _) _) hb_u5)
      clear hb_u5 hb5 TM
      obtain ⟨p0_u5, p1_u5, p2_u5⟩ := box3 HWW.out B_u5.out
      go_wp2_with fail
      refine (parse_any SA _ (by have := HS3.out; omega) (HG.out.on (bel_on' HB.out B_u5.out))).mono ?_
      rintro e u7 ⟨k2, id2, l2, av2, cv2, er2, rfl, hin2, hll2, hpr2, hb_u7⟩
      have B_u7 : Hid (Below W.heap.size W u7) := bel_on' B_u5.out hb_u7
      have HI2 : Hid (Ints u7 av2 l2) := hin2
      have HLL2 : Hid (l2.length ≤ 1000) := hll2.1
      clear hb_u7 hin2 hll2
      by_cases her : er2 = 0
      · subst her
        obtain ⟨y1, y2, y3⟩ := line_of_read hpr2
        have HK2 : Hid (k2.size ≤ maxLen) := by show k2.size ≤ maxLen; have := (may_parts y3).2.1; unfold maxLen; omega
        have HL2 : Hid (l2.length ≤ 9223372036854775807) := by show _ ≤ _; have := HLL2.out; omega
        obtain ⟨V2, hV2⟩ : ∃ V, V = u7.alloc (.cells #[.string k2, .int .i64 id2, .slice av2 l2.length cv2] 24) := ⟨_, rfl⟩
        have HV2 : Hid (V2 = u7.alloc (.cells #[.string k2, .int .i64 id2, .slice av2 l2.length cv2] 24)) := hV2
        have B_V2 : Hid (Below W.heap.size W V2) := by show Below W.heap.size W V2; rw [hV2]; exact B_u7.out.alloc B_u7.out.size _
        have HI8 : Hid (Ints V2 av2 l2) := by show Ints V2 av2 l2; rw [hV2]; exact HI2.out.below ((Below.refl _ _).alloc (Nat.le_refl _) _)
        clear hV2
        have TL2 := line_any k2 id2 av2 l2 cv2 V2 HK2.out HI8.out HL2.out (HG.out.on (bel_on' HB.out B_V2.out))
        have TM2 : Hid (∀ u, Below V2.heap.size V2 u → Calls Tryd.prog 15 #[.agg #[.string k2, .int .i64 id2, .slice av2 l2.length cv2]] u fun e w' => e = .returned (.bool true) ∧ Below u.heap.size u w') := fun u hu => by
          have := may_any k2 id2 av2 l2 cv2 u HK2.out (HI8.out.below hu) HL2.out
          rwa [y3] at this
        rw [y1, HV2.out] at TL2
        obtain ⟨Z, hZ⟩ : ∃ Z, lineV k2 id2 l2 = Z := ⟨_, rfl⟩
        rw [hZ] at y2 TL2
        clear hZ y1 y3 hpr2
        go_wp2_with fail
        refine TL2.mono ?_
        rintro e u8 ⟨rfl, hb_u8⟩
        have hb8 : Below V2.heap.size V2 u8 := by rw [HV2.out]; exact hb_u8
        have H8 : Hid (Below V2.heap.size V2 u8) := hb8
        have B_u8 : Hid (Below W.heap.size W u8) := bel_on' B_V2.out hb8
        obtain ⟨x0, x1, x2⟩ := box3 HV2.out hb8
        clear hb_u8 hb8 TL2
        go_wp2_with fail
        refine (TM2.out _ H8.out).mono ?_
        rintro e u9 ⟨rfl, hb_u9⟩
        have B_u9 : Hid (Below W.heap.size W u9) := bel_on' B_u8.out hb_u9
        clear hb_u9
        go_wp2_with fail
        refine (AW.out _ B_u9.out).mono ?_
        rintro e wz ⟨rfl, hbz⟩
        go_wp2
        go_ret
        exact ⟨rfl, bel_on' (bel_on' HB.out B_u9.out) hbz⟩
      · obtain ⟨rfl, rfl⟩ := parse_none hpr2 her
        have hne : (er2 != 0) = true := by simpa using her
        have B_V2 : Hid (Below W.heap.size W (u7.alloc (.cells #[.string ⟨#[]⟩, .int .i64 id2, .slice av2 0 cv2] 24))) := B_u7.out.alloc B_u7.out.size _
        clear hpr2
        go_wp2_with fail
        refine (AW.out _ B_V2.out).mono ?_
        rintro e wz ⟨rfl, hbz⟩
        go_wp2
        go_ret
        exact ⟨rfl, bel_on' (bel_on' HB.out B_V2.out) hbz⟩
    · have q0 : lineE k0 id0 l = 0 := by unfold lineE; rw [hm]; rfl
      have HM : Hid (mayB k0 id0 l = true) := hm
      have HX0 : Hid (lineV k0 id0 l = sign (txt k0 id0 l)) := by show _ = _; unfold lineV; rw [if_pos hm]
      have TL := line_any k0 id0 a0 l cap0 u2 HK0.out (HI.out.below (bel_on' HB.out B_u2.out)) HL.out (HG.out.on (bel_on' HB.out B_u2.out))
      rw [q0] at TL
      clear q0 hm
      obtain ⟨X, hX⟩ : ∃ X, lineV k0 id0 l = X := ⟨_, rfl⟩
      have HXS : Hid (X.size ≤ 63) := by show X.size ≤ 63; rw [← hX]; exact lineV_size
      rw [hX] at TL
      have HX : Hid (lineV k0 id0 l = X) := hX
      clear hX
      go_wp2_with fail
      refine (TL).mono ?_
      rintro e u3 ⟨rfl, hb_u3⟩
      have B_u3 : Hid (Below W.heap.size W u3) := bel_on' B_u2.out hb_u3
      clear hb_u3
      clear TL
      go_wp2_with fail
      refine (parse_any X _ (by have := HXS.out; omega) (HG.out.on (bel_on' HB.out B_u3.out))).mono ?_
      rintro e u4 ⟨k1, id1, l1, av1, cv1, er1, rfl, hin1, hll1, hpr1, hb_u4⟩
      have B_u4 : Hid (Below W.heap.size W u4) := bel_on' B_u3.out hb_u4
      have HI1 : Hid (Ints u4 av1 l1) := hin1
      obtain ⟨rfl, rfl, rfl, rfl⟩ := ParseR.uniq hpr1 (show ParseR X k0 id0 l 0 by rw [← HX.out, HX0.out]; exact parse_line HM.out)
      clear hb_u4 hin1 hll1 hpr1
      obtain ⟨V, hV⟩ : ∃ V, V = u4.alloc (.cells #[.string k1, .int .i64 id1, .slice av1 l1.length cv1] 24) := ⟨_, rfl⟩
      have HV : Hid (V = u4.alloc (.cells #[.string k1, .int .i64 id1, .slice av1 l1.length cv1] 24)) := hV
      have B_V : Hid (Below W.heap.size W V) := by show Below W.heap.size W V; rw [hV]; exact B_u4.out.alloc B_u4.out.size _
      clear hV
      have TM := may_any k1 id1 a0 l1 cap0 V HK0.out (HI.out.below (bel_on' HB.out B_V.out)) HL.out
      rw [HM.out, HV.out] at TM
      obtain ⟨p0_u4, p1_u4, p2_u4⟩ := box3 HWW.out B_u4.out
      have hlt4 : w.heap.size < u4.heap.size := World.block_lt_of_cell? _ _ p0_u4
      go_wp2_with fail
      refine TM.mono ?_
      rintro e u5 ⟨rfl, hb_u5⟩
      have hb5 : Below V.heap.size V u5 := by rw [HV.out]; exact hb_u5
      have B_u5 : Hid (Below W.heap.size W u5) := bel_on' B_V.out hb5
      obtain ⟨v0, v1, v2⟩ := box3 HV.out hb5
      have HI5 : Hid (Ints u5 av1 l1) := HI1.out.below (bel_on' ((Below.refl u4.heap.size u4).alloc (Nat.le_refl _) _) hb_u5)
      clear hb_u5 hb5 TM
      obtain ⟨p0_u5, p1_u5, p2_u5⟩ := box3 HWW.out B_u5.out
      have TS := ref_same_entry k1 id1 a0 l1 cap0 k1 id1 av1 l1 cv1 u5 (HI.out.below (bel_on' HB.out B_u5.out)) HI5.out HL4.out
      rw [(same_iff k1 id1 l1 k1 id1 l1).2 ⟨rfl, rfl, rfl⟩] at TS
      have hx80 : ¬ (X.size : Int) > 80 := by have := HXS.out; omega
      go_wp2_with fail
      refine (TS).mono ?_
      rintro e u6 ⟨rfl, hb_u6⟩
      have B_u6 : Hid (Below W.heap.size W u6) := bel_on' B_u5.out hb_u6
      clear hb_u6
      clear TS
      go_wp2_with fail
      refine (parse_any SA _ (by have := HS3.out; omega) (HG.out.on (bel_on' HB.out B_u6.out))).mono ?_
      rintro e u7 ⟨k2, id2, l2, av2, cv2, er2, rfl, hin2, hll2, hpr2, hb_u7⟩
      have B_u7 : Hid (Below W.heap.size W u7) := bel_on' B_u6.out hb_u7
      have HI2 : Hid (Ints u7 av2 l2) := hin2
      have HLL2 : Hid (l2.length ≤ 1000) := hll2.1
      clear hb_u7 hin2 hll2
      by_cases her : er2 = 0
      · subst her
        obtain ⟨y1, y2, y3⟩ := line_of_read hpr2
        have HK2 : Hid (k2.size ≤ maxLen) := by show k2.size ≤ maxLen; have := (may_parts y3).2.1; unfold maxLen; omega
        have HL2 : Hid (l2.length ≤ 9223372036854775807) := by show _ ≤ _; have := HLL2.out; omega
        obtain ⟨V2, hV2⟩ : ∃ V, V = u7.alloc (.cells #[.string k2, .int .i64 id2, .slice av2 l2.length cv2] 24) := ⟨_, rfl⟩
        have HV2 : Hid (V2 = u7.alloc (.cells #[.string k2, .int .i64 id2, .slice av2 l2.length cv2] 24)) := hV2
        have B_V2 : Hid (Below W.heap.size W V2) := by show Below W.heap.size W V2; rw [hV2]; exact B_u7.out.alloc B_u7.out.size _
        have HI8 : Hid (Ints V2 av2 l2) := by show Ints V2 av2 l2; rw [hV2]; exact HI2.out.below ((Below.refl _ _).alloc (Nat.le_refl _) _)
        clear hV2
        have TL2 := line_any k2 id2 av2 l2 cv2 V2 HK2.out HI8.out HL2.out (HG.out.on (bel_on' HB.out B_V2.out))
        have TM2 : Hid (∀ u, Below V2.heap.size V2 u → Calls Tryd.prog 15 #[.agg #[.string k2, .int .i64 id2, .slice av2 l2.length cv2]] u fun e w' => e = .returned (.bool true) ∧ Below u.heap.size u w') := fun u hu => by
          have := may_any k2 id2 av2 l2 cv2 u HK2.out (HI8.out.below hu) HL2.out
          rwa [y3] at this
        rw [y1, HV2.out] at TL2
        obtain ⟨Z, hZ⟩ : ∃ Z, lineV k2 id2 l2 = Z := ⟨_, rfl⟩
        rw [hZ] at y2 TL2
        clear hZ y1 y3 hpr2
        go_wp2_with fail
        refine TL2.mono ?_
        rintro e u8 ⟨rfl, hb_u8⟩
        have hb8 : Below V2.heap.size V2 u8 := by rw [HV2.out]; exact hb_u8
        have H8 : Hid (Below V2.heap.size V2 u8) := hb8
        have B_u8 : Hid (Below W.heap.size W u8) := bel_on' B_V2.out hb8
        obtain ⟨x0, x1, x2⟩ := box3 HV2.out hb8
        clear hb_u8 hb8 TL2
        go_wp2_with fail
        refine (TM2.out _ H8.out).mono ?_
        rintro e u9 ⟨rfl, hb_u9⟩
        have B_u9 : Hid (Below W.heap.size W u9) := bel_on' B_u8.out hb_u9
        clear hb_u9
        go_wp2_with fail
        refine (AW.out _ B_u9.out).mono ?_
        rintro e wz ⟨rfl, hbz⟩
        go_wp2
        go_ret
        exact ⟨rfl, bel_on' (bel_on' HB.out B_u9.out) hbz⟩
      · obtain ⟨rfl, rfl⟩ := parse_none hpr2 her
        have hne : (er2 != 0) = true := by simpa using her
        have B_V2 : Hid (Below W.heap.size W (u7.alloc (.cells #[.string ⟨#[]⟩, .int .i64 id2, .slice av2 0 cv2] 24))) := B_u7.out.alloc B_u7.out.size _
        clear hpr2
        go_wp2_with fail
        refine (AW.out _ B_V2.out).mono ?_
        rintro e wz ⟨rfl, hbz⟩
        go_wp2
        go_ret
        exact ⟨rfl, bel_on' (bel_on' HB.out B_V2.out) hbz⟩
end Go.Proofs.YthcjlieegihdlaaDoor
