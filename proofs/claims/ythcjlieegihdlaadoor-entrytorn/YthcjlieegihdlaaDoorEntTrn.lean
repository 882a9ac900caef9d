/-
  EntryTorn: a line with a byte less, or one that is changed, is none; a beginning of a line never is.
-/
import Derived.Test.YthcjlieegihdlaaDoorEntTrnM
import Derived.Test.YthcjlieegihdlaaDoorByt
import Derived.Test.YthcjlieegihdlaaDoorNum
import Derived.Lib.ConvBytes
import Derived.Laws.BitsAllLaws
namespace Go.Proofs.YthcjlieegihdlaaDoor
open Go.ChangeShapes Go.WideShapes Go.ChangeAt Go.RowKit

theorem xor_u8' (b x : UInt8) : bits .xor .u8 (b.toNat : Int) (x.toNat : Int) = ((b ^^^ x).toNat : Int) := by
  rw [u8_xor_nat _ _ b.toNat_lt x.toNat_lt]
  simp
theorem u8_of' {n : Int} (h : (Lit.int .u8 n).wf = true) : ((UInt8.ofNat n.toNat).toNat : Int) = n := by
  simp only [Lit.wf, Bool.and_eq_true, decide_eq_true_eq] at h
  have h1 : IntKind.u8.min = 0 := rfl
  have h2 : IntKind.u8.max = 255 := rfl
  rw [h1, h2] at h
  rw [UInt8.toNat_ofNat']
  omega

theorem txt_least {k : ByteArray} {id : Int} {l : List Int} (h : mayB k id l = true) : 3 ≤ (txt k id l).size := by
  obtain ⟨h1, _⟩ := may_parts h
  have e : (txt k id l).size = (Lib.join (wordsL k id l) [32]).length := by simp [txt, ByteArray.size]
  have hk : k.data.toList.length = k.size := Array.length_toList
  have hi : 1 ≤ (Lib.itoa id).length := by
    have := itoa_ne id
    cases hc : Lib.itoa id with
    | nil => exact absurd hc this
    | cons => simp
  rw [e, wordsL, Lib.join_length]
  simp only [Lib.lens, List.map_cons, List.sum_cons, List.length_cons, List.length_nil]
  omega
theorem light_may {k : ByteArray} {id : Int} {l : List Int} (h : mayB k id l = true) : lightB k l = true := by
  obtain ⟨_, h2, _, _, _, h6, _⟩ := may_parts h
  unfold lightB
  simp
  omega
theorem parse_unread {s k : ByteArray} {id : Int} {l : List Int} {er : Int} (hr : readB s = false) (h : ParseR s k id l er) : er ≠ 0 := by
  rcases h with ⟨_, _, _, h4, _⟩ | ⟨h1, _⟩
  · rw [hr] at h4; cases h4
  · exact h1
theorem parse_changed {k : ByteArray} {id : Int} {l : List Int} (h : mayB k id l = true) (p : Nat) (x b : UInt8) (hp : p < (sign (txt k id l)).data.toList.length) (hb : (sign (txt k id l)).data.toList[p] ^^^ x = b)
    {k' : ByteArray} {id' : Int} {l' : List Int} {er : Int} (hpr : ParseR ⟨((sign (txt k id l)).data.toList.set p b).toArray⟩ k' id' l' er) : (er == 0) = (x == 0) := by
  by_cases hx : x = 0
  · subst hx
    have e : b = (sign (txt k id l)).data.toList[p] := by rw [← hb]; simp
    have e2 : (⟨((sign (txt k id l)).data.toList.set p b).toArray⟩ : ByteArray) = sign (txt k id l) := by
      apply bytes_ext
      show ((sign (txt k id l)).data.toList.set p b) = _
      rw [e, List.set_getElem_self]
    rw [e2] at hpr
    obtain ⟨_, _, _, e4⟩ := ParseR.uniq hpr (parse_line h)
    rw [e4]; rfl
  · have hne : b ≠ (sign (txt k id l)).data.toList[p] := fun e => hx ((xor_same _ _).1 (hb.trans e))
    have h1 := parse_unread (change_none _ p b hp hne) hpr
    have : (x == 0) = false := by simpa using hx
    rw [this]
    simpa using h1

set_option maxRecDepth 100000 in
set_option maxHeartbeats 1000000 in
theorem entryTorn_walk (k0 : ByteArray) (id0 : Int) (a0 : Option Addr) (len0 cap0 : Nat) (z0 : List Int) (a1 : Int) (a2 : Int) (a3 : Int) (w : World)
    (wk0 : k0.size ≤ maxLen) (_wi0 : (Lit.int .i64 id0).wf = true) (w0 : IsRow .i64 w a0 len0 cap0 z0) (_w1 : (Lit.int .i64 a1).wf = true) (_w2 : (Lit.int .i64 a2).wf = true) (w3 : (Lit.int .u8 a3).wf = true) (hg : Gl w) :
    Calls Tryd.prog 5 #[.agg #[.string k0, .int .i64 id0, .slice a0 len0 cap0], .int .i64 a1, .int .i64 a2, .int .u8 a3] w fun e w' => e = .returned (.bool true) ∧ Below w.heap.size w w' := by
  obtain ⟨l, rfl, hl, hi⟩ := w0.ints
  clear w0 _wi0 _w1 _w2
  obtain ⟨W, hW⟩ : ∃ W, W = w.alloc (.cells #[.string k0, .int .i64 id0, .slice a0 l.length cap0] 24) := ⟨_, rfl⟩
  have HB : Hid (Below w.heap.size w W) := by show Below w.heap.size w W; rw [hW]; exact (Below.refl _ _).alloc (Nat.le_refl _) _
  have HG : Hid (Gl w) := hg
  have HWW : Hid (W = w.alloc (.cells #[.string k0, .int .i64 id0, .slice a0 l.length cap0] 24)) := hW
  have TL := line_any k0 id0 a0 l cap0 W wk0 (hi.below HB.out) hl (hg.on HB.out)
  rw [hW] at TL
  clear hi hg hl wk0 hW
  have AW : Hid (∀ u, Below W.heap.size W u → Calls Tryd.prog 9 #[] u fun e w' => e = .returned (.bool true) ∧ Below u.heap.size u w') := fun u hu => awake_any u (HG.out.on (bel_on' HB.out hu))
  cases hm : mayB k0 id0 l
  · have q0 : lineE k0 id0 l = 1 := by unfold lineE; rw [hm]; rfl
    rw [q0] at TL
    clear q0 hm
    go_enter Tryd.func5, Tryd.ntmps5
    go_wp2_with fail
    refine TL.mono ?_
    rintro e u1 ⟨rfl, hb_u1⟩
    have B_u1 : Hid (Below W.heap.size W u1) := by show Below W.heap.size W u1; rw [HWW.out]; exact hb_u1
    clear hb_u1 TL
    go_wp2_with fail
    refine (AW.out _ B_u1.out).mono ?_
    rintro e wz ⟨rfl, hbz⟩
    go_wp2
    go_ret
    exact ⟨rfl, bel_on' (bel_on' HB.out B_u1.out) hbz⟩
  have q0 : lineE k0 id0 l = 0 := by unfold lineE; rw [hm]; rfl
  have q1 : lineV k0 id0 l = sign (txt k0 id0 l) := by unfold lineV; rw [if_pos hm]
  rw [q0, q1] at TL
  have LT : ∀ u, Calls Tryd.prog 8 #[.agg #[.string k0, .int .i64 id0, .slice a0 l.length cap0]] u fun e w' => e = .returned (.bool true) ∧ Below u.heap.size u w' := fun u => by
    have := light_any k0 id0 a0 l cap0 u
    rwa [light_may hm] at this
  have hX6 : 6 ≤ (sign (txt k0 id0 l)).size := by rw [sign_size]; have := txt_least hm; omega
  have hX63 : (sign (txt k0 id0 l)).size ≤ 63 := by rw [sign_size]; have := txt_size hm; omega
  have HTN : Hid (∀ n, n < (sign (txt k0 id0 l)).size → readB ((sign (txt k0 id0 l)).extract 0 n) = false) := fun n hn => torn_none hm n hn
  have HPC : Hid (∀ (p : Nat) (x b : UInt8) (hp : p < (sign (txt k0 id0 l)).data.toList.length), (sign (txt k0 id0 l)).data.toList[p] ^^^ x = b → ∀ (k' : ByteArray) (id' : Int) (l' : List Int) (er : Int), ParseR ⟨((sign (txt k0 id0 l)).data.toList.set p b).toArray⟩ k' id' l' er → (er == 0) = (x == 0)) := fun p x b hp hb k' id' l' er h => parse_changed hm p x b hp hb h
  generalize sign (txt k0 id0 l) = X at TL hX6 hX63 HTN HPC
  clear q0 q1 hm
  have HXL : Hid (X.data.toList.length = X.size) := Array.length_toList
  obtain ⟨c0, c1⟩ := um_bd a1 (X.size : Int) (by omega) (by omega)
  obtain ⟨c, hc⟩ : ∃ c : Nat, um a1 (X.size : Int) = c := ⟨(um a1 (X.size : Int)).toNat, by omega⟩
  obtain ⟨d0, d1⟩ := um_bd a2 (X.size : Int) (by omega) (by omega)
  obtain ⟨d, hd⟩ : ∃ d : Nat, um a2 (X.size : Int) = d := ⟨(um a2 (X.size : Int)).toNat, by omega⟩
  have hcX : c < X.size := by omega
  have hdX : d < X.size := by omega
  unfold um at hc hd
  clear c0 c1 d0 d1
  obtain ⟨x, hx⟩ : ∃ x : UInt8, (x.toNat : Int) = a3 := ⟨_, u8_of' w3⟩
  subst hx
  clear w3
  go_enter Tryd.func5, Tryd.ntmps5
  go_wp2_with fail
  refine TL.mono ?_
  rintro e u1 ⟨rfl, hb_u1⟩
  have B_u1 : Hid (Below W.heap.size W u1) := by show Below W.heap.size W u1; rw [HWW.out]; exact hb_u1
  clear hb_u1 TL
  obtain ⟨p0, p1, p2⟩ := box3 HWW.out B_u1.out
  go_wp2_with fail
  refine (LT _).mono ?_
  rintro e u2 ⟨rfl, hb_u2⟩
  have B_u2 : Hid (Below W.heap.size W u2) := bel_on' B_u1.out hb_u2
  clear hb_u2 LT p0 p1 p2
  go_wp2_with fail
  refine (parse_any (X.extract 0 c) _ (by simp; omega) (HG.out.on (bel_on' HB.out B_u2.out))).mono ?_
  rintro e u4 ⟨k1, id1, l1, av1, cv1, er1, rfl, hin1, hll1, hpr1, hb_u4⟩
  have her1 := parse_unread (HTN.out c hcX) hpr1
  have q1 : (er1 != 0) = true := by simpa using her1
  have B_u4 : Hid (Below W.heap.size W u4) := bel_on' B_u2.out hb_u4
  clear hin1 hll1 hpr1 hb_u4 her1 HTN
  have hcv := Lib.run_convert_string_bytes (P := Tryd.prog) (u4.alloc (.cells #[.string k1, .int .i64 id1, .slice av1 l1.length cv1] 24)) 9 37 5 X Tryd.underlying9 Tryd.underlying37 Tryd.underlying5
  have hsz : (u4.alloc (.cells #[.string k1, .int .i64 id1, .slice av1 l1.length cv1] 24)).heap.size = u4.heap.size + 1 := by simp
  have hcl := Lib.bytesWorld_cell (u4.alloc (.cells #[.string k1, .int .i64 id1, .slice av1 l1.length cv1] 24)) 5 X
  have hnw := Lib.bytesWorld_at_new (u4.alloc (.cells #[.string k1, .int .i64 id1, .slice av1 l1.length cv1] 24)) 5 X
  have hbl := Lib.bytesWorld_below (u4.alloc (.cells #[.string k1, .int .i64 id1, .slice av1 l1.length cv1] 24)) 5 X
  have hbs : X.size ≤ (Lib.bytesCells (u4.alloc (.cells #[.string k1, .int .i64 id1, .slice av1 l1.length cv1] 24)) 5 X).size := by
    unfold Lib.bytesCells
    simp
  have HBV : Hid (Below W.heap.size W (u4.alloc (.cells #[.string k1, .int .i64 id1, .slice av1 l1.length cv1] 24))) := B_u4.out.alloc B_u4.out.size _
  obtain ⟨Q, hQ⟩ : ∃ Q, Lib.bytesWorld (u4.alloc (.cells #[.string k1, .int .i64 id1, .slice av1 l1.length cv1] 24)) 5 X = Q := ⟨_, rfl⟩
  rw [hQ] at hcv hcl hnw hbl
  rw [hsz] at hcv hcl hnw
  have fz : Q.frozen? ⟨u4.heap.size + 1, d, none⟩ = false := by
    unfold World.frozen?
    rw [hnw]
    simp
    omega
  have B_Q : Hid (Below W.heap.size W Q) := bel_on' HBV.out hbl
  obtain ⟨P, hP⟩ : ∃ P, X.data.toList.getD d 0 = P := ⟨_, rfl⟩
  obtain ⟨Y, hY⟩ : ∃ Y, P ^^^ x = Y := ⟨_, rfl⟩
  have hxo : bits .xor .u8 (P.toNat : Int) (x.toNat : Int) = (Y.toNat : Int) := by rw [xor_u8', hY]
  have cd := hcl d hdX
  rw [hP] at cd
  have hW1 : W.heap.size ≤ u4.heap.size + 1 := by have := B_u4.out.size; omega
  have B_Q2 : Hid (Below W.heap.size W (Q.setCell ⟨u4.heap.size + 1, d, none⟩ (.int .u8 (Y.toNat : Int)))) := B_Q.out.setCell hW1 _
  have bY : Bys (Q.setCell ⟨u4.heap.size + 1, d, none⟩ (.int .u8 (Y.toNat : Int))) (some ⟨u4.heap.size + 1, 0, none⟩) (X.data.toList.set d Y) := by
    refine .inr ⟨u4.heap.size + 1, 0, rfl, fun i hi => ?_⟩
    have hi' : i < X.size := by rw [List.length_set, HXL.out] at hi; exact hi
    by_cases e : i = d
    · subst e
      have : (X.data.toList.set i Y).getD i 0 = Y := by rw [List.getD, List.getElem?_set_self (by rw [HXL.out]; exact hi')]; rfl
      rw [this, Nat.zero_add]
      exact World.cell?_setCell_same _ _ _ cd
    · have : (X.data.toList.set d Y).getD i 0 = X.data.toList.getD i 0 := by simp [List.getD, List.getElem?_set_ne (fun h => e h.symm)]
      rw [this, Nat.zero_add, World.cell?_setCell_other _ _ _ _ (by intro h; cases h; exact e rfl)]
      exact hcl i hi'
  obtain ⟨cap, hcap⟩ : ∃ cap, grownCap (u4.alloc (.cells #[.string k1, .int .i64 id1, .slice av1 l1.length cv1] 24)) X.size 0 5 = cap := ⟨_, rfl⟩
  rw [hcap] at hcv
  have vY := bY.conv cap
  rw [List.length_set, HXL.out] at vY
  have HYY : Hid (X.data.toList[d]'(by rw [HXL.out]; exact hdX) ^^^ x = Y) := by
    show _ = _
    rw [← hY, ← hP]
    simp [List.getD, HXL.out, hdX]
  have hZs : (⟨(X.data.toList.set d Y).toArray⟩ : ByteArray).size ≤ 63 := by
    show (X.data.toList.set d Y).toArray.size ≤ 63
    rw [List.size_toArray, List.length_set, HXL.out]; omega
  have HPZ : Hid (∀ (k' : ByteArray) (id' : Int) (l' : List Int) (er : Int), ParseR ⟨(X.data.toList.set d Y).toArray⟩ k' id' l' er → (er == 0) = (x == 0)) := fun k' id' l' er h => HPC.out d x Y (by rw [HXL.out]; exact hdX) HYY.out k' id' l' er h
  generalize (⟨(X.data.toList.set d Y).toArray⟩ : ByteArray) = Z at vY hZs HPZ
  have HZS : Hid (Z.size ≤ 63) := hZs
  clear hcl hnw hbl hbs hsz hQ hcap hP hY bY hZs HYY HPC hW1
  have hd0 : (0 : Int) ≤ (d : Int) := by omega
  have hd1 : (d : Int) < (X.size : Int) := by omega
  go_wp2_with fail
  refine (parse_any Z _ (by have := HZS.out; omega) (HG.out.on (bel_on' HB.out B_Q2.out))).mono ?_
  rintro e u6 ⟨k2, id2, l2, av2, cv2, er2, rfl, hin2, hll2, hpr2, hb_u6⟩
  have q2 := HPZ.out _ _ _ _ hpr2
  have q3 : ((x.toNat : Int) == 0) = (x == 0) := by
    rw [Bool.eq_iff_iff]
    simp only [beq_iff_eq]
    constructor
    · intro h
      apply UInt8.toNat_inj.1
      show x.toNat = 0
      omega
    · rintro rfl
      rfl
  have B_u6 : Hid (Below W.heap.size W u6) := bel_on' B_Q2.out hb_u6
  obtain ⟨bb, hbb⟩ : ∃ bb, (x == 0) = bb := ⟨_, rfl⟩
  rw [hbb] at q2 q3
  have HBX : Hid (Below W.heap.size W (u6.alloc (.cells #[.string k2, .int .i64 id2, .slice av2 l2.length cv2] 24))) := B_u6.out.alloc B_u6.out.size _
  clear hbb hin2 hll2 hpr2 hb_u6 hcv vY fz cd hxo HPZ
  cases bb
  · go_wp2_with fail
    refine (AW.out _ HBX.out).mono ?_
    rintro e wz ⟨rfl, hbz⟩
    go_wp2
    go_ret
    exact ⟨rfl, bel_on' (bel_on' HB.out HBX.out) hbz⟩
  · go_wp2_with fail
    refine (AW.out _ HBX.out).mono ?_
    rintro e wz ⟨rfl, hbz⟩
    go_wp2
    go_ret
    exact ⟨rfl, bel_on' (bel_on' HB.out HBX.out) hbz⟩
end Go.Proofs.YthcjlieegihdlaaDoor
