/-
  Contracts of the reference's Take, Double.
-/
import Derived.Test.YtmndemjjfhdfdaaPstR
namespace Go.Proofs.Ytmndemjjfhdfdaa
open Go.ChangeShapes Go.WideShapes Go.ChangeAt Go.RowKit

set_option maxHeartbeats 4000000 in
set_option maxRecDepth 100000 in
theorem rtake_any {B : Nat} {F : Nat → Prop} {w : World} {q : Nat} {s : Ps} (k : Rq B F w q s) (i : Int) :
    Calls Try.prog 15 #[.pointer (some ⟨q, 0, none⟩), .int .i64 i] w fun e w' => e = .returned (.tuple #[.agg #[.int .i64 (atPs s.l i).k, .int .i64 (atPs s.l i).fr, .int .i64 (atPs s.l i).to, .int .i64 (atPs s.l i).id, .int .i64 (atPs s.l i).st, .int .i64 (atPs s.l i).a, .int .i64 (atPs s.l i).b], .bool (inP s.l i)]) ∧ Rq B (growE F w w') w' q (takPs s i) ∧ Rg.Kept (fun i _ => F i) w w' := by
  have HK := hide k
  have hb0 : Below w.heap.size w (tkW w) := bel_al (Below.refl _ _) _
  have hx0 : (tkW w).heap[w.heap.size]? = some (.cells #[.int .i64 zeroM.k, .int .i64 zeroM.fr, .int .i64 zeroM.to, .int .i64 zeroM.id, .int .i64 zeroM.st, .int .i64 zeroM.a, .int .i64 zeroM.b] 35 (0, 0)) := World.alloc_heap_new _ _
  obtain ⟨-, hq0, hG, av, cv, hv⟩ := k.on hb0
  have HG := hide hG
  have HQ0 := hide hq0
  by_cases hin : inP s.l i = true
  · obtain ⟨j, rfl⟩ : ∃ j : Nat, i = j := ⟨i.toNat, by have := (inP_iff.1 hin).1; omega⟩
    have hj : j < s.l.length := by have := (inP_iff.1 hin).2; omega
    obtain ⟨m, hmj⟩ : ∃ m, s.l[j]? = some m := ⟨_, List.getElem?_eq_getElem hj⟩
    have HT : Hid (takPs s j = ⟨s.most, s.l.eraseIdx j, s.lost⟩) := by show _ = _; unfold takPs; rw [if_pos hin]; rfl
    have HGT := hide (hG.tak j)
    rw [atPs_nat hmj, hin]
    obtain ⟨ba, oa, rfl, p0, p1, p2, p3, p4, p5, p6⟩ := hv.2.2.2.1.get hmj
    have HV := hide hv
    have c1 := hv.cell1
    have hpl := hv.lt
    have hbl := World.block_lt_of_cell? _ _ p0
    have hcv := hv.2.1
    have HLN : Hid (s.l.length ≤ 1000) := by have h1 := HG.out.len; have h2 := HG.out.m2; show _ ≤ _; omega
    have HLL : Hid (s.l.take j ++ s.l.drop (j + 1) = s.l.eraseIdx j) := (List.eraseIdx_eq_take_drop_succ ..).symm
    have HX0 := hide hx0
    have HB0 := hide hb0
    have L1 : Hid ((s.l.take j).length = j) := by show _ = _; rw [List.length_take]; omega
    have L2 : Hid ((s.l.drop (j + 1)).length = s.l.length - (j + 1)) := by show _ = _; rw [List.length_drop]
    obtain ⟨N, hN⟩ : ∃ N, s.l.length = N := ⟨_, rfl⟩
    have HNN := hide hN
    rw [hN] at hj c1 hcv HLN L2
    have qj : (j : Int) < (N : Int) := by omega
    have qg : ¬ (j : Int) ≥ (N : Int) := by omega
    have q0 : ¬ (j : Int) < 0 := by omega
    clear hN hv hG hq0 hmj hin hb0 hx0
    unfold tkW at c1 p0 p1 p2 p3 p4 p5 p6
    have hwl : w.heap.size < (tkW w).heap.size := by unfold tkW; simp
    go_enter Try.func15, Try.ntmps15
    go_upto_region 4 with fail
    obtain ⟨V, hV⟩ : ∃ V, (tkW w).alloc (.cells #[.int .i64 m.k, .int .i64 m.fr, .int .i64 m.to, .int .i64 m.id, .int .i64 m.st, .int .i64 m.a, .int .i64 m.b] 35) = V := ⟨_, rfl⟩
    have HBV : Hid (Below (tkW w).heap.size (tkW w) V) := by show Below _ _ _; rw [← hV]; exact bel_al (Below.refl _ _) _
    have HXV : Hid (V.heap[(tkW w).heap.size]? = some (.cells #[.int .i64 m.k, .int .i64 m.fr, .int .i64 m.to, .int .i64 m.id, .int .i64 m.st, .int .i64 m.a, .int .i64 m.b] 35 (0, 0))) := by show _ = _; rw [← hV]; exact World.alloc_heap_new _ _
    change Code.wp _ _ _ _ ((tkW w).alloc _)
    rw [hV]
    clear hV
    go_cut [41] from 26 to 43 (fun _ wx => Hid (Rq B (growE F V wx) wx q (takPs s j)) ∧ Hid (Rg.Kept (fun i _ => F i) w wx) ∧ Hid (wx.heap[w.heap.size]? = some (.cells #[.int .i64 zeroM.k, .int .i64 zeroM.fr, .int .i64 zeroM.to, .int .i64 zeroM.id, .int .i64 zeroM.st, .int .i64 zeroM.a, .int .i64 zeroM.b] 35 (0, 0))) ∧ Hid (wx.heap[w.heap.size + 1]? = some (.cells #[.int .i64 m.k, .int .i64 m.fr, .int .i64 m.to, .int .i64 m.id, .int .i64 m.st, .int .i64 m.a, .int .i64 m.b] 35 (0, 0))))
    case first =>
      have HSS : Hid (∀ u, Below V.heap.size V u → u.cell? ⟨q, 1, none⟩ = some (.slice (some ⟨ba, oa, none⟩) N cv) ∧ u.frozen? ⟨q, 1, none⟩ = false) := fun u hu => by
        have h2 := ((bel_on' HBV.out hu).block _ HV.out.lt).trans HV.out.1
        refine ⟨?_, frozen_of_row _ _ _ _ _ h2⟩
        rw [cell_of h2, HNN.out]
        rfl
      have HH : Hid (∀ u, Below V.heap.size V u → Mgs u (some ⟨ba, oa, none⟩) (s.l.take j)) := fun u hu => ((HV.out.2.2.2.1.below HBV.out).below hu).head j
      have HTL : Hid (∀ u, Below V.heap.size V u → Mgs u (tailM (some ⟨ba, oa, none⟩) cv (j + 1)) (s.l.drop (j + 1))) := fun u hu => ((HV.out.2.2.2.1.below HBV.out).below hu).tail cv (j + 1) HV.out.2.1
      have KT : Hid (tailM (some ⟨ba, oa, none⟩) cv (j + 1) = none → N - (j + 1) = 0 ∧ cv - (j + 1) = 0) := fun h => by have := tailM_nil h; cases this
      have hs1 := fun W => head_runM W (some ⟨ba, oa, none⟩) N cv j (by omega)
      have hs2 := fun W => tail_runM1 W (some ⟨ba, oa, none⟩) N cv j (by omega)
      have hwi : IntKind.i64.wrap ((j : Int) + 1) = (j : Int) + 1 := by rw [IntKind.wrap_i64]; have := HLN.out; omega
      have NN : Hid (j + (N - (j + 1)) = N - 1) := by show _ = _; omega
      have HFIN : Hid (∀ w9 a9 c9, RowX V w9 (.slice a9 (N - 1) c9) (N - 1) (s.l.eraseIdx j) → w9.heap[q]? = some (.cells #[.int .i64 s.most, .slice (some ⟨ba, oa, none⟩) N cv, .int .i64 s.lost] 42 (0, 0)) ∧ Rq B (growE F V (w9.setCell ⟨q, 1, none⟩ (.slice a9 (N - 1) c9))) (w9.setCell ⟨q, 1, none⟩ (.slice a9 (N - 1) c9)) q (takPs s j) ∧ Rg.Kept (fun i _ => F i) w (w9.setCell ⟨q, 1, none⟩ (.slice a9 (N - 1) c9)) ∧ (w9.setCell ⟨q, 1, none⟩ (.slice a9 (N - 1) c9)).heap[w.heap.size]? = some (.cells #[.int .i64 zeroM.k, .int .i64 zeroM.fr, .int .i64 zeroM.to, .int .i64 zeroM.id, .int .i64 zeroM.st, .int .i64 zeroM.a, .int .i64 zeroM.b] 35 (0, 0)) ∧ (w9.setCell ⟨q, 1, none⟩ (.slice a9 (N - 1) c9)).heap[w.heap.size + 1]? = some (.cells #[.int .i64 m.k, .int .i64 m.fr, .int .i64 m.to, .int .i64 m.id, .int .i64 m.st, .int .i64 m.a, .int .i64 m.b] 35 (0, 0))) := fun w9 a9 c9 h => by
        obtain ⟨g1, g2, g3⟩ := HV.out.turn HQ0.out HBV.out h
        have hk := (Rg.Kept.of_below HB0.out).trans g3
        have hqw : q < w.heap.size := (HK.out.1 q HK.out.2.1).2
        have hz : (tkW w).heap.size = w.heap.size + 1 := by unfold tkW; simp
        have hb9 := bel_on' HBV.out h.bel
        rw [HNN.out] at g1
        refine ⟨g1, ⟨fun i e => rgrow_in HK.out hk i (grow_low HB0.out (grow_low HBV.out e)), .inl HK.out.2.1, HGT.out, a9, c9, ?_⟩, hk, ?_, ?_⟩
        · rw [HT.out]
          exact g2
        · refine (Below.heap_setCell _ _ _ _ (show w.heap.size ≠ q by omega)).trans ((hb9.block _ (by omega)).trans HX0.out)
        · refine (Below.heap_setCell _ _ _ _ (show w.heap.size + 1 ≠ q by omega)).trans ?_
          have h1 := HXV.out
          rw [hz] at h1
          exact (h.bel.block _ (Array.getElem?_eq_some_iff.1 h1).1).trans h1
      obtain ⟨d1, f1⟩ := HSS.out _ (Below.refl _ _)
      have hqV : q < V.heap.size := by have := HBV.out.size; omega
      clear p0 p1 p2 p3 p4 p5 p6 c1
      go_region_law (first
        | (refine step_mgs rfl (.const (.slice none 0 0)) (.tmp 32) rfl V.heap.size (.slice none 0 0) 0 [] rfl rfl (RowX.nil (Below.refl _ _).drew).own.2 (some ⟨ba, oa, none⟩) (s.l.take j) j cv L1.out rfl (fun h => by cases h) (HH.out _ (Below.refl _ _).drew) j (Nat.zero_add j) (by have := HLN.out; omega) (Nat.le_refl _) ?_; intro a8 c8 w8 o8 g8 k8; have R8 := hide ((RowX.nil (Below.refl _ _).drew).app L1.out (Nat.zero_add j) o8 g8 k8); rw [List.nil_append] at R8; clear o8 g8 k8; have hl8 := R8.out.bel.size; have hq8 : q < w8.heap.size := Nat.lt_of_lt_of_le hqV hl8; clear d1 f1; obtain ⟨d1, f1⟩ := HSS.out _ R8.out.bel)
        | (refine step_mgs rfl (.tmp 33) (.tmp 40) rfl V.heap.size (.slice a8 j c8) j (s.l.take j) L1.out rfl R8.out.own.2 (tailM (some ⟨ba, oa, none⟩) cv (j + 1)) (s.l.drop (j + 1)) (N - (j + 1)) (cv - (j + 1)) L2.out rfl KT.out (HTL.out _ R8.out.bel) (N - 1) NN.out (by have := HLN.out; omega) R8.out.bel.size ?_; intro a9 c9 w9 o9 g9 k9; have R9 := R8.out.app L2.out NN.out o9 g9 k9; rw [HLL.out] at R9; have HK9 := hide (HFIN.out _ _ _ R9).2; have HB9 := hide R9.bel; clear o9 g9 k9 R9 d1 f1; obtain ⟨d1, f1⟩ := HSS.out _ HB9.out))
      all_goals (go_wp2_with fail; go_meet; exact ⟨HK9.out.1, HK9.out.2.1, HK9.out.2.2.1, HK9.out.2.2.2⟩)
    case rest =>
      obtain ⟨HR, HKK, HX1, HX2⟩ := hcut
      obtain ⟨b0, b1, b2, b3, b4, b5, b6⟩ := box7 HX2.out
      obtain ⟨r0, r1, r2, r3, r4, r5, r6⟩ := box7 HX1.out
      obtain ⟨f0, f1, f2, f3, f4, f5, f6⟩ := frz7 HX1.out
      have HF := hide (put7 (m' := m) HX1.out rfl)
      unfold mgC at HF
      simp only [World.setCells, Nat.reduceAdd] at HF
      have hz : (tkW w).heap.size = w.heap.size + 1 := by unfold tkW; simp
      clear p0 p1 p2 p3 p4 p5 p6 c1
      go_wp2
      refine bodyPost_ret (results_ct Try.results15 _ _ _ _ _ _ _ rfl HF.out.1 Try.underlying35 rfl (by kernel_rfl)) rfl ?_
      have hV2 : w.heap.size + 2 ≤ V.heap.size := by have := (Array.getElem?_eq_some_iff.1 HXV.out).1; omega
      have hne : ∀ i, growE F V wc i → i ≠ w.heap.size := fun i e => by
        rcases e with e | e
        · have := (HK.out.1 i e).2; omega
        · omega
      have hk7 := kept_more HKK.out HF.out.2 (fun i _ e => .inr (Nat.le_of_eq e.symm))
      have hsz := HF.out.2.size
      refine ⟨rfl, (HR.out.kept HF.out.2 (fun i _ e e2 => hne i e e2)).wide (fun i e => ?_) (rgrow_in HK.out hk7), hk7⟩
      exact (grow_low HB0.out (grow_low HBV.out e)).imp id (fun e => ⟨e.1, Nat.lt_of_lt_of_le e.2 hsz⟩)
  · have hin : inP s.l i = false := by simpa using hin
    have HT : Hid (takPs s i = s) := by show _ = _; unfold takPs; rw [hin]; rfl
    rw [atPs_no hin, hin, HT.out]
    have c1 := hv.cell1
    have hpl := hv.lt
    have HB0 := hide hb0
    have HX0 := hide hx0
    have hni : i < 0 ∨ (¬ i < 0 ∧ i ≥ (s.l.length : Int)) := by
      by_cases h : i < 0
      · exact .inl h
      · refine .inr ⟨h, ?_⟩
        unfold inP at hin
        simp only [decide_eq_false_iff_not] at hin
        omega
    obtain ⟨N, hN⟩ : ∃ N, s.l.length = N := ⟨_, rfl⟩
    rw [hN] at c1 hni
    clear hv hG hq0 hin hb0 hx0 hN HT
    unfold tkW at c1
    unfold zeroM
    dsimp only
    rcases hni with hni | ⟨hni0, hni⟩
    · go_enter Try.func15, Try.ntmps15
      go_wp2
      refine bodyPost_ret (results_ct Try.results15 _ _ _ _ _ _ _ rfl HX0.out Try.underlying35 rfl (by kernel_rfl)) rfl ?_
      exact ⟨rfl, (HK.out.on HB0.out).grow HK.out.low, Rg.Kept.of_below HB0.out⟩
    · go_enter Try.func15, Try.ntmps15
      go_wp2
      refine bodyPost_ret (results_ct Try.results15 _ _ _ _ _ _ _ rfl HX0.out Try.underlying35 rfl (by kernel_rfl)) rfl ?_
      exact ⟨rfl, (HK.out.on HB0.out).grow HK.out.low, Rg.Kept.of_below HB0.out⟩

set_option maxHeartbeats 4000000 in
set_option maxRecDepth 100000 in
theorem rdbl_any {B : Nat} {F : Nat → Prop} {w : World} {q : Nat} {s : Ps} (k : Rq B F w q s) (i : Int) :
    Calls Try.prog 17 #[.pointer (some ⟨q, 0, none⟩), .int .i64 i] w fun e w' => e = .returned (.bool (inP s.l i)) ∧ Rq B (growE F w w') w' q (dblPs s i) ∧ Rg.Kept (fun i _ => F i) w w' := by
  have HK := hide k
  obtain ⟨-, hq0, hG, av, cv, hv⟩ := k
  have c1 := hv.cell1
  by_cases hin : inP s.l i = true
  · obtain ⟨j, rfl⟩ : ∃ j : Nat, i = j := ⟨i.toNat, by have := (inP_iff.1 hin).1; omega⟩
    have hj : j < s.l.length := by have := (inP_iff.1 hin).2; omega
    obtain ⟨m, hmj⟩ : ∃ m, s.l[j]? = some m := ⟨_, List.getElem?_eq_getElem hj⟩
    have HT : Hid (dblPs s j = putPs s [m]) := by show _ = _; unfold dblPs; rw [if_pos hin, atPs_nat hmj]; rfl
    rw [hin, HT.out]
    obtain ⟨ba, oa, rfl, p0, p1, p2, p3, p4, p5, p6⟩ := hv.2.2.2.1.get hmj
    have hb2 := bel_al (Below.refl w.heap.size w) (.cells #[.int .i64 m.k, .int .i64 m.fr, .int .i64 m.to, .int .i64 m.id, .int .i64 m.st, .int .i64 m.a, .int .i64 m.b] 35)
    have P := rput_any (HK.out.on hb2) (mgs_one w m) (c := 1) (fun _ ad e he => by cases e; have h1 := (HK.out.1 _ he).2; dsimp only at h1; omega) (by simp)
    have HB2 := hide hb2
    obtain ⟨N, hN⟩ : ∃ N, s.l.length = N := ⟨_, rfl⟩
    rw [hN] at hj c1
    have qj : (j : Int) < (N : Int) := by omega
    have qg : ¬ (j : Int) ≥ (N : Int) := by omega
    have q0 : ¬ (j : Int) < 0 := by omega
    clear hN hv hG hq0 hmj hin hb2 HT
    go_enter Try.func17, Try.ntmps17
    go_wp2_with fail
    refine P.mono ?_
    rintro e w2 ⟨rfl, hP, hk2⟩
    have HP2 := hide hP
    have HK2 := hide ((Rg.Kept.of_below HB2.out).trans hk2)
    clear P hP hk2
    go_wp2
    go_ret
    exact ⟨rfl, HP2.out.wide (fun i e => e.imp id (fun e => ⟨Nat.le_trans HB2.out.size e.1, e.2⟩)) (rgrow_in HK.out HK2.out), HK2.out⟩
  · have hin : inP s.l i = false := by simpa using hin
    have HT : Hid (dblPs s i = s) := by show _ = _; unfold dblPs; rw [hin]; rfl
    rw [hin, HT.out]
    have hni : i < 0 ∨ (¬ i < 0 ∧ i ≥ (s.l.length : Int)) := by
      by_cases h : i < 0
      · exact .inl h
      · refine .inr ⟨h, ?_⟩
        unfold inP at hin
        simp only [decide_eq_false_iff_not] at hin
        omega
    obtain ⟨N, hN⟩ : ∃ N, s.l.length = N := ⟨_, rfl⟩
    rw [hN] at c1 hni
    clear hv hG hq0 hin hN HT
    rcases hni with hni | ⟨hni0, hni⟩
    · go_enter Try.func17, Try.ntmps17
      go_wp2
      go_ret
      exact ⟨rfl, HK.out.grow HK.out.low, Rg.Kept.refl _ _⟩
    · go_enter Try.func17, Try.ntmps17
      go_wp2
      go_ret
      exact ⟨rfl, HK.out.grow HK.out.low, Rg.Kept.refl _ _⟩
end Go.Proofs.Ytmndemjjfhdfdaa
