/-
  FlowLate: a step may come late, behind MAborts, as long as nothing is undone.
-/
import Derived.Test.YtlcjfpmhfaaaaaaFlwW
import Derived.Test.YtlcjfpmhfaaaaaaFlwD
import Derived.Test.YtlcjfpmhfaaaaaaOrdF
namespace Go.Proofs.Ytlcjfpmhfaaaaaa
open Go.ChangeShapes Go.WideShapes Go.ChangeAt Go.RowKit

theorem late0 {n : Nat} {w : World} {o : Obj} (h : n ≤ w.heap.size) : n ≤ (w.alloc o).heap.size := by simp; omega
theorem late1 {A1 w1 : World} {s c1 : Nat} {a1 : Option Addr} (hz : A1.heap.size = s + 1) (o1 : w1.ownsRow (s + 1) 34 2 (.slice a1 3 c1) 3 (stCells [(2, 0), (14, 0), (2, 1)])) (g1 : (A1.alloc (.cells #[] 34)).grownBy w1 (Value.slice (some ⟨s + 1, 0, none⟩) 0 0).ownBlock) : s + 1 ≤ w1.heap.size ∧ w1.ownsRow (s + 1) 34 2 (.slice a1 3 c1) 3 (stCells [(2, 0), (14, 0), (2, 1)]) := by
  refine ⟨?_, o1⟩
  have := g1.size
  simp at this
  omega
theorem late2 {A1 w1 w2 : World} {s c1 c2 : Nat} {a1 a2 : Option Addr} (h1 : s + 1 ≤ w1.heap.size ∧ w1.ownsRow (s + 1) 34 2 (.slice a1 3 c1) 3 (stCells [(2, 0), (14, 0), (2, 1)])) (g1 : (A1.alloc (.cells #[] 34)).grownBy w1 (Value.slice (some ⟨s + 1, 0, none⟩) 0 0).ownBlock) (hz : A1.heap.size = s + 1)
    (o2 : w2.ownsRow (s + 1) 34 2 (.slice a2 4 c2) 4 (stCells ([(2, 0), (14, 0), (2, 1)] ++ [(5, 0)]))) (g2 : (w1.alloc (.cells #[.int .i64 5, .int .i64 0] 34)).grownBy w2 (Value.slice a1 3 c1).ownBlock) :
    Below A1.heap.size A1 w2 ∧ Sts w2 a2 ([(2, 0), (14, 0), (2, 1)] ++ [(5, 0)]) := by
  rw [← hz] at h1 g1
  exact ⟨(fresh_app g1 h1.2 g2).2, row_acts (l := [(2, 0), (14, 0), (2, 1)] ++ [(5, 0)]) o2⟩
theorem late4 {w2 w3 w4 : World} {c3 c4 : Nat} {a3 a4 : Option Addr} (h1 : w3.ownsRow w2.heap.size 34 2 (.slice a3 3 c3) 3 (stCells [(2, 0), (14, 0), (2, 1)])) (g1 : (w2.alloc (.cells #[] 34)).grownBy w3 (Value.slice (some ⟨w2.heap.size, 0, none⟩) 0 0).ownBlock)
    (o2 : w4.ownsRow w2.heap.size 34 2 (.slice a4 5 c4) 5 (stCells ([(2, 0), (14, 0), (2, 1)] ++ [(5, 1), (5, 0)]))) (g2 : (w3.alloc (.cells #[.int .i64 5, .int .i64 1, .int .i64 5, .int .i64 0] 34)).grownBy w4 (Value.slice a3 3 c3).ownBlock) :
    Below w2.heap.size w2 w4 ∧ Sts w4 a4 ([(2, 0), (14, 0), (2, 1)] ++ [(5, 1), (5, 0)]) :=
  ⟨(fresh_app g1 h1 g2).2, row_acts (l := [(2, 0), (14, 0), (2, 1)] ++ [(5, 1), (5, 0)]) o2⟩
theorem late_legal {o : Od} (hm : mayO o = true) (h : 2 ≤ o.steps.length) : legalO o [(2, 0), (14, 0), (2, 1)] = 3 ∧ legalO o ([(2, 0), (14, 0), (2, 1)] ++ [(5, 0)]) = 3 ∧ legalO o ([(2, 0), (14, 0), (2, 1)] ++ [(5, 1), (5, 0)]) = 5 ∧ legalO o [(2, 0), (14, 0), (5, 0), (2, 1)] = 3 := by
  have h3 := may_three hm
  unfold legalO
  rw [if_pos hm, if_pos hm, if_pos hm, if_pos hm]
  obtain e | e : o.steps.length = 2 ∨ o.steps.length = 3 := by omega
  · rw [e]; decide
  · rw [e]; decide

set_option maxRecDepth 100000 in
set_option maxHeartbeats 4000000 in
theorem flowLate_walk (o0 : Od) (a0 : Option Addr) (cap0 : Nat) (w : World) (w0 : OdIn w o0 a0 cap0) :
    Calls Try.prog 8 #[.agg #[.int .i64 o0.id, .int .i64 o0.item, .int .i64 o0.qty, .int .i64 o0.client, .int .i64 o0.price, .slice a0 o0.steps.length cap0]] w fun e w' => e = .returned (.bool true) ∧ Below w.heap.size w w' := by
  obtain ⟨hl, hst, -, hcp⟩ := w0
  obtain ⟨V, hV⟩ : ∃ V, V = w.alloc (.cells #[.int .i64 o0.id, .int .i64 o0.item, .int .i64 o0.qty, .int .i64 o0.client, .int .i64 o0.price, .slice a0 o0.steps.length cap0] 24) := ⟨_, rfl⟩
  have hbV : Below w.heap.size w V := by rw [hV]; exact (Below.refl _ _).alloc (Nat.le_refl _) _
  have hVb : V.heap[w.heap.size]? = some (.cells #[.int .i64 o0.id, .int .i64 o0.item, .int .i64 o0.qty, .int .i64 o0.client, .int .i64 o0.price, .slice a0 o0.steps.length cap0] 24 (0, 0)) := by rw [hV]; exact World.alloc_heap_new w _
  have HV := hide hV
  have HBV := hide hbV
  have HVB := hide hVb
  have HST := hide hst
  have HLN := hide hl
  have HCP := hide hcp
  have AWK : Hid (∀ u, Calls Try.prog 9 #[] u fun e w' => e = .returned (.bool true) ∧ Below u.heap.size u w') := fun u => fawake_any u
  clear hst hcp
  obtain ⟨d0, d1, d2, d3, d4, d5⟩ := order_of_six hVb
  have MY := ref_omay_any o0 a0 cap0 V (HST.out.below hbV) hl HCP.out
  rw [hV] at d0 d1 d2 d3 d4 d5 MY
  clear hV hbV hVb
  by_cases h10 : (o0.steps.length : Int) > 10
  · go_enter Try.func8, Try.ntmps8
    rw [HV.out] at HBV
    go_wp2_with fail
    refine (AWK.out _).mono ?_
    rintro e ua ⟨rfl, hb⟩
    have HBE := hide (bel_on' HBV.out hb)
    clear hb
    go_wp2
    go_ret
    exact ⟨rfl, HBE.out⟩
  cases hm : mayO o0
  · rw [hm] at MY
    clear hm
    go_enter Try.func8, Try.ntmps8
    go_wp2_with fail
    refine MY.mono ?_
    rintro e u1 ⟨rfl, hb⟩
    rw [← HV.out] at hb
    have HB1 := hide (bel_on' HBV.out hb)
    clear hb MY d0 d1 d2 d3 d4 d5
    go_wp2_with fail
    refine (AWK.out _).mono ?_
    rintro e ua ⟨rfl, hb⟩
    have HBE := hide (bel_on' HB1.out hb)
    clear hb
    go_wp2
    go_ret
    exact ⟨rfl, HBE.out⟩
  rw [hm] at MY
  have HM := hide hm
  clear hm
  go_enter Try.func8, Try.ntmps8
  go_wp2_with fail
  refine MY.mono ?_
  rintro e u1 ⟨rfl, hb⟩
  rw [← HV.out] at hb
  have HB1 := hide (bel_on' HBV.out hb)
  have HX1 := hide ((hb.block _ (Array.getElem?_eq_some_iff.1 HVB.out).1).trans HVB.out)
  clear hb MY d0 d1 d2 d3 d4 d5
  obtain ⟨d0, d1, d2, d3, d4, d5⟩ := order_of_six HX1.out
  by_cases h2 : (o0.steps.length : Int) < 2
  · go_wp2_with fail
    refine (AWK.out _).mono ?_
    rintro e ua ⟨rfl, hb⟩
    have HBE := hide (bel_on' HB1.out hb)
    clear hb
    go_wp2
    go_ret
    exact ⟨rfl, HBE.out⟩
  have q2 : ¬ (o0.steps.length : Int) < 2 := h2
  obtain ⟨A1, hA1⟩ : ∃ A, A = u1.alloc (.cells #[.int .i64 2, .int .i64 0, .int .i64 14, .int .i64 0, .int .i64 2, .int .i64 1] 34) := ⟨_, rfl⟩
  have hbA : Below u1.heap.size u1 A1 := by rw [hA1]; exact (Below.refl _ _).alloc (Nat.le_refl _) _
  have hzA : A1.heap.size = u1.heap.size + 1 := by rw [hA1]; simp
  have hSA : Sts A1 (some ⟨u1.heap.size, 0, none⟩) [(2, 0), (14, 0), (2, 1)] := by rw [hA1]; exact sts_new u1 _ _ rfl
  have HBA := hide hbA
  have HZA := hide hzA
  have HSA := hide hSA
  have HAE := hide hA1
  have O0 : Hid ((A1.alloc (.cells #[] 34)).ownsRow (u1.heap.size + 1) 34 2 (.slice (some ⟨u1.heap.size + 1, 0, none⟩) 0 0) ([] : List (Int × Int)).length (stCells [])) := by
    have := own_fresh A1 A1.heap.size (Nat.le_refl _)
    rw [hzA] at this
    exact this
  have S0 : Hid (Sts (A1.alloc (.cells #[] 34)) (some ⟨u1.heap.size, 0, none⟩) [(2, 0), (14, 0), (2, 1)]) := hSA.below ((Below.refl _ _).alloc (Nat.le_refl _) _)
  rw [hA1] at O0 S0
  clear hA1 hbA hzA hSA d0 d1 d2 d3 d4
  go_wp2_with (first
    | (at_builtin; refine append_acts rfl (.tmp 27) (.tmp 28) rfl (u1.heap.size + 1) _ [] rfl O0.out ⟨u1.heap.size, 0, none⟩ [(2, 0), (14, 0), (2, 1)] 3 rfl S0.out (by decide) (by simp) ?_; intro a1 c1 w1 o1 g1; rw [← HAE.out] at g1; have O1 := hide (late1 HZA.out o1 g1); clear o1; have G1 : Hid ((A1.alloc (.cells #[] 34)).grownBy w1 (Value.slice (some ⟨u1.heap.size + 1, 0, none⟩) 0 0).ownBlock) := g1; clear g1)
    | (at_builtin; refine append_acts rfl (.tmp 29) (.tmp 31) rfl (u1.heap.size + 1) _ [(2, 0), (14, 0), (2, 1)] rfl (O1.out.2.alloc _) ⟨w1.heap.size, 0, none⟩ [(5, 0)] 1 rfl (acts_one w1 5 0) (by decide) (late0 O1.out.1) ?_; intro a2 c2 w2 o2 g2; have T2 := hide (late2 O1.out G1.out HZA.out o2 g2); clear o2 g2)
    | (at_builtin; refine append_acts rfl (.tmp 33) (.tmp 34) rfl w2.heap.size _ [] rfl (own_fresh w2 w2.heap.size (Nat.le_refl _)) ⟨u1.heap.size, 0, none⟩ [(2, 0), (14, 0), (2, 1)] 3 rfl ((HSA.out.below T2.out.1).below ((Below.refl _ _).alloc (Nat.le_refl _) _)) (by decide) (by simp) ?_; intro a3 c3 w3 o3 g3; have O3 : Hid (w3.ownsRow w2.heap.size 34 2 (.slice a3 3 c3) 3 (stCells [(2, 0), (14, 0), (2, 1)])) := o3; have G3 : Hid ((w2.alloc (.cells #[] 34)).grownBy w3 (Value.slice (some ⟨w2.heap.size, 0, none⟩) 0 0).ownBlock) := g3; clear o3 g3)
    | (at_builtin; refine append_acts rfl (.tmp 35) (.tmp 38) rfl w2.heap.size _ [(2, 0), (14, 0), (2, 1)] rfl (O3.out.alloc _) ⟨w3.heap.size, 0, none⟩ [(5, 1), (5, 0)] 2 rfl (sts_new w3 [(5, 1), (5, 0)] #[.int .i64 5, .int .i64 1, .int .i64 5, .int .i64 0] rfl) (by decide) (late0 (fresh_below G3.out).size) ?_; intro a4 c4 w4 o4 g4; have T4 := hide (late4 O3.out G3.out o4 g4); clear o4 g4; have HB4 := hide (bel_on' (bel_on' (bel_on' HBA.out T2.out.1) T4.out.1) ((Below.refl _ _).alloc (Nat.le_refl _) (.cells #[.int .i64 2, .int .i64 0, .int .i64 14, .int .i64 0, .int .i64 5, .int .i64 0, .int .i64 2, .int .i64 1] 34))); have HX4 := hide ((HB4.out.block _ (Array.getElem?_eq_some_iff.1 HX1.out).1).trans HX1.out); obtain ⟨d0, d1, d2, d3, d4, d5⟩ := order_of_six HX4.out)
    | fail)
  obtain ⟨u5, hu5⟩ : ∃ u5, u5 = w4.alloc (.cells #[.int .i64 2, .int .i64 0, .int .i64 14, .int .i64 0, .int .i64 5, .int .i64 0, .int .i64 2, .int .i64 1] 34) := ⟨_, rfl⟩
  have HU5 := hide hu5
  have hb45 : Below w4.heap.size w4 u5 := by rw [hu5]; exact (Below.refl _ _).alloc (Nat.le_refl _) _
  have HR1 : Hid (Sts u5 (some ⟨u1.heap.size, 0, none⟩) [(2, 0), (14, 0), (2, 1)]) := HSA.out.below (bel_on' T2.out.1 (bel_on' T4.out.1 hb45))
  have HR2 : Hid (Sts u5 a2 ([(2, 0), (14, 0), (2, 1)] ++ [(5, 0)])) := T2.out.2.below (bel_on' T4.out.1 hb45)
  have HR3 : Hid (Sts u5 a4 ([(2, 0), (14, 0), (2, 1)] ++ [(5, 1), (5, 0)])) := T4.out.2.below hb45
  have HR4 : Hid (Sts u5 (some ⟨w4.heap.size, 0, none⟩) [(2, 0), (14, 0), (5, 0), (2, 1)]) := by rw [hu5]; exact sts_new w4 _ _ rfl
  rw [← hu5] at HB4 HX4
  have HB5 := hide (bel_on' HB1.out HB4.out)
  have HST5 := hide (HST.out.below HB5.out)
  have HN2 : Hid (2 ≤ o0.steps.length) := by show _ ≤ _; omega
  have LL := late_legal HM.out HN2.out
  have LG := legal_any o0 a0 cap0 [(2, 0), (14, 0), (2, 1)] (some ⟨u1.heap.size, 0, none⟩) 3 u5 HST5.out HLN.out HR1.out (by decide)
  rw [LL.1, hu5] at LG
  clear hu5 hb45
  have HLL := hide LL
  clear LL
  refine LG.mono ?_
  rintro e u6 ⟨rfl, hb⟩
  rw [← HU5.out] at hb
  have HB6 := hide (bel_on' HB5.out hb)
  have HX6 := hide ((hb.block _ (Array.getElem?_eq_some_iff.1 HX4.out).1).trans HX4.out)
  have HS2 := hide (HR2.out.below hb)
  have HS3 := hide (HR3.out.below hb)
  have HS4 := hide (HR4.out.below hb)
  clear hb LG d0 d1 d2 d3 d4 d5
  obtain ⟨d0, d1, d2, d3, d4, d5⟩ := order_of_six HX6.out
  have LG := legal_any o0 a0 cap0 ([(2, 0), (14, 0), (2, 1)] ++ [(5, 0)]) a2 c2 u6 (HST.out.below HB6.out) HLN.out HS2.out (by decide)
  rw [HLL.out.2.1] at LG
  go_wp2_with fail
  refine LG.mono ?_
  rintro e u7 ⟨rfl, hb⟩
  have HB7 := hide (bel_on' HB6.out hb)
  have HX7 := hide ((hb.block _ (Array.getElem?_eq_some_iff.1 HX6.out).1).trans HX6.out)
  have HS37 := hide (HS3.out.below hb)
  have HS47 := hide (HS4.out.below hb)
  clear hb LG d0 d1 d2 d3 d4 d5
  obtain ⟨d0, d1, d2, d3, d4, d5⟩ := order_of_six HX7.out
  have LG := legal_any o0 a0 cap0 ([(2, 0), (14, 0), (2, 1)] ++ [(5, 1), (5, 0)]) a4 c4 u7 (HST.out.below HB7.out) HLN.out HS37.out (by decide)
  rw [HLL.out.2.2.1] at LG
  go_wp2_with fail
  refine LG.mono ?_
  rintro e u8 ⟨rfl, hb⟩
  have HB8 := hide (bel_on' HB7.out hb)
  have HX8 := hide ((hb.block _ (Array.getElem?_eq_some_iff.1 HX7.out).1).trans HX7.out)
  have HS48 := hide (HS47.out.below hb)
  clear hb LG d0 d1 d2 d3 d4 d5
  obtain ⟨d0, d1, d2, d3, d4, d5⟩ := order_of_six HX8.out
  have LG := legal_any o0 a0 cap0 [(2, 0), (14, 0), (5, 0), (2, 1)] (some ⟨w4.heap.size, 0, none⟩) 4 u8 (HST.out.below HB8.out) HLN.out HS48.out (by decide)
  rw [HLL.out.2.2.2] at LG
  go_wp2_with fail
  refine LG.mono ?_
  rintro e u9 ⟨rfl, hb⟩
  have HB9 := hide (bel_on' HB8.out hb)
  clear hb LG d0 d1 d2 d3 d4 d5
  go_wp2_with fail
  refine (AWK.out _).mono ?_
  rintro e ua ⟨rfl, hb⟩
  have HBE := hide (bel_on' HB9.out hb)
  clear hb
  go_wp2
  go_ret
  exact ⟨rfl, HBE.out⟩
end Go.Proofs.Ytlcjfpmhfaaaaaa
