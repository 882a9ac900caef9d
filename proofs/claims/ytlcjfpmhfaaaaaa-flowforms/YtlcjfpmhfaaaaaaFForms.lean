/-
  FlowForms: Plan, Back and Legal are as the reference has them; loops that end early.
-/
import Derived.Test.YtlcjfpmhfaaaaaaFRef
import Derived.Test.YtlcjfpmhfaaaaaaFTrl
import Derived.Test.YtlcjfpmhfaaaaaaFlwW
import Derived.Test.YtlcjfpmhfaaaaaaFlwD
import Derived.Test.YtlcjfpmhfaaaaaaNum
import Derived.Deep.RegionHeld3
namespace Go.Proofs.Ytlcjfpmhfaaaaaa
open Go.ChangeShapes Go.WideShapes Go.ChangeAt Go.RowKit

/-- A row of the acts L that was handed back, told by its length. -/
theorem own_row {w : World} {L : List (Int × Int)} {n : Nat} (hn : L.length = n) {e : Ending} {w' : World} (h : OwnActs w L e w') : ∃ a c, e = .returned (.slice a n c) ∧ Sts w' a L ∧ Below w.heap.size w w' := by
  subst hn
  obtain ⟨a, c, h1, -, h3, h4⟩ := h
  exact ⟨a, c, h1, row_acts h3, h4⟩
theorem planL_len (o : Od) : (planL o).length ≤ 6 := by
  cases hm : mayO o
  · rw [planL_not hm]; simp
  · have := may_three hm
    rw [planL_may hm, List.length_append, upL_len]; simp; omega
theorem backL_len (o : Od) : (backL o).length ≤ 6 := by
  cases hm : mayO o
  · rw [backL_not hm]; simp
  · have := may_three hm
    rw [backL_may hm]
    have e : ∀ m, (dnL 4 m).length = m := by
      intro m
      induction m with
      | zero => rfl
      | succ m ih => rw [dnL]; simp [ih]
    simp [e]; omega

set_option maxRecDepth 100000 in
set_option maxHeartbeats 4000000 in
theorem flowForms_walk (o0 : Od) (a0 : Option Addr) (cap0 : Nat) (l1 : List (Int × Int)) (a1 : Option Addr) (cap1 : Nat) (a2 : Int) (w : World) (w0 : OdIn w o0 a0 cap0) (w1 : ActsIn w l1 a1 cap1) (_w2 : (Lit.int .i64 a2).wf = true) :
    Calls Try.prog 3 #[.agg #[.int .i64 o0.id, .int .i64 o0.item, .int .i64 o0.qty, .int .i64 o0.client, .int .i64 o0.price, .slice a0 o0.steps.length cap0], .slice a1 l1.length cap1, .int .i64 a2] w fun e w' => e = .returned (.bool true) ∧ Below w.heap.size w w' := by
  obtain ⟨hl, hst, -, hcp⟩ := w0
  obtain ⟨V, hV⟩ : ∃ V, V = w.alloc (.cells #[.int .i64 o0.id, .int .i64 o0.item, .int .i64 o0.qty, .int .i64 o0.client, .int .i64 o0.price, .slice a0 o0.steps.length cap0] 24) := ⟨_, rfl⟩
  have hbV : Below w.heap.size w V := by rw [hV]; exact (Below.refl _ _).alloc (Nat.le_refl _) _
  have hVb : V.heap[w.heap.size]? = some (.cells #[.int .i64 o0.id, .int .i64 o0.item, .int .i64 o0.qty, .int .i64 o0.client, .int .i64 o0.price, .slice a0 o0.steps.length cap0] 24 (0, 0)) := by rw [hV]; exact World.alloc_heap_new w _
  have HV := hide hV
  have HBV := hide hbV
  have HVB := hide hVb
  have HST := hide hst
  have HLN := hide hl
  have HCP := hide hcp
  have AWK : Hid (∀ u, Calls Try.prog 9 #[] u fun e w' => e = .returned (.bool true) ∧ Below u.heap.size u w') := fun u => fawake_any u
  clear hst hcp
  obtain ⟨hl1, hs1, -, -⟩ := w1
  have HS1 := hide hs1
  have HL1 := hide hl1
  obtain ⟨d0, d1, d2, d3, d4, d5⟩ := order_of_six hVb
  rw [hV] at d0 d1 d2 d3 d4 d5
  clear hV hbV hVb hs1
  by_cases h20 : (o0.steps.length : Int) > 20
  · go_enter Try.func3, Try.ntmps3
    rw [HV.out] at HBV
    go_wp2_with fail
    refine (AWK.out _).mono ?_
    rintro e ua ⟨rfl, hb⟩
    have HBE := hide (bel_on' HBV.out hb)
    clear hb
    go_wp2
    go_ret
    exact ⟨rfl, HBE.out⟩
  by_cases h60 : (l1.length : Int) > 100
  · go_enter Try.func3, Try.ntmps3
    rw [HV.out] at HBV
    go_wp2_with fail
    refine (AWK.out _).mono ?_
    rintro e ua ⟨rfl, hb⟩
    have HBE := hide (bel_on' HBV.out hb)
    clear hb
    go_wp2
    go_ret
    exact ⟨rfl, HBE.out⟩
  obtain ⟨c0, c1⟩ := um_bd a2 6 (by omega) (by omega)
  obtain ⟨N, hN⟩ : ∃ N : Nat, um a2 6 = N := ⟨(um a2 6).toNat, by omega⟩
  have hN6 : N < 6 := by omega
  unfold um at hN
  clear c0 c1
  obtain ⟨np, hnp⟩ : ∃ np, (planL o0).length = np := ⟨_, rfl⟩
  obtain ⟨nb, hnb⟩ : ∃ nb, (backL o0).length = nb := ⟨_, rfl⟩
  have hnp6 : np ≤ 6 := by rw [← hnp]; exact planL_len o0
  have hnb6 : nb ≤ 6 := by rw [← hnb]; exact backL_len o0
  have HNP := hide hnp
  have HNB := hide hnb
  clear hnp hnb
  have CP : Hid (∀ u, Below w.heap.size w u → Calls Try.prog 10 #[.agg #[.int .i64 o0.id, .int .i64 o0.item, .int .i64 o0.qty, .int .i64 o0.client, .int .i64 o0.price, .slice a0 o0.steps.length cap0]] u fun e w' => ∃ a c, e = .returned (.slice a np c) ∧ Sts w' a (planL o0) ∧ Below u.heap.size u w') := fun u hu => (rplan_any o0 a0 cap0 u (HST.out.below hu) HLN.out HCP.out).mono fun e w' h => own_row HNP.out h
  have CB : Hid (∀ u, Below w.heap.size w u → Calls Try.prog 11 #[.agg #[.int .i64 o0.id, .int .i64 o0.item, .int .i64 o0.qty, .int .i64 o0.client, .int .i64 o0.price, .slice a0 o0.steps.length cap0]] u fun e w' => ∃ a c, e = .returned (.slice a nb c) ∧ Sts w' a (backL o0) ∧ Below u.heap.size u w') := fun u hu => (rback_any o0 a0 cap0 u (HST.out.below hu) HLN.out HCP.out).mono fun e w' h => own_row HNB.out h
  have LP : Hid (∀ u, Below w.heap.size w u → Calls Try.prog 13 #[.agg #[.int .i64 o0.id, .int .i64 o0.item, .int .i64 o0.qty, .int .i64 o0.client, .int .i64 o0.price, .slice a0 o0.steps.length cap0], .int .i64 99] u fun e w' => ∃ a c, e = .returned (.slice a np c) ∧ Sts w' a (planL o0) ∧ Below u.heap.size u w') := fun u hu => (plan_law o0 a0 cap0 u (HST.out.below hu) HLN.out 99 (by omega)).mono fun e w' h => by
    rw [List.take_of_length_le (by have := HNP.out; omega)] at h
    exact own_row HNP.out h
  have LB : Hid (∀ u, Below w.heap.size w u → Calls Try.prog 14 #[.agg #[.int .i64 o0.id, .int .i64 o0.item, .int .i64 o0.qty, .int .i64 o0.client, .int .i64 o0.price, .slice a0 o0.steps.length cap0], .int .i64 99] u fun e w' => ∃ a c, e = .returned (.slice a nb c) ∧ Sts w' a (backL o0) ∧ Below u.heap.size u w') := fun u hu => (back_law o0 a0 cap0 u (HST.out.below hu) HLN.out 99 (by omega)).mono fun e w' h => by
    rw [List.take_of_length_le (by have := HNB.out; omega)] at h
    exact own_row HNB.out h
  obtain ⟨m1, hm1⟩ : ∃ m1, m1 = min N np := ⟨_, rfl⟩
  obtain ⟨m2, hm2⟩ : ∃ m2, m2 = min N nb := ⟨_, rfl⟩
  have LPN : Hid (∀ u, Below w.heap.size w u → Calls Try.prog 13 #[.agg #[.int .i64 o0.id, .int .i64 o0.item, .int .i64 o0.qty, .int .i64 o0.client, .int .i64 o0.price, .slice a0 o0.steps.length cap0], .int .i64 (N : Int)] u fun e w' => ∃ a c, e = .returned (.slice a m1 c) ∧ Below u.heap.size u w') := fun u hu => (plan_law o0 a0 cap0 u (HST.out.below hu) HLN.out N (by omega)).mono fun e w' h => by
    obtain ⟨a, c, h1, -, h2⟩ := own_row (n := m1) (by rw [List.length_take, HNP.out, hm1]) h
    exact ⟨a, c, h1, h2⟩
  have LBN : Hid (∀ u, Below w.heap.size w u → Calls Try.prog 14 #[.agg #[.int .i64 o0.id, .int .i64 o0.item, .int .i64 o0.qty, .int .i64 o0.client, .int .i64 o0.price, .slice a0 o0.steps.length cap0], .int .i64 (N : Int)] u fun e w' => ∃ a c, e = .returned (.slice a m2 c) ∧ Below u.heap.size u w') := fun u hu => (back_law o0 a0 cap0 u (HST.out.below hu) HLN.out N (by omega)).mono fun e w' h => by
    obtain ⟨a, c, h1, -, h2⟩ := own_row (n := m2) (by rw [List.length_take, HNB.out, hm2]) h
    exact ⟨a, c, h1, h2⟩
  have hmin1 : ∀ (W : World) (ts : Array TypeId) (t : TypeId), (Builtin.min_ ts t #[.int .i64 (N : Int), .int .i64 (np : Int)]).run Try.prog W = .ok (.int .i64 (m1 : Int)) W := fun W ts t => by
    rw [run_min_int2]
    congr 2
    split <;> omega
  have hmin2 : ∀ (W : World) (ts : Array TypeId) (t : TypeId), (Builtin.min_ ts t #[.int .i64 (N : Int), .int .i64 (nb : Int)]).run Try.prog W = .ok (.int .i64 (m2 : Int)) W := fun W ts t => by
    rw [run_min_int2]
    congr 2
    split <;> omega
  obtain ⟨K, hK⟩ : ∃ K, K = legalO o0 l1 := ⟨_, rfl⟩
  have LG : Hid (∀ u, Below w.heap.size w u → Calls Try.prog 15 #[.agg #[.int .i64 o0.id, .int .i64 o0.item, .int .i64 o0.qty, .int .i64 o0.client, .int .i64 o0.price, .slice a0 o0.steps.length cap0], .slice a1 l1.length cap1] u fun e w' => e = .returned (.int .i64 (K : Int)) ∧ Below u.heap.size u w') := fun u hu => by
    rw [hK]
    exact legal_any o0 a0 cap0 l1 a1 cap1 u (HST.out.below hu) HLN.out (HS1.out.below hu) HL1.out
  have RG : Hid (∀ u, Below w.heap.size w u → Calls Try.prog 16 #[.agg #[.int .i64 o0.id, .int .i64 o0.item, .int .i64 o0.qty, .int .i64 o0.client, .int .i64 o0.price, .slice a0 o0.steps.length cap0], .slice a1 l1.length cap1] u fun e w' => e = .returned (.int .i64 (K : Int)) ∧ Below u.heap.size u w') := fun u hu => by
    rw [hK]
    exact rlegal_any o0 a0 cap0 l1 a1 cap1 u (HST.out.below hu) HLN.out HCP.out (HS1.out.below hu) HL1.out
  clear hK hm1 hm2
  go_enter Try.func3, Try.ntmps3
  go_wp2_with fail
  clear hN
  clear d0 d1 d2 d3 d4 d5
  rw [← HV.out]
  obtain ⟨d0, d1, d2, d3, d4, d5⟩ := order_of_six HVB.out
  have HX0 := hide HVB.out
  have HB0 := hide HBV.out
  have C1 := CP.out V.drew HBV.out.drew
  go_region_held3 (fun w' => w'.cell? ⟨w.heap.size, 0, none⟩ = some (.int .i64 o0.id) ∧ w'.cell? ⟨w.heap.size, 1, none⟩ = some (.int .i64 o0.item) ∧ w'.cell? ⟨w.heap.size, 2, none⟩ = some (.int .i64 o0.qty) ∧ w'.cell? ⟨w.heap.size, 3, none⟩ = some (.int .i64 o0.client) ∧ w'.cell? ⟨w.heap.size, 4, none⟩ = some (.int .i64 o0.price) ∧ w'.cell? ⟨w.heap.size, 5, none⟩ = some (.slice a0 o0.steps.length cap0)) (go_keep) (first
    | (go_at_call 10; refine C1.mono ?_; clear C1; rintro e u1 ⟨ap, cp, rfl, hsp, hb0⟩; have hb : Below V.heap.size V u1 := bel_on' (Below.refl _ _).drew hb0; have HSP1 := hide hsp; have HB1 := hide (bel_on' HB0.out hb); have HX1 := hide ((hb.block _ (Array.getElem?_eq_some_iff.1 HX0.out).1).trans HX0.out); clear d0 d1 d2 d3 d4 d5; obtain ⟨d0, d1, d2, d3, d4, d5⟩ := order_of_six HX1.out; have C2 := CB.out u1 HB1.out; clear hb hb0 hsp)
    | (go_at_call 11; refine C2.mono ?_; clear C2; rintro e u2 ⟨ab, cb, rfl, hsb, hb⟩; have HSB2 := hide hsb; have HSP2 := hide (HSP1.out.below hb); have HB2 := hide (bel_on' HB1.out hb); have HX2 := hide ((hb.block _ (Array.getElem?_eq_some_iff.1 HX1.out).1).trans HX1.out); clear d0 d1 d2 d3 d4 d5; obtain ⟨d0, d1, d2, d3, d4, d5⟩ := order_of_six HX2.out; clear hb hsb)
    | fail)
  have qm1 : ((m1 : Int) == (m1 : Int)) = true := by simp
  have qm2 : ((m2 : Int) == (m2 : Int)) = true := by simp
  have qK : ((K : Int) == (K : Int)) = true := by simp
  have D3 := LP.out u2.drew HB2.out.drew
  go_wp2_with fail
  go_region_held3 (fun w' => w'.cell? ⟨w.heap.size, 0, none⟩ = some (.int .i64 o0.id) ∧ w'.cell? ⟨w.heap.size, 1, none⟩ = some (.int .i64 o0.item) ∧ w'.cell? ⟨w.heap.size, 2, none⟩ = some (.int .i64 o0.qty) ∧ w'.cell? ⟨w.heap.size, 3, none⟩ = some (.int .i64 o0.client) ∧ w'.cell? ⟨w.heap.size, 4, none⟩ = some (.int .i64 o0.price) ∧ w'.cell? ⟨w.heap.size, 5, none⟩ = some (.slice a0 o0.steps.length cap0)) (go_keep) (first
    | (go_at_call 13; refine D3.mono ?_; clear D3; rintro e u3 ⟨a3, c3, rfl, hs3, hb0⟩; have hb : Below u2.heap.size u2 u3 := bel_on' (Below.refl _ _).drew hb0; have HSP3 := hide (HSP2.out.below hb); have HSB3 := hide (HSB2.out.below hb); have D4 := same_acts a3 ap (planL o0) np c3 cp u3 HNP.out (by omega) hs3 HSP3.out; have HB3 := hide (bel_on' HB2.out hb); have HX3 := hide ((hb.block _ (Array.getElem?_eq_some_iff.1 HX2.out).1).trans HX2.out); clear d0 d1 d2 d3 d4 d5; obtain ⟨d0, d1, d2, d3, d4, d5⟩ := order_of_six HX3.out; clear hb hb0 hs3)
    | (go_at_call 12; refine D4.mono ?_; clear D4; rintro e u4 ⟨rfl, hb⟩; have HSB4 := hide (HSB3.out.below hb); have HB4 := hide (bel_on' HB3.out hb); have HX4 := hide ((hb.block _ (Array.getElem?_eq_some_iff.1 HX3.out).1).trans HX3.out); clear d0 d1 d2 d3 d4 d5; obtain ⟨d0, d1, d2, d3, d4, d5⟩ := order_of_six HX4.out; have D5 := LB.out u4 HB4.out; clear hb)
    | (go_at_call 14; refine D5.mono ?_; clear D5; rintro e u5 ⟨a5, c5, rfl, hs5, hb⟩; have HSB5 := hide (HSB4.out.below hb); have D6 := same_acts a5 ab (backL o0) nb c5 cb u5 HNB.out (by omega) hs5 HSB5.out; have HB5 := hide (bel_on' HB4.out hb); have HX5 := hide ((hb.block _ (Array.getElem?_eq_some_iff.1 HX4.out).1).trans HX4.out); clear d0 d1 d2 d3 d4 d5; obtain ⟨d0, d1, d2, d3, d4, d5⟩ := order_of_six HX5.out; clear hb hs5)
    | (go_at_call 12; refine D6.mono ?_; clear D6; rintro e u6 ⟨rfl, hb⟩; have HB6 := hide (bel_on' HB5.out hb); have HX6 := hide ((hb.block _ (Array.getElem?_eq_some_iff.1 HX5.out).1).trans HX5.out); clear d0 d1 d2 d3 d4 d5; obtain ⟨d0, d1, d2, d3, d4, d5⟩ := order_of_six HX6.out; have D7 := LPN.out u6 HB6.out; clear hb)
    | (go_at_call 13; refine D7.mono ?_; clear D7; rintro e u7 ⟨a7, c7, rfl, hb⟩; have HB7 := hide (bel_on' HB6.out hb); have HX7 := hide ((hb.block _ (Array.getElem?_eq_some_iff.1 HX6.out).1).trans HX6.out); clear d0 d1 d2 d3 d4 d5; obtain ⟨d0, d1, d2, d3, d4, d5⟩ := order_of_six HX7.out; have D8 := LBN.out u7 HB7.out; clear hb)
    | (go_at_call 14; refine D8.mono ?_; clear D8; rintro e u8 ⟨a8, c8, rfl, hb⟩; have HB8 := hide (bel_on' HB7.out hb); have HX8 := hide ((hb.block _ (Array.getElem?_eq_some_iff.1 HX7.out).1).trans HX7.out); clear d0 d1 d2 d3 d4 d5; obtain ⟨d0, d1, d2, d3, d4, d5⟩ := order_of_six HX8.out; have D9 := LG.out u8 HB8.out; clear hb)
    | (go_at_call 15; refine D9.mono ?_; clear D9; rintro e u9 ⟨rfl, hb⟩; have HB9 := hide (bel_on' HB8.out hb); have HX9 := hide ((hb.block _ (Array.getElem?_eq_some_iff.1 HX8.out).1).trans HX8.out); clear d0 d1 d2 d3 d4 d5; obtain ⟨d0, d1, d2, d3, d4, d5⟩ := order_of_six HX9.out; have D10 := RG.out u9 HB9.out; clear hb)
    | (go_at_call 16; refine D10.mono ?_; clear D10; rintro e u10 ⟨rfl, hb⟩; have HB10 := hide (bel_on' HB9.out hb); have HX10 := hide ((hb.block _ (Array.getElem?_eq_some_iff.1 HX9.out).1).trans HX9.out); clear d0 d1 d2 d3 d4 d5; obtain ⟨d0, d1, d2, d3, d4, d5⟩ := order_of_six HX10.out; clear hb)
    | (go_at_call 9; refine (AWK.out _).mono ?_; rintro e u11 ⟨rfl, hb⟩; have HB11 := hide (bel_on' HB10.out hb); have HX11 := hide ((hb.block _ (Array.getElem?_eq_some_iff.1 HX10.out).1).trans HX10.out); clear d0 d1 d2 d3 d4 d5; obtain ⟨d0, d1, d2, d3, d4, d5⟩ := order_of_six HX11.out; clear hb)
    | fail)
  all_goals go_wp2
  all_goals go_ret
  all_goals exact ⟨rfl, HB11.out⟩
end Go.Proofs.Ytlcjfpmhfaaaaaa
