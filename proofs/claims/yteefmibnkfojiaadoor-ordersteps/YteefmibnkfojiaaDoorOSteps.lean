/-
  OrderSteps: each of an order's steps is found by its service, and no others.
-/
import Derived.Test.YteefmibnkfojiaaDoorOrdA
namespace Go.Proofs.YteefmibnkfojiaaDoor
open Go.ChangeShapes Go.WideShapes Go.ChangeAt Go.RowKit

def atG : List Int → Int → Int
  | [], _ => -1
  | x :: l, s => if x = s then 0 else if atG l s = -1 then -1 else atG l s + 1
theorem atF_G : ∀ (l : List (Int × Int)) (s : Int), atF l s = atG (l.map Prod.fst) s
  | [], _ => rfl
  | x :: l, s => by rw [List.map_cons, atF, atG, atF_G l s]
/-- How many of the services from -1 on are found. -/
def cntG (l : List Int) : Nat → Nat
  | 0 => 0
  | k + 1 => cntG l k + (if atG l ((k : Int) - 1) = -1 then 0 else 1)
theorem cntG_le (l : List Int) : ∀ k, cntG l k ≤ k
  | 0 => Nat.le_refl _
  | k + 1 => by have := cntG_le l k; rw [cntG]; split <;> omega
theorem svc_cases {n : Int} (h : 4 ≤ n ∧ n ≤ 6) : n = 4 ∨ n = 5 ∨ n = 6 := by omega
theorem cnt_may {o : Od} (h : mayO o = true) : cntG (o.steps.map Prod.fst) 10 = o.steps.length := by
  obtain ⟨_, _, _, _, _, h6, h7⟩ := mayO_parts h
  have hk : okTo o.steps o.steps.length = true := by
    unfold mayO stepsB at h
    simp only [Bool.and_eq_true] at h
    exact h.2.2
  have hn : ∀ i j, i < j → j < o.steps.length → (stAt o.steps i).1 ≠ (stAt o.steps j).1 := fun i j hij hj e => by
    have := okTo_at hk hj
    unfold okAt at this
    simp only [Bool.and_eq_true, Bool.not_eq_true', List.any_eq_false] at this
    have h2 := this.2 (stAt o.steps i) (by rw [stAt_get (by omega)]; exact List.mem_take_iff_getElem.2 ⟨i, by omega, rfl⟩)
    simp [e] at h2
  cases hs : o.steps with
  | nil => rfl
  | cons x l =>
    rw [hs] at h6 h7 hn
    have x1 := svc_cases (h7 x (by simp)).1
    cases l with
    | nil =>
      simp only [List.map_cons, List.map_nil, List.length_cons, List.length_nil]
      rcases x1 with e | e | e <;> rw [e] <;> decide
    | cons y l =>
      have y1 := svc_cases (h7 y (by simp)).1
      have n01 : x.1 ≠ y.1 := hn 0 1 (by omega) (by simp)
      cases l with
      | nil =>
        simp only [List.map_cons, List.map_nil, List.length_cons, List.length_nil]
        rcases x1 with e | e | e <;> rcases y1 with f | f | f <;> rw [e, f] at n01 ⊢ <;> first | exact absurd rfl n01 | decide
      | cons z l =>
        have z1 := svc_cases (h7 z (by simp)).1
        have n02 : x.1 ≠ z.1 := hn 0 2 (by omega) (by simp)
        have n12 : y.1 ≠ z.1 := hn 1 2 (by omega) (by simp)
        have hl : l = [] := List.eq_nil_of_length_eq_zero (by simp only [List.length_cons] at h6; omega)
        subst hl
        simp only [List.map_cons, List.map_nil, List.length_cons, List.length_nil]
        rcases x1 with e | e | e <;> rcases y1 with f | f | f <;> rcases z1 with g | g | g <;> rw [e, f] at n01 <;> rw [e, g] at n02 <;> rw [f, g] at n12 <;> rw [e, f, g] <;> first | exact absurd rfl n01 | exact absurd rfl n02 | exact absurd rfl n12 | decide

set_option maxRecDepth 100000 in
set_option maxHeartbeats 4000000 in
theorem orderSteps_walk (o0 : Od) (a0 : Option Addr) (cap0 : Nat) (w : World) (w0 : OdIn w o0 a0 cap0) (hg : Gl w) :
    Calls Tryd.prog 6 #[.agg #[.int .i64 o0.id, .int .i64 o0.item, .int .i64 o0.qty, .int .i64 o0.client, .int .i64 o0.price, .slice a0 o0.steps.length cap0]] w fun e w' => e = .returned (.bool true) ∧ Below w.heap.size w w' := by
  obtain ⟨hl, hst, -, -⟩ := w0
  have HG := hide hg
  obtain ⟨V, hV⟩ : ∃ V, V = w.alloc (.cells #[.int .i64 o0.id, .int .i64 o0.item, .int .i64 o0.qty, .int .i64 o0.client, .int .i64 o0.price, .slice a0 o0.steps.length cap0] 24) := ⟨_, rfl⟩
  have hbV : Below w.heap.size w V := by rw [hV]; exact (Below.refl _ _).alloc (Nat.le_refl _) _
  have hVb : V.heap[w.heap.size]? = some (.cells #[.int .i64 o0.id, .int .i64 o0.item, .int .i64 o0.qty, .int .i64 o0.client, .int .i64 o0.price, .slice a0 o0.steps.length cap0] 24 (0, 0)) := by
    rw [hV]
    show (w.heap.push _)[w.heap.size]? = _
    simp
  have LT := light_any o0 a0 cap0 V hl
  rw [hV] at LT
  have HV := hide hV
  have HBV := hide hbV
  have HVB := hide hVb
  have HST := hide hst
  have HLN := hide hl
  have AWK : Hid (∀ u, Below w.heap.size w u → Calls Tryd.prog 9 #[] u fun e w' => e = .returned (.bool true) ∧ Below u.heap.size u w') := fun u hu => oawake_any u (HG.out.on hu)
  clear hV hbV hVb hst hg
  by_cases h20 : o0.steps.length ≤ 20
  rotate_left
  · have e20 : decide (o0.steps.length ≤ 20) = false := by simpa using h20
    rw [e20] at LT
    clear e20 h20
    go_enter Tryd.func6, Tryd.ntmps6
    go_wp2_with fail
    refine LT.mono ?_
    rintro e u1 ⟨rfl, hb1⟩
    rw [← HV.out] at hb1
    have HB1 := hide (bel_on' HBV.out hb1)
    go_wp2_with fail
    refine (AWK.out _ HB1.out).mono ?_
    rintro e u2 ⟨rfl, hb2⟩
    go_wp2
    go_ret
    exact ⟨rfl, bel_on' HB1.out hb2⟩
  have e20 : decide (o0.steps.length ≤ 20) = true := by simpa using h20
  rw [e20] at LT
  clear e20
  cases hm : mayO o0
  · go_enter Tryd.func6, Tryd.ntmps6
    go_wp2_with fail
    refine LT.mono ?_
    rintro e u1 ⟨rfl, hb1⟩
    rw [← HV.out] at hb1
    have HB1 := hide (bel_on' HBV.out hb1)
    have hx := (hb1.block _ (Array.getElem?_eq_some_iff.1 HVB.out).1).trans HVB.out
    obtain ⟨⟨d0, d1, d2, d3, d4, d5⟩, -⟩ := six_of hx
    have MY := omay_any o0 a0 cap0 u1 (HST.out.below HB1.out) HLN.out
    rw [hm] at MY
    clear hb1 hx LT
    go_wp2_with fail
    refine MY.mono ?_
    rintro e u2 ⟨rfl, hb2⟩
    have HB2 := hide (bel_on' HB1.out hb2)
    clear d0 d1 d2 d3 d4 d5 hb2
    go_wp2_with fail
    refine (AWK.out _ HB2.out).mono ?_
    rintro e u3 ⟨rfl, hb3⟩
    go_wp2
    go_ret
    exact ⟨rfl, bel_on' HB2.out hb3⟩
  have HCN := hide (cnt_may hm)
  go_enter Tryd.func6, Tryd.ntmps6
  go_wp2_with fail
  refine LT.mono ?_
  rintro e u1 ⟨rfl, hb1⟩
  rw [← HV.out] at hb1
  have HB1 := hide (bel_on' HBV.out hb1)
  have hx := (hb1.block _ (Array.getElem?_eq_some_iff.1 HVB.out).1).trans HVB.out
  have HX1 := hide hx
  obtain ⟨⟨d0, d1, d2, d3, d4, d5⟩, -⟩ := six_of hx
  have MY := omay_any o0 a0 cap0 u1 (HST.out.below HB1.out) HLN.out
  rw [hm] at MY
  clear hb1 hx LT
  go_wp2_with fail
  refine MY.mono ?_
  rintro e u2 ⟨rfl, hb2⟩
  have HB2 := hide (bel_on' HB1.out hb2)
  have HX2 := hide ((hb2.block _ (Array.getElem?_eq_some_iff.1 HX1.out).1).trans HX1.out)
  clear d0 d1 d2 d3 d4 d5 hb2 hm MY
  go_wp2_with fail
  go_loopw [3, 4] (fun nv sv wr => ∃ (k : Nat) (s : Int), nv = .int .i64 (cntG (o0.steps.map Prod.fst) k : Nat) ∧ sv = .int .i64 s ∧ s = (k : Int) - 1 ∧ k ≤ 10 ∧ Hid (Below w.heap.size w wr) ∧ Hid (wr.heap[w.heap.size]? = some (.cells #[.int .i64 o0.id, .int .i64 o0.item, .int .i64 o0.qty, .int .i64 o0.client, .int .i64 o0.price, .slice a0 o0.steps.length cap0] 24 (0, 0)))) (fun _ sv _ => (9 - intOf sv).toNat)
  case atStart => exact ⟨0, -1, rfl, rfl, rfl, Nat.zero_le _, HB2, HX2⟩
  case round =>
    obtain ⟨k, s, rfl, rfl, hs, hk, HB, HX⟩ := hrel
    obtain ⟨N, hN⟩ : ∃ N, N = cntG (o0.steps.map Prod.fst) k := ⟨_, rfl⟩
    have hN10 : N ≤ 10 := by rw [hN]; exact Nat.le_trans (cntG_le _ _) hk
    rw [← hN]
    obtain ⟨⟨d0, d1, d2, d3, d4, d5⟩, -⟩ := six_of HX.out
    have hs0 : -1 ≤ s := by omega
    by_cases h8 : s ≤ 8
    · have AT := at_any o0 a0 cap0 s wr (HST.out.below HB.out) HLN.out
      rcases atF_cases o0.steps s with ⟨e, -⟩ | ⟨i, hi, e, he, -⟩
      · have HNX : Hid (N = cntG (o0.steps.map Prod.fst) (k + 1)) := by
          show _ = _
          rw [cntG, ← hs, ← atF_G, e, hN]
          rfl
        rw [e] at AT
        have HS := hide hs
        clear e hN hs
        go_wp2_with fail
        refine AT.mono ?_
        rintro e u3 ⟨rfl, hb3⟩
        have HB3 := hide (bel_on' HB.out hb3)
        have HX3 := hide ((hb3.block _ (Array.getElem?_eq_some_iff.1 HX.out).1).trans HX.out)
        clear hb3 d0 d1 d2 d3 d4 d5 AT
        go_wp2
        go_roundw
        case rel => exact ⟨k + 1, s + 1, by rw [HNX.out], by go_num, by have := HS.out; omega, by have := HS.out; omega, HB3, HX3⟩
        case measure => simp [intOf]; omega
      · have HNX : Hid (N + 1 = cntG (o0.steps.map Prod.fst) (k + 1)) := by
          show _ = _
          rw [cntG, ← hs, ← atF_G, e, hN, if_neg (by omega)]
        rw [e] at AT
        have HS := hide hs
        have HSV := hide he
        clear e hN hs he
        go_wp2_with fail
        refine AT.mono ?_
        rintro e u3 ⟨rfl, hb3⟩
        have HB3 := hide (bel_on' HB.out hb3)
        have HX3 := hide ((hb3.block _ (Array.getElem?_eq_some_iff.1 HX.out).1).trans HX.out)
        clear hb3 d0 d1 d2 d3 d4 d5 AT
        obtain ⟨⟨d0, d1, d2, d3, d4, d5⟩, -⟩ := six_of HX3.out
        obtain ⟨b, off, rfl, h0, h1⟩ := (HST.out.below HB3.out).at hi
        rw [HSV.out] at h0
        have hi2 : (i : Int) < (o0.steps.length : Int) := by omega
        have hi3 : (0 : Int) ≤ (i : Int) := by omega
        go_wp2
        go_roundw
        case rel => exact ⟨k + 1, s + 1, by rw [← HNX.out]; go_num, by go_num, by have := HS.out; omega, by have := HS.out; omega, HB3, HX3⟩
        case measure => simp [intOf]; omega
    · have HFN : Hid (N = o0.steps.length) := by
        show _ = _
        rw [hN, show k = 10 by omega]
        exact HCN.out
      have hN2 : ((N : Int) == (o0.steps.length : Int)) = true := by rw [HFN.out]; simp
      clear hN hs
      go_wp2_with fail
      refine (AWK.out _ HB.out).mono ?_
      rintro e u3 ⟨rfl, hb3⟩
      go_wp2
      go_ret
      exact ⟨rfl, bel_on' HB.out hb3⟩
end Go.Proofs.YteefmibnkfojiaaDoor
