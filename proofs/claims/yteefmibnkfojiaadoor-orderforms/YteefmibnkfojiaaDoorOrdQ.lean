/-
  Contract: package order's Parse.
-/
import Derived.Test.YteefmibnkfojiaaDoorOrdP
namespace Go.Proofs.YteefmibnkfojiaaDoor
open Go.ChangeShapes Go.WideShapes Go.ChangeAt Go.RowKit

theorem stLoop_len : ∀ (m : Nat) (l : List (Int × Int)) (st : List UInt8 × Bool), (stLoop m l st).1.length ≤ l.length + m
  | 0, l, st => by simp [stLoop]
  | m + 1, l, st => by
    rw [stLoop]
    split
    · simp only; omega
    · have := stLoop_len m (l ++ [(((behF kSvc st).1 : Int), ((behF kN (behF kSvc st).2).1 : Int))]) (behF kN (behF kSvc st).2).2
      simp at this
      omega
theorem scan_len (l : List UInt8) : (scanF l).1.steps.length ≤ 3 := by
  unfold scanF
  simp only
  have := stLoop_len 3 [] (behF kClient (behF kPrice (behF kItem (behF kQty (behF kId (l, false)).2).2).2).2).2
  simpa using this

theorem set6 {u : World} {n : Nat} {v0 v1 v2 v3 v4 v5 x0 x1 x2 x3 x4 x5 : Value} (h : u.heap[n]? = some (.cells #[v0, v1, v2, v3, v4, v5] 24 (0, 0))) {W : World}
    (hW : W = (((((u.setCell ⟨n, 0, none⟩ x0).setCell ⟨n, 1, none⟩ x1).setCell ⟨n, 2, none⟩ x2).setCell ⟨n, 3, none⟩ x3).setCell ⟨n, 4, none⟩ x4).setCell ⟨n, 5, none⟩ x5) : W.heap[n]? = some (.cells #[x0, x1, x2, x3, x4, x5] 24 (0, 0)) ∧ Onl n u W := by
  subst hW
  refine ⟨?_, (((((Onl.set _ _ _).trans (Onl.set _ _ _)).trans (Onl.set _ _ _)).trans (Onl.set _ _ _)).trans (Onl.set _ _ _)).trans (Onl.set _ _ _)⟩
  rw [heap_setCell_same _ _ _ _ _ _ (heap_setCell_same _ _ _ _ _ _ (heap_setCell_same _ _ _ _ _ _ (heap_setCell_same _ _ _ _ _ _ (heap_setCell_same _ _ _ _ _ _ (heap_setCell_same _ _ _ _ _ _ h)))))]
  simp
theorem six_of {u : World} {n : Nat} {v0 v1 v2 v3 v4 v5 : Value} (h : u.heap[n]? = some (.cells #[v0, v1, v2, v3, v4, v5] 24 (0, 0))) : (u.cell? ⟨n, 0, none⟩ = some v0 ∧ u.cell? ⟨n, 1, none⟩ = some v1 ∧ u.cell? ⟨n, 2, none⟩ = some v2 ∧ u.cell? ⟨n, 3, none⟩ = some v3 ∧ u.cell? ⟨n, 4, none⟩ = some v4 ∧ u.cell? ⟨n, 5, none⟩ = some v5) ∧ (u.frozen? ⟨n, 0, none⟩ = false ∧ u.frozen? ⟨n, 1, none⟩ = false ∧ u.frozen? ⟨n, 2, none⟩ = false ∧ u.frozen? ⟨n, 3, none⟩ = false ∧ u.frozen? ⟨n, 4, none⟩ = false ∧ u.frozen? ⟨n, 5, none⟩ = false) := by
  refine ⟨⟨?_, ?_, ?_, ?_, ?_, ?_⟩, frozen_of_row _ _ _ _ _ h, frozen_of_row _ _ _ _ _ h, frozen_of_row _ _ _ _ _ h, frozen_of_row _ _ _ _ _ h, frozen_of_row _ _ _ _ _ h, frozen_of_row _ _ _ _ _ h⟩
  all_goals (rw [cell_of h]; rfl)

/-- An order that is told: its cells, where its steps lie. -/
def ParseO (w' : World) (l : List UInt8) (e : Ending) : Prop := ∃ (o : Od) (x : Int) (av : Option Addr) (cv : Nat), ParO l o x ∧ e = .returned (.tuple #[.agg #[.int .i64 o.id, .int .i64 o.item, .int .i64 o.qty, .int .i64 o.client, .int .i64 o.price, .slice av o.steps.length cv], .int .i64 x]) ∧ Sts w' av o.steps ∧ o.steps.length ≤ 3

set_option maxRecDepth 100000 in
set_option maxHeartbeats 4000000 in
theorem oparse_any (l : List UInt8) (w : World) (hl : l.length ≤ 9223372036854775807) :
    Calls Tryd.prog 10 #[.string (byB l)] w fun e w' => ParseO w' l e ∧ Below w.heap.size w w' := by
  obtain ⟨Z, hZ⟩ : ∃ Z, Z = w.alloc (.cells #[.int .i64 0, .int .i64 0, .int .i64 0, .int .i64 0, .int .i64 0, .slice none 0 0] 24) := ⟨_, rfl⟩
  have hbZ : Below w.heap.size w Z := by rw [hZ]; exact (Below.refl _ _).alloc (Nat.le_refl _) _
  have hZb : Z.heap[w.heap.size]? = some (.cells #[.int .i64 0, .int .i64 0, .int .i64 0, .int .i64 0, .int .i64 0, .slice none 0 0] 24 (0, 0)) := by
    rw [hZ]
    show (w.heap.push _)[w.heap.size]? = _
    simp
  have HZS : Hid (w.heap.size < Z.heap.size) := (Array.getElem?_eq_some_iff.1 hZb).1
  have SC : Calls Tryd.prog 20 #[.string (byB l)] Z fun e w' => ScanR Z.heap.size w' l e ∧ Below Z.heap.size Z w' := scan_any l Z hl
  obtain ⟨zs, hzs⟩ : ∃ n, n = Z.heap.size := ⟨_, rfl⟩
  rw [← hzs] at SC
  rw [hZ] at SC
  have HZ := hide hZ
  have HPS := hide (parO_scan l)
  have HLN := hide (scan_len l)
  clear hZ
  go_enter Tryd.func10, Tryd.ntmps10
  go_wp2_with fail
  refine SC.mono ?_
  rintro e w1 ⟨⟨o, ok, av, cv, hsc, rfl, hst, hcv, hnil⟩, hb1⟩
  rw [← HZ.out] at hb1
  subst hzs
  have z1 := (hb1.block w.heap.size (Array.getElem?_eq_some_iff.1 hZb).1).trans hZb
  have HB1 := hide (bel_on' hbZ hb1)
  rw [hsc] at HPS HLN
  have HST := hide hst
  have HSC := hide hsc
  have HNIL := hide hnil
  clear hnil hcv
  clear SC hb1 hZb hbZ hst hsc
  have hz1 : w.heap.size < w1.heap.size := (Array.getElem?_eq_some_iff.1 z1).1
  have Z1 := hide z1
  obtain ⟨⟨d0, d1, d2, d3, d4, d5⟩, f0, f1, f2, f3, f4, f5⟩ := six_of z1
  clear z1
  cases ok
  · have HP : Hid (ParO l od0 2) := by
      have := HPS.out
      simp only [Bool.false_and, Bool.false_eq_true, if_false] at this
      exact this
    clear HPS
    go_wp2
    obtain ⟨W, hW⟩ : ∃ W, W = ((((((w1).setCell ⟨w.heap.size, 0, none⟩ (.int .i64 0)).setCell ⟨w.heap.size, 1, none⟩ (.int .i64 0)).setCell ⟨w.heap.size, 2, none⟩ (.int .i64 0)).setCell ⟨w.heap.size, 3, none⟩ (.int .i64 0)).setCell ⟨w.heap.size, 4, none⟩ (.int .i64 0)).setCell ⟨w.heap.size, 5, none⟩ (.slice none 0 0) := ⟨_, rfl⟩
    rw [← hW]
    obtain ⟨r2, ro⟩ := set6 Z1.out hW
    obtain ⟨⟨z0, z1, z2, z3, z4, z5⟩, -⟩ := six_of r2
    have hbW : Below w.heap.size w W := HB1.out.trans (ro.bel (Nat.le_refl _) HB1.out.size)
    have hWl : w.heap.size < W.heap.size := (Array.getElem?_eq_some_iff.1 r2).1
    refine bodyPost_ret (v := .tuple #[.agg #[.int .i64 0, .int .i64 0, .int .i64 0, .int .i64 0, .int .i64 0, .slice none 0 0], .int .i64 2]) ?_ rfl ?_
    · rw [results_cell_tmp Tryd.results10]
      simp [go_sem, z0, z1, z2, z3, z4, z5, hWl]
    · exact ⟨⟨od0, 2, none, 0, HP.out, rfl, .inl rfl, Nat.zero_le _⟩, hbW.alloc hbW.size _⟩
  · obtain ⟨V, hV⟩ : ∃ V, V = w1.alloc (.cells #[.int .i64 o.id, .int .i64 o.item, .int .i64 o.qty, .int .i64 o.client, .int .i64 o.price, .slice av o.steps.length cv] 24) := ⟨_, rfl⟩
    have hbV : Below w1.heap.size w1 V := by rw [hV]; exact (Below.refl _ _).alloc (Nat.le_refl _) _
    have hVb : V.heap[w1.heap.size]? = some (.cells #[.int .i64 o.id, .int .i64 o.item, .int .i64 o.qty, .int .i64 o.client, .int .i64 o.price, .slice av o.steps.length cv] 24 (0, 0)) := by
      rw [hV]
      show (w1.heap.push _)[w1.heap.size]? = _
      simp
    have HLN' : o.steps.length ≤ 3 := HLN.out
    have MY := omay_any o av cv V (HST.out.below hbV) (by omega)
    rw [hV] at MY
    have HV := hide hV
    have HBV := hide hbV
    have HVB := hide hVb
    clear hV hbV hVb
    cases hm : mayO o
    · have HP : Hid (ParO l od0 2) := by
        have := HPS.out
        simp only [hm, Bool.and_false, Bool.false_eq_true, if_false] at this
        exact this
      rw [hm] at MY
      go_wp2_with fail
      refine MY.mono ?_
      rintro e w2 ⟨rfl, hb2⟩
      rw [← HV.out] at hb2
      have Z2 := hide ((hb2.block w.heap.size (by have := HBV.out.size; omega)).trans ((HBV.out.block w.heap.size hz1).trans Z1.out))
      have HB2 := hide (bel_on' (bel_on' HB1.out HBV.out) hb2)
      clear d0 d1 d2 d3 d4 d5 f0 f1 f2 f3 f4 f5 hb2
      obtain ⟨⟨d0, d1, d2, d3, d4, d5⟩, f0, f1, f2, f3, f4, f5⟩ := six_of Z2.out
      go_wp2
      obtain ⟨W, hW⟩ : ∃ W, W = ((((((w2).setCell ⟨w.heap.size, 0, none⟩ (.int .i64 0)).setCell ⟨w.heap.size, 1, none⟩ (.int .i64 0)).setCell ⟨w.heap.size, 2, none⟩ (.int .i64 0)).setCell ⟨w.heap.size, 3, none⟩ (.int .i64 0)).setCell ⟨w.heap.size, 4, none⟩ (.int .i64 0)).setCell ⟨w.heap.size, 5, none⟩ (.slice none 0 0) := ⟨_, rfl⟩
      rw [← hW]
      obtain ⟨r2, ro⟩ := set6 Z2.out hW
      obtain ⟨⟨z0, z1, z2, z3, z4, z5⟩, -⟩ := six_of r2
      have hbW : Below w.heap.size w W := HB2.out.trans (ro.bel (Nat.le_refl _) HB2.out.size)
      refine bodyPost_ret (v := .tuple #[.agg #[.int .i64 0, .int .i64 0, .int .i64 0, .int .i64 0, .int .i64 0, .slice none 0 0], .int .i64 2]) ?_ rfl ?_
      · rw [results_cell_tmp Tryd.results10]
        simp [go_sem, z0, z1, z2, z3, z4, z5]
      · exact ⟨⟨od0, 2, none, 0, HP.out, rfl, .inl rfl, Nat.zero_le _⟩, hbW⟩
    · have HP : Hid (ParO l o 0) := by
        have := HPS.out
        simp only [hm, Bool.and_self, if_true] at this
        exact this
      rw [hm] at MY
      go_wp2_with fail
      refine MY.mono ?_
      rintro e w2 ⟨rfl, hb2⟩
      rw [← HV.out] at hb2
      have Z2 := hide ((hb2.block w.heap.size (by have := HBV.out.size; omega)).trans ((HBV.out.block w.heap.size hz1).trans Z1.out))
      have HB2 := hide (bel_on' (bel_on' HB1.out HBV.out) hb2)
      have HST2 := hide ((HST.out.below HBV.out).below hb2)
      have hx := (hb2.block w1.heap.size (Array.getElem?_eq_some_iff.1 HVB.out).1).trans HVB.out
      obtain ⟨⟨x0, x1, x2, x3, x4, x5⟩, -⟩ := six_of hx
      clear d0 d1 d2 d3 d4 d5 f0 f1 f2 f3 f4 f5 hb2 hx
      obtain ⟨⟨d0, d1, d2, d3, d4, d5⟩, f0, f1, f2, f3, f4, f5⟩ := six_of Z2.out
      go_wp2
      obtain ⟨W, hW⟩ : ∃ W, W = (((((w2.setCell ⟨w.heap.size, 0, none⟩ (.int .i64 o.id)).setCell ⟨w.heap.size, 1, none⟩ (.int .i64 o.item)).setCell ⟨w.heap.size, 2, none⟩ (.int .i64 o.qty)).setCell ⟨w.heap.size, 3, none⟩ (.int .i64 o.client)).setCell ⟨w.heap.size, 4, none⟩ (.int .i64 o.price)).setCell ⟨w.heap.size, 5, none⟩ (.slice av o.steps.length cv) := ⟨_, rfl⟩
      rw [← hW]
      obtain ⟨r2, ro⟩ := set6 Z2.out hW
      obtain ⟨⟨z0, z1, z2, z3, z4, z5⟩, -⟩ := six_of r2
      have hbW : Below w.heap.size w W := HB2.out.trans (ro.bel (Nat.le_refl _) HB2.out.size)
      have hstW : Sts W av o.steps := by
        rcases HST2.out with h | ⟨b, off, h1, h2⟩
        · exact .inl h
        · by_cases h0 : o.steps = []
          · exact .inl h0
          · have hbn : b ≠ w.heap.size := by
              intro e
              subst e
              have h3 : Z.heap.size ≤ w.heap.size := HNIL.out _ h1
              have h4 := HZS.out
              omega
            exact .inr ⟨b, off, h1, fun i hi => ⟨ro.cell (h2 i hi).1 hbn, ro.cell (h2 i hi).2 hbn⟩⟩
      refine bodyPost_ret (v := .tuple #[.agg #[.int .i64 o.id, .int .i64 o.item, .int .i64 o.qty, .int .i64 o.client, .int .i64 o.price, .slice av o.steps.length cv], .int .i64 0]) ?_ rfl ?_
      · rw [results_cell_tmp Tryd.results10]
        simp [go_sem, z0, z1, z2, z3, z4, z5]
      · exact ⟨⟨o, 0, av, cv, HP.out, rfl, hstW, HLN.out⟩, hbW⟩
end Go.Proofs.YteefmibnkfojiaaDoor
