/-
  The law's awake returns true.
-/
import Derived.Test.YteefmibnkfojiaaDoorOrdQ
import Derived.Test.YteefmibnkfojiaaDoorOrdT
import Derived.Test.YteefmibnkfojiaaDoorOrdE
import Derived.Test.YteefmibnkfojiaaDoorOrdR
import Derived.Test.YteefmibnkfojiaaDoorOrdD
namespace Go.Proofs.YteefmibnkfojiaaDoor
open Go.ChangeShapes Go.WideShapes Go.ChangeAt Go.RowKit

def od7 : Od := ⟨7, 2, 5, 3, 100, [(4, 1)]⟩
def lit7 : List UInt8 := [35, 55, 58, 32, 53, 120, 50, 32, 102, 111, 114, 32, 49, 48, 48, 32, 98, 121, 32, 51, 59, 32, 52, 42, 49]
theorem itoa_dig (n : Nat) (h : n < 10) : Lib.itoa (n : Int) = [UInt8.ofNat (48 + n)] := (itoa_nat n).trans (Lib.decDigits_one h)
theorem itoa_100 : Lib.itoa 100 = [49, 48, 48] := by
  rw [show (100 : Int) = ((100 : Nat) : Int) from rfl, itoa_nat, show 100 = 10 * 10 + 0 from rfl, dec_snoc 10 0 (by omega) (by omega), show 10 = 10 * 1 + 0 from rfl, dec_snoc 1 0 (by omega) (by omega), Lib.decDigits_one (by omega)]
  rfl
theorem may_od7 : mayO od7 = true := by decide
theorem text_od7 : textL od7 = lit7 := by
  unfold textL headL od7
  simp only [stepsL, stepL]
  rw [itoa_100, show (7 : Int) = ((7 : Nat) : Int) from rfl, show (2 : Int) = ((2 : Nat) : Int) from rfl, show (5 : Int) = ((5 : Nat) : Int) from rfl, show (3 : Int) = ((3 : Nat) : Int) from rfl, show (4 : Int) = ((4 : Nat) : Int) from rfl, show (1 : Int) = ((1 : Nat) : Int) from rfl,
    itoa_dig 7 (by omega), itoa_dig 2 (by omega), itoa_dig 5 (by omega), itoa_dig 3 (by omega), itoa_dig 4 (by omega), itoa_dig 1 (by omega)]
  rfl

set_option maxRecDepth 100000 in
set_option maxHeartbeats 4000000 in
theorem oawake_any (w : World) (hg : Gl w) : Calls Tryd.prog 9 #[] w fun e w' => e = .returned (.bool true) ∧ Below w.heap.size w w' := by
  have HG := hide hg
  clear hg
  obtain ⟨W1, hW1⟩ : ∃ W, W = w.alloc (.cells #[.int .i64 4, .int .i64 1] 37) := ⟨_, rfl⟩
  have hb1 : Below w.heap.size w W1 := by rw [hW1]; exact (Below.refl _ _).alloc (Nat.le_refl _) _
  have hs1 : Sts W1 (some ⟨w.heap.size, 0, none⟩) [(4, 1)] := by rw [hW1]; exact sts_one w 4 1
  have hz1 : W1.heap.size = w.heap.size + 1 := by rw [hW1]; simp
  obtain ⟨W2, hW2⟩ : ∃ W, W = W1.alloc (.cells #[.int .i64 7, .int .i64 2, .int .i64 5, .int .i64 3, .int .i64 100, .slice (some ⟨w.heap.size, 0, none⟩) 1 1] 24) := ⟨_, rfl⟩
  have hb2 : Below W1.heap.size W1 W2 := by rw [hW2]; exact (Below.refl _ _).alloc (Nat.le_refl _) _
  have hx2 : W2.heap[w.heap.size + 1]? = some (.cells #[.int .i64 7, .int .i64 2, .int .i64 5, .int .i64 3, .int .i64 100, .slice (some ⟨w.heap.size, 0, none⟩) 1 1] 24 (0, 0)) := by
    rw [hW2, ← hz1]
    show (W1.heap.push _)[W1.heap.size]? = _
    simp
  have hst2 : Sts W2 (some ⟨w.heap.size, 0, none⟩) od7.steps := hs1.below hb2
  have PR : Calls Tryd.prog 10 #[.string ⟨#[35, 55, 58, 32, 53, 120, 50, 32, 102, 111, 114, 32, 49, 48, 48, 32, 98, 121, 32, 51, 59, 32, 52, 42, 49]⟩] W2 fun e w' => ParseO w' lit7 e ∧ Below W2.heap.size W2 w' := oparse_any lit7 W2 (by decide)
  have HBW := hide (bel_on' hb1 hb2)
  rw [hW2, hW1] at PR
  have HW : Hid (W2 = (w.alloc (.cells #[.int .i64 4, .int .i64 1] 37)).alloc (.cells #[.int .i64 7, .int .i64 2, .int .i64 5, .int .i64 3, .int .i64 100, .slice (some ⟨w.heap.size, 0, none⟩) 1 1] 24)) := by show W2 = _; rw [hW2, hW1]
  have HX2 := hide hx2
  have HST2 := hide hst2
  have HU7 : Hid (ParO lit7 od7 0) := by show ParO lit7 od7 0; rw [← text_od7]; exact parO_text may_od7
  clear hW1 hW2 hb1 hb2 hs1 hx2 hst2 hz1
  go_enter Tryd.func9, Tryd.ntmps9
  go_wp2_with fail
  refine PR.mono ?_
  rintro e w3 ⟨⟨o, x, av, cv, hpo, rfl, hst, -⟩, hb3⟩
  rw [← HW.out] at hb3
  obtain ⟨rfl, rfl⟩ := ParO.uniq hpo HU7.out
  have HX3 := hide ((hb3.block _ (Array.getElem?_eq_some_iff.1 HX2.out).1).trans HX2.out)
  have HST3 := hide (HST2.out.below hb3)
  have HSP := hide hst
  have HB3 := hide (bel_on' HBW.out hb3)
  have hlt3 : w.heap.size + 1 < w3.heap.size := (Array.getElem?_eq_some_iff.1 HX3.out).1
  obtain ⟨⟨d0, d1, d2, d3, d4, d5⟩, -⟩ := six_of HX3.out
  clear hpo hst hb3 PR HX2 HST2 HBW HW
  obtain ⟨V, hV⟩ : ∃ V, V = w3.alloc (.cells #[.int .i64 od7.id, .int .i64 od7.item, .int .i64 od7.qty, .int .i64 od7.client, .int .i64 od7.price, .slice av od7.steps.length cv] 24) := ⟨_, rfl⟩
  have hbV : Below w3.heap.size w3 V := by rw [hV]; exact (Below.refl _ _).alloc (Nat.le_refl _) _
  have hVb : V.heap[w3.heap.size]? = some (.cells #[.int .i64 od7.id, .int .i64 od7.item, .int .i64 od7.qty, .int .i64 od7.client, .int .i64 od7.price, .slice av od7.steps.length cv] 24 (0, 0)) := by
    rw [hV]
    show (w3.heap.push _)[w3.heap.size]? = _
    simp
  have HBV := hide (bel_on' HB3.out hbV)
  have HXV := hide ((hbV.block _ hlt3).trans HX3.out)
  have HSO := hide (HST3.out.below hbV)
  have HSQ := hide (HSP.out.below hbV)
  have HVB := hide hVb
  have hltV : w3.heap.size < V.heap.size := (Array.getElem?_eq_some_iff.1 hVb).1
  have TX : Calls Tryd.prog 18 #[.agg #[.int .i64 7, .int .i64 2, .int .i64 5, .int .i64 3, .int .i64 100, .slice (some ⟨w.heap.size, 0, none⟩) 1 1]] V fun e w' => e = .returned (.string ⟨#[35, 55, 58, 32, 53, 120, 50, 32, 102, 111, 114, 32, 49, 48, 48, 32, 98, 121, 32, 51, 59, 32, 52, 42, 49]⟩) ∧ Below V.heap.size V w' := by
    have h := otext_any od7 (some ⟨w.heap.size, 0, none⟩) 1 V HSO.out (by decide) (HG.out.on HBV.out)
    have e : byB (textV od7) = ⟨#[35, 55, 58, 32, 53, 120, 50, 32, 102, 111, 114, 32, 49, 48, 48, 32, 98, 121, 32, 51, 59, 32, 52, 42, 49]⟩ := by
      unfold textV
      rw [if_pos may_od7, text_od7]
      rfl
    rw [e] at h
    exact h
  rw [hV] at TX
  have HV := hide hV
  clear hV hbV hVb
  go_wp2_with fail
  refine TX.mono ?_
  rintro e w4 ⟨rfl, hb4⟩
  rw [← HV.out] at hb4
  have HB4 := hide (bel_on' HBV.out hb4)
  have HX4 := hide ((hb4.block _ (by omega)).trans HXV.out)
  have HQ4 := hide ((hb4.block _ hltV).trans HVB.out)
  have HSO4 := hide (HSO.out.below hb4)
  have HSQ4 := hide (HSQ.out.below hb4)
  clear d0 d1 d2 d3 d4 d5 hb4 TX
  obtain ⟨⟨d0, d1, d2, d3, d4, d5⟩, -⟩ := six_of HX4.out
  obtain ⟨⟨g0, g1, g2, g3, g4, g5⟩, -⟩ := six_of HQ4.out
  have SM : Calls Tryd.prog 14 #[.agg #[.int .i64 7, .int .i64 2, .int .i64 5, .int .i64 3, .int .i64 100, .slice (some ⟨w.heap.size, 0, none⟩) 1 1], .agg #[.int .i64 od7.id, .int .i64 od7.item, .int .i64 od7.qty, .int .i64 od7.client, .int .i64 od7.price, .slice av od7.steps.length cv]] w4 fun e w' => e = .returned (.bool true) ∧ Below w4.heap.size w4 w' := by
    have h := osame_any od7 od7 (some ⟨w.heap.size, 0, none⟩) av 1 cv w4 HSO4.out HSQ4.out (by decide)
    rw [(sameO_iff od7 od7).2 rfl] at h
    exact h
  go_wp2_with fail
  refine SM.mono ?_
  rintro e w5 ⟨rfl, hb5⟩
  have HB5 := hide (bel_on' HB4.out hb5)
  have HX5 := hide ((hb5.block _ (Array.getElem?_eq_some_iff.1 HX4.out).1).trans HX4.out)
  have HSO5 := hide (HSO4.out.below hb5)
  clear d0 d1 d2 d3 d4 d5 g0 g1 g2 g3 g4 g5 hb5 SM
  obtain ⟨⟨d0, d1, d2, d3, d4, d5⟩, -⟩ := six_of HX5.out
  have AT : Calls Tryd.prog 16 #[.agg #[.int .i64 7, .int .i64 2, .int .i64 5, .int .i64 3, .int .i64 100, .slice (some ⟨w.heap.size, 0, none⟩) 1 1], .int .i64 5] w5 fun e w' => e = .returned (.int .i64 (-1)) ∧ Below w5.heap.size w5 w' := at_any od7 (some ⟨w.heap.size, 0, none⟩) 1 5 w5 HSO5.out (by decide)
  go_wp2_with fail
  refine AT.mono ?_
  rintro e w6 ⟨rfl, hb6⟩
  go_wp2
  go_ret
  exact ⟨rfl, bel_on' HB5.out hb6⟩
end Go.Proofs.YteefmibnkfojiaaDoor
