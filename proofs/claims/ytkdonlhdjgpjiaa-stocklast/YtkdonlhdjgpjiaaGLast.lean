/-
  StockLast's walk.
-/
import Derived.Test.YtkdonlhdjgpjiaaSckA
import Derived.Test.YtkdonlhdjgpjiaaNum
namespace Go.Proofs.Ytkdonlhdjgpjiaa
open Go.ChangeShapes Go.WideShapes Go.ChangeAt Go.RowKit Go.Maps

theorem upd_fr (s : Sb) (h v x : Int) : upd s.fr h v x = if x = h then v else s.fr x := rfl
/-- What the calls come to. -/
theorem last_plain (G F : Int) (h1 : 1 ≤ F) (h2 : F < G) (h3 : G ≤ 1001) : ∃ s2 s3 s4 s5 s6 : Sb,
    (resE (newS [G]) 1 0 F = 0 ∧ resS (newS [G]) 1 0 F = s2) ∧ (resE s2 2 0 (G - F + 1) = 9 ∧ resS s2 2 0 (G - F + 1) = s2) ∧ (resE s2 3 0 (G - F) = 0 ∧ resS s2 3 0 (G - F) = s3) ∧ (resE s3 4 0 1 = 9 ∧ resS s3 4 0 1 = s3) ∧
    (unE s3 1 = 0 ∧ comS s3 1 = s4) ∧ (resE s4 4 0 1 = 9 ∧ resS s4 4 0 1 = s4) ∧ (unE s4 3 = 0 ∧ relS s4 3 = s5) ∧ (resE s5 4 0 (G - F) = 0 ∧ resS s5 4 0 (G - F) = s6) ∧ onV s6 0 = G - F := by
  have f1 : (newS [G]).fr 0 = G := clampA_id (a := G) (by omega) (by omega)
  have o1 : (newS [G]).on 0 = G := clampA_id (a := G) (by omega) (by omega)
  have e1 : resE (newS [G]) 1 0 F = 0 := by unfold resE; rw [if_pos ⟨by decide, by decide, by omega, by omega⟩, if_neg (by simp [newS]), if_pos (by omega)]
  have E2 : resS (newS [G]) 1 0 F = ⟨(newS [G]).on, upd (newS [G]).fr 0 (G - F), updO (fun _ => none) 1 (some (0, F))⟩ := by rw [resS_ok e1, f1]; rfl
  obtain ⟨s2, hs2⟩ : ∃ s2 : Sb, s2 = ⟨(newS [G]).on, upd (newS [G]).fr 0 (G - F), updO (fun _ => none) 1 (some (0, F))⟩ := ⟨_, rfl⟩
  have f2 : s2.fr 0 = G - F := by rw [hs2]; dsimp only; exact upd_same _ _ _
  have r2 : s2.r = updO (fun _ => none) 1 (some (0, F)) := by rw [hs2]
  have o2 : s2.on 0 = G := by rw [hs2]; exact o1
  have e2 : resE s2 2 0 (G - F + 1) = 9 := by unfold resE; rw [if_pos ⟨by decide, by decide, by omega, by omega⟩, r2, if_neg (by simp [updO]), if_neg (by omega)]
  have e3 : resE s2 3 0 (G - F) = 0 := by unfold resE; rw [if_pos ⟨by decide, by decide, by omega, by omega⟩, r2, if_neg (by simp [updO]), if_pos (by omega)]
  obtain ⟨s3, hs3⟩ : ∃ s3 : Sb, s3 = resS s2 3 0 (G - F) := ⟨_, rfl⟩
  have E3 : s3 = ⟨s2.on, upd s2.fr 0 0, updO s2.r 3 (some (0, G - F))⟩ := by rw [hs3, resS_ok e3, f2, show G - F - (G - F) = 0 by omega]
  have f3 : s3.fr 0 = 0 := by rw [E3]; dsimp only; exact upd_same _ _ _
  have o3 : s3.on 0 = G := by rw [E3]; exact o2
  have r3 : s3.r = updO (updO (fun _ => none) 1 (some (0, F))) 3 (some (0, G - F)) := by rw [E3, r2]
  have e4 : resE s3 4 0 1 = 9 := by unfold resE; rw [if_pos ⟨by decide, by decide, by omega, by omega⟩, r3, if_neg (by simp [updO]), if_neg (by omega)]
  have g3 : s3.r 1 = some (0, F) := by rw [r3, updO_other _ _ (by decide), updO_same]
  obtain ⟨s4, hs4⟩ : ∃ s4 : Sb, s4 = comS s3 1 := ⟨_, rfl⟩
  have E4 : s4 = ⟨upd s3.on 0 (G - F), s3.fr, updO s3.r 1 none⟩ := by rw [hs4, comS_some g3]; dsimp only; rw [o3]
  have f4 : s4.fr 0 = 0 := by rw [E4]; exact f3
  have o4 : s4.on 0 = G - F := by rw [E4]; dsimp only; exact upd_same _ _ _
  have r4 : s4.r = updO (updO (updO (fun _ => none) 1 (some (0, F))) 3 (some (0, G - F))) 1 none := by rw [E4, r3]
  have e5 : resE s4 4 0 1 = 9 := by unfold resE; rw [if_pos ⟨by decide, by decide, by omega, by omega⟩, r4, if_neg (by simp [updO]), if_neg (by omega)]
  have g4 : s4.r 3 = some (0, G - F) := by rw [r4, updO_other _ _ (by decide), updO_same]
  obtain ⟨s5, hs5⟩ : ∃ s5 : Sb, s5 = relS s4 3 := ⟨_, rfl⟩
  have E5 : s5 = ⟨s4.on, upd s4.fr 0 (G - F), updO s4.r 3 none⟩ := by rw [hs5, relS_some g4]; dsimp only; rw [f4, Int.zero_add]
  have f5 : s5.fr 0 = G - F := by rw [E5]; dsimp only; exact upd_same _ _ _
  have o5 : s5.on 0 = G - F := by rw [E5]; exact o4
  have r5 : s5.r = updO (updO (updO (updO (fun _ => none) 1 (some (0, F))) 3 (some (0, G - F))) 1 none) 3 none := by rw [E5, r4]
  have e6 : resE s5 4 0 (G - F) = 0 := by unfold resE; rw [if_pos ⟨by decide, by decide, by omega, by omega⟩, r5, if_neg (by simp [updO]), if_pos (by omega)]
  refine ⟨s2, s3, s4, s5, resS s5 4 0 (G - F), ⟨e1, by rw [E2, hs2]⟩, ⟨e2, resS_no (by omega)⟩, ⟨e3, hs3.symm⟩, ⟨e4, resS_no (by omega)⟩, ⟨unE_some g3, hs4.symm⟩, ⟨e5, resS_no (by omega)⟩, ⟨unE_some g4, hs5.symm⟩, ⟨e6, rfl⟩, ?_⟩
  unfold onV
  rw [if_pos (by decide), resS_ok e6]
  exact o5

set_option maxHeartbeats 1000000 in
theorem stockLast_walk (a0 a1 : Int) (w : World) (_w0 : (Lit.int .i64 a0).wf = true) (_w1 : (Lit.int .i64 a1).wf = true) :
    Calls Try.prog 8 #[.int .i64 a0, .int .i64 a1] w fun e w' => e = .returned (.bool true) ∧ Below w.heap.size w w' := by
  obtain ⟨bA1, bA2⟩ := um_bd a0 1000 (by omega) (by omega)
  obtain ⟨A, hA⟩ : ∃ A, um a0 1000 = A := ⟨_, rfl⟩
  rw [hA] at bA1 bA2
  obtain ⟨bB1, bB2⟩ := um_bd a1 (2 + A - 1) (by omega) (by omega)
  obtain ⟨B, hB⟩ : ∃ B, um a1 (2 + A - 1) = B := ⟨_, rfl⟩
  rw [hB] at bB1 bB2
  unfold um at hA hB
  have PL := hide (last_plain (2 + A) (1 + B) (by omega) (by omega) (by omega))
  have HN := hide (snew_on w (w.alloc (.cells #[.int .i64 (2 + A)] 3)) [2 + A] (bel_al (Below.refl _ _) _) w.heap.size (ints_one w (2 + A)) (by simp))
  go_enter Try.func8, Try.ntmps8
  go_wp2_with fail
  clear hA hB
  refine HN.out.mono ?_
  rintro e w1 ⟨p, b, rfl, k1, hb1⟩
  obtain ⟨s2, s3, s4, s5, s6, ⟨e1, E1⟩, ⟨e2, E2⟩, ⟨e3, E3⟩, ⟨e4, E4⟩, ⟨e5, E5⟩, ⟨e6, E6⟩, ⟨e7, E7⟩, ⟨e8, E8⟩, e9⟩ := PL.out
  have t1 := res_on k1 hb1 (by decide) (by omega) e1 E1
  have T2 := hide (fun u (k : Sk w.heap.size u p b s2 1) hb => res_on k hb (by decide) (by omega) e2 E2)
  have T3 := hide (fun u (k : Sk w.heap.size u p b s2 2) hb => res_on k hb (by decide) (by omega) e3 E3)
  have T4 := hide (fun u (k : Sk w.heap.size u p b s3 3) hb => res_on k hb (by decide) (by omega) e4 E4)
  have T5 := hide (fun u (k : Sk w.heap.size u p b s3 4) hb => com_on k hb (by decide) e5 E5)
  have T6 := hide (fun u (k : Sk w.heap.size u p b s4 4) hb => res_on k hb (by decide) (by omega) e6 E6)
  have T7 := hide (fun u (k : Sk w.heap.size u p b s4 5) hb => rel_on k hb (by decide) e7 E7)
  have T8 := hide (fun u (k : Sk w.heap.size u p b s5 5) hb => res_on k hb (by decide) (by omega) e8 E8)
  have T9 := hide (fun u (k : Sk w.heap.size u p b s6 6) => on_on k e9)
  clear PL e1 E1 e2 E2 e3 E3 e4 E4 e5 E5 e6 E6 e7 E7 e8 E8 e9 k1 hb1 HN
  go_wp2_with (first
    | (go_at_call 16; refine t1.mono ?_; clear t1; rintro e w2 ⟨rfl, k, hb⟩; have t2 := T2.out w2 k hb; clear k hb)
    | (go_at_call 16; refine t2.mono ?_; clear t2; rintro e w3 ⟨rfl, k, hb⟩; have t3 := T3.out w3 k hb; clear k hb)
    | (go_at_call 16; refine t3.mono ?_; clear t3; rintro e w4 ⟨rfl, k, hb⟩; have t4 := T4.out w4 k hb; clear k hb)
    | (go_at_call 16; refine t4.mono ?_; clear t4; rintro e w5 ⟨rfl, k, hb⟩; have t5 := T5.out w5 k hb; clear k hb)
    | (go_at_call 12; refine t5.mono ?_; clear t5; rintro e w6 ⟨rfl, k, hb⟩; have t6 := T6.out w6 k hb; clear k hb)
    | (go_at_call 16; refine t6.mono ?_; clear t6; rintro e w7 ⟨rfl, k, hb⟩; have t7 := T7.out w7 k hb; clear k hb)
    | (go_at_call 14; refine t7.mono ?_; clear t7; rintro e w8 ⟨rfl, k, hb⟩; have t8 := T8.out w8 k hb; clear k hb)
    | (go_at_call 16; refine t8.mono ?_; clear t8; rintro e w9 ⟨rfl, k, hb⟩; have t9 := T9.out w9 k; have HB9 := hide hb; clear k hb)
    | (go_at_call 19; refine t9.mono ?_; clear t9; rintro e u ⟨rfl, rfl⟩)
    | (go_at_call 9; refine (sawake_any _).mono ?_; rintro e u7 ⟨rfl, b7⟩; have HB7 := hide b7; clear b7))
  go_ret
  exact ⟨rfl, bel_on' HB9.out HB7.out⟩
end Go.Proofs.Ytkdonlhdjgpjiaa
