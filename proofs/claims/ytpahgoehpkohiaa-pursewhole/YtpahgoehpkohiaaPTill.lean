/-
  PurseTill's walk.
-/
import Derived.Test.YtpahgoehpkohiaaPrsA
import Derived.Test.YtpahgoehpkohiaaNum
namespace Go.Proofs.Ytpahgoehpkohiaa
open Go.ChangeShapes Go.WideShapes Go.ChangeAt Go.RowKit Go.Maps

theorem ints_two (w : World) (x y : Int) : Ints (w.alloc (.cells #[.int .i64 x, .int .i64 y] 3)) (some ⟨w.heap.size, 0, none⟩) [x, y] :=
  .inr ⟨w.heap.size, 0, rfl, fun i hi => by
    rw [cell_of (World.alloc_heap_new _ _)]
    match i, hi with
    | 0, _ => rfl
    | 1, _ => rfl⟩
/-- What the calls come to. -/
theorem till_plain (A B : Int) (hA : 1 ≤ A ∧ A ≤ 1000000000) (hB : 1 ≤ B ∧ B ≤ 1000000000) : ∃ (s2 s3 s4 : Qb) (E2 Z : Int), (alwE (toP (newQ [A, B])) 1 0 A = 0 ∧ alwQ (newQ [A, B]) 1 0 A = s2) ∧ (alwE (toP s2) 2 1 B = E2 ∧ alwQ s2 2 1 B = s3) ∧ E2 = (if A + B ≤ 1000000000 then 0 else 4) ∧ (capE (toP s3) 1 = 0 ∧ capQ s3 1 = s4) ∧ (toP s4).till = A ∧ (toP s4).m 0 = 0 ∧ (alwE (toP s4) 3 1 B = Z ∧ alwQ s4 3 1 B = s4) ∧ Z ≠ 0 ∧ (alwE (toP s4) 1 0 1 = 8 ∧ alwQ s4 1 0 1 = s4) := by
  have g1 := GoodQ.new [A, B]
  have t1 := toP_new [A, B]
  obtain ⟨v1, v2, v3, v4, v5, v6⟩ := new_view [A, B]
  have m0 : (newP [A, B]).m 0 = A := (v1 0).trans (clampA_id (a := A) (by omega) (by omega))
  have m1 : (newP [A, B]).m 1 = B := (v1 1).trans (clampA_id (a := B) (by omega) (by omega))
  have e1 : alwE (newP [A, B]) 1 0 A = 0 := by rw [alwE_of (by omega), v6, v5, if_neg (by simp), v2, v3, v4, m0, if_pos (by omega), if_pos (by omega)]
  have t2 : toP (alwQ (newQ [A, B]) 1 0 A) = alwS (newP [A, B]) 1 0 A := by rw [toP_alw, t1]
  obtain ⟨s2, hs2⟩ : ∃ s2, alwQ (newQ [A, B]) 1 0 A = s2 := ⟨_, rfl⟩
  have g2 : GoodQ s2 := by rw [← hs2]; exact g1.allow 1 0 A
  rw [hs2] at t2
  obtain ⟨a1, a2, a3, a4, a5, a6⟩ := alw_view e1
  rw [← t2] at a1 a2 a3 a4 a5 a6
  have K1 : alwK (toP s2) 1 = 0 := by rw [a5, v2]; rfl
  have L1 : allA (toP s2) = A := by rw [a6, v3]; omega
  have e2 : alwE (toP s2) 2 1 B = if A + B ≤ 1000000000 then 0 else 4 := by
    rw [alwE_of (by omega), a4, updO_other _ _ (by omega), v6, a3, v5, if_neg (by simp), a1, m1, K1, if_pos (by omega), a2, v4, L1, Int.zero_add]
  obtain ⟨s3, hs3⟩ : ∃ s3, alwQ s2 2 1 B = s3 := ⟨_, rfl⟩
  have g3 : GoodQ s3 := by rw [← hs3]; exact g2.allow 2 1 B
  have t3 : toP s3 = alwS (toP s2) 2 1 B := by rw [← hs3, toP_alw]
  -- what is seen of s3
  have V3 : s3.a 1 = some (0, A) ∧ (toP s3).m 0 = A ∧ (toP s3).m 1 = B ∧ (toP s3).till = 0 ∧ (∀ x, (toP s3).p x = 0) ∧ s3.a 3 = none ∧ alwK (toP s3) 0 = A ∧ (A + B ≤ 1000000000 → alwK (toP s3) 1 = B) ∧ (¬ A + B ≤ 1000000000 → alwK (toP s3) 1 = 0 ∧ allA (toP s3) = A) := by
    show (toP s3).a 1 = _ ∧ _ ∧ _ ∧ _ ∧ _ ∧ (toP s3).a 3 = _ ∧ _
    by_cases hf : A + B ≤ 1000000000
    · rw [if_pos hf] at e2
      obtain ⟨c1, c2, c3, c4, c5, c6⟩ := alw_view e2
      rw [← t3] at c1 c2 c3 c4 c5 c6
      refine ⟨?_, ?_, ?_, ?_, fun x => ?_, ?_, ?_, fun _ => ?_, fun h => absurd hf h⟩
      · rw [c4, updO_other _ _ (by omega), a4, updO_same]
      · rw [c1, a1, m0]
      · rw [c1, a1, m1]
      · rw [c2, a2, v4]
      · rw [c3, a3, v5]
      · rw [c4, updO_other _ _ (by omega), a4, updO_other _ _ (by omega), v6]
      · rw [c5, a5, v2, if_pos rfl, if_neg (by omega)]; omega
      · rw [c5, K1, if_pos rfl]; omega
    · rw [if_neg hf] at e2
      rw [alwS_no (by omega)] at t3
      rw [t3]
      refine ⟨?_, ?_, ?_, ?_, fun x => ?_, ?_, ?_, fun h => absurd h hf, fun _ => ⟨K1, L1⟩⟩
      · rw [a4, updO_same]
      · rw [a1, m0]
      · rw [a1, m1]
      · rw [a2, v4]
      · rw [a3, v5]
      · rw [a4, updO_other _ _ (by omega), v6]
      · rw [a5, v2, if_pos rfl]; omega
  obtain ⟨q1, q2, q3, q4, q5, q6, q7, q8, q9⟩ := V3
  obtain ⟨s4, hs4⟩ : ∃ s4, capQ s3 1 = s4 := ⟨_, rfl⟩
  have t4 : toP s4 = capS (toP s3) 1 := by rw [← hs4, toP_cap g3]
  obtain ⟨b1, b2, b3, b4, b5, b6⟩ := cap_view g3.gp (id := 1) (k := 0) (q := A) q1
  rw [← t4] at b1 b2 b3 b4 b5 b6
  have p1 : (toP s4).p 1 = A := by rw [b3, upd_same]
  have p3 : (toP s4).p 3 = 0 := by rw [b3, upd_other _ _ (by omega), q5]
  have n3 : (toP s4).a 3 = none := by rw [b4, updO_other _ _ (by omega)]; exact q6
  have M1 : (toP s4).m 1 = B := by rw [b1, upd_other _ _ (by omega), q3]
  have T4 : (toP s4).till = A := by rw [b2, q4]; omega
  have KB : alwK (toP s4) 1 = alwK (toP s3) 1 := by rw [b5, if_neg (by omega), Int.sub_zero]
  have e4 : alwE (toP s4) 3 1 B ≠ 0 := by
    rw [alwE_of (by omega), n3, p3, if_neg (by simp), M1, T4, KB]
    by_cases hf : A + B ≤ 1000000000
    · rw [q8 hf, if_neg (by omega)]; omega
    · rw [(q9 hf).1, b6, (q9 hf).2, if_pos (by omega), if_neg (by omega)]; omega
  have e5 : alwE (toP s4) 1 0 1 = 8 := by rw [alwE_of (by omega), if_pos (.inr (by rw [p1]; omega))]
  exact ⟨s2, s3, s4, _, _, ⟨by rw [t1]; exact e1, hs2⟩, ⟨e2, hs3⟩, rfl, ⟨capE_some (s := toP s3) q1, hs4⟩, T4, by rw [b1, upd_same, q2]; omega, ⟨rfl, alwQ_no e4⟩, e4, ⟨e5, alwQ_no (by omega)⟩⟩

set_option maxHeartbeats 1000000 in
theorem purseTill_walk (a0 a1 : Int) (w : World) (_w0 : (Lit.int .i64 a0).wf = true) (_w1 : (Lit.int .i64 a1).wf = true) :
    Calls Try.prog 6 #[.int .i64 a0, .int .i64 a1] w fun e w' => e = .returned (.bool true) ∧ Below w.heap.size w w' := by
  obtain ⟨bA1, bA2⟩ := um_bd a0 1000000000 (by omega) (by omega)
  obtain ⟨A, hA⟩ : ∃ A, um a0 1000000000 = A := ⟨_, rfl⟩
  rw [hA] at bA1 bA2
  obtain ⟨bB1, bB2⟩ := um_bd a1 1000000000 (by omega) (by omega)
  obtain ⟨B, hB⟩ : ∃ B, um a1 1000000000 = B := ⟨_, rfl⟩
  rw [hB] at bB1 bB2
  unfold um at hA hB
  have PL := hide (till_plain (1 + A) (1 + B) (by omega) (by omega))
  have HN := hide (pnew_on w (w.alloc (.cells #[.int .i64 (1 + A), .int .i64 (1 + B)] 3)) [1 + A, 1 + B] (bel_al (Below.refl _ _) _) w.heap.size (ints_two w (1 + A) (1 + B)) (by simp))
  go_enter Try.func6, Try.ntmps6
  go_wp2_with fail
  clear hA hB
  refine HN.out.mono ?_
  rintro e w1 ⟨p, b, c, rfl, k1, hb1⟩
  obtain ⟨s2, s3, s4, E2, Z, ⟨e1, E1⟩, ⟨e2, E2'⟩, hE2, ⟨e3, E3⟩, e4, e5, ⟨e6, E6⟩, hZ, ⟨e7, E7⟩⟩ := PL.out
  have t1 := alw_on k1 hb1 (by decide) (by omega) e1 E1
  have T2 := hide (fun u (k : Pk w.heap.size u p b c s2 1) hb => alw_on k hb (by decide) (by omega) e2 E2')
  have T3 := hide (fun u (k : Pk w.heap.size u p b c s3 2) hb => cap_on k hb (by decide) (by omega) e3 E3)
  have T4 := hide (fun u (k : Pk w.heap.size u p b c s4 3) hb => till_on k hb e4)
  have T5 := hide (fun u (k : Pk w.heap.size u p b c s4 3) hb => money_on k hb (by decide) e5)
  have T6 := hide (fun u (k : Pk w.heap.size u p b c s4 3) hb => alw_on k hb (by decide) (by omega) e6 E6)
  have T7 := hide (fun u (k : Pk w.heap.size u p b c s4 4) hb => alw_on k hb (by decide) (by omega) e7 E7)
  have qZ : (Z != 0) = true := by simp [hZ]
  clear PL e1 E1 e2 E2' e3 E3 e4 e5 e6 E6 e7 E7 k1 hb1 HN hZ
  by_cases hf : 1 + A ≤ 1000000000 - (1 + B)
  · rw [if_pos (by omega)] at hE2
    subst hE2
    go_wp2_with (first
      | (go_at_call 16; refine t1.mono ?_; clear t1; rintro e w2 ⟨rfl, k, hb⟩; have t2 := T2.out w2 k hb; clear k hb)
      | (go_at_call 16; refine t2.mono ?_; clear t2; rintro e w3 ⟨rfl, k, hb⟩; have t3 := T3.out w3 k hb; clear k hb)
      | (go_at_call 12; refine t3.mono ?_; clear t3; rintro e w4 ⟨rfl, k, hb⟩; have t4 := T4.out w4 k hb; clear k hb)
      | (go_at_call 19; refine t4.mono ?_; clear t4; rintro e w5 ⟨rfl, k, hb⟩; have t5 := T5.out w5 k hb; clear k hb)
      | (go_at_call 20; refine t5.mono ?_; clear t5; rintro e w6 ⟨rfl, k, hb⟩; have t6 := T6.out w6 k hb; clear k hb)
      | (go_at_call 16; refine t6.mono ?_; clear t6; rintro e w7 ⟨rfl, k, hb⟩; have t7 := T7.out w7 k hb; clear k hb)
      | (go_at_call 16; refine t7.mono ?_; clear t7; rintro e w8 ⟨rfl, k, hb⟩; have HB8 := hide hb; clear k hb)
      | (go_at_call 9; refine (pawake_any _).mono ?_; rintro e u7 ⟨rfl, b7⟩; have HB7 := hide b7; clear b7))
    go_ret
    exact ⟨rfl, bel_on' HB8.out HB7.out⟩
  · rw [if_neg (by omega)] at hE2
    subst hE2
    go_wp2_with (first
      | (go_at_call 16; refine t1.mono ?_; clear t1; rintro e w2 ⟨rfl, k, hb⟩; have t2 := T2.out w2 k hb; clear k hb)
      | (go_at_call 16; refine t2.mono ?_; clear t2; rintro e w3 ⟨rfl, k, hb⟩; have t3 := T3.out w3 k hb; clear k hb)
      | (go_at_call 12; refine t3.mono ?_; clear t3; rintro e w4 ⟨rfl, k, hb⟩; have t4 := T4.out w4 k hb; clear k hb)
      | (go_at_call 19; refine t4.mono ?_; clear t4; rintro e w5 ⟨rfl, k, hb⟩; have t5 := T5.out w5 k hb; clear k hb)
      | (go_at_call 20; refine t5.mono ?_; clear t5; rintro e w6 ⟨rfl, k, hb⟩; have t6 := T6.out w6 k hb; clear k hb)
      | (go_at_call 16; refine t6.mono ?_; clear t6; rintro e w7 ⟨rfl, k, hb⟩; have t7 := T7.out w7 k hb; clear k hb)
      | (go_at_call 16; refine t7.mono ?_; clear t7; rintro e w8 ⟨rfl, k, hb⟩; have HB8 := hide hb; clear k hb)
      | (go_at_call 9; refine (pawake_any _).mono ?_; rintro e u7 ⟨rfl, b7⟩; have HB7 := hide b7; clear b7))
    go_ret
    exact ⟨rfl, bel_on' HB8.out HB7.out⟩
end Go.Proofs.Ytpahgoehpkohiaa
