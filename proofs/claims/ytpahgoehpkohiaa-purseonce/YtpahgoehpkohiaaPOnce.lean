/-
  PurseOnce's walk.
-/
import Derived.Test.YtpahgoehpkohiaaPrsA
import Derived.Test.YtpahgoehpkohiaaNum
namespace Go.Proofs.Ytpahgoehpkohiaa
open Go.ChangeShapes Go.WideShapes Go.ChangeAt Go.RowKit Go.Maps

/-- What the calls come to. -/
theorem once_plain (q : Int) (hq : 1 ≤ q ∧ q ≤ 1000) : ∃ s2 s3 s4 s5 : Qb, (alwE (toP (newQ [1000])) 9 0 q = 0 ∧ alwQ (newQ [1000]) 9 0 q = s2) ∧ alwK (toP s2) 0 = q ∧ (toP s2).m 0 = 1000 ∧
    ((capE (toP s2) 9 = 0 ∧ capQ s2 9 = s3) ∧ (toP s3).p 9 = q ∧ (capE (toP s3) 9 = 6 ∧ capQ s3 9 = s3 ∧ voidQ s3 9 = s3) ∧ (alwE (toP s3) 9 0 1 = 8 ∧ alwQ s3 9 0 1 = s3) ∧ (toP s3).till = q ∧ alwK (toP s3) 0 = 0) ∧
    ((capE (toP s2) 9 = 0 ∧ voidQ s2 9 = s4) ∧ (toP s4).p 9 = 0 ∧ (capE (toP s4) 9 = 6 ∧ capQ s4 9 = s4) ∧ (alwE (toP s4) 9 0 1000 = 0 ∧ alwQ s4 9 0 1000 = s5) ∧ (toP s5).till = 0) := by
  have g1 := GoodQ.new [1000]
  have t1 := toP_new [1000]
  obtain ⟨v1, v2, v3, v4, v5, v6⟩ := new_view [1000]
  have m0 : (newP [1000]).m 0 = 1000 := (v1 0).trans (clampA_id (a := 1000) (by omega) (by omega))
  have e1 : alwE (newP [1000]) 9 0 q = 0 := by rw [alwE_of (by omega), v6, v5, if_neg (by simp), v2, v3, v4, m0, if_pos (by omega), if_pos (by omega)]
  have t2 : toP (alwQ (newQ [1000]) 9 0 q) = alwS (newP [1000]) 9 0 q := by rw [toP_alw, t1]
  obtain ⟨s2, hs2⟩ : ∃ s2, alwQ (newQ [1000]) 9 0 q = s2 := ⟨_, rfl⟩
  have g2 : GoodQ s2 := by rw [← hs2]; exact g1.allow 9 0 q
  rw [hs2] at t2
  obtain ⟨a1, a2, a3, a4, a5, a6⟩ := alw_view e1
  rw [← t2] at a1 a2 a3 a4 a5 a6
  have K2 : alwK (toP s2) 0 = q := by rw [a5, v2, if_pos rfl]; omega
  have L2 : allA (toP s2) = q := by rw [a6, v3]; omega
  have M2 : (toP s2).m 0 = 1000 := by rw [a1, m0]
  have h9 : s2.a 9 = some (0, q) := by show (toP s2).a 9 = _; rw [a4, updO_same]
  obtain ⟨s3, hs3⟩ : ∃ s3, capQ s2 9 = s3 := ⟨_, rfl⟩
  have t3 : toP s3 = capS (toP s2) 9 := by rw [← hs3, toP_cap g2]
  obtain ⟨b1, b2, b3, b4, b5, b6⟩ := cap_view g2.gp (id := 9) (k := 0) (q := q) h9
  rw [← t3] at b1 b2 b3 b4 b5 b6
  have n3 : s3.a 9 = none := by show (toP s3).a 9 = _; rw [b4, updO_same]
  have p3 : (toP s3).p 9 = q := by rw [b3, upd_same]
  have e3 : alwE (toP s3) 9 0 1 = 8 := by rw [alwE_of (by omega), if_pos (.inr (by rw [p3]; omega))]
  have T3 : (toP s3).till = q := by rw [b2, a2, v4]; omega
  have K3 : alwK (toP s3) 0 = 0 := by rw [b5, K2, if_pos rfl]; omega
  obtain ⟨s4, hs4⟩ : ∃ s4, voidQ s2 9 = s4 := ⟨_, rfl⟩
  have t4 : toP s4 = voidS (toP s2) 9 := by rw [← hs4, toP_void]
  obtain ⟨c1, c2, c3, c4, c5, c6⟩ := void_view g2.gp (id := 9) (k := 0) (q := q) h9
  rw [← t4] at c1 c2 c3 c4 c5 c6
  have n4 : s4.a 9 = none := by show (toP s4).a 9 = _; rw [c4, updO_same]
  have n4' : (toP s4).a 9 = none := n4
  have p4 : (toP s4).p 9 = 0 := by rw [c3, a3, v5]
  have K4 : alwK (toP s4) 0 = 0 := by rw [c5, K2, if_pos rfl]; omega
  have L4 : allA (toP s4) = 0 := by rw [c6, L2]; omega
  have M4 : (toP s4).m 0 = 1000 := by rw [c1, M2]
  have T4 : (toP s4).till = 0 := by rw [c2, a2, v4]
  have e4 : alwE (toP s4) 9 0 1000 = 0 := by rw [alwE_of (by omega), n4', p4, if_neg (by simp), K4, L4, M4, T4, if_pos (by omega), if_pos (by omega)]
  obtain ⟨s5, hs5⟩ : ∃ s5, alwQ s4 9 0 1000 = s5 := ⟨_, rfl⟩
  have T5 : (toP s5).till = 0 := by rw [← hs5, toP_alw, (alw_view e4).2.1, T4]
  exact ⟨s2, s3, s4, s5, ⟨by rw [t1]; exact e1, hs2⟩, K2, M2, ⟨⟨capE_some (s := toP s2) h9, hs3⟩, p3, ⟨capE_none (s := toP s3) n3, capQ_none n3, voidQ_none n3⟩, ⟨e3, alwQ_no (by omega)⟩, T3, K3⟩, ⟨⟨capE_some (s := toP s2) h9, hs4⟩, p4, ⟨capE_none (s := toP s4) n4, capQ_none n4⟩, ⟨e4, hs5⟩, T5⟩⟩

set_option maxHeartbeats 1000000 in
theorem purseOnce_walk (a0 : Int) (a1 : Bool) (w : World) (_w0 : (Lit.int .i64 a0).wf = true) :
    Calls Try.prog 7 #[.int .i64 a0, .bool a1] w fun e w' => e = .returned (.bool true) ∧ Below w.heap.size w w' := by
  obtain ⟨bA1, bA2⟩ := um_bd a0 1000 (by omega) (by omega)
  obtain ⟨A, hA⟩ : ∃ A, um a0 1000 = A := ⟨_, rfl⟩
  rw [hA] at bA1 bA2
  unfold um at hA
  have PL := hide (once_plain (1 + A) (by omega))
  have HN := hide (pnew_on w (w.alloc (.cells #[.int .i64 1000] 3)) [1000] (bel_al (Below.refl _ _) _) w.heap.size (ints_one w 1000) (by simp))
  go_enter Try.func7, Try.ntmps7
  go_wp2_with fail
  clear hA
  refine HN.out.mono ?_
  rintro e w1 ⟨p, b, c, rfl, k1, hb1⟩
  obtain ⟨s2, s3, s4, s5, ⟨e1, E1⟩, e2, e3, ⟨⟨f1, F1⟩, f2, ⟨f3, F3, F4⟩, ⟨f5, F5⟩, f6, f7⟩, ⟨⟨g1, G1⟩, g2, ⟨g3, G3⟩, ⟨g4, G4⟩, g5⟩⟩ := PL.out
  have t1 := alw_on k1 hb1 (by decide) (by omega) e1 E1
  have T2 := hide (fun u (k : Pk w.heap.size u p b c s2 1) hb => allowed_on k hb e2)
  have T3 := hide (fun u (k : Pk w.heap.size u p b c s2 1) hb => money_on k hb (by decide) e3)
  have AW := hide (fun u => pawake_any u)
  clear PL e1 E1 e2 e3 k1 hb1 HN
  cases a1
  · have T4 := hide (fun u (k : Pk w.heap.size u p b c s2 1) hb => void_on k hb (by decide) g1 G1)
    have T5 := hide (fun u (k : Pk w.heap.size u p b c s4 2) hb => paid_on k hb (id := 9) (by decide) g2 (o := false) (by rw [g2]; rfl))
    have T6 := hide (fun u (k : Pk w.heap.size u p b c s4 2) hb => cap_on k hb (by decide) (by omega) g3 G3)
    have T7 := hide (fun u (k : Pk w.heap.size u p b c s4 3) hb => alw_on k hb (by decide) (by omega) g4 G4)
    have T8 := hide (fun u (k : Pk w.heap.size u p b c s5 4) hb => till_on k hb g5)
    clear f1 F1 f2 f3 F3 F4 f5 F5 f6 f7 g1 G1 g2 g3 G3 g4 G4 g5
    go_wp2_with (first
      | (go_at_call 16; refine t1.mono ?_; clear t1; rintro e w2 ⟨rfl, k, hb⟩; have t2 := T2.out w2 k hb; clear k hb)
      | (go_at_call 21; refine t2.mono ?_; clear t2; rintro e w3 ⟨rfl, k, hb⟩; have t3 := T3.out w3 k hb; clear k hb)
      | (go_at_call 20; refine t3.mono ?_; clear t3; rintro e w4 ⟨rfl, k, hb⟩; have t4 := T4.out w4 k hb; clear k hb)
      | (go_at_call 14; refine t4.mono ?_; clear t4; rintro e w5 ⟨rfl, k, hb⟩; have t5 := T5.out w5 k hb; clear k hb)
      | (go_at_call 18; refine t5.mono ?_; clear t5; rintro e w6 ⟨rfl, k, hb⟩; have t6 := T6.out w6 k hb; clear k hb)
      | (go_at_call 12; refine t6.mono ?_; clear t6; rintro e w7 ⟨rfl, k, hb⟩; have t7 := T7.out w7 k hb; clear k hb)
      | (go_at_call 16; refine t7.mono ?_; clear t7; rintro e w8 ⟨rfl, k, hb⟩; have t8 := T8.out w8 k hb; clear k hb)
      | (go_at_call 19; refine t8.mono ?_; clear t8; rintro e w9 ⟨rfl, k, hb⟩; have HB8 := hide hb; clear k hb)
      | (go_at_call 9; refine (AW.out _).mono ?_; rintro e u7 ⟨rfl, b7⟩; have HB7 := hide b7; clear b7))
    go_ret
    exact ⟨rfl, bel_on' HB8.out HB7.out⟩
  · have T4 := hide (fun u (k : Pk w.heap.size u p b c s2 1) hb => cap_on k hb (by decide) (by omega) f1 F1)
    have T5 := hide (fun u (k : Pk w.heap.size u p b c s3 2) hb => paid_on k hb (id := 9) (by decide) f2 (o := true) (by rw [f2]; simp; omega))
    have T6 := hide (fun u (k : Pk w.heap.size u p b c s3 2) hb => cap_on k hb (by decide) (by omega) f3 F3)
    have T7 := hide (fun u (k : Pk w.heap.size u p b c s3 3) hb => void_on k hb (by decide) f3 F4)
    have T8 := hide (fun u (k : Pk w.heap.size u p b c s3 4) hb => alw_on k hb (by decide) (by omega) f5 F5)
    have T9 := hide (fun u (k : Pk w.heap.size u p b c s3 5) hb => till_on k hb f6)
    have TA := hide (fun u (k : Pk w.heap.size u p b c s3 5) hb => allowed_on k hb f7)
    clear f1 F1 f2 f3 F3 F4 f5 F5 f6 f7 g1 G1 g2 g3 G3 g4 G4 g5
    go_wp2_with (first
      | (go_at_call 16; refine t1.mono ?_; clear t1; rintro e w2 ⟨rfl, k, hb⟩; have t2 := T2.out w2 k hb; clear k hb)
      | (go_at_call 21; refine t2.mono ?_; clear t2; rintro e w3 ⟨rfl, k, hb⟩; have t3 := T3.out w3 k hb; clear k hb)
      | (go_at_call 20; refine t3.mono ?_; clear t3; rintro e w4 ⟨rfl, k, hb⟩; have t4 := T4.out w4 k hb; clear k hb)
      | (go_at_call 12; refine t4.mono ?_; clear t4; rintro e w5 ⟨rfl, k, hb⟩; have t5 := T5.out w5 k hb; clear k hb)
      | (go_at_call 18; refine t5.mono ?_; clear t5; rintro e w6 ⟨rfl, k, hb⟩; have t6 := T6.out w6 k hb; clear k hb)
      | (go_at_call 12; refine t6.mono ?_; clear t6; rintro e w7 ⟨rfl, k, hb⟩; have t7 := T7.out w7 k hb; clear k hb)
      | (go_at_call 14; refine t7.mono ?_; clear t7; rintro e w8 ⟨rfl, k, hb⟩; have t8 := T8.out w8 k hb; clear k hb)
      | (go_at_call 16; refine t8.mono ?_; clear t8; rintro e w9 ⟨rfl, k, hb⟩; have t9 := T9.out w9 k hb; clear k hb)
      | (go_at_call 19; refine t9.mono ?_; clear t9; rintro e w10 ⟨rfl, k, hb⟩; have tA := TA.out w10 k hb; clear k hb)
      | (go_at_call 21; refine tA.mono ?_; clear tA; rintro e w11 ⟨rfl, k, hb⟩; have HB8 := hide hb; clear k hb)
      | (go_at_call 9; refine (AW.out _).mono ?_; rintro e u7 ⟨rfl, b7⟩; have HB7 := hide b7; clear b7))
    go_ret
    exact ⟨rfl, bel_on' HB8.out HB7.out⟩
end Go.Proofs.Ytpahgoehpkohiaa
