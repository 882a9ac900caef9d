/-
  HoldApart's walk.
-/
import Derived.Test.YtbdmphcmmilajaaHldA
import Derived.Test.YtbdmphcmmilajaaHldD
import Derived.Test.YtbdmphcmmilajaaNum
namespace Go.Proofs.Ytbdmphcmmilajaa
open Go.ChangeShapes Go.WideShapes Go.ChangeAt Go.RowKit Go.Maps

set_option maxHeartbeats 1000000 in
theorem holdApart_walk (a0 a1 a2 a3 : Int) (w : World) (_w0 : (Lit.int .i64 a0).wf = true) (_w1 : (Lit.int .i64 a1).wf = true) (_w2 : (Lit.int .i64 a2).wf = true) (_w3 : (Lit.int .i64 a3).wf = true) :
    Calls Try.prog 6 #[.int .i64 a0, .int .i64 a1, .int .i64 a2, .int .i64 a3] w fun e w' => e = .returned (.bool true) ∧ Below w.heap.size w w' := by
  obtain ⟨bA1, bA2⟩ := um_bd a0 999 (by omega) (by omega)
  obtain ⟨bB1, bB2⟩ := um_bd a1 999 (by omega) (by omega)
  obtain ⟨bN1, bN2⟩ := um_bd a2 1000 (by omega) (by omega)
  obtain ⟨bM1, bM2⟩ := um_bd a3 1000 (by omega) (by omega)
  obtain ⟨A, hA⟩ : ∃ A, um a0 999 = A := ⟨_, rfl⟩
  obtain ⟨B, hB⟩ : ∃ B, um a1 999 = B := ⟨_, rfl⟩
  obtain ⟨N, hN⟩ : ∃ N, um a2 1000 = N := ⟨_, rfl⟩
  obtain ⟨M, hM⟩ : ∃ M, um a3 1000 = M := ⟨_, rfl⟩
  rw [hA] at bA1 bA2
  rw [hB] at bB1 bB2
  rw [hN] at bN1 bN2
  rw [hM] at bM1 bM2
  unfold um at hA hB hN hM
  by_cases hAB : A = B
  · have q1 : (1 + A == 1 + B) = true := by simp [hAB]
    clear hAB
    go_enter Try.func6, Try.ntmps6
    go_wp2_with (go_at_call 20; refine (hawake_any _).mono ?_; rintro e w1 ⟨rfl, hb⟩)
    go_ret
    exact ⟨rfl, hb⟩
  · have q1 : (1 + A == 1 + B) = false := by simp; omega
    have key : ∀ R : Int, 1 + N ≤ R → 1 + M ≤ R → R ≤ 1000 → clampA R = R := fun R h1 _ h2 => by unfold clampA; rw [if_neg (by omega), if_pos (by omega)]
    have wA : (Lit.int .i64 (1 + A)).wf = true := wf_of (by omega) (by omega)
    have wB : (Lit.int .i64 (1 + B)).wf = true := wf_of (by omega) (by omega)
    have iA : isI (1 + A) = true := isI_iff.2 (by omega)
    have iB : isI (1 + B) = true := isI_iff.2 (by omega)
    have hba : (1 + B : Int) ≠ 1 + A := by omega
    have t1 : ∀ (R : Int) (p b : Nat) (u : World), 1 + N ≤ R → Bk w.heap.size u p b R (fun _ => 0) 0 → Below w.heap.size w u → Calls Try.prog 12 #[.pointer (some ⟨p, 0, none⟩), .int .i64 (1 + A), .int .i64 (1 + N)] u fun e w' => e = .returned (.int .i64 0) ∧ Bk w.heap.size w' p b (R - (1 + N)) (upd (fun _ => 0) (1 + A) (1 + N)) 1 ∧ Below w.heap.size w w' := fun R p b u hR k hb => by
      have e0 : takeE R (fun _ => 0) (1 + A) (1 + N) = 0 := by unfold takeE; rw [if_pos ⟨iA, by omega, by omega⟩, if_neg (by simp), if_pos hR]
      exact take_on k hb wA (by omega) e0 (by unfold takeL; rw [if_pos e0]) (by unfold takeH; rw [if_pos e0])
    have t2 : ∀ (R : Int) (p b : Nat) (u : World), Bk w.heap.size u p b R (upd (fun _ => 0) (1 + A) (1 + N)) 1 → Below w.heap.size w u → Calls Try.prog 12 #[.pointer (some ⟨p, 0, none⟩), .int .i64 (1 + A), .int .i64 1] u fun e w' => e = .returned (.int .i64 8) ∧ Bk w.heap.size w' p b R (upd (fun _ => 0) (1 + A) (1 + N)) 2 ∧ Below w.heap.size w w' := fun R p b u k hb => by
      have e0 : takeE R (upd (fun _ => 0) (1 + A) (1 + N)) (1 + A) 1 = 8 := by unfold takeE; rw [if_pos ⟨iA, by omega, by omega⟩, upd_same, if_pos (by omega)]
      exact take_on k hb wA (by omega) e0 (by unfold takeL; rw [e0]; rfl) (by unfold takeH; rw [e0]; rfl)
    have t3b : ∀ (R : Int) (p b : Nat) (u : World), ¬ 1 + M ≤ R → Bk w.heap.size u p b R (upd (fun _ => 0) (1 + A) (1 + N)) 2 → Below w.heap.size w u → Calls Try.prog 12 #[.pointer (some ⟨p, 0, none⟩), .int .i64 (1 + B), .int .i64 (1 + M)] u fun e w' => e = .returned (.int .i64 9) ∧ Bk w.heap.size w' p b R (upd (fun _ => 0) (1 + A) (1 + N)) 3 ∧ Below w.heap.size w w' := fun R p b u hR k hb => by
      have e0 : takeE R (upd (fun _ => 0) (1 + A) (1 + N)) (1 + B) (1 + M) = 9 := by unfold takeE; rw [if_pos ⟨iB, by omega, by omega⟩, upd_other _ _ hba, if_neg (by simp), if_neg hR]
      exact take_on k hb wB (by omega) e0 (by unfold takeL; rw [e0]; rfl) (by unfold takeH; rw [e0]; rfl)
    have t4 : ∀ (R : Int) (h : Int → Int) (p b : Nat) (u : World), h (1 + A) = 1 + N → Bk w.heap.size u p b R h 3 → Below w.heap.size w u → Calls Try.prog 10 #[.pointer (some ⟨p, 0, none⟩), .int .i64 (1 + A)] u fun e w' => e = .returned (.int .i64 0) ∧ Bk w.heap.size w' p b (R + (1 + N)) (upd h (1 + A) 0) 3 ∧ Below w.heap.size w w' := fun R h p b u hh k hb =>
      back_on k hb wA (by unfold backE; rw [if_neg (by omega)]) (by unfold backL; rw [hh]) rfl
    have t5b : ∀ (R : Int) (h : Int → Int) (p b : Nat) (u : World), h (1 + B) = 0 → 1 + M ≤ R → Bk w.heap.size u p b R h 3 → Below w.heap.size w u → Calls Try.prog 12 #[.pointer (some ⟨p, 0, none⟩), .int .i64 (1 + B), .int .i64 (1 + M)] u fun e w' => e = .returned (.int .i64 0) ∧ Below w.heap.size w w' := fun R h p b u hh hR k hb => by
      have e0 : takeE R h (1 + B) (1 + M) = 0 := by unfold takeE; rw [if_pos ⟨iB, by omega, by omega⟩, if_neg (by omega), if_pos hR]
      exact (take_on k hb wB (by omega) e0 rfl rfl).mono (fun _ w' ⟨h1, _, h3⟩ => ⟨h1, h3⟩)
    by_cases hNM : 1 + N < 1 + M
    · have kR := key (1 + M) (by omega) (by omega) (by omega)
      have hz1 : ¬ (1 + M ≤ 1 + M - (1 + N)) := by omega
      have T1 := fun p b u => t1 (1 + M) p b u (by omega)
      have T2 := fun p b u => t2 (1 + M - (1 + N)) p b u
      have T3 := fun p b u => t3b (1 + M - (1 + N)) p b u hz1
      have T4 := fun p b u => t4 (1 + M - (1 + N)) (upd (fun _ => 0) (1 + A) (1 + N)) p b u (upd_same _ _ _)
      have T5 := fun p b u => t5b (1 + M - (1 + N) + (1 + N)) (upd (upd (fun _ => 0) (1 + A) (1 + N)) (1 + A) 0) p b u (by rw [upd_other _ _ hba, upd_other _ _ hba]) (by omega)
      clear key t1 t2 t3b t4 t5b wA wB iA iB hba hAB
      have HT1 := hide T1
      have HT2 := hide T2
      have HT3 := hide T3
      have HT4 := hide T4
      have HT5 := hide T5
      clear T1 T2 T3 T4 T5
      go_enter Try.func6, Try.ntmps6
      go_wp2_with (first
        | (go_at_call 8; refine (new_any _ w).mono ?_; rintro e u1 ⟨p, b, rfl, k1, hb1⟩; rw [kR] at k1; have C1 := HT1.out p b u1 k1 hb1; clear k1 hb1 HT1)
        | (go_at_call 12; refine C1.mono ?_; rintro e u2 ⟨rfl, k2, b2⟩; clear C1; have C2 := HT2.out p b u2 k2 b2; clear k2 b2 HT2)
        | (go_at_call 12; refine C2.mono ?_; rintro e u3 ⟨rfl, k3, b3⟩; clear C2; have C3 := HT3.out p b u3 k3 b3; clear k3 b3 HT3)
        | (go_at_call 12; refine C3.mono ?_; rintro e u4 ⟨rfl, k4, b4⟩; clear C3; have C4 := HT4.out p b u4 k4 b4; clear k4 b4 HT4)
        | (go_at_call 10; refine C4.mono ?_; rintro e u5 ⟨rfl, k5, b5⟩; clear C4; have C5 := HT5.out p b u5 k5 b5; clear k5 b5 HT5)
        | (go_at_call 12; refine C5.mono ?_; rintro e u6 ⟨rfl, b6⟩; clear C5; have HB6 := hide b6; clear b6)
        | (go_at_call 20; refine (hawake_any _).mono ?_; rintro e u7 ⟨rfl, b7⟩; have HB7 := hide b7; clear b7))
      go_ret
      exact ⟨ret_bool (by simp; omega), bel_on' HB6.out HB7.out⟩
    · have kR := key (1 + N) (by omega) (by omega) (by omega)
      have hz1 : ¬ (1 + M ≤ 1 + N - (1 + N)) := by omega
      have T1 := fun p b u => t1 (1 + N) p b u (by omega)
      have T2 := fun p b u => t2 (1 + N - (1 + N)) p b u
      have T3 := fun p b u => t3b (1 + N - (1 + N)) p b u hz1
      have T4 := fun p b u => t4 (1 + N - (1 + N)) (upd (fun _ => 0) (1 + A) (1 + N)) p b u (upd_same _ _ _)
      have T5 := fun p b u => t5b (1 + N - (1 + N) + (1 + N)) (upd (upd (fun _ => 0) (1 + A) (1 + N)) (1 + A) 0) p b u (by rw [upd_other _ _ hba, upd_other _ _ hba]) (by omega)
      clear key t1 t2 t3b t4 t5b wA wB iA iB hba hAB
      have HT1 := hide T1
      have HT2 := hide T2
      have HT3 := hide T3
      have HT4 := hide T4
      have HT5 := hide T5
      clear T1 T2 T3 T4 T5
      go_enter Try.func6, Try.ntmps6
      go_wp2_with (first
        | (go_at_call 8; refine (new_any _ w).mono ?_; rintro e u1 ⟨p, b, rfl, k1, hb1⟩; rw [kR] at k1; have C1 := HT1.out p b u1 k1 hb1; clear k1 hb1 HT1)
        | (go_at_call 12; refine C1.mono ?_; rintro e u2 ⟨rfl, k2, b2⟩; clear C1; have C2 := HT2.out p b u2 k2 b2; clear k2 b2 HT2)
        | (go_at_call 12; refine C2.mono ?_; rintro e u3 ⟨rfl, k3, b3⟩; clear C2; have C3 := HT3.out p b u3 k3 b3; clear k3 b3 HT3)
        | (go_at_call 12; refine C3.mono ?_; rintro e u4 ⟨rfl, k4, b4⟩; clear C3; have C4 := HT4.out p b u4 k4 b4; clear k4 b4 HT4)
        | (go_at_call 10; refine C4.mono ?_; rintro e u5 ⟨rfl, k5, b5⟩; clear C4; have C5 := HT5.out p b u5 k5 b5; clear k5 b5 HT5)
        | (go_at_call 12; refine C5.mono ?_; rintro e u6 ⟨rfl, b6⟩; clear C5; have HB6 := hide b6; clear b6)
        | (go_at_call 20; refine (hawake_any _).mono ?_; rintro e u7 ⟨rfl, b7⟩; have HB7 := hide b7; clear b7))
      go_ret
      exact ⟨ret_bool (by simp; omega), bel_on' HB6.out HB7.out⟩
end Go.Proofs.Ytbdmphcmmilajaa
