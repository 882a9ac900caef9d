/-
  BellOften's walk.
-/
import Derived.Test.YtdjdlifacbmbcaaBelW
import Derived.Test.YtdjdlifacbmbcaaNum
namespace Go.Proofs.Ytdjdlifacbmbcaa
open Go.ChangeShapes Go.WideShapes Go.ChangeAt Go.RowKit Go.Maps

/-- A tower at p in which id's bell stands at v. -/
def Ti (w0 w : World) (p : Nat) (t id v : Int) (n : Nat) : Prop := ∃ h : Int → Int, h id = v ∧ To w0 w p t h n
section
variable {w0 w : World} {p : Nat} {t id v o : Int} {n : Nat} {i : Nat}
theorem Ti.more {n' : Nat} (k : Ti w0 w p t id v n) (hn : n ≤ n') : Ti w0 w p t id v n' := by
  obtain ⟨h, h1, h2⟩ := k
  exact ⟨h, h1, h2.more hn⟩
theorem Ti.ring (k : Ti w0 w p t id (leftV t i) n) (hw : (Lit.int .i64 id).wf = true) (hn : n < 1000000) {c : Bool} (hc : decide ((i : Int) ≥ t) = c) :
    Calls Try.prog 15 #[.pointer (some ⟨p, 0, none⟩), .int .i64 id] w fun e w' => e = .returned (.tuple #[.bool true, .bool c]) ∧ Ti w0 w' p t id (leftV t (i + 1)) (n + 1) := by
  obtain ⟨h, hv, k⟩ := k
  have e : h = upd h id (leftV t i) := (upd_id hv).symm
  rw [e] at k
  refine (bring_on k hw hn (has_upd _ _ _ (leftV_pos _ _)) ((oft_upd _ _ _ _).trans hc) (ring_upd _ _ _ _)).mono (fun _ _ ⟨h1, h2⟩ => ⟨h1, _, upd_same _ _ _, h2⟩)
theorem Ti.other (k : Ti w0 w p t id v n) (hw : (Lit.int .i64 o).wf = true) (hn : n < 1000000) (ho : id ≠ o) :
    Calls Try.prog 15 #[.pointer (some ⟨p, 0, none⟩), .int .i64 o] w fun e w' => ∃ b c, e = .returned (.tuple #[.bool b, .bool c]) ∧ Ti w0 w' p t id v (n + 1) := by
  obtain ⟨h, hv, k⟩ := k
  refine (bring_on k hw hn rfl rfl rfl).mono (fun _ _ ⟨h1, h2⟩ => ⟨_, _, h1, _, ?_, h2⟩)
  unfold ringH
  split
  · exact hv
  · rw [upd_other _ _ ho]; exact hv
theorem Ti.again (k : Ti w0 w p t id v n) (hw : (Lit.int .i64 id).wf = true) (hn : n < 1000000) (hv : v ≠ 0) (ht : 1 ≤ t) :
    Calls Try.prog 13 #[.pointer (some ⟨p, 0, none⟩), .int .i64 id] w fun e w' => e = .returned (.bool true) ∧ Ti w0 w' p t id (leftV t 0) (n + 1) := by
  obtain ⟨h, rfl, k⟩ := k
  refine (bagn_on k hw hn (by simp [hasB, hv]) rfl).mono (fun _ _ ⟨h1, h2⟩ => ⟨h1, _, ?_, h2⟩)
  unfold agnH
  rw [if_neg hv, upd_same, leftV_zero ht]
theorem Ti.cut (k : Ti w0 w p t id v n) (hw : (Lit.int .i64 id).wf = true) {b : Bool} (hb : decide (v ≠ 0) = b) :
    Calls Try.prog 11 #[.pointer (some ⟨p, 0, none⟩), .int .i64 id] w fun e w' => e = .returned (.bool b) ∧ Ti w0 w' p t id 0 (n + 1) := by
  obtain ⟨h, rfl, k⟩ := k
  exact (bcut_on k hw hb rfl).mono (fun _ _ ⟨h1, h2⟩ => ⟨h1, _, upd_same _ _ _, h2⟩)
end
set_option maxHeartbeats 2000000 in
theorem bellOften_walk (a0 a1 a2 a3 : Int) (w : World) (_w0 : (Lit.int .i64 a0).wf = true) (_w1 : (Lit.int .i64 a1).wf = true) (_w2 : (Lit.int .i64 a2).wf = true) (_w3 : (Lit.int .i64 a3).wf = true) :
    Calls Try.prog 5 #[.int .i64 a0, .int .i64 a1, .int .i64 a2, .int .i64 a3] w fun e w' => e = .returned (.bool true) ∧ Below w.heap.size w w' := by
  obtain ⟨bA1, bA2⟩ := um_bd a0 20 (by omega) (by omega)
  obtain ⟨bI1, bI2⟩ := um_bd a1 999 (by omega) (by omega)
  obtain ⟨bO1, bO2⟩ := um_bd a2 999 (by omega) (by omega)
  obtain ⟨A, hA⟩ : ∃ A, um a0 20 = A := ⟨_, rfl⟩
  obtain ⟨I, hI⟩ : ∃ I, um a1 999 = I := ⟨_, rfl⟩
  obtain ⟨O, hO⟩ : ∃ O, um a2 999 = O := ⟨_, rfl⟩
  rw [hA] at bA1 bA2
  rw [hI] at bI1 bI2
  rw [hO] at bO1 bO2
  obtain ⟨bG1, bG2⟩ := um_bd a3 (1 + A + 1) (by omega) (by omega)
  obtain ⟨G, hG⟩ : ∃ G : Nat, um a3 (1 + A + 1) = G := ⟨(um a3 (1 + A + 1)).toNat, by omega⟩
  rw [hG] at bG1 bG2
  unfold um at hA hI hO hG
  have N0 := bnew_on (Below.refl _ w) (r := 1 + A) (t := 1 + A) (clampT_in (by omega) (by omega))
  have HWI : Hid ((Lit.int .i64 (1 + I)).wf = true) := wf_of (by omega) (by omega)
  have HWO : Hid ((Lit.int .i64 (1 + O)).wf = true) := wf_of (by omega) (by omega)
  have HII : Hid (isI (1 + I) = true) := isI_iff.2 (by omega)
  have HIO : Hid (isI (1 + O) = true) := isI_iff.2 (by omega)
  have HT : Hid (1 ≤ 1 + A) := by show (1 : Int) ≤ _; omega
  clear _w0 _w1 _w2 _w3
  have t1 : Hid (∀ p u, To w u p (1 + A) (fun _ => 0) 0 → Calls Try.prog 9 #[.pointer (some ⟨p, 0, none⟩), .int .i64 (1 + I)] u fun e w' => e = .returned (.bool true) ∧ To w w' p (1 + A) (oneH (1 + I) (leftV (1 + A) 0)) 1) := fun p u k => by
    have hB : hangB (fun _ => 0) (1 + I) = true := by simp [hangB, HII.out]
    exact bhang_on k HWI.out (by omega) hB (by unfold hangH; rw [if_pos hB, leftV_zero HT.out]; rfl)
  have t2 : Hid (∀ p u, 1 + O ≠ 1 + I → To w u p (1 + A) (oneH (1 + I) (leftV (1 + A) 0)) 1 → Calls Try.prog 9 #[.pointer (some ⟨p, 0, none⟩), .int .i64 (1 + O)] u fun e w' => e = .returned (.bool true) ∧ Ti w w' p (1 + A) (1 + I) (leftV (1 + A) 0) 2) := fun p u hne k => by
    have hB : hangB (oneH (1 + I) (leftV (1 + A) 0)) (1 + O) = true := by unfold oneH hangB; rw [upd_other _ _ hne, HIO.out]; rfl
    refine (bhang_on k HWO.out (by omega) hB rfl).mono (fun _ _ ⟨h1, h2⟩ => ⟨h1, _, ?_, h2⟩)
    unfold hangH
    rw [if_pos hB, upd_other _ _ (Ne.symm hne)]
    exact oneH_at _ _
  have t3 : Hid (∀ p u (i n : Nat), n < 1000 → Ti w u p (1 + A) (1 + I) (leftV (1 + A) i) n → Calls Try.prog 15 #[.pointer (some ⟨p, 0, none⟩), .int .i64 (1 + I)] u fun e w' => e = .returned (.tuple #[.bool true, .bool (decide ((i : Int) ≥ 1 + A))]) ∧ Ti w w' p (1 + A) (1 + I) (leftV (1 + A) (i + 1)) (n + 1)) := fun p u i n hn k => k.ring HWI.out (by omega) rfl
  have t4 : Hid (∀ p u (i n : Nat), n < 1000 → Ti w u p (1 + A) (1 + I) (leftV (1 + A) i) n → Calls Try.prog 13 #[.pointer (some ⟨p, 0, none⟩), .int .i64 (1 + I)] u fun e w' => e = .returned (.bool true) ∧ Ti w w' p (1 + A) (1 + I) (leftV (1 + A) 0) (n + 1)) := fun p u i n hn k => k.again HWI.out (by omega) (by have := leftV_pos (1 + A) i; omega) HT.out
  have t5 : Hid (∀ p u (i n : Nat), n < 1000 → 1 + O ≠ 1 + I → Ti w u p (1 + A) (1 + I) (leftV (1 + A) i) n → Calls Try.prog 15 #[.pointer (some ⟨p, 0, none⟩), .int .i64 (1 + O)] u fun e w' => ∃ b c, e = .returned (.tuple #[.bool b, .bool c]) ∧ Ti w w' p (1 + A) (1 + I) (leftV (1 + A) i) (n + 1)) := fun p u i n hn hne k => k.other HWO.out (by omega) (Ne.symm hne)
  have t6 : Hid (∀ p u (i n : Nat), Ti w u p (1 + A) (1 + I) (leftV (1 + A) i) n → Calls Try.prog 11 #[.pointer (some ⟨p, 0, none⟩), .int .i64 (1 + I)] u fun e w' => e = .returned (.bool true) ∧ Ti w w' p (1 + A) (1 + I) 0 (n + 1)) := fun p u i n k => k.cut HWI.out (by have := leftV_pos (1 + A) i; simp; omega)
  have t7 : Hid (∀ p u (n : Nat), Ti w u p (1 + A) (1 + I) 0 n → Calls Try.prog 11 #[.pointer (some ⟨p, 0, none⟩), .int .i64 (1 + I)] u fun e w' => e = .returned (.bool false) ∧ Below w.heap.size w w') := fun p u n k => (k.cut HWI.out (by simp)).mono (fun _ _ ⟨h1, _, _, h2⟩ => ⟨h1, h2.2⟩)
  by_cases hne : (1 + O : Int) = 1 + I
  · have q1 : (1 + O != 1 + I) = false := by simp [hne]
    clear hne
    go_enter Try.func5, Try.ntmps5
    go_wp2_with (first
      | (go_at_call 7; refine N0.mono ?_; rintro e u1 ⟨p, rfl, k1⟩; have T1 := t1.out p u1 k1; clear t1 N0 k1)
      | (go_at_call 9; refine T1.mono ?_; rintro e u2 ⟨rfl, k2⟩; have K2 : Hid (Ti w u2 p (1 + A) (1 + I) (leftV (1 + A) 0) 2) := ⟨_, oneH_at _ _, k2.more (by omega)⟩; clear T1 k2))
    go_loopw [54] (fun i wr => ∃ j : Nat, i = .int .i64 j ∧ j ≤ G ∧ Hid (Ti w wr p (1 + A) (1 + I) (leftV (1 + A) j) (2 + j))) (fun i _ => G - (intOf i).toNat)
    case atStart => exact ⟨0, rfl, Nat.zero_le _, K2⟩
    case round =>
      obtain ⟨j, rfl, hj, HK⟩ := hrel
      by_cases hlt : j < G
      · have ql : (j : Int) < (G : Int) := by omega
        have T3 := t3.out p wr j (2 + j) (by omega) HK.out
        go_wp2_with (go_at_call 15; refine T3.mono ?_; rintro e u5 ⟨rfl, k5⟩; clear T3; have K5 := hide k5; clear k5)
        go_roundw
        case rel => exact ⟨j + 1, by go_num, by omega, K5⟩
        case measure => simp [intOf]; omega
      have ql : ¬ (j : Int) < (G : Int) := by omega
      obtain rfl : j = G := by omega
      have T4 := t4.out p wr j (2 + j) (by omega) HK.out
      clear HK t4
      go_wp2_with (go_at_call 13; refine T4.mono ?_; rintro e u4 ⟨rfl, k4⟩; clear T4; have K4 : Hid (Ti w u4 p (1 + A) (1 + I) (leftV (1 + A) 0) (3 + j)) := k4.more (by omega); clear k4)
      obtain ⟨G, hGj⟩ : ∃ G, G = j := ⟨_, rfl⟩
      rw [← hGj] at K4
      have hG3 : G ≤ 21 := by omega
      clear hGj ql hlt hj
      go_loopw [65] (fun i wr => ∃ j : Nat, i = .int .i64 j ∧ (j : Int) ≤ 1 + A ∧ Hid (Ti w wr p (1 + A) (1 + I) (leftV (1 + A) j) (3 + G + 2 * j))) (fun i _ => (1 + A).toNat - (intOf i).toNat)
      case atStart => exact ⟨0, rfl, by omega, K4⟩
      case round =>
      obtain ⟨j, rfl, hj, HK⟩ := hrel
      by_cases hlt : (j : Int) < 1 + A
      · 
        have T3 := t3.out p wr j (3 + G + 2 * j) (by omega) HK.out
        rw [decide_eq_false (show ¬ (j : Int) ≥ 1 + A by omega)] at T3
        go_wp2_with (go_at_call 15; refine T3.mono ?_; rintro e u5 ⟨rfl, k5⟩; clear T3; have K5 : Hid (Ti w u5 p (1 + A) (1 + I) (leftV (1 + A) (j + 1)) (3 + G + 2 * (j + 1))) := k5.more (by omega); clear k5)
        go_roundw
        case rel => exact ⟨j + 1, by go_num, by omega, K5⟩
        case measure => simp [intOf]; omega
      have T3 := t3.out p wr j (3 + G + 2 * j) (by omega) HK.out
      rw [decide_eq_true (show (j : Int) ≥ 1 + A by omega)] at T3
      clear HK
      go_wp2_with (first
        | (go_at_call 15; refine T3.mono ?_; rintro e u5 ⟨rfl, k5⟩; clear T3; have T6 := t6.out p u5 _ _ k5; clear k5)
        | (go_at_call 11; refine T6.mono ?_; rintro e u6 ⟨rfl, k6⟩; clear T6; have T7 := t7.out p u6 _ k6; clear k6)
        | (go_at_call 11; refine T7.mono ?_; rintro e u7 ⟨rfl, b7⟩; clear T7; have HB7 := hide b7; clear b7)
        | (go_at_call 20; refine (bawake_any _).mono ?_; rintro e u9 ⟨rfl, b9⟩; have HB9 := hide b9; clear b9))
      go_ret
      exact ⟨rfl, bel_on' HB7.out HB9.out⟩
  · have q1 : (1 + O != 1 + I) = true := by simpa using hne
    have HNE := hide hne
    clear hne
    go_enter Try.func5, Try.ntmps5
    go_wp2_with (first
      | (go_at_call 7; refine N0.mono ?_; rintro e u1 ⟨p, rfl, k1⟩; have T1 := t1.out p u1 k1; clear t1 N0 k1)
      | (go_at_call 9; refine T1.mono ?_; rintro e u2 ⟨rfl, k2⟩; clear T1; have T2 := t2.out p u2 HNE.out k2; clear t2 k2)
      | (go_at_call 9; refine T2.mono ?_; rintro e u3 ⟨rfl, k3⟩; clear T2; have K2 := hide k3; clear k3))
    go_loopw [54] (fun i wr => ∃ j : Nat, i = .int .i64 j ∧ j ≤ G ∧ Hid (Ti w wr p (1 + A) (1 + I) (leftV (1 + A) j) (2 + j))) (fun i _ => G - (intOf i).toNat)
    case atStart => exact ⟨0, rfl, Nat.zero_le _, K2⟩
    case round =>
      obtain ⟨j, rfl, hj, HK⟩ := hrel
      by_cases hlt : j < G
      · have ql : (j : Int) < (G : Int) := by omega
        have T3 := t3.out p wr j (2 + j) (by omega) HK.out
        go_wp2_with (go_at_call 15; refine T3.mono ?_; rintro e u5 ⟨rfl, k5⟩; clear T3; have K5 := hide k5; clear k5)
        go_roundw
        case rel => exact ⟨j + 1, by go_num, by omega, K5⟩
        case measure => simp [intOf]; omega
      have ql : ¬ (j : Int) < (G : Int) := by omega
      obtain rfl : j = G := by omega
      have T4 := t4.out p wr j (2 + j) (by omega) HK.out
      clear HK t4
      go_wp2_with (go_at_call 13; refine T4.mono ?_; rintro e u4 ⟨rfl, k4⟩; clear T4; have K4 : Hid (Ti w u4 p (1 + A) (1 + I) (leftV (1 + A) 0) (3 + j)) := k4.more (by omega); clear k4)
      obtain ⟨G, hGj⟩ : ∃ G, G = j := ⟨_, rfl⟩
      rw [← hGj] at K4
      have hG3 : G ≤ 21 := by omega
      clear hGj ql hlt hj
      go_loopw [65] (fun i wr => ∃ j : Nat, i = .int .i64 j ∧ (j : Int) ≤ 1 + A ∧ Hid (Ti w wr p (1 + A) (1 + I) (leftV (1 + A) j) (3 + G + 2 * j))) (fun i _ => (1 + A).toNat - (intOf i).toNat)
      case atStart => exact ⟨0, rfl, by omega, K4⟩
      case round =>
      obtain ⟨j, rfl, hj, HK⟩ := hrel
      by_cases hlt : (j : Int) < 1 + A
      · 
        have T5 := t5.out p wr j (3 + G + 2 * j) (by omega) HNE.out HK.out
        go_wp2_with (first
          | (go_at_call 15; refine T5.mono ?_; rintro e u5 ⟨b5, c5, rfl, k5⟩; clear T5; have T3 := t3.out p u5 j (3 + G + 2 * j + 1) (by omega) k5; rw [decide_eq_false (show ¬ (j : Int) ≥ 1 + A by omega)] at T3; clear k5)
          | (go_at_call 15; refine T3.mono ?_; rintro e u6 ⟨rfl, k6⟩; clear T3; have K5 : Hid (Ti w u6 p (1 + A) (1 + I) (leftV (1 + A) (j + 1)) (3 + G + 2 * (j + 1))) := k6.more (by omega); clear k6))
        go_roundw
        case rel => exact ⟨j + 1, by go_num, by omega, K5⟩
        case measure => simp [intOf]; omega
      have T3 := t3.out p wr j (3 + G + 2 * j) (by omega) HK.out
      rw [decide_eq_true (show (j : Int) ≥ 1 + A by omega)] at T3
      clear HK
      go_wp2_with (first
        | (go_at_call 15; refine T3.mono ?_; rintro e u5 ⟨rfl, k5⟩; clear T3; have T6 := t6.out p u5 _ _ k5; clear k5)
        | (go_at_call 11; refine T6.mono ?_; rintro e u6 ⟨rfl, k6⟩; clear T6; have T7 := t7.out p u6 _ k6; clear k6)
        | (go_at_call 11; refine T7.mono ?_; rintro e u7 ⟨rfl, b7⟩; clear T7; have HB7 := hide b7; clear b7)
        | (go_at_call 20; refine (bawake_any _).mono ?_; rintro e u9 ⟨rfl, b9⟩; have HB9 := hide b9; clear b9))
      go_ret
      exact ⟨rfl, bel_on' HB7.out HB9.out⟩
end Go.Proofs.Ytdjdlifacbmbcaa
