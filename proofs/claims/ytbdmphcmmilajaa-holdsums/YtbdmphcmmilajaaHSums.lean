/-
  HoldSums's walk.
-/
import Derived.Test.YtbdmphcmmilajaaHldA
import Derived.Test.YtbdmphcmmilajaaHldD
import Derived.Test.YtbdmphcmmilajaaNum
namespace Go.Proofs.Ytbdmphcmmilajaa
open Go.ChangeShapes Go.WideShapes Go.ChangeAt Go.RowKit Go.Maps

theorem sumTo_mono {h : Int → Int} (hp : ∀ x, 0 ≤ h x) {m n : Nat} (hmn : m ≤ n) : sumTo h m ≤ sumTo h n := by
  induction n with
  | zero => rw [show m = 0 by omega]; exact Int.le_refl _
  | succ n ih =>
    by_cases e : m = n + 1
    · subst e; exact Int.le_refl _
    · have := ih (by omega); have := hp n; rw [sumTo]; omega
/-- What is kept between two calls. -/
def SumI (R left : Int) (h : Int → Int) : Prop := left + sumTo h 21 = R ∧ ∀ x, h x ≠ 0 → x ≤ 20
theorem SumI.take {R left : Int} {h : Int → Int} (s : SumI R left h) (id n : Int) (h2 : id ≤ 20) : SumI R (takeL left h id n) (takeH left h id n) := by
  refine ⟨(take_sum id n (N := 21) (by omega)).trans s.1, fun x hx => ?_⟩
  unfold takeH at hx
  split at hx
  · by_cases e : x = id
    · subst e; exact h2
    · rw [upd_other _ _ e] at hx; exact s.2 x hx
  · exact s.2 x hx
theorem SumI.back {R left : Int} {h : Int → Int} (s : SumI R left h) (id : Int) (h1 : 1 ≤ id) (h2 : id ≤ 20) : SumI R (backL left h id) (backH h id) := by
  refine ⟨(back_sum id (N := 21) (by omega) (by omega)).trans s.1, fun x hx => ?_⟩
  unfold backH at hx
  by_cases e : x = id
  · subst e; exact h2
  · rw [upd_other _ _ e] at hx; exact s.2 x hx
def SRel (w : World) (p b : Nat) (R : Int) (len : Nat) (i : Value) (wr : World) : Prop :=
  ∃ (j : Nat) (left : Int) (h : Int → Int), i = .int .i64 j ∧ j ≤ len ∧ j ≤ 60 ∧ Hid (Bk w.heap.size wr p b left h j) ∧ Hid (SumI R left h) ∧ Hid (Below w.heap.size w wr)

set_option maxRecDepth 100000 in
set_option maxHeartbeats 2000000 in
theorem holdSums_walk (a0 : Int) (l1 : List Cl) (a1 : Option Addr) (cap1 : Nat) (w : World) (_w0 : (Lit.int .i64 a0).wf = true) (w1 : ClsIn w l1 a1) :
    Calls Try.prog 5 #[.int .i64 a0, .slice a1 l1.length cap1] w fun e w' => e = .returned (.bool true) ∧ Below w.heap.size w w' := by
  obtain ⟨bR1, bR2⟩ := um_bd a0 1000000001 (by omega) (by omega)
  obtain ⟨R, hR⟩ : ∃ R, um a0 1000000001 = R := ⟨_, rfl⟩
  rw [hR] at bR1 bR2
  unfold um at hR
  have kR : clampA R = R := by unfold clampA; rw [if_neg (by omega), if_pos (by omega)]
  obtain ⟨hlen, hcl⟩ := w1
  have HCL := hide hcl
  clear hcl
  go_enter Try.func5, Try.ntmps5
  go_wp2_with (first
    | (go_at_call 8; refine (new_any _ w).mono ?_; rintro e u1 ⟨p, b, rfl, k1, hb1⟩; rw [kR] at k1; have HK1 := hide k1; have HB1 := hide hb1; clear k1 hb1))
  clear hR kR
  go_loopw [21] (fun i wr => SRel w p b R l1.length i wr) (fun i _ => l1.length - (intOf i).toNat)
  case atStart => exact ⟨0, R, fun _ => 0, rfl, Nat.zero_le _, Nat.zero_le _, HK1, ⟨by rw [sumTo_zero, Int.add_zero], fun x h => absurd rfl h⟩, HB1⟩
  case round =>
    obtain ⟨j, left, h, rfl, hj, hj60, HK, HS, HB⟩ := hrel
    clear HK1 HB1
    have HAW := hide (hawake_any wr)
    by_cases hlt : j < l1.length
    · have ql : (j : Int) < (l1.length : Int) := by omega
      obtain ⟨c, hc⟩ : ∃ c, l1[j]? = some c := ⟨l1[j], by simp [hlt]⟩
      rcases HCL.out.below HB.out with h0 | ⟨bc, off, rfl, hca⟩
      · subst h0; simp at hlt
      obtain ⟨⟨c0, c1, c2⟩, hok⟩ := hca j c hc
      obtain ⟨bk, id, n⟩ := c
      dsimp only at c0 c1 c2 hok
      obtain ⟨U, hU⟩ : ∃ U, U = wr.alloc (.cells #[.bool bk, .int .i64 id, .int .i64 n] 29) := ⟨_, rfl⟩
      have hbU : Below wr.heap.size wr U := by rw [hU]; exact (Below.refl _ _).alloc (Nat.le_refl _) _
      have HKU := hide (HK.out.on hbU)
      have HBU := hide (bel_on' HB.out hbU)
      clear hca hc hbU HK
      by_cases h60 : j < 60
      · have q60 : ¬ (j : Int) ≥ 60 := by omega
        obtain ⟨bX1, bX2⟩ := um_bd id 20 (by omega) (by omega)
        obtain ⟨X, hX⟩ : ∃ X, um id 20 = X := ⟨_, rfl⟩
        rw [hX] at bX1 bX2
        unfold um at hX
        have hwX : (Lit.int .i64 (1 + X)).wf = true := wf_of (by omega) (by omega)
        cases bk
        · have A := (take_on HKU.out HBU.out (x := n) hwX (by omega) rfl rfl rfl)
          have S2 := (HS.out.take (1 + X) n (by omega))
          obtain ⟨E2, hE2⟩ : ∃ E2, takeE left h (1 + X) n = E2 := ⟨_, rfl⟩
          obtain ⟨L2, hL2⟩ : ∃ L2, takeL left h (1 + X) n = L2 := ⟨_, rfl⟩
          obtain ⟨h2, hh2⟩ : ∃ h2, takeH left h (1 + X) n = h2 := ⟨_, rfl⟩
          rw [hE2, hL2, hh2] at A
          rw [hL2, hh2] at S2
          have HS2 := hide S2
          rw [hU] at A
          clear hE2 hL2 hh2 S2 HKU HS hwX hU HBU
          go_wp2_with (first
            | (go_at_call 12; refine A.mono ?_; rintro e V ⟨rfl, K2, B2⟩; clear A; have HK2 := hide K2; have HB2 := hide B2; have LF := left_any K2; clear K2 B2)
            | (go_at_call 17; refine LF.mono ?_; rintro e u ⟨rfl, rfl⟩))
          clear LF
          have HBD : Hid (0 ≤ L2 ∧ L2 + sumTo h2 21 ≤ 1000000000 ∧ (∀ x, 0 ≤ h2 x)) := by
            have g := HK2.out.good
            exact ⟨g.nn, by have := HS2.out.1; omega, g.pos⟩
          have hR2 := HS2.out.1
          go_loopw [9, 10] (fun s kv vr => ∃ m : Nat, m ≤ 20 ∧ kv = .int .i64 ((m : Int) + 1) ∧ s = .int .i64 (L2 + sumTo h2 (m + 1)) ∧ vr = V) (fun _ kv _ => (21 - intOf kv).toNat)
          case atStart =>
            refine ⟨0, Nat.zero_le _, rfl, ?_, rfl⟩
            have e0 : h2 0 = 0 := by
              rcases Decidable.em (h2 0 = 0) with e | e
              · exact e
              · have := (HK2.out.good.at_ 0 e).1; omega
            simp [sumTo, e0]
          case round =>
            obtain ⟨m, hm, rfl, rfl, rfl⟩ := hrel
            obtain ⟨sm, hsm⟩ : ∃ sm, L2 + sumTo h2 (m + 1) = sm := ⟨_, rfl⟩
            have HSM := hide hsm
            have bs : 0 ≤ sm ∧ sm ≤ 1000000000 := by
              have h1 := sumTo_nonneg HBD.out.2.2 (m + 1)
              have h3 := sumTo_mono HBD.out.2.2 (show m + 1 ≤ 21 by omega)
              have := HBD.out
              omega
            obtain ⟨bs1, bs2⟩ := bs
            rw [hsm]
            clear hsm
            by_cases hm20 : m < 20
            · have qk : (m : Int) + 1 ≤ 20 := by omega
              have HA := has_any HK2.out (id := (m : Int) + 1) (wf_of (by omega) (by omega))
              obtain ⟨v, hv⟩ : ∃ v, h2 ((m : Int) + 1) = v := ⟨_, rfl⟩
              have hv0 : 0 ≤ v := by rw [← hv]; exact HBD.out.2.2 _
              have HNX : Hid (sm + v = L2 + sumTo h2 (m + 1 + 1)) := by
                show _ = _
                rw [sumTo, ← HSM.out, ← hv]
                push_cast
                omega
              have hvle : sm + v ≤ 1000000000 := by
                rw [HNX.out]
                have h3 := sumTo_mono HBD.out.2.2 (show m + 1 + 1 ≤ 21 by omega)
                have := HBD.out
                omega
              rw [hv] at HA
              clear hv
              by_cases hz : v = 0
              · subst hz
                have qd : decide ((0 : Int) ≠ 0) = false := by simp
                rw [qd] at HA
                clear qd
                go_wp2_with (go_at_call 14; refine HA.mono ?_; rintro e u ⟨rfl, rfl⟩)
                go_roundw
                case rel => exact ⟨m + 1, by omega, by go_num, by rw [← HNX.out]; simp, trivial⟩
                case measure => simp [intOf]; omega
              · have qd : decide (v ≠ 0) = true := by simp [hz]
                rw [qd] at HA
                have qv : v > 0 := by omega
                have qv2 : ¬ v < 0 := by omega
                clear qd hz
                go_wp2_with (go_at_call 14; refine HA.mono ?_; rintro e u ⟨rfl, rfl⟩)
                go_roundw
                case rel => exact ⟨m + 1, by omega, by go_num, by rw [← HNX.out], trivial⟩
                case measure => simp [intOf]; omega
            · have qk : ¬ (m : Int) + 1 ≤ 20 := by omega
              have qs : (sm != R) = false := by
                have := HSM.out
                rw [show m + 1 = 21 by omega] at this
                simp
                omega
              have qL : ¬ L2 < 0 := by have := HBD.out.1; omega
              have LF := left_any HK2.out
              go_wp2_with (go_at_call 17; refine LF.mono ?_; rintro e u ⟨rfl, rfl⟩)
              go_roundw
              case rel => exact ⟨j + 1, L2, h2, by go_num, by omega, by omega, HK2, HS2, HB2⟩
              case measure => simp [intOf]; omega
        · have A := (back_on HKU.out HBU.out hwX rfl rfl rfl)
          have S2 := (HS.out.back (1 + X) (by omega) (by omega))
          obtain ⟨E2, hE2⟩ : ∃ E2, backE h (1 + X) = E2 := ⟨_, rfl⟩
          obtain ⟨L2, hL2⟩ : ∃ L2, backL left h (1 + X) = L2 := ⟨_, rfl⟩
          obtain ⟨h2, hh2⟩ : ∃ h2, backH h (1 + X) = h2 := ⟨_, rfl⟩
          rw [hE2, hL2, hh2] at A
          rw [hL2, hh2] at S2
          have HS2 := hide S2
          rw [hU] at A
          clear hE2 hL2 hh2 S2 HKU HS hwX hU HBU
          go_wp2_with (first
            | (go_at_call 10; refine A.mono ?_; rintro e V ⟨rfl, K2, B2⟩; clear A; have HK2 := hide (K2.mono (Nat.le_succ _)); have HB2 := hide B2; have LF := left_any K2; clear K2 B2)
            | (go_at_call 17; refine LF.mono ?_; rintro e u ⟨rfl, rfl⟩))
          clear LF
          have HBD : Hid (0 ≤ L2 ∧ L2 + sumTo h2 21 ≤ 1000000000 ∧ (∀ x, 0 ≤ h2 x)) := by
            have g := HK2.out.good
            exact ⟨g.nn, by have := HS2.out.1; omega, g.pos⟩
          have hR2 := HS2.out.1
          go_loopw [9, 10] (fun s kv vr => ∃ m : Nat, m ≤ 20 ∧ kv = .int .i64 ((m : Int) + 1) ∧ s = .int .i64 (L2 + sumTo h2 (m + 1)) ∧ vr = V) (fun _ kv _ => (21 - intOf kv).toNat)
          case atStart =>
            refine ⟨0, Nat.zero_le _, rfl, ?_, rfl⟩
            have e0 : h2 0 = 0 := by
              rcases Decidable.em (h2 0 = 0) with e | e
              · exact e
              · have := (HK2.out.good.at_ 0 e).1; omega
            simp [sumTo, e0]
          case round =>
            obtain ⟨m, hm, rfl, rfl, rfl⟩ := hrel
            obtain ⟨sm, hsm⟩ : ∃ sm, L2 + sumTo h2 (m + 1) = sm := ⟨_, rfl⟩
            have HSM := hide hsm
            have bs : 0 ≤ sm ∧ sm ≤ 1000000000 := by
              have h1 := sumTo_nonneg HBD.out.2.2 (m + 1)
              have h3 := sumTo_mono HBD.out.2.2 (show m + 1 ≤ 21 by omega)
              have := HBD.out
              omega
            obtain ⟨bs1, bs2⟩ := bs
            rw [hsm]
            clear hsm
            by_cases hm20 : m < 20
            · have qk : (m : Int) + 1 ≤ 20 := by omega
              have HA := has_any HK2.out (id := (m : Int) + 1) (wf_of (by omega) (by omega))
              obtain ⟨v, hv⟩ : ∃ v, h2 ((m : Int) + 1) = v := ⟨_, rfl⟩
              have hv0 : 0 ≤ v := by rw [← hv]; exact HBD.out.2.2 _
              have HNX : Hid (sm + v = L2 + sumTo h2 (m + 1 + 1)) := by
                show _ = _
                rw [sumTo, ← HSM.out, ← hv]
                push_cast
                omega
              have hvle : sm + v ≤ 1000000000 := by
                rw [HNX.out]
                have h3 := sumTo_mono HBD.out.2.2 (show m + 1 + 1 ≤ 21 by omega)
                have := HBD.out
                omega
              rw [hv] at HA
              clear hv
              by_cases hz : v = 0
              · subst hz
                have qd : decide ((0 : Int) ≠ 0) = false := by simp
                rw [qd] at HA
                clear qd
                go_wp2_with (go_at_call 14; refine HA.mono ?_; rintro e u ⟨rfl, rfl⟩)
                go_roundw
                case rel => exact ⟨m + 1, by omega, by go_num, by rw [← HNX.out]; simp, trivial⟩
                case measure => simp [intOf]; omega
              · have qd : decide (v ≠ 0) = true := by simp [hz]
                rw [qd] at HA
                have qv : v > 0 := by omega
                have qv2 : ¬ v < 0 := by omega
                clear qd hz
                go_wp2_with (go_at_call 14; refine HA.mono ?_; rintro e u ⟨rfl, rfl⟩)
                go_roundw
                case rel => exact ⟨m + 1, by omega, by go_num, by rw [← HNX.out], trivial⟩
                case measure => simp [intOf]; omega
            · have qk : ¬ (m : Int) + 1 ≤ 20 := by omega
              have qs : (sm != R) = false := by
                have := HSM.out
                rw [show m + 1 = 21 by omega] at this
                simp
                omega
              have qL : ¬ L2 < 0 := by have := HBD.out.1; omega
              have LF := left_any HK2.out
              go_wp2_with (go_at_call 17; refine LF.mono ?_; rintro e u ⟨rfl, rfl⟩)
              go_roundw
              case rel => exact ⟨j + 1, L2, h2, by go_num, by omega, by omega, HK2, HS2, HB2⟩
              case measure => simp [intOf]; omega
      · have q60 : (j : Int) ≥ 60 := by omega
        have AW := hawake_any U
        rw [hU] at AW
        go_wp2_with (go_at_call 20; refine AW.mono ?_; rintro e u ⟨rfl, b3⟩)
        go_ret
        rw [← hU] at b3
        exact ⟨rfl, bel_on' HBU.out b3⟩
    · have ql : ¬ (j : Int) < (l1.length : Int) := by omega
      go_wp2_with (go_at_call 20; refine HAW.out.mono ?_; rintro e u ⟨rfl, b3⟩)
      go_ret
      exact ⟨rfl, bel_on' HB.out b3⟩
end Go.Proofs.Ytbdmphcmmilajaa
