/-
  PurseClients's walk.
-/
import Derived.Test.YtpahgoehpkohiaaPrsA
import Derived.Test.YtpahgoehpkohiaaPrsD
import Derived.Test.YtpahgoehpkohiaaNum
import Derived.Test.YtpahgoehpkohiaaPTill
namespace Go.Proofs.Ytpahgoehpkohiaa
open Go.ChangeShapes Go.WideShapes Go.ChangeAt Go.RowKit Go.Maps

/-- What is kept between two calls. -/
structure ClS (s : Pb) : Prop where
  m1 : s.m 1 = 700
  sum : s.m 0 + s.till = 500
  at_ : ∀ x c, s.a x = some c → c.1 = 0 ∧ x ≤ 20
  pt : ∀ x, s.p x ≠ 0 → x ≤ 20
theorem ClS.allow {s : Pb} (k : ClS s) (id q : Int) (h : id ≤ 20) : ClS (alwS s id 0 q) := by
  by_cases e : alwE s id 0 q = 0
  · rw [alwS_ok e]
    refine ⟨k.m1, k.sum, fun x c hx => ?_, k.pt⟩
    dsimp only at hx
    by_cases ex : x = id
    · subst ex; rw [updO_same] at hx; cases hx; exact ⟨rfl, h⟩
    · rw [updO_other _ _ ex] at hx; exact k.at_ x c hx
  · rw [alwS_no e]; exact k
theorem ClS.void {s : Pb} (k : ClS s) (id : Int) : ClS (voidS s id) := by
  cases h : s.a id with
  | none => rw [voidS_none h]; exact k
  | some c =>
    rw [voidS_some h]
    refine ⟨k.m1, k.sum, fun x c hx => ?_, k.pt⟩
    dsimp only at hx
    by_cases ex : x = id
    · subst ex; rw [updO_same] at hx; cases hx
    · rw [updO_other _ _ ex] at hx; exact k.at_ x c hx
theorem ClS.cap {s : Pb} (k : ClS s) (id : Int) : ClS (capS s id) := by
  cases h : s.a id with
  | none => rw [capS_none h]; exact k
  | some c =>
    obtain ⟨x, y⟩ := c
    obtain ⟨h1, h2⟩ := k.at_ id _ h
    dsimp only at h1
    subst h1
    rw [capS_some h]
    refine ⟨?_, ?_, fun x c hx => ?_, fun x hx => ?_⟩
    · show upd s.m 0 (s.m 0 - y) 1 = 700
      rw [upd_other _ _ (by decide)]; exact k.m1
    · show upd s.m 0 (s.m 0 - y) 0 + (s.till + y) = 500
      rw [upd_same]; have := k.sum; omega
    · dsimp only at hx
      by_cases ex : x = id
      · subst ex; rw [updO_same] at hx; cases hx
      · rw [updO_other _ _ ex] at hx; exact k.at_ x c hx
    · dsimp only at hx
      by_cases ex : x = id
      · omega
      · rw [upd_other _ _ ex] at hx; exact k.pt x hx
theorem ClS.other {s : Pb} (k : ClS s) : alwK s 1 = 0 := by
  unfold alwK
  rw [← sumTo_zero (n := 1000)]
  refine sumTo_congr (fun x _ => ?_)
  unfold resv amt
  cases h : s.a x with
  | none => rfl
  | some c => dsimp only; exact if_neg (by rw [(k.at_ x c h).1]; omega)
theorem ClS.all {s : Pb} (k : ClS s) : allA s = alwK s 0 := by
  unfold alwK allA
  refine sumTo_congr (fun x _ => ?_)
  unfold resv amt alw prc
  cases h : s.a x with
  | none => rfl
  | some c => dsimp only; exact (if_pos (k.at_ x c h).1).symm
theorem ClS.bd {s : Pb} (k : ClS s) (g : GoodP s) : (0 ≤ s.m 0 ∧ s.m 0 ≤ 500) ∧ 0 ≤ s.till ∧ s.till ≤ 500 := by
  have h1 := g.mnn (k := 0) (by omega) (by omega)
  have h2 := g.tnn
  have h3 := k.sum
  omega
theorem ClS.last {s : Pb} (k : ClS s) (g : GoodP s) : alwE s 30 1 700 = 0 := by
  have h1 : s.a 30 = none := by
    cases h : s.a 30 with
    | none => rfl
    | some c => have := (k.at_ 30 c h).2; omega
  have h2 : s.p 30 = 0 := by
    rcases Decidable.em (s.p 30 = 0) with h | h
    · exact h
    · have := k.pt 30 h; omega
  have h3 := k.bd g
  have h4 := g.low 0 (by omega) (by omega)
  have h5 := k.sum
  rw [alwE_of (by omega), h1, h2, if_neg (by simp), k.m1, k.other, if_pos (by omega), k.all, if_pos (by omega)]
theorem clS_new : ClS (toP (newQ [500, 700])) := by
  rw [toP_new]
  obtain ⟨v1, v2, v3, v4, v5, v6⟩ := new_view [500, 700]
  refine ⟨?_, ?_, fun x c h => ?_, fun x h => absurd (v5 x) h⟩
  · exact (v1 1).trans (clampA_id (a := 700) (by omega) (by omega))
  · rw [v4, (v1 0).trans (clampA_id (a := 500) (by omega) (by omega))]; rfl
  · rw [v6] at h; cases h
def CRel (w : World) (p b c : Nat) (len : Nat) (i : Value) (wr : World) : Prop :=
  ∃ (j : Nat) (s : Qb), i = .int .i64 j ∧ j ≤ len ∧ j ≤ 60 ∧ Hid (Pk w.heap.size wr p b c s j) ∧ Hid (ClS (toP s)) ∧ Hid (Below w.heap.size w wr)

set_option maxRecDepth 100000 in
set_option maxHeartbeats 4000000 in
theorem purseClients_walk (l0 : List Cl) (a0 : Option Addr) (cap0 : Nat) (w : World) (w0 : ClsIn w l0 a0) :
    Calls Try.prog 8 #[.slice a0 l0.length cap0] w fun e w' => e = .returned (.bool true) ∧ Below w.heap.size w w' := by
  obtain ⟨hlen, hcl⟩ := w0
  have HCL := hide hcl
  clear hcl
  have HN := hide (pnew_on w (w.alloc (.cells #[.int .i64 500, .int .i64 700] 3)) [500, 700] (bel_al (Below.refl _ _) _) w.heap.size (ints_two w 500 700) (by simp))
  have HS1 := hide clS_new
  go_enter Try.func8, Try.ntmps8
  go_wp2_with (first
    | (go_at_call 10; refine HN.out.mono ?_; rintro e u1 ⟨p, b, c, rfl, k1, hb1⟩; have HK1 := hide k1; have HB1 := hide hb1; clear k1 hb1))
  clear HN
  obtain ⟨s0, hs0⟩ : ∃ s0, newQ [500, 700] = s0 := ⟨_, rfl⟩
  rw [hs0] at HK1 HS1
  clear hs0
  go_loopw [11] (fun i wr => CRel w p b c l0.length i wr) (fun i _ => l0.length - (Go.RowKit.intOf i).toNat)
  case atStart => exact ⟨0, s0, rfl, Nat.zero_le _, Nat.zero_le _, HK1, HS1, HB1⟩
  case round =>
    obtain ⟨j, s, rfl, hj, hj60, HK, HS, HB⟩ := hrel
    clear HK1 HB1 HS1
    by_cases hlt : j < l0.length
    · have ql : (j : Int) < (l0.length : Int) := by omega
      obtain ⟨cl, hc⟩ : ∃ cl, l0[j]? = some cl := ⟨l0[j], by simp [hlt]⟩
      rcases HCL.out.below HB.out with h0 | ⟨bc, off, rfl, hca⟩
      · subst h0; simp at hlt
      obtain ⟨⟨c0, c1, c2, c3⟩, hok⟩ := hca j cl hc
      obtain ⟨d, id, it, q⟩ := cl
      dsimp only at c0 c1 c2 c3 hok
      obtain ⟨U, hU⟩ : ∃ U, U = wr.alloc (.cells #[.int .i64 d, .int .i64 id, .int .i64 it, .int .i64 q] 30) := ⟨_, rfl⟩
      have hbU : Below wr.heap.size wr U := by rw [hU]; exact bel_al (Below.refl _ _) _
      have HKU := hide (HK.out.on hbU)
      have HBU := hide (bel_on' HB.out hbU)
      clear hca hc hbU HK hok
      by_cases h60 : j < 60
      · have q60 : ¬ (j : Int) ≥ 60 := by omega
        obtain ⟨bX1, bX2⟩ := um_bd id 20 (by omega) (by omega)
        obtain ⟨X, hX⟩ : ∃ X, um id 20 = X := ⟨_, rfl⟩
        rw [hX] at bX1 bX2
        unfold um at hX
        have hwX : (Lit.int .i64 (1 + X)).wf = true := wf_of (by omega) (by omega)
        by_cases d0 : d = 0
        · subst d0
          obtain ⟨s2, hs2⟩ : ∃ s2, capQ s (1 + X) = s2 := ⟨_, rfl⟩
          obtain ⟨E2, hE2⟩ : ∃ E2, capE (toP s) (1 + X) = E2 := ⟨_, rfl⟩
          have A := cap_on HKU.out HBU.out hwX (by omega) hE2 hs2
          have HS2 : Hid (ClS (toP s2)) := by rw [← hs2, toP_cap HKU.out.good]; exact HS.out.cap _
          rw [hU] at A
          clear hs2 hE2 HKU HS hwX HBU hU
          have NX : Hid (∀ u, Pk w.heap.size u p b c s2 (j + 1) → ((0 ≤ (toP s2).m 0 ∧ (toP s2).m 0 ≤ 500) ∧ (toP s2).till = 500 - (toP s2).m 0) ∧ (Below w.heap.size w u → Calls Try.prog 20 #[.pointer (some ⟨p, 0, none⟩), .int .i64 1] u fun e w' => e = .returned (.int .i64 700) ∧ Pk w.heap.size w' p b c s2 (j + 1) ∧ Below w.heap.size w w') ∧ (Below w.heap.size w u → Calls Try.prog 21 #[.pointer (some ⟨p, 0, none⟩), .int .i64 1] u fun e w' => e = .returned (.int .i64 0) ∧ Pk w.heap.size w' p b c s2 (j + 1) ∧ Below w.heap.size w w')) := fun u k => ⟨by have h1 := HS2.out.bd k.good.gp; have h2 := HS2.out.sum; exact ⟨h1.1, by omega⟩, fun hb => money_on k hb (by decide) HS2.out.m1, fun hb => allowed_on k hb HS2.out.other⟩
          go_wp2_with (first
            | (go_at_call 12; refine A.mono ?_; clear A; rintro e v1 ⟨rfl, K1, B1⟩; obtain ⟨hbd, t1, -⟩ := NX.out v1 K1; have t1 := t1 B1; have HBD := hide hbd; clear hbd K1 B1)
            | (go_at_call 20; refine t1.mono ?_; clear t1; rintro e v2 ⟨rfl, K2, B2⟩; obtain ⟨-, -, t2⟩ := NX.out v2 K2; have t2 := t2 B2; clear K2 B2)
            | (go_at_call 21; refine t2.mono ?_; clear t2; rintro e v3 ⟨rfl, K3, B3⟩; have t3 := money_on K3 B3 (x := 0) (by decide) rfl; clear K3 B3; obtain ⟨M, hM⟩ : ∃ M, (toP s2).m 0 = M := ⟨_, rfl⟩; have HM := hide hM; have hbd := HBD.out; rw [hM] at t3 hbd; obtain ⟨⟨bM1, bM2⟩, -⟩ := hbd; clear hM)
            | (go_at_call 20; refine t3.mono ?_; clear t3; rintro e v4 ⟨rfl, K4, B4⟩; have hb2 := HBD.out.2; rw [HM.out] at hb2; have t4 := till_on K4 B4 hb2; clear K4 B4 hb2)
            | (go_at_call 19; refine t4.mono ?_; clear t4; rintro e v5 ⟨rfl, K5, B5⟩; have HK5 := hide K5; have HB5 := hide B5; have qs : (M + (500 - M) != 500) = false := (by simp; omega); clear K5 B5))
          go_roundw
          case rel => exact ⟨j + 1, s2, by go_num, by omega, by omega, HK5, HS2, HB5⟩
          case measure => simp [Go.RowKit.intOf]; omega
        · by_cases d1 : d = 1
          · subst d1
            obtain ⟨s2, hs2⟩ : ∃ s2, voidQ s (1 + X) = s2 := ⟨_, rfl⟩
            obtain ⟨E2, hE2⟩ : ∃ E2, capE (toP s) (1 + X) = E2 := ⟨_, rfl⟩
            have A := void_on HKU.out HBU.out hwX hE2 hs2
            have HS2 : Hid (ClS (toP s2)) := by rw [← hs2, toP_void]; exact HS.out.void _
            rw [hU] at A
            clear hs2 hE2 HKU HS hwX HBU hU
            have NX : Hid (∀ u, Pk w.heap.size u p b c s2 (j + 1) → ((0 ≤ (toP s2).m 0 ∧ (toP s2).m 0 ≤ 500) ∧ (toP s2).till = 500 - (toP s2).m 0) ∧ (Below w.heap.size w u → Calls Try.prog 20 #[.pointer (some ⟨p, 0, none⟩), .int .i64 1] u fun e w' => e = .returned (.int .i64 700) ∧ Pk w.heap.size w' p b c s2 (j + 1) ∧ Below w.heap.size w w') ∧ (Below w.heap.size w u → Calls Try.prog 21 #[.pointer (some ⟨p, 0, none⟩), .int .i64 1] u fun e w' => e = .returned (.int .i64 0) ∧ Pk w.heap.size w' p b c s2 (j + 1) ∧ Below w.heap.size w w')) := fun u k => ⟨by have h1 := HS2.out.bd k.good.gp; have h2 := HS2.out.sum; exact ⟨h1.1, by omega⟩, fun hb => money_on k hb (by decide) HS2.out.m1, fun hb => allowed_on k hb HS2.out.other⟩
            go_wp2_with (first
              | (go_at_call 14; refine A.mono ?_; clear A; rintro e v1 ⟨rfl, K1, B1⟩; obtain ⟨hbd, t1, -⟩ := NX.out v1 K1; have t1 := t1 B1; have HBD := hide hbd; clear hbd K1 B1)
              | (go_at_call 20; refine t1.mono ?_; clear t1; rintro e v2 ⟨rfl, K2, B2⟩; obtain ⟨-, -, t2⟩ := NX.out v2 K2; have t2 := t2 B2; clear K2 B2)
              | (go_at_call 21; refine t2.mono ?_; clear t2; rintro e v3 ⟨rfl, K3, B3⟩; have t3 := money_on K3 B3 (x := 0) (by decide) rfl; clear K3 B3; obtain ⟨M, hM⟩ : ∃ M, (toP s2).m 0 = M := ⟨_, rfl⟩; have HM := hide hM; have hbd := HBD.out; rw [hM] at t3 hbd; obtain ⟨⟨bM1, bM2⟩, -⟩ := hbd; clear hM)
              | (go_at_call 20; refine t3.mono ?_; clear t3; rintro e v4 ⟨rfl, K4, B4⟩; have hb2 := HBD.out.2; rw [HM.out] at hb2; have t4 := till_on K4 B4 hb2; clear K4 B4 hb2)
              | (go_at_call 19; refine t4.mono ?_; clear t4; rintro e v5 ⟨rfl, K5, B5⟩; have HK5 := hide K5; have HB5 := hide B5; have qs : (M + (500 - M) != 500) = false := (by simp; omega); clear K5 B5))
            go_roundw
            case rel => exact ⟨j + 1, s2, by go_num, by omega, by omega, HK5, HS2, HB5⟩
            case measure => simp [Go.RowKit.intOf]; omega
          · have e0 : (d == 0) = false := by simp [d0]
            have e1 : (d == 1) = false := by simp [d1]
            clear d0 d1
            obtain ⟨bQ1, bQ2⟩ := um_bd q 200 (by omega) (by omega)
            obtain ⟨Q, hQ⟩ : ∃ Q, um q 200 = Q := ⟨_, rfl⟩
            rw [hQ] at bQ1 bQ2
            unfold um at hQ
            obtain ⟨s2, hs2⟩ : ∃ s2, alwQ s (1 + X) 0 (1 + Q) = s2 := ⟨_, rfl⟩
            obtain ⟨E2, hE2⟩ : ∃ E2, alwE (toP s) (1 + X) 0 (1 + Q) = E2 := ⟨_, rfl⟩
            have A := alw_on HKU.out HBU.out hwX (by omega) hE2 hs2
            have HS2 : Hid (ClS (toP s2)) := by rw [← hs2, toP_alw]; exact HS.out.allow _ _ (by omega)
            rw [hU] at A
            clear hs2 hE2 HKU HS hwX HBU hU
            have NX : Hid (∀ u, Pk w.heap.size u p b c s2 (j + 1) → ((0 ≤ (toP s2).m 0 ∧ (toP s2).m 0 ≤ 500) ∧ (toP s2).till = 500 - (toP s2).m 0) ∧ (Below w.heap.size w u → Calls Try.prog 20 #[.pointer (some ⟨p, 0, none⟩), .int .i64 1] u fun e w' => e = .returned (.int .i64 700) ∧ Pk w.heap.size w' p b c s2 (j + 1) ∧ Below w.heap.size w w') ∧ (Below w.heap.size w u → Calls Try.prog 21 #[.pointer (some ⟨p, 0, none⟩), .int .i64 1] u fun e w' => e = .returned (.int .i64 0) ∧ Pk w.heap.size w' p b c s2 (j + 1) ∧ Below w.heap.size w w')) := fun u k => ⟨by have h1 := HS2.out.bd k.good.gp; have h2 := HS2.out.sum; exact ⟨h1.1, by omega⟩, fun hb => money_on k hb (by decide) HS2.out.m1, fun hb => allowed_on k hb HS2.out.other⟩
            go_wp2_with (first
              | (go_at_call 16; refine A.mono ?_; clear A; rintro e v1 ⟨rfl, K1, B1⟩; obtain ⟨hbd, t1, -⟩ := NX.out v1 K1; have t1 := t1 B1; have HBD := hide hbd; clear hbd K1 B1)
              | (go_at_call 20; refine t1.mono ?_; clear t1; rintro e v2 ⟨rfl, K2, B2⟩; obtain ⟨-, -, t2⟩ := NX.out v2 K2; have t2 := t2 B2; clear K2 B2)
              | (go_at_call 21; refine t2.mono ?_; clear t2; rintro e v3 ⟨rfl, K3, B3⟩; have t3 := money_on K3 B3 (x := 0) (by decide) rfl; clear K3 B3; obtain ⟨M, hM⟩ : ∃ M, (toP s2).m 0 = M := ⟨_, rfl⟩; have HM := hide hM; have hbd := HBD.out; rw [hM] at t3 hbd; obtain ⟨⟨bM1, bM2⟩, -⟩ := hbd; clear hM)
              | (go_at_call 20; refine t3.mono ?_; clear t3; rintro e v4 ⟨rfl, K4, B4⟩; have hb2 := HBD.out.2; rw [HM.out] at hb2; have t4 := till_on K4 B4 hb2; clear K4 B4 hb2)
              | (go_at_call 19; refine t4.mono ?_; clear t4; rintro e v5 ⟨rfl, K5, B5⟩; have HK5 := hide K5; have HB5 := hide B5; have qs : (M + (500 - M) != 500) = false := (by simp; omega); clear K5 B5))
            go_roundw
            case rel => exact ⟨j + 1, s2, by go_num, by omega, by omega, HK5, HS2, HB5⟩
            case measure => simp [Go.RowKit.intOf]; omega
      · have q60 : (j : Int) ≥ 60 := by omega
        have L := alw_on HKU.out HBU.out (id := 30) (x := 1) (q := 700) (by decide) (by omega) (HS.out.last HKU.out.good.gp) rfl
        rw [hU] at L
        have AW := hide (fun u => pawake_any u)
        obtain ⟨s9, hs9⟩ : ∃ s9, alwQ s 30 1 700 = s9 := ⟨_, rfl⟩
        rw [hs9] at L
        clear hs9
        go_wp2_with (first
          | (go_at_call 16; refine L.mono ?_; clear L; rintro e v1 ⟨rfl, K1, B1⟩; have HB1 := hide B1; clear K1 B1)
          | (go_at_call 9; refine (AW.out _).mono ?_; rintro e u ⟨rfl, b3⟩; have HB3 := hide b3; clear b3))
        go_ret
        exact ⟨rfl, bel_on' HB1.out HB3.out⟩
    · have ql : ¬ (j : Int) < (l0.length : Int) := by omega
      have L := alw_on HK.out HB.out (id := 30) (x := 1) (q := 700) (by decide) (by omega) (HS.out.last HK.out.good.gp) rfl
      have AW := hide (fun u => pawake_any u)
      obtain ⟨s9, hs9⟩ : ∃ s9, alwQ s 30 1 700 = s9 := ⟨_, rfl⟩
      rw [hs9] at L
      clear hs9
      go_wp2_with (first
        | (go_at_call 16; refine L.mono ?_; clear L; rintro e v1 ⟨rfl, K1, B1⟩; have HB1 := hide B1; clear K1 B1)
        | (go_at_call 9; refine (AW.out _).mono ?_; rintro e u ⟨rfl, b3⟩; have HB3 := hide b3; clear b3))
      go_ret
      exact ⟨rfl, bel_on' HB1.out HB3.out⟩
end Go.Proofs.Ytpahgoehpkohiaa
