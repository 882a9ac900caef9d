/-
  Contract of purse's Allow.
-/
import Derived.Test.YtpahgoehpkohiaaPrsT
namespace Go.Proofs.Ytpahgoehpkohiaa
open Go.ChangeShapes Go.WideShapes Go.ChangeAt Go.RowKit Go.Maps

theorem alwE_arg {s : Pb} {id k q : Int} (h : ¬ (isI id = true ∧ isIt k = true ∧ 1 ≤ q ∧ q ≤ 1000000000)) : alwE s id k q = 1 := if_neg h
theorem alwE_two {s : Pb} {id k q : Int} (h : isI id = true ∧ isIt k = true ∧ 1 ≤ q ∧ q ≤ 1000000000) (h2 : (s.a id).isSome = true ∨ s.p id ≠ 0) : alwE s id k q = 8 := by unfold alwE; rw [if_pos h, if_pos h2]
theorem alwE_less {s : Pb} {id k q : Int} (h : isI id = true ∧ isIt k = true ∧ 1 ≤ q ∧ q ≤ 1000000000) (h1 : s.a id = none) (h2 : s.p id = 0) (h3 : ¬ q ≤ s.m k - alwK s k) : alwE s id k q = 9 := by unfold alwE; rw [if_pos h, if_neg (by simp [h1, h2]), if_neg h3]
theorem alwE_over {s : Pb} {id k q : Int} (h : isI id = true ∧ isIt k = true ∧ 1 ≤ q ∧ q ≤ 1000000000) (h1 : s.a id = none) (h2 : s.p id = 0) (h3 : q ≤ s.m k - alwK s k) (h4 : ¬ s.till + allA s + q ≤ 1000000000) : alwE s id k q = 4 := by unfold alwE; rw [if_pos h, if_neg (by simp [h1, h2]), if_pos h3, if_neg h4]
theorem alwE_well {s : Pb} {id k q : Int} (h : isI id = true ∧ isIt k = true ∧ 1 ≤ q ∧ q ≤ 1000000000) (h1 : s.a id = none) (h2 : s.p id = 0) (h3 : q ≤ s.m k - alwK s k) (h4 : s.till + allA s + q ≤ 1000000000) : alwE s id k q = 0 := by unfold alwE; rw [if_pos h, if_neg (by simp [h1, h2]), if_pos h3, if_pos h4]
/-- What each call on it may count on, while memory is only added. -/
theorem allow_lay {B : Nat} {w : World} {p b c : Nat} {s : Qb} {n : Nat} (k : Pk B w p b c s n) {id x : Int} (hw : (Lit.int .i64 id).wf = true) (hx : isIt x = true) :
    ∀ u, Below w.heap.size w u → u.cell? ⟨p, 8, none⟩ = some (.map (some b)) ∧ u.cell? ⟨p, 9, none⟩ = some (.map (some c)) ∧
      (Calls Try.prog 28 #[.map (some b), .int .i64 id] u fun e w' => e = .returned (.bool (s.a id).isSome) ∧ Below w.heap.size w w') ∧
      (Calls Try.prog 28 #[.map (some c), .int .i64 id] u fun e w' => e = .returned (.bool (s.d id).isSome) ∧ Below w.heap.size w w') ∧
      (Calls Try.prog 20 #[.pointer (some ⟨p, 0, none⟩), .int .i64 x] u fun e w' => e = .returned (.int .i64 (moneyK s x)) ∧ Below w.heap.size w w') ∧
      (Calls Try.prog 21 #[.pointer (some ⟨p, 0, none⟩), .int .i64 x] u fun e w' => e = .returned (.int .i64 (alwV s x)) ∧ Below w.heap.size w w') ∧
      (Calls Try.prog 19 #[.pointer (some ⟨p, 0, none⟩)] u fun e w' => e = .returned (.int .i64 (tillQ s)) ∧ Below w.heap.size w w') ∧
      (Calls Try.prog 31 #[.map (some b)] u fun e w' => e = .returned (.int .i64 (sumTo (alw s.a) 1000)) ∧ Below w.heap.size w w') := fun u hu => by
  have k1 := k.on hu
  have M := pmoney_any k1 x
  rw [show monV s x = moneyK s x from if_pos hx] at M
  refine ⟨k1.1.cellA, k1.1.cellD, (phas_any k1.1.2.2.1 hw).mono ?_, (phas_any k1.1.2.2.2 hw).mono ?_, M.mono ?_, (pallowed_any k1 x).mono ?_, (ptill_any k1).mono ?_, (psum_any k1.1.2.2.1 k1.2.da (by have := k1.2.sumA; omega)).mono ?_⟩
  all_goals exact fun e w' h => ⟨h.1, bel_on' hu h.2⟩

set_option maxRecDepth 100000 in
set_option maxHeartbeats 2000000 in
theorem pallow_any {B : Nat} {w : World} {p b c : Nat} {s : Qb} {n : Nat} (k : Pk B w p b c s n) {id : Int} (hw : (Lit.int .i64 id).wf = true) (x q : Int) (hn : n < 1000000) :
    Calls Try.prog 16 #[.pointer (some ⟨p, 0, none⟩), .int .i64 id, .int .i64 x, .int .i64 q] w fun e w' => e = .returned (.int .i64 (alwE (toP s) id x q)) ∧ Pk B w' p b c (alwQ s id x q) (n + 1) ∧ Rg.Kept (Own2 b c) w w' := by
  have no : ∀ c', alwE (toP s) id x q = c' → c' ≠ 0 → ∀ w', Below w.heap.size w w' → Pk B w' p b c (alwQ s id x q) (n + 1) := fun c' e hc w' hb => by
    rw [alwQ_no (by omega)]
    exact (k.on hb).mono (by omega)
  by_cases hi : isI id = true
  · by_cases hx : isIt x = true
    · by_cases hq : 1 ≤ q ∧ q ≤ 1000000000
      · have hm : may q = true := may_iff.2 (by omega)
        have hq0 : (q == 0) = false := by simp; omega
        have hall : isI id = true ∧ isIt x = true ∧ 1 ≤ q ∧ q ≤ 1000000000 := ⟨hi, hx, hq⟩
        have LAY := hide (allow_lay k hw hx)
        obtain ⟨c8, c9, A1, -⟩ := LAY.out w (Below.refl _ _)
        obtain ⟨gx0, gx1⟩ := isIt_iff.1 hx
        obtain ⟨⟨m1, m2⟩, m3, -, -⟩ := k.2.money gx0 gx1
        obtain ⟨t1, t2, t3⟩ := k.2.sumA
        cases hz : s.a id with
        | some c1 =>
          have e0 : alwE (toP s) id x q = 8 := alwE_two hall (.inl (by show (s.a id).isSome = true; rw [hz]; rfl))
          rw [hz] at A1
          dsimp only [Option.isSome] at A1
          have NO := hide (no 8 e0 (by omega))
          rw [e0]
          clear no e0 k hz hall
          go_enter Try.func16, Try.ntmps16
          go_wp2_with (first
        | (go_at_call 25; refine (pisid_any _ _).mono ?_; rintro e w' ⟨rfl, rfl⟩)
        | (go_at_call 26; refine (piscl_any _ _).mono ?_; rintro e w' ⟨rfl, rfl⟩)
        | (go_at_call 27; refine (may_any _ _).mono ?_; rintro e w' ⟨rfl, rfl⟩)
        | (go_at_call 28; refine A1.mono ?_; clear A1; rintro e u1 ⟨rfl, b1⟩; clear c8 c9; obtain ⟨c8, c9, -⟩ := LAY.out u1 b1; have Hb1 := hide b1; clear b1))
          go_ret
          exact ⟨rfl, NO.out _ Hb1.out, Rg.Kept.of_below Hb1.out⟩
        | none =>
          rw [hz] at A1
          dsimp only [Option.isSome] at A1
          cases hy : s.d id with
          | some c1 =>
            have e0 : alwE (toP s) id x q = 8 := alwE_two hall (.inr (fun e => by have := k.2.dd.nope e; rw [hy] at this; cases this))
            rw [hy] at LAY
            dsimp only [Option.isSome] at LAY
            have NO := hide (no 8 e0 (by omega))
            rw [e0]
            clear no e0 k hz hall hy
            go_enter Try.func16, Try.ntmps16
            go_wp2_with (first
        | (go_at_call 25; refine (pisid_any _ _).mono ?_; rintro e w' ⟨rfl, rfl⟩)
        | (go_at_call 26; refine (piscl_any _ _).mono ?_; rintro e w' ⟨rfl, rfl⟩)
        | (go_at_call 27; refine (may_any _ _).mono ?_; rintro e w' ⟨rfl, rfl⟩)
        | (go_at_call 28; refine A1.mono ?_; clear A1; rintro e u1 ⟨rfl, b1⟩; clear c8 c9; obtain ⟨c8, c9, -, A2, -⟩ := LAY.out u1 b1; have Hb1 := hide b1; clear b1)
        | (go_at_call 28; refine A2.mono ?_; clear A2; rintro e u2 ⟨rfl, b2⟩; clear c8 c9; obtain ⟨c8, c9, -⟩ := LAY.out u2 b2; have Hb2 := hide b2; clear b2))
            go_ret
            exact ⟨rfl, NO.out _ Hb2.out, Rg.Kept.of_below Hb2.out⟩
          | none =>
            have hp0 : (toP s).p id = 0 := by show alw s.d id = 0; unfold alw; rw [hy]; rfl
            rw [hy] at LAY
            dsimp only [Option.isSome] at LAY
            have eK : alwK (toP s) x = alwV s x := rfl
            have eM : (toP s).m x = moneyK s x := rfl
            have eT : (toP s).till = tillQ s := rfl
            have eA : allA (toP s) = sumTo (alw s.a) 1000 := rfl
            have t2' : 0 ≤ tillQ s := t2
            have t3' : tillQ s + sumTo (alw s.a) 1000 ≤ 1000000000 := t3
            have m1' : 0 ≤ alwV s x := m1
            have m2' : alwV s x ≤ moneyK s x := m2
            clear t2 t3 m1 m2
            by_cases hle : q ≤ moneyK s x - alwV s x
            · by_cases hov : tillQ s + sumTo (alw s.a) 1000 + q ≤ 1000000000
              · have e0 : alwE (toP s) id x q = 0 := alwE_well hall hz hp0 (by rw [eM, eK]; exact hle) (by rw [eT, eA]; exact hov)
                have HG := hide (k.2.allow id x q)
                rw [alwQ_ok e0] at HG
                rw [e0, alwQ_ok e0]
                have PUT : Hid (∀ u, Below w.heap.size w u → ∃ w2, (Instr.mapUpdate 51 (.map (some b)) (.int .i64 id) (.agg #[.int .i64 x, .int .i64 q])).run Try.prog u = .ok () w2 ∧ Pk0 B w2 p b c ⟨s.f, updO s.a id (some (x, q)), s.d⟩ (n + 1) ∧ Rg.Kept (Own2 b c) w w2) := fun u hu => by
                  have k2 := k.1.on hu
                  have hnea := k2.nea
                  obtain ⟨w2, hr, m2, kp⟩ := k2.2.2.1.put hw hn x q
                  exact ⟨w2, hr, ⟨kp.block _ _ k2.1 (fun e => hnea e.symm), k2.2.1, m2, (k2.2.2.2.mono (Nat.le_succ _)).kept kp (fun _ e => k2.2.1.2.2.2 e.symm)⟩, (Rg.Kept.of_below hu).trans (kp.mono (fun _ _ e => .inl e))⟩
                have hml : may (moneyK s x - alwV s x) = true := may_iff.2 (by omega)
                have hmt : may (tillQ s + sumTo (alw s.a) 1000) = true := may_iff.2 (by omega)
                have hse : subE (moneyK s x - alwV s x) q = 0 := by simp [subE, hml, hm, hle]
                have hae : addE (tillQ s + sumTo (alw s.a) 1000) q = 0 := by simp [addE, hmt, hm, hov]
                obtain ⟨M, hM⟩ : ∃ M, moneyK s x = M := ⟨_, rfl⟩
                obtain ⟨V, hV⟩ : ∃ V, alwV s x = V := ⟨_, rfl⟩
                obtain ⟨Tl, hT⟩ : ∃ Tl, tillQ s = Tl := ⟨_, rfl⟩
                obtain ⟨Al, hA⟩ : ∃ Al, sumTo (alw s.a) 1000 = Al := ⟨_, rfl⟩
                rw [hM, hV, hT, hA] at LAY
                rw [hM, hV] at hse m2'
                rw [hV] at m1'
                rw [hM] at m3
                rw [hT, hA] at hae t3'
                rw [hT] at t2'
                rw [hA] at t1
                clear no e0 k hz hall hy hp0 eK eM eT eA hle hov hml hmt hM hV hT hA
                go_enter Try.func16, Try.ntmps16
                go_wp2_with (first
        | (go_at_call 25; refine (pisid_any _ _).mono ?_; rintro e w' ⟨rfl, rfl⟩)
        | (go_at_call 26; refine (piscl_any _ _).mono ?_; rintro e w' ⟨rfl, rfl⟩)
        | (go_at_call 27; refine (may_any _ _).mono ?_; rintro e w' ⟨rfl, rfl⟩)
        | (go_at_call 28; refine A1.mono ?_; clear A1; rintro e u1 ⟨rfl, b1⟩; clear c8 c9; obtain ⟨c8, c9, -, A2, -⟩ := LAY.out u1 b1; have Hb1 := hide b1; clear b1)
        | (go_at_call 28; refine A2.mono ?_; clear A2; rintro e u2 ⟨rfl, b2⟩; clear c8 c9; obtain ⟨c8, c9, -, -, A3, -⟩ := LAY.out u2 b2; have Hb2 := hide b2; clear b2)
        | (go_at_call 20; refine A3.mono ?_; clear A3; rintro e u3 ⟨rfl, b3⟩; clear c8 c9; obtain ⟨c8, c9, -, -, -, A4, -⟩ := LAY.out u3 b3; have Hb3 := hide b3; clear b3)
        | (go_at_call 21; refine A4.mono ?_; clear A4; rintro e u4 ⟨rfl, b4⟩; clear c8 c9; obtain ⟨c8, c9, -, -, -, -, A5, -⟩ := LAY.out u4 b4; have Hb4 := hide b4; clear b4)
        | (go_at_call 29; refine (sub_any _ _ _).mono ?_; rintro e w' ⟨rfl, rfl⟩))
                clear A5
                obtain ⟨-, -, -, -, -, -, A5, -⟩ := LAY.out u4.drew Hb4.out.drew
                have qw : IntKind.i64.wrap (Tl + Al) = Tl + Al := by rw [IntKind.wrap_i64]; omega
                clear c9
                go_region_held3 (fun w' => w'.cell? ⟨p, 8, none⟩ = some (.map (some b))) (go_keep) (first
        | (go_at_call 19; refine A5.mono ?_; clear A5; rintro e u5 ⟨rfl, b5⟩; clear c8; obtain ⟨c8, c9, -, -, -, -, -, A6⟩ := LAY.out u5 b5; have Hb5 := hide b5; clear b5)
        | (go_at_call 31; refine A6.mono ?_; clear A6; rintro e u6 ⟨rfl, b6⟩; clear c8 c9; obtain ⟨c8, c9, -⟩ := LAY.out u6 b6; have Hb6 := hide b6; clear b6; obtain ⟨w2, hr2, hp2⟩ := PUT.out u6 Hb6.out; have HP2 := hide hp2; clear hp2)
        | (go_at_call 30; refine (add_any _ _ _).mono ?_; rintro e w' ⟨rfl, rfl⟩))
                all_goals go_wp2
                all_goals go_ret
                all_goals exact ⟨rfl, ⟨HP2.out.1, HG.out⟩, HP2.out.2⟩
              · have e0 : alwE (toP s) id x q = 4 := alwE_over hall hz hp0 (by rw [eM, eK]; exact hle) (by rw [eT, eA]; exact hov)
                have NO := hide (no 4 e0 (by omega))
                rw [e0]
                have hml : may (moneyK s x - alwV s x) = true := may_iff.2 (by omega)
                have hmt : may (tillQ s + sumTo (alw s.a) 1000) = true := may_iff.2 (by omega)
                have hse : subE (moneyK s x - alwV s x) q = 0 := by simp [subE, hml, hm, hle]
                have hae : addE (tillQ s + sumTo (alw s.a) 1000) q = 4 := by simp [addE, hmt, hm, hov]
                obtain ⟨M, hM⟩ : ∃ M, moneyK s x = M := ⟨_, rfl⟩
                obtain ⟨V, hV⟩ : ∃ V, alwV s x = V := ⟨_, rfl⟩
                obtain ⟨Tl, hT⟩ : ∃ Tl, tillQ s = Tl := ⟨_, rfl⟩
                obtain ⟨Al, hA⟩ : ∃ Al, sumTo (alw s.a) 1000 = Al := ⟨_, rfl⟩
                rw [hM, hV, hT, hA] at LAY
                rw [hM, hV] at hse m2'
                rw [hV] at m1'
                rw [hM] at m3
                rw [hT, hA] at hae t3'
                rw [hT] at t2'
                rw [hA] at t1
                clear no e0 k hz hall hy hp0 eK eM eT eA hle hov hml hmt hM hV hT hA
                go_enter Try.func16, Try.ntmps16
                go_wp2_with (first
        | (go_at_call 25; refine (pisid_any _ _).mono ?_; rintro e w' ⟨rfl, rfl⟩)
        | (go_at_call 26; refine (piscl_any _ _).mono ?_; rintro e w' ⟨rfl, rfl⟩)
        | (go_at_call 27; refine (may_any _ _).mono ?_; rintro e w' ⟨rfl, rfl⟩)
        | (go_at_call 28; refine A1.mono ?_; clear A1; rintro e u1 ⟨rfl, b1⟩; clear c8 c9; obtain ⟨c8, c9, -, A2, -⟩ := LAY.out u1 b1; have Hb1 := hide b1; clear b1)
        | (go_at_call 28; refine A2.mono ?_; clear A2; rintro e u2 ⟨rfl, b2⟩; clear c8 c9; obtain ⟨c8, c9, -, -, A3, -⟩ := LAY.out u2 b2; have Hb2 := hide b2; clear b2)
        | (go_at_call 20; refine A3.mono ?_; clear A3; rintro e u3 ⟨rfl, b3⟩; clear c8 c9; obtain ⟨c8, c9, -, -, -, A4, -⟩ := LAY.out u3 b3; have Hb3 := hide b3; clear b3)
        | (go_at_call 21; refine A4.mono ?_; clear A4; rintro e u4 ⟨rfl, b4⟩; clear c8 c9; obtain ⟨c8, c9, -, -, -, -, A5, -⟩ := LAY.out u4 b4; have Hb4 := hide b4; clear b4)
        | (go_at_call 29; refine (sub_any _ _ _).mono ?_; rintro e w' ⟨rfl, rfl⟩))
                clear A5
                obtain ⟨-, -, -, -, -, -, A5, -⟩ := LAY.out u4.drew Hb4.out.drew
                have qw : IntKind.i64.wrap (Tl + Al) = Tl + Al := by rw [IntKind.wrap_i64]; omega
                clear c9
                go_region_held3 (fun w' => w'.cell? ⟨p, 8, none⟩ = some (.map (some b))) (go_keep) (first
        | (go_at_call 19; refine A5.mono ?_; clear A5; rintro e u5 ⟨rfl, b5⟩; clear c8; obtain ⟨c8, c9, -, -, -, -, -, A6⟩ := LAY.out u5 b5; have Hb5 := hide b5; clear b5)
        | (go_at_call 31; refine A6.mono ?_; clear A6; rintro e u6 ⟨rfl, b6⟩; clear c8 c9; obtain ⟨c8, c9, -⟩ := LAY.out u6 b6; have Hb6 := hide b6; clear b6)
        | (go_at_call 30; refine (add_any _ _ _).mono ?_; rintro e w' ⟨rfl, rfl⟩))
                all_goals go_wp2
                all_goals go_ret
                all_goals exact ⟨rfl, NO.out _ Hb6.out, Rg.Kept.of_below Hb6.out⟩
            · have e0 : alwE (toP s) id x q = 9 := alwE_less hall hz hp0 (by rw [eM, eK]; exact hle)
              have NO := hide (no 9 e0 (by omega))
              rw [e0]
              have hml : may (moneyK s x - alwV s x) = true := may_iff.2 (by omega)
              have hse : subE (moneyK s x - alwV s x) q = 9 := by simp [subE, hml, hm, hle]
              obtain ⟨M, hM⟩ : ∃ M, moneyK s x = M := ⟨_, rfl⟩
              obtain ⟨V, hV⟩ : ∃ V, alwV s x = V := ⟨_, rfl⟩
              rw [hM, hV] at LAY
              rw [hM, hV] at hse m2'
              rw [hV] at m1'
              rw [hM] at m3
              clear no e0 k hz hall hy hp0 eK eM eT eA hle hml hM hV t1 t2' t3'
              go_enter Try.func16, Try.ntmps16
              go_wp2_with (first
        | (go_at_call 25; refine (pisid_any _ _).mono ?_; rintro e w' ⟨rfl, rfl⟩)
        | (go_at_call 26; refine (piscl_any _ _).mono ?_; rintro e w' ⟨rfl, rfl⟩)
        | (go_at_call 27; refine (may_any _ _).mono ?_; rintro e w' ⟨rfl, rfl⟩)
        | (go_at_call 28; refine A1.mono ?_; clear A1; rintro e u1 ⟨rfl, b1⟩; clear c8 c9; obtain ⟨c8, c9, -, A2, -⟩ := LAY.out u1 b1; have Hb1 := hide b1; clear b1)
        | (go_at_call 28; refine A2.mono ?_; clear A2; rintro e u2 ⟨rfl, b2⟩; clear c8 c9; obtain ⟨c8, c9, -, -, A3, -⟩ := LAY.out u2 b2; have Hb2 := hide b2; clear b2)
        | (go_at_call 20; refine A3.mono ?_; clear A3; rintro e u3 ⟨rfl, b3⟩; clear c8 c9; obtain ⟨c8, c9, -, -, -, A4, -⟩ := LAY.out u3 b3; have Hb3 := hide b3; clear b3)
        | (go_at_call 21; refine A4.mono ?_; clear A4; rintro e u4 ⟨rfl, b4⟩; clear c8 c9; obtain ⟨c8, c9, -, -, -, -, A5, -⟩ := LAY.out u4 b4; have Hb4 := hide b4; clear b4)
        | (go_at_call 29; refine (sub_any _ _ _).mono ?_; rintro e w' ⟨rfl, rfl⟩))
              go_ret
              exact ⟨rfl, NO.out _ Hb4.out, Rg.Kept.of_below Hb4.out⟩
      · have e0 : alwE (toP s) id x q = 1 := alwE_arg (fun h => hq h.2.2)
        have hi0 : isI id = true := hi
        by_cases hm : may q = true
        · have hq0 : q = 0 := by have := may_iff.1 hm; omega
          subst hq0
          have NO := hide (no 1 e0 (by omega))
          rw [e0]
          clear no e0 k
          go_enter Try.func16, Try.ntmps16
          go_wp2_with (first
        | (go_at_call 25; refine (pisid_any _ _).mono ?_; rintro e w' ⟨rfl, rfl⟩)
        | (go_at_call 26; refine (piscl_any _ _).mono ?_; rintro e w' ⟨rfl, rfl⟩)
        | (go_at_call 27; refine (may_any _ _).mono ?_; rintro e w' ⟨rfl, rfl⟩))
          go_ret
          exact ⟨rfl, NO.out _ (Below.refl _ _), Rg.Kept.refl _ _⟩
        · have hm0 : may q = false := by simpa using hm
          have NO := hide (no 1 e0 (by omega))
          rw [e0]
          clear no e0 k
          go_enter Try.func16, Try.ntmps16
          go_wp2_with (first
        | (go_at_call 25; refine (pisid_any _ _).mono ?_; rintro e w' ⟨rfl, rfl⟩)
        | (go_at_call 26; refine (piscl_any _ _).mono ?_; rintro e w' ⟨rfl, rfl⟩)
        | (go_at_call 27; refine (may_any _ _).mono ?_; rintro e w' ⟨rfl, rfl⟩))
          go_ret
          exact ⟨rfl, NO.out _ (Below.refl _ _), Rg.Kept.refl _ _⟩
    · have hx0 : isIt x = false := by simpa using hx
      have e0 : alwE (toP s) id x q = 1 := alwE_arg (fun h => hx h.2.1)
      have NO := hide (no 1 e0 (by omega))
      rw [e0]
      clear no e0 k
      go_enter Try.func16, Try.ntmps16
      go_wp2_with (first
        | (go_at_call 25; refine (pisid_any _ _).mono ?_; rintro e w' ⟨rfl, rfl⟩)
        | (go_at_call 26; refine (piscl_any _ _).mono ?_; rintro e w' ⟨rfl, rfl⟩)
        | (go_at_call 27; refine (may_any _ _).mono ?_; rintro e w' ⟨rfl, rfl⟩))
      go_ret
      exact ⟨rfl, NO.out _ (Below.refl _ _), Rg.Kept.refl _ _⟩
  · have hi0 : isI id = false := by simpa using hi
    have e0 : alwE (toP s) id x q = 1 := alwE_arg (fun h => hi h.1)
    have NO := hide (no 1 e0 (by omega))
    rw [e0]
    clear no e0 k
    go_enter Try.func16, Try.ntmps16
    go_wp2_with (first
        | (go_at_call 25; refine (pisid_any _ _).mono ?_; rintro e w' ⟨rfl, rfl⟩)
        | (go_at_call 26; refine (piscl_any _ _).mono ?_; rintro e w' ⟨rfl, rfl⟩)
        | (go_at_call 27; refine (may_any _ _).mono ?_; rintro e w' ⟨rfl, rfl⟩))
    go_ret
    exact ⟨rfl, NO.out _ (Below.refl _ _), Rg.Kept.refl _ _⟩
end Go.Proofs.Ytpahgoehpkohiaa
