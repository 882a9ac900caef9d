/-
  AgainPlays's walk.
-/
import Derived.Test.YtpllbggkbhhfkaaAgnA
import Derived.Test.YtpllbggkbhhfkaaAgnR
import Derived.Test.YtpllbggkbhhfkaaAgnD
import Derived.Test.YtpllbggkbhhfkaaLater
namespace Go.Proofs.Ytpllbggkbhhfkaa
open Go.ChangeShapes Go.WideShapes Go.ChangeAt Go.RowKit

/-- Both counts beside each other. -/
structure Two (w wr : World) (p q : Nat) (l x y : Int) : Prop where
  a : Ct 36 w.heap.size wr p l x y
  b : Ct 30 w.heap.size wr q l x (nextW y)
  ne : p ≠ q
  g : GoodC l x y
  bel : Below w.heap.size w wr
theorem Two.on {w wr u : World} {p q : Nat} {l x y : Int} (h : Two w wr p q l x y) (hb : Below wr.heap.size wr u) : Two w u p q l x y := ⟨h.a.on hb, h.b.on hb, h.ne, h.g, bel_on' h.bel hb⟩
def PRel (w : World) (p q : Nat) (len : Nat) (i : Value) (wr : World) : Prop :=
  ∃ (j : Nat) (l x y : Int), i = .int .i64 j ∧ j ≤ len ∧ Hid (Two w wr p q l x y)
set_option maxHeartbeats 1000000 in
theorem againPlays_walk (a0 : Int) (l1 : List Bool) (a1 : Option Addr) (cap1 : Nat) (w : World) (_w0 : (Lit.int .i64 a0).wf = true) (w1 : BlsIn w l1 a1) :
    Calls Try.prog 3 #[.int .i64 a0, .slice a1 l1.length cap1] w fun e w' => e = .returned (.bool true) ∧ Below w.heap.size w w' := by
  obtain ⟨hlen, hbl⟩ := w1
  have HBL := hide hbl
  have HA := hide cawake_any
  have HC0 : True := trivial
  have HC := hide (cutT_bd a0)
  clear hbl _w0
  go_enter Try.func3, Try.ntmps3
  go_wp2_with (first
    | (go_at_call 7; refine (cnew_any _ _).mono ?_; rintro e u1 ⟨p, rfl, k1, b1⟩; have HK1 := hide k1; have HB1 := hide b1; clear k1 b1)
    | (go_at_call 8; refine (rnewc_any _ _).mono ?_; rintro e u2 ⟨q, rfl, k2, b2⟩; have HK2 := hide k2; have HB2 := hide b2; clear k2 b2))
  clear HC0
  have HS0 : Hid (Two w u2 p q (cutT a0) 0 0) := ⟨HK1.out.on HB2.out, ⟨HK2.out.1, by have := HK2.out.2.1; have := HB1.out.size; omega, by have := HK2.out.2.2; have := HB1.out.size; omega⟩, by have := HK1.out.lt; have := HK2.out.2.1; omega, ⟨by have := HC.out; omega, HC.out.2, by omega, by omega, by omega, by omega⟩, bel_on' HB1.out HB2.out⟩
  clear HK1 HK2 HB1 HB2 HC
  go_loopw [18] (fun i wr => PRel w p q l1.length i wr) (fun i _ => (l1.length - intOf i).toNat)
  case atStart => exact ⟨0, _, _, _, rfl, Nat.zero_le _, HS0⟩
  case round =>
    obtain ⟨j, l, x, y, rfl, hj, HS⟩ := hrel
    clear HS0
    by_cases hlt : j < l1.length
    · have ql : (j : Int) < (l1.length : Int) := by omega
      obtain ⟨c, hc⟩ : ∃ c, l1[j]? = some c := ⟨l1[j], by simp [hlt]⟩
      rcases HBL.out.below HS.out.bel with h0 | ⟨bc, off, rfl, hca⟩
      · subst h0; simp at hlt
      have c0 := hca j c hc
      clear hca hc
      by_cases h300 : j < 300
      · have q300 : ¬ (j : Int) ≥ 300 := by omega
        cases c
        · have C1 := cpass_any HS.out.a HS.out.g
          have S2 : Hid (∀ u : World, Ct 36 w.heap.size u p l (passX x) y → Rg.Kept (Own1 p) wr u → Calls Try.prog 12 #[.pointer (some ⟨q, 0, none⟩)] u fun e w' => e = .returned (.bool (decide (passX x = 0))) ∧ Two w w' p q l (passX x) y) := fun u k o => (rpass_any (HS.out.b.kept o (fun _ h => HS.out.ne h.symm)) HS.out.g).mono (fun e w' ⟨h1, h2, h3⟩ => ⟨h1, ⟨k.kept h3 (fun _ h => HS.out.ne h), h2, HS.out.ne, HS.out.g.pass, (HS.out.bel.trans (HS.out.a.bel o)).trans ((HS.out.b.kept o (fun _ h => HS.out.ne h.symm)).bel h3)⟩⟩)
          obtain ⟨r, hr⟩ : ∃ r, decide (passX x = 0) = r := ⟨_, rfl⟩
          obtain ⟨L, hL⟩ : ∃ L, l = L := ⟨_, rfl⟩
          obtain ⟨X, hX⟩ : ∃ X, (passX x) = X := ⟨_, rfl⟩
          obtain ⟨Y, hY⟩ : ∃ Y, y = Y := ⟨_, rfl⟩
          rw [hr, hL, hX, hY] at S2
          rw [hr, hL, hX, hY] at C1
          have qr : (r == r) = true := by simp
          have qL : (L != L) = false := by simp
          have qX : (X != X) = false := by simp
          clear hr hL hX hY HS
          go_wp2_with (first
            | (go_at_call 11; refine C1.mono ?_; clear C1; rintro e u3 ⟨rfl, k3, o3⟩; have C2 := S2.out u3 k3 o3; clear k3 o3 S2)
            | (go_at_call 12; refine C2.mono ?_; clear C2; rintro e u4 ⟨rfl, k4⟩; have HS4 := hide k4; clear k4))
          have hne : Nonempty (Later u4) := ⟨Later.now u4⟩
          have g1 : ∀ u : Later u4, u.w.cell? ⟨q, 0, none⟩ = some (.int .i64 L) := fun u => (HS4.out.b.on u.below).cells.1.1
          have g2 : ∀ u : Later u4, u.w.cell? ⟨q, 1, none⟩ = some (.int .i64 X) := fun u => (HS4.out.b.on u.below).cells.1.2.1
          have g3 : ∀ u : Later u4, Calls Try.prog 14 #[.pointer (some ⟨p, 0, none⟩)] u.w fun e w' => e = .returned (.int .i64 L) ∧ ∃ u' : Later u4, w' = u'.w := fun u => calls_later u ((cleft_any (HS4.out.a.on u.below)).mono (fun e w' ⟨h1, h2⟩ => ⟨h1, h2 ▸ Below.refl _ _⟩))
          have g4 : ∀ u : Later u4, Calls Try.prog 13 #[.pointer (some ⟨p, 0, none⟩)] u.w fun e w' => e = .returned (.int .i64 X) ∧ ∃ u' : Later u4, w' = u'.w := fun u => calls_later u ((cwait_any (HS4.out.a.on u.below)).mono (fun e w' ⟨h1, h2⟩ => ⟨h1, h2 ▸ Below.refl _ _⟩))
          refine region_later (by kernel_rfl) (by kernel_rfl) ?_
          repeat (first | go_big_quiet_step (first | (go_at_call 14; with_reducible exact g3 _) | (go_at_call 13; with_reducible exact g4 _)) | quiet_step (first | (go_at_call 14; with_reducible exact g3 _) | (go_at_call 13; with_reducible exact g4 _)))
          refine wpQuiet_nil ?_
          intro u
          have HS5 := hide (HS4.out.on u.below)
          generalize u.w = u5 at HS5 ⊢
          clear g1 g2 g3 g4 u hne HS4
          go_wp2
          go_roundw
          case rel => exact ⟨j + 1, L, X, Y, by go_num, by omega, HS5⟩
          case measure => simp [intOf]; omega
        · have C1 := ctry_any HS.out.a HS.out.g
          have S2 : Hid (∀ u : World, Ct 36 w.heap.size u p (tryL l x) (tryX l x y) (tryY l x y) → Rg.Kept (Own1 p) wr u → Calls Try.prog 10 #[.pointer (some ⟨q, 0, none⟩)] u fun e w' => e = .returned (.bool (tryB l x)) ∧ Two w w' p q (tryL l x) (tryX l x y) (tryY l x y)) := fun u k o => (rtry_any (HS.out.b.kept o (fun _ h => HS.out.ne h.symm)) HS.out.g).mono (fun e w' ⟨h1, h2, h3⟩ => ⟨h1, ⟨k.kept h3 (fun _ h => HS.out.ne h), h2, HS.out.ne, HS.out.g.try_, (HS.out.bel.trans (HS.out.a.bel o)).trans ((HS.out.b.kept o (fun _ h => HS.out.ne h.symm)).bel h3)⟩⟩)
          obtain ⟨r, hr⟩ : ∃ r, tryB l x = r := ⟨_, rfl⟩
          obtain ⟨L, hL⟩ : ∃ L, (tryL l x) = L := ⟨_, rfl⟩
          obtain ⟨X, hX⟩ : ∃ X, (tryX l x y) = X := ⟨_, rfl⟩
          obtain ⟨Y, hY⟩ : ∃ Y, (tryY l x y) = Y := ⟨_, rfl⟩
          rw [hr, hL, hX, hY] at S2
          rw [hr, hL, hX, hY] at C1
          have qr : (r == r) = true := by simp
          have qL : (L != L) = false := by simp
          have qX : (X != X) = false := by simp
          clear hr hL hX hY HS
          go_wp2_with (first
            | (go_at_call 9; refine C1.mono ?_; clear C1; rintro e u3 ⟨rfl, k3, o3⟩; have C2 := S2.out u3 k3 o3; clear k3 o3 S2)
            | (go_at_call 10; refine C2.mono ?_; clear C2; rintro e u4 ⟨rfl, k4⟩; have HS4 := hide k4; clear k4))
          have hne : Nonempty (Later u4) := ⟨Later.now u4⟩
          have g1 : ∀ u : Later u4, u.w.cell? ⟨q, 0, none⟩ = some (.int .i64 L) := fun u => (HS4.out.b.on u.below).cells.1.1
          have g2 : ∀ u : Later u4, u.w.cell? ⟨q, 1, none⟩ = some (.int .i64 X) := fun u => (HS4.out.b.on u.below).cells.1.2.1
          have g3 : ∀ u : Later u4, Calls Try.prog 14 #[.pointer (some ⟨p, 0, none⟩)] u.w fun e w' => e = .returned (.int .i64 L) ∧ ∃ u' : Later u4, w' = u'.w := fun u => calls_later u ((cleft_any (HS4.out.a.on u.below)).mono (fun e w' ⟨h1, h2⟩ => ⟨h1, h2 ▸ Below.refl _ _⟩))
          have g4 : ∀ u : Later u4, Calls Try.prog 13 #[.pointer (some ⟨p, 0, none⟩)] u.w fun e w' => e = .returned (.int .i64 X) ∧ ∃ u' : Later u4, w' = u'.w := fun u => calls_later u ((cwait_any (HS4.out.a.on u.below)).mono (fun e w' ⟨h1, h2⟩ => ⟨h1, h2 ▸ Below.refl _ _⟩))
          refine region_later (by kernel_rfl) (by kernel_rfl) ?_
          repeat (first | go_big_quiet_step (first | (go_at_call 14; with_reducible exact g3 _) | (go_at_call 13; with_reducible exact g4 _)) | quiet_step (first | (go_at_call 14; with_reducible exact g3 _) | (go_at_call 13; with_reducible exact g4 _)))
          refine wpQuiet_nil ?_
          intro u
          have HS5 := hide (HS4.out.on u.below)
          generalize u.w = u5 at HS5 ⊢
          clear g1 g2 g3 g4 u hne HS4
          go_wp2
          go_roundw
          case rel => exact ⟨j + 1, L, X, Y, by go_num, by omega, HS5⟩
          case measure => simp [intOf]; omega
      · have q300 : (j : Int) ≥ 300 := by omega
        go_wp2_with (first
          | (go_at_call 15; refine (HA.out _).mono ?_; rintro e u8 ⟨rfl, b8⟩; have HB8 := hide b8; clear b8))
        go_ret
        exact ⟨rfl, bel_on' HS.out.bel HB8.out⟩
    · have ql : ¬ (j : Int) < (l1.length : Int) := by omega
      go_wp2_with (first
        | (go_at_call 15; refine (HA.out _).mono ?_; rintro e u8 ⟨rfl, b8⟩; have HB8 := hide b8; clear b8))
      go_ret
      exact ⟨rfl, bel_on' HS.out.bel HB8.out⟩
end Go.Proofs.Ytpllbggkbhhfkaa
