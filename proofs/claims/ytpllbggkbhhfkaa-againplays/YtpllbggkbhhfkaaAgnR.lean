/-
  The reference's count: NewCount, Try, Pass.
-/
import Derived.Test.YtpllbggkbhhfkaaAgnS
namespace Go.Proofs.Ytpllbggkbhhfkaa
open Go.ChangeShapes Go.WideShapes Go.ChangeAt Go.RowKit

theorem nextW_pos {z : Int} (h : 1 ≤ z) : nextW z = if 16 < 2 * z then 16 else 2 * z := by
  unfold nextW
  rw [if_neg (by omega)]
theorem nextW_next (y : Int) : nextW (nextW y) = if 16 < 2 * nextW y then 16 else 2 * nextW y := nextW_pos (nextW_bd y).1
/-- The reference keeps what comes next, not what was last. -/
theorem rtry_any {B : Nat} {w : World} {p : Nat} {l x y : Int} (k : Ct 30 B w p l x (nextW y)) (g : GoodC l x y) :
    Calls Try.prog 10 #[.pointer (some ⟨p, 0, none⟩)] w fun e w' => e = .returned (.bool (tryB l x)) ∧ Ct 30 B w' p (tryL l x) (tryX l x y) (nextW (tryY l x y)) ∧ Rg.Kept (Own1 p) w w' := by
  obtain ⟨⟨c0, c1, c2⟩, f0, f1, f2⟩ := k.cells
  have HK := hide k
  clear k
  by_cases a : l = 0
  · have e : tryB l x = false := by unfold tryB; simp [a]
    unfold tryL tryX tryY
    rw [e]
    simp only [Bool.false_eq_true, if_false]
    subst a
    clear e g
    go_enter Try.func10, Try.ntmps10
    go_wp2
    go_ret
    exact ⟨rfl, HK.out, Rg.Kept.refl _ _⟩
  · have qa : (l == 0) = false := by simp [a]
    by_cases b : x > 0
    · have e : tryB l x = false := by unfold tryB; simp; omega
      unfold tryL tryX tryY
      rw [e]
      simp only [Bool.false_eq_true, if_false]
      clear e g
      go_enter Try.func10, Try.ntmps10
      go_wp2
      go_ret
      exact ⟨rfl, HK.out, Rg.Kept.refl _ _⟩
    · have e : tryB l x = true := by unfold tryB; simp; omega
      unfold tryL tryX tryY
      rw [e]
      simp only [if_true]
      rw [nextW_next]
      obtain ⟨l0, l1⟩ : 0 ≤ l ∧ l ≤ 20 := ⟨g.l0, g.l1⟩
      obtain ⟨n0, n1⟩ := nextW_bd y
      obtain ⟨z, hz⟩ : ∃ z, nextW y = z := ⟨_, rfl⟩
      rw [hz] at c2 n0 n1 HK ⊢
      have key : ∀ v, Ct 30 B (((w.setCell ⟨p, 0, none⟩ (.int .i64 (l - 1))).setCell ⟨p, 1, none⟩ (.int .i64 z)).setCell ⟨p, 2, none⟩ (.int .i64 v)) p (l - 1) z v ∧ Rg.Kept (Own1 p) w (((w.setCell ⟨p, 0, none⟩ (.int .i64 (l - 1))).setCell ⟨p, 1, none⟩ (.int .i64 z)).setCell ⟨p, 2, none⟩ (.int .i64 v)) := fun v =>
        ⟨((HK.out.set0 _).set1 _).set2 _, ((own1_set _ _).trans (own1_set _ _)).trans (own1_set _ _)⟩
      have KEY := hide key
      clear e g key HK hz
      by_cases h16 : 16 < 2 * z
      · rw [if_pos h16]
        go_enter Try.func10, Try.ntmps10
        go_wp2
        go_ret
        exact ⟨rfl, KEY.out _⟩
      · rw [if_neg h16]
        go_enter Try.func10, Try.ntmps10
        go_wp2
        go_ret
        exact ⟨rfl, KEY.out _⟩
theorem rpass_any {B : Nat} {w : World} {p : Nat} {l x y z : Int} (k : Ct 30 B w p l x z) (g : GoodC l x y) :
    Calls Try.prog 12 #[.pointer (some ⟨p, 0, none⟩)] w fun e w' => e = .returned (.bool (decide (passX x = 0))) ∧ Ct 30 B w' p l (passX x) z ∧ Rg.Kept (Own1 p) w w' := by
  obtain ⟨⟨c0, c1, c2⟩, f0, f1, f2⟩ := k.cells
  have HK := hide k
  clear k
  obtain ⟨x0, x1⟩ : 0 ≤ x ∧ x ≤ 16 := ⟨g.x0, g.x1⟩
  clear g
  by_cases a : x - 1 < 0
  · have e : passX x = 0 := by unfold passX; rw [if_pos a]
    rw [e]
    clear e
    go_enter Try.func12, Try.ntmps12
    go_wp2
    go_ret
    exact ⟨rfl, HK.out.set1 _, own1_set _ _⟩
  · have e : passX x = x - 1 := by unfold passX; rw [if_neg a]
    have b : ¬ 0 > x - 1 := by omega
    rw [e]
    clear e
    by_cases c : 0 < x - 1
    · go_enter Try.func12, Try.ntmps12
      go_wp2
      go_ret
      exact ⟨rfl, HK.out.set1 _, own1_set _ _⟩
    · have e0 : x - 1 = 0 := by omega
      rw [e0]
      clear e0
      go_enter Try.func12, Try.ntmps12
      go_wp2
      go_ret
      exact ⟨rfl, HK.out.set1 _, own1_set _ _⟩
theorem rnewc_any (n : Int) (w : World) : Calls Try.prog 8 #[.int .i64 n] w fun e w' => ∃ p, e = .returned (.pointer (some ⟨p, 0, none⟩)) ∧ Ct 30 w.heap.size w' p (cutT n) 0 (nextW 0) ∧ Below w.heap.size w w' := by
  have key : ∀ c, Ct 30 w.heap.size (w.alloc (.cells #[.int .i64 c, .int .i64 0, .int .i64 1] 30)) w.heap.size c 0 1 ∧ Below w.heap.size w (w.alloc (.cells #[.int .i64 c, .int .i64 0, .int .i64 1] 30)) := fun c =>
    ⟨⟨World.alloc_heap_new _ _, Nat.le_refl _, by simp⟩, (Below.refl _ _).alloc (Nat.le_refl _) _⟩
  have KEY := hide key
  clear key
  rw [show nextW 0 = 1 by decide]
  by_cases a : n < 1
  · have e : cutT n = 1 := by unfold cutT; rw [if_pos a]
    have b : ¬ 20 < n := by omega
    have c : 1 > n := by omega
    rw [e]
    clear e
    go_enter Try.func8, Try.ntmps8
    go_wp2
    go_ret
    exact ⟨_, rfl, KEY.out _⟩
  · by_cases b : 20 < n
    · have e : cutT n = 20 := by unfold cutT; rw [if_neg a, if_pos b]
      rw [e]
      clear e
      go_enter Try.func8, Try.ntmps8
      go_wp2
      go_ret
      exact ⟨_, rfl, KEY.out _⟩
    · by_cases c : 1 < n
      · have e : cutT n = n := by unfold cutT; rw [if_neg a, if_neg b]
        rw [e]
        clear e
        go_enter Try.func8, Try.ntmps8
        go_wp2
        go_ret
        exact ⟨_, rfl, KEY.out _⟩
      · obtain rfl : n = 1 := by omega
        rw [show cutT 1 = 1 by decide]
        go_enter Try.func8, Try.ntmps8
        go_wp2
        go_ret
        exact ⟨_, rfl, KEY.out _⟩
end Go.Proofs.Ytpllbggkbhhfkaa
