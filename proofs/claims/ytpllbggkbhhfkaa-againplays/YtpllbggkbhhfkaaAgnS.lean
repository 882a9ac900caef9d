/-
  A count in memory; contracts of again's New, Try, Pass, Wait, Left.
-/
import Derived.Test.YtpllbggkbhhfkaaOrdB
import Derived.Test.YtpllbggkbhhfkaaRg
import Derived.ProofKit
import Derived.OpenShut
import Derived.WalkLawsBesides
namespace Go.Proofs.Ytpllbggkbhhfkaa
open Go.ChangeShapes Go.WideShapes Go.ChangeAt Go.RowKit

/-- How many tries a count begins with. -/
def cutT (n : Int) : Int := if n < 1 then 1 else if 20 < n then 20 else n
/-- The wait that follows on a wait of y. -/
def nextW (y : Int) : Int := if 2 * y < 1 then 1 else if 16 < 2 * y then 16 else 2 * y
def tryB (l x : Int) : Bool := decide (l ≠ 0 ∧ x ≤ 0)
def tryL (l x : Int) : Int := if tryB l x = true then l - 1 else l
def tryX (l x y : Int) : Int := if tryB l x = true then nextW y else x
def tryY (l x y : Int) : Int := if tryB l x = true then nextW y else y
def passX (x : Int) : Int := if x - 1 < 0 then 0 else x - 1
structure GoodC (l x y : Int) : Prop where
  l0 : 0 ≤ l
  l1 : l ≤ 20
  x0 : 0 ≤ x
  x1 : x ≤ 16
  y0 : 0 ≤ y
  y1 : y ≤ 16
theorem cutT_bd (n : Int) : 1 ≤ cutT n ∧ cutT n ≤ 20 := by unfold cutT; split <;> (try split) <;> omega
theorem nextW_bd (y : Int) : 1 ≤ nextW y ∧ nextW y ≤ 16 := by unfold nextW; split <;> (try split) <;> omega
theorem GoodC.try_ {l x y : Int} (g : GoodC l x y) : GoodC (tryL l x) (tryX l x y) (tryY l x y) := by
  have := nextW_bd y
  have := g.l0; have := g.l1; have := g.x0; have := g.x1; have := g.y0; have := g.y1
  cases h : tryB l x
  · unfold tryL tryX tryY; rw [h]; exact ⟨g.l0, g.l1, g.x0, g.x1, g.y0, g.y1⟩
  · unfold tryL tryX tryY; rw [h]; simp only [if_true]
    unfold tryB at h
    have h := of_decide_eq_true h
    constructor <;> omega
theorem GoodC.pass {l x y : Int} (g : GoodC l x y) : GoodC l (passX x) y := by
  have := g.x0; have := g.x1
  refine ⟨g.l0, g.l1, ?_, ?_, g.y0, g.y1⟩ <;> (unfold passX; split <;> omega)
/-- Three numbers at p, of the type t. -/
def Ct (t : TypeId) (B : Nat) (w : World) (p : Nat) (l x y : Int) : Prop := w.heap[p]? = some (.cells #[.int .i64 l, .int .i64 x, .int .i64 y] t (0, 0)) ∧ B ≤ p ∧ B ≤ w.heap.size
theorem Ct.lt {t : TypeId} {B : Nat} {w : World} {p : Nat} {l x y : Int} (k : Ct t B w p l x y) : p < w.heap.size := (Array.getElem?_eq_some_iff.1 k.1).1
theorem Ct.cells {t : TypeId} {B : Nat} {w : World} {p : Nat} {l x y : Int} (k : Ct t B w p l x y) :
    (w.cell? ⟨p, 0, none⟩ = some (.int .i64 l) ∧ w.cell? ⟨p, 1, none⟩ = some (.int .i64 x) ∧ w.cell? ⟨p, 2, none⟩ = some (.int .i64 y)) ∧ w.frozen? ⟨p, 0, none⟩ = false ∧ w.frozen? ⟨p, 1, none⟩ = false ∧ w.frozen? ⟨p, 2, none⟩ = false := by
  obtain ⟨h1, _⟩ := k
  refine ⟨⟨?_, ?_, ?_⟩, frozen_of_row _ _ _ _ _ h1, frozen_of_row _ _ _ _ _ h1, frozen_of_row _ _ _ _ _ h1⟩
  all_goals (rw [cell_of h1]; rfl)
theorem Ct.set0 {t : TypeId} {B : Nat} {w : World} {p : Nat} {l x y : Int} (k : Ct t B w p l x y) (v : Int) : Ct t B (w.setCell ⟨p, 0, none⟩ (.int .i64 v)) p v x y := ⟨by rw [heap_setCell_same _ _ _ _ _ _ k.1]; simp, k.2.1, by simpa using k.2.2⟩
theorem Ct.set1 {t : TypeId} {B : Nat} {w : World} {p : Nat} {l x y : Int} (k : Ct t B w p l x y) (v : Int) : Ct t B (w.setCell ⟨p, 1, none⟩ (.int .i64 v)) p l v y := ⟨by rw [heap_setCell_same _ _ _ _ _ _ k.1]; simp, k.2.1, by simpa using k.2.2⟩
theorem Ct.set2 {t : TypeId} {B : Nat} {w : World} {p : Nat} {l x y : Int} (k : Ct t B w p l x y) (v : Int) : Ct t B (w.setCell ⟨p, 2, none⟩ (.int .i64 v)) p l x v := ⟨by rw [heap_setCell_same _ _ _ _ _ _ k.1]; simp, k.2.1, by simpa using k.2.2⟩
/-- The block that a step may turn. -/
def Own1 (p : Nat) (k : Nat) (_ : Obj) : Prop := k = p
theorem own1_set {p i : Nat} (w : World) (v : Value) : Rg.Kept (Own1 p) w (w.setCell ⟨p, i, none⟩ v) := Rg.Kept.setCell _ (fun _ => rfl)
theorem Ct.kept {t : TypeId} {B : Nat} {w w' : World} {p : Nat} {l x y : Int} {E : Nat → Obj → Prop} (k : Ct t B w p l x y) (hk : Rg.Kept E w w') (hp : ∀ o, ¬ E p o) : Ct t B w' p l x y := ⟨hk.block _ _ k.1 (hp _), k.2.1, Nat.le_trans k.2.2 hk.size⟩
theorem Ct.on {t : TypeId} {B : Nat} {w w' : World} {p : Nat} {l x y : Int} (k : Ct t B w p l x y) (hb : Below w.heap.size w w') : Ct t B w' p l x y := k.kept (E := fun _ _ => False) (Rg.Kept.of_below hb) (fun _ h => h)
theorem Ct.bel {t : TypeId} {B : Nat} {w w' : World} {p : Nat} {l x y : Int} (k : Ct t B w p l x y) (hk : Rg.Kept (Own1 p) w w') : Below B w w' := hk.bel k.2.2 (fun i _ e => by have := k.2.1; cases e; omega)
theorem Ct.drew {t : TypeId} {B : Nat} {w : World} {p : Nat} {l x y : Int} (k : Ct t B w p l x y) : Ct t B w.drew p l x y := k

theorem behind_any (y : Int) (w : World) (h0 : 0 ≤ y) (h1 : y ≤ 16) : Calls Try.prog 16 #[.int .i64 y] w fun e w' => e = .returned (.int .i64 (nextW y)) ∧ w = w' := by
  by_cases a : 2 * y < 1
  · have e : nextW y = 1 := by unfold nextW; rw [if_pos a]
    rw [e]
    clear e
    go_enter Try.func16, Try.ntmps16
    go_wp2
    go_ret
    exact ⟨rfl, rfl⟩
  · by_cases b : 16 < 2 * y
    · have e : nextW y = 16 := by unfold nextW; rw [if_neg a, if_pos b]
      rw [e]
      clear e
      go_enter Try.func16, Try.ntmps16
      go_wp2
      go_ret
      exact ⟨rfl, rfl⟩
    · have e : nextW y = 2 * y := by unfold nextW; rw [if_neg a, if_neg b]
      rw [e]
      clear e
      go_enter Try.func16, Try.ntmps16
      go_wp2
      go_ret
      exact ⟨rfl, rfl⟩
theorem ctry_any {B : Nat} {w : World} {p : Nat} {l x y : Int} (k : Ct 36 B w p l x y) (g : GoodC l x y) :
    Calls Try.prog 9 #[.pointer (some ⟨p, 0, none⟩)] w fun e w' => e = .returned (.bool (tryB l x)) ∧ Ct 36 B w' p (tryL l x) (tryX l x y) (tryY l x y) ∧ Rg.Kept (Own1 p) w w' := by
  obtain ⟨⟨c0, c1, c2⟩, f0, f1, f2⟩ := k.cells
  have HK := hide k
  clear k
  by_cases a : l = 0
  · have e : tryB l x = false := by unfold tryB; simp [a]
    unfold tryL tryX tryY
    rw [e]
    simp only [Bool.false_eq_true, if_false]
    subst a
    clear e g
    go_enter Try.func9, Try.ntmps9
    go_wp2
    go_ret
    exact ⟨rfl, HK.out, Rg.Kept.refl _ _⟩
  · have qa : (l == 0) = false := by simp [a]
    by_cases b : x > 0
    · have e : tryB l x = false := by unfold tryB; simp; omega
      unfold tryL tryX tryY
      rw [e]
      simp only [Bool.false_eq_true, if_false]
      clear e g
      go_enter Try.func9, Try.ntmps9
      go_wp2
      go_ret
      exact ⟨rfl, HK.out, Rg.Kept.refl _ _⟩
    · have e : tryB l x = true := by unfold tryB; simp; omega
      unfold tryL tryX tryY
      rw [e]
      simp only [if_true]
      have HB := hide (fun u => behind_any y u g.y0 g.y1)
      obtain ⟨l0, l1⟩ : 0 ≤ l ∧ l ≤ 20 := ⟨g.l0, g.l1⟩
      have key : ∀ v, Ct 36 B (((w.setCell ⟨p, 0, none⟩ (.int .i64 (l - 1))).setCell ⟨p, 2, none⟩ (.int .i64 v)).setCell ⟨p, 1, none⟩ (.int .i64 v)) p (l - 1) v v ∧ Rg.Kept (Own1 p) w (((w.setCell ⟨p, 0, none⟩ (.int .i64 (l - 1))).setCell ⟨p, 2, none⟩ (.int .i64 v)).setCell ⟨p, 1, none⟩ (.int .i64 v)) := fun v =>
        ⟨((HK.out.set0 _).set2 _).set1 _, ((own1_set _ _).trans (own1_set _ _)).trans (own1_set _ _)⟩
      have KEY := hide key
      clear e g key HK
      go_enter Try.func9, Try.ntmps9
      go_wp2_with (go_at_call 16; refine (HB.out _).mono ?_; rintro e u ⟨rfl, rfl⟩)
      go_ret
      exact ⟨rfl, KEY.out _⟩
theorem cpass_any {B : Nat} {w : World} {p : Nat} {l x y : Int} (k : Ct 36 B w p l x y) (g : GoodC l x y) :
    Calls Try.prog 11 #[.pointer (some ⟨p, 0, none⟩)] w fun e w' => e = .returned (.bool (decide (passX x = 0))) ∧ Ct 36 B w' p l (passX x) y ∧ Rg.Kept (Own1 p) w w' := by
  obtain ⟨⟨c0, c1, c2⟩, f0, f1, f2⟩ := k.cells
  have HK := hide k
  clear k
  obtain ⟨x0, x1⟩ : 0 ≤ x ∧ x ≤ 16 := ⟨g.x0, g.x1⟩
  clear g
  by_cases a : x - 1 < 0
  · have e : passX x = 0 := by unfold passX; rw [if_pos a]
    rw [e]
    clear e
    go_enter Try.func11, Try.ntmps11
    go_wp2
    go_ret
    exact ⟨rfl, HK.out.set1 _, own1_set _ _⟩
  · have e : passX x = x - 1 := by unfold passX; rw [if_neg a]
    rw [e]
    clear e
    go_enter Try.func11, Try.ntmps11
    go_wp2
    go_ret
    exact ⟨rfl, HK.out.set1 _, own1_set _ _⟩
theorem cwait_any {B : Nat} {w : World} {p : Nat} {l x y : Int} (k : Ct 36 B w p l x y) :
    Calls Try.prog 13 #[.pointer (some ⟨p, 0, none⟩)] w fun e w' => e = .returned (.int .i64 x) ∧ w = w' := by
  obtain ⟨⟨c0, c1, c2⟩, -⟩ := k.cells
  clear k
  go_enter Try.func13, Try.ntmps13
  go_wp2
  go_ret
  exact ⟨rfl, rfl⟩
theorem cleft_any {B : Nat} {w : World} {p : Nat} {l x y : Int} (k : Ct 36 B w p l x y) :
    Calls Try.prog 14 #[.pointer (some ⟨p, 0, none⟩)] w fun e w' => e = .returned (.int .i64 l) ∧ w = w' := by
  obtain ⟨⟨c0, c1, c2⟩, -⟩ := k.cells
  clear k
  go_enter Try.func14, Try.ntmps14
  go_wp2
  go_ret
  exact ⟨rfl, rfl⟩
theorem ctrynil_any (w : World) : Calls Try.prog 9 #[.pointer none] w fun e w' => e = .returned (.bool false) ∧ w = w' := by
  go_enter Try.func9, Try.ntmps9
  go_wp2
  go_ret
  exact ⟨rfl, rfl⟩
theorem cpassnil_any (w : World) : Calls Try.prog 11 #[.pointer none] w fun e w' => e = .returned (.bool false) ∧ w = w' := by
  go_enter Try.func11, Try.ntmps11
  go_wp2
  go_ret
  exact ⟨rfl, rfl⟩
theorem cwaitnil_any (w : World) : Calls Try.prog 13 #[.pointer none] w fun e w' => e = .returned (.int .i64 0) ∧ w = w' := by
  go_enter Try.func13, Try.ntmps13
  go_wp2
  go_ret
  exact ⟨rfl, rfl⟩
theorem cleftnil_any (w : World) : Calls Try.prog 14 #[.pointer none] w fun e w' => e = .returned (.int .i64 0) ∧ w = w' := by
  go_enter Try.func14, Try.ntmps14
  go_wp2
  go_ret
  exact ⟨rfl, rfl⟩
theorem cnew_any (n : Int) (w : World) : Calls Try.prog 7 #[.int .i64 n] w fun e w' => ∃ p, e = .returned (.pointer (some ⟨p, 0, none⟩)) ∧ Ct 36 w.heap.size w' p (cutT n) 0 0 ∧ Below w.heap.size w w' := by
  have key : ∀ c, Ct 36 w.heap.size (w.alloc (.cells #[.int .i64 c, .int .i64 0, .int .i64 0] 36)) w.heap.size c 0 0 ∧ Below w.heap.size w (w.alloc (.cells #[.int .i64 c, .int .i64 0, .int .i64 0] 36)) := fun c =>
    ⟨⟨World.alloc_heap_new _ _, Nat.le_refl _, by simp⟩, (Below.refl _ _).alloc (Nat.le_refl _) _⟩
  have KEY := hide key
  clear key
  by_cases a : n < 1
  · have e : cutT n = 1 := by unfold cutT; rw [if_pos a]
    rw [e]
    clear e
    go_enter Try.func7, Try.ntmps7
    go_wp2
    go_ret
    exact ⟨_, rfl, KEY.out _⟩
  · by_cases b : 20 < n
    · have e : cutT n = 20 := by unfold cutT; rw [if_neg a, if_pos b]
      rw [e]
      clear e
      go_enter Try.func7, Try.ntmps7
      go_wp2
      go_ret
      exact ⟨_, rfl, KEY.out _⟩
    · have e : cutT n = n := by unfold cutT; rw [if_neg a, if_neg b]
      rw [e]
      clear e
      go_enter Try.func7, Try.ntmps7
      go_wp2
      go_ret
      exact ⟨_, rfl, KEY.out _⟩
end Go.Proofs.Ytpllbggkbhhfkaa
