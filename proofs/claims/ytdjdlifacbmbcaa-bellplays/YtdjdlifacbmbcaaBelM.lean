/-
  A tower of bells, plainly: how many tries a bell has, and of each id one more than the tries that are left (0: no bell).
-/
import Derived.Test.YtdjdlifacbmbcaaHldM
namespace Go.Proofs.Ytdjdlifacbmbcaa
open Go.RowKit

def clampT (r : Int) : Int := if r < 1 then 1 else if r ≤ 20 then r else 20
theorem clampT_bd (r : Int) : 1 ≤ clampT r ∧ clampT r ≤ 20 := by unfold clampT; split <;> (try split) <;> omega
theorem clampT_in {r : Int} (h1 : 1 ≤ r) (h2 : r ≤ 20) : clampT r = r := by unfold clampT; rw [if_neg (by omega), if_pos h2]
/-- The tries that are left. -/
def lf (v : Int) : Int := if v ≤ 1 then 0 else v - 1
theorem lf_up {v : Int} (h : 0 ≤ v) : lf (v + 1) = v := by unfold lf; split <;> omega
/-- What a tower keeps to. -/
structure GoodT (t : Int) (h : Int → Int) : Prop where
  lo : 1 ≤ t
  hi : t ≤ 20
  pos : ∀ x, 0 ≤ h x
  top : ∀ x, h x ≤ t + 1
  at_ : ∀ x, h x ≠ 0 → 1 ≤ x ∧ x ≤ 999
theorem GoodT.new {r : Int} : GoodT (clampT r) (fun _ => 0) := ⟨(clampT_bd r).1, (clampT_bd r).2, fun _ => Int.le_refl _, fun _ => by have := (clampT_bd r).1; show (0 : Int) ≤ _; omega, fun _ h => absurd rfl h⟩
theorem GoodT.upd {t : Int} {h : Int → Int} (g : GoodT t h) {id v : Int} (h0 : 0 ≤ v) (h1 : v ≤ t + 1) (hi : v ≠ 0 → 1 ≤ id ∧ id ≤ 999) : GoodT t (upd h id v) := by
  refine ⟨g.lo, g.hi, fun x => ?_, fun x => ?_, fun x hx => ?_⟩
  all_goals by_cases e : x = id
  · subst e; rw [upd_same]; exact h0
  · rw [upd_other h v e]; exact g.pos x
  · subst e; rw [upd_same]; exact h1
  · rw [upd_other h v e]; exact g.top x
  · subst e; rw [upd_same] at hx; exact hi hx
  · rw [upd_other h v e] at hx; exact g.at_ x hx
theorem GoodT.none {t : Int} {h : Int → Int} (g : GoodT t h) {id : Int} (hi : isI id = false) : h id = 0 := by
  rcases Decidable.em (h id = 0) with e | e
  · exact e
  · have := isI_iff.2 (g.at_ id e); rw [hi] at this; cases this
theorem GoodT.isI {t : Int} {h : Int → Int} (g : GoodT t h) {id : Int} (hi : h id ≠ 0) : isI id = true := isI_iff.2 (g.at_ id hi)

def hangB (h : Int → Int) (id : Int) : Bool := isI id && decide (h id = 0)
def hangH (t : Int) (h : Int → Int) (id : Int) : Int → Int := if hangB h id = true then upd h id (t + 1) else h
def hasB (h : Int → Int) (id : Int) : Bool := decide (h id ≠ 0)
def cutH (h : Int → Int) (id : Int) : Int → Int := upd h id 0
def oftB (h : Int → Int) (id : Int) : Bool := decide (h id = 1)
def ringH (h : Int → Int) (id : Int) : Int → Int := if h id ≤ 1 then h else upd h id (h id - 1)
def agnH (t : Int) (h : Int → Int) (id : Int) : Int → Int := if h id = 0 then h else upd h id (t + 1)
theorem GoodT.hang {t : Int} {h : Int → Int} (g : GoodT t h) (id : Int) : GoodT t (hangH t h id) := by
  unfold hangH
  split
  · rename_i e
    unfold hangB at e
    simp only [Bool.and_eq_true] at e
    exact g.upd (by have := g.lo; omega) (Int.le_refl _) (fun _ => isI_iff.1 e.1)
  · exact g
theorem GoodT.cut {t : Int} {h : Int → Int} (g : GoodT t h) (id : Int) : GoodT t (cutH h id) := g.upd (Int.le_refl _) (by have := g.lo; omega) (fun e => absurd rfl e)
theorem GoodT.ring {t : Int} {h : Int → Int} (g : GoodT t h) (id : Int) : GoodT t (ringH h id) := by
  unfold ringH
  split
  · exact g
  · exact g.upd (by omega) (by have := g.top id; omega) (fun _ => g.at_ id (by omega))
theorem GoodT.agn {t : Int} {h : Int → Int} (g : GoodT t h) (id : Int) : GoodT t (agnH t h id) := by
  unfold agnH
  split
  · exact g
  · rename_i e
    exact g.upd (by have := g.lo; omega) (Int.le_refl _) (fun _ => g.at_ id e)
theorem cutH_no {h : Int → Int} {id : Int} (e : h id = 0) : cutH h id = h := upd_id e
end Go.Proofs.Ytdjdlifacbmbcaa
