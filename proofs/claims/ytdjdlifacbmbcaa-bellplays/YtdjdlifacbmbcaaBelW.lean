/-
  The law's ids over a tower; a tower with one bell, plainly.
-/
import Derived.Test.YtdjdlifacbmbcaaBelA
import Derived.Test.YtdjdlifacbmbcaaBelQ
namespace Go.Proofs.Ytdjdlifacbmbcaa
open Go.ChangeShapes Go.WideShapes Go.ChangeAt Go.RowKit Go.Maps

theorem To.ids {w0 u : World} {p : Nat} {t : Int} {h : Int → Int} {n : Nat} (k : To w0 u p t h n) (hn : n ≤ 1000000) {L : List Int} (hL : idsL h = L) {m : Nat} (hm : m ≤ 1000) :
    Calls Try.prog 19 #[.pointer (some ⟨p, 0, none⟩), .int .i64 m] u (OwnInts u (L.take m)) := by
  subst hL
  obtain ⟨⟨E, k⟩, -⟩ := k
  exact blids_any (some ⟨p, 0, none⟩) (idsL h) (Nat.le_trans (idsTo_len h 1000) (by omega)) u m hm (fun U hU => bids_any (k.on hU) hn)
theorem upd_twice (h : Int → Int) (id a b : Int) : upd (upd h id a) id b = upd h id b := by
  funext x
  by_cases e : x = id
  · subst e; rw [upd_same, upd_same]
  · rw [upd_other _ _ e, upd_other _ _ e, upd_other _ _ e]
/-- One bell. -/
def oneH (id v : Int) : Int → Int := upd (fun _ => 0) id v
theorem oneH_at (id v : Int) : oneH id v id = v := upd_same _ _ _
theorem oneH_zero (id : Int) : oneH id 0 = fun _ => 0 := upd_id rfl
/-- What is left of T tries behind i rings, and one more. -/
def leftV (T : Int) (i : Nat) : Int := if (i : Int) ≤ T then T + 1 - i else 1
theorem leftV_zero {T : Int} (h : 1 ≤ T) : leftV T 0 = T + 1 := by unfold leftV; rw [if_pos (by omega)]; omega
theorem leftV_pos (T : Int) (i : Nat) : 1 ≤ leftV T i := by unfold leftV; split <;> omega
theorem leftV_oft {T : Int} {i : Nat} : (leftV T i = 1) ↔ (i : Int) ≥ T := by unfold leftV; split <;> omega
theorem leftV_next (T : Int) (i : Nat) : leftV T (i + 1) = if leftV T i ≤ 1 then leftV T i else leftV T i - 1 := by
  unfold leftV
  repeat' split
  all_goals omega
theorem ring_upd (h : Int → Int) (id : Int) (T : Int) (i : Nat) : ringH (upd h id (leftV T i)) id = upd h id (leftV T (i + 1)) := by
  unfold ringH
  rw [upd_same, leftV_next]
  split
  · rfl
  · exact upd_twice _ _ _ _
theorem has_upd (h : Int → Int) (id v : Int) (hv : 1 ≤ v) : hasB (upd h id v) id = true := by unfold hasB; rw [upd_same]; simp; omega
theorem oft_upd (h : Int → Int) (id : Int) (T : Int) (i : Nat) : oftB (upd h id (leftV T i)) id = decide ((i : Int) ≥ T) := by
  unfold oftB
  rw [upd_same]
  exact decide_eq_decide.2 leftV_oft
end Go.Proofs.Ytdjdlifacbmbcaa
