/-
  A service, plainly: what each message comes to, case by case.
-/
import Derived.Test.YtdbmnjodkpeobaaGreatDoorSvcM
namespace Go.Proofs.YtdbmnjodkpeobaaGreatDoor
open Go.RowKit

def putS (v : Sv) (e : En) : Sv := ⟨v.node, v.hold, v.room, v.T ++ [e], v.down, stp v.st e⟩
theorem noteS_room {v : Sv} (h : hasRoom v = true) (e : En) : noteS v e = putS v e := by unfold noteS putS; rw [if_pos h]
theorem noteS_full {v : Sv} (h : hasRoom v = false) (e : En) : noteS v e = v := by unfold noteS; rw [h]; rfl
theorem hasRoom_iff {v : Sv} : hasRoom v = true ↔ (v.T.length : Int) < v.room := by unfold hasRoom; simp
theorem hasRoom_not {v : Sv} : hasRoom v = false ↔ v.room ≤ (v.T.length : Int) := by unfold hasRoom; simp
theorem takeE_zero {left : Int} {h : Int → Int} {id n : Int} (hi : 1 ≤ id ∧ id ≤ 999) (hn : 1 ≤ n ∧ n ≤ 1000000000) (hh : h id = 0) (hl : n ≤ left) : Hd.takeE left h id n = 0 := by
  unfold Hd.takeE
  rw [if_pos ⟨Hd.isI_iff.2 hi, hn⟩, if_neg (by simp [hh]), if_pos hl]
theorem takeE_less {left : Int} {h : Int → Int} {id n : Int} (hi : 1 ≤ id ∧ id ≤ 999) (hn : 1 ≤ n ∧ n ≤ 1000000000) (hh : h id = 0) (hl : left < n) : Hd.takeE left h id n = 9 := by
  unfold Hd.takeE
  rw [if_pos ⟨Hd.isI_iff.2 hi, hn⟩, if_neg (by simp [hh]), if_neg (by omega)]
theorem stp_did {t : St} {id a : Int} (h : Hd.takeE t.left t.h id a = 0) : stp t ⟨1, id, a⟩ = ⟨t.left - a, Hd.upd t.h id a, Hd.upd t.s id 1⟩ := by
  unfold stp Hd.takeL Hd.takeH
  rw [if_pos rfl, if_pos h, if_pos h]
theorem stp_cant (t : St) (id a : Int) : stp t ⟨2, id, a⟩ = ⟨t.left, t.h, Hd.upd t.s id 2⟩ := rfl
theorem stp_undid (t : St) (id a : Int) : stp t ⟨3, id, a⟩ = ⟨t.left + t.h id, Hd.upd t.h id 0, Hd.upd t.s id 3⟩ := rfl

section
variable {v : Sv} {m : Ms.Mg}
theorem hears_mk (hd : v.down = false) (h1 : m.to = v.node) (h2 : m.fr = 0) (h3 : 1 ≤ m.id ∧ m.id ≤ 999) : hearsB v m = true := by
  unfold hearsB
  rw [hd, h1, h2, Hd.isI_iff.2 h3]
  simp
theorem hd_did (h : hearsB v m = true) (hk : m.k = 1) (hs : v.st.s m.id = 0) (hr : hasRoom v = true) (ht : Hd.takeE v.st.left v.st.h m.id m.a = 0) :
    hdS v m = putS v ⟨1, m.id, m.a⟩ ∧ hdA v m = [⟨2, v.node, 0, m.id, m.st, 0, 0⟩] := by
  have e1 : doS v m.id m.a = putS v ⟨1, m.id, m.a⟩ := by unfold doS triedE; rw [if_pos hs, if_pos ht, noteS_room hr]
  have e2 : doK v m.id m.a = 2 := by
    unfold doK
    rw [if_neg (by rw [hr]; simp), e1, if_pos]
    unfold putS
    rw [stp_did ht]
    exact Hd.upd_same _ _ _
  unfold hdS hdA hdK
  rw [if_pos h, if_pos hk, if_pos h, if_pos hk, e1, e2]
  exact ⟨rfl, rfl⟩
theorem hd_cant (h : hearsB v m = true) (hk : m.k = 1) (hs : v.st.s m.id = 0) (hr : hasRoom v = true) (ht : Hd.takeE v.st.left v.st.h m.id m.a ≠ 0) :
    hdS v m = putS v ⟨2, m.id, 0⟩ ∧ hdA v m = [⟨3, v.node, 0, m.id, m.st, 0, 0⟩] := by
  have e1 : doS v m.id m.a = putS v ⟨2, m.id, 0⟩ := by unfold doS triedE; rw [if_pos hs, if_neg ht, noteS_room hr]
  have e2 : doK v m.id m.a = 3 := by
    unfold doK
    rw [if_neg (by rw [hr]; simp), e1, if_neg]
    show ¬ Hd.upd v.st.s m.id 2 m.id = 1
    rw [Hd.upd_same]
    decide
  unfold hdS hdA hdK
  rw [if_pos h, if_pos hk, if_pos h, if_pos hk, e1, e2]
  exact ⟨rfl, rfl⟩
theorem hd_did_full (h : hearsB v m = true) (hk : m.k = 1) (hs : v.st.s m.id = 0) (hr : hasRoom v = false) : hdS v m = v ∧ hdA v m = [] := by
  have e1 : doS v m.id m.a = v := by unfold doS; rw [if_pos hs, noteS_full hr]
  have e2 : doK v m.id m.a = 0 := by unfold doK; rw [if_pos ⟨hs, hr⟩]
  unfold hdS hdA hdK
  rw [if_pos h, if_pos hk, if_pos h, if_pos hk, e1, e2]
  exact ⟨rfl, rfl⟩
theorem hd_did_again (h : hearsB v m = true) (hk : m.k = 1) (hs : v.st.s m.id ≠ 0) : hdS v m = v ∧ hdA v m = [⟨if v.st.s m.id = 1 then 2 else 3, v.node, 0, m.id, m.st, 0, 0⟩] := by
  have e1 : doS v m.id m.a = v := by unfold doS; rw [if_neg hs]
  have e2 : doK v m.id m.a = if v.st.s m.id = 1 then 2 else 3 := by unfold doK; rw [if_neg (fun h => hs h.1), e1]
  unfold hdS hdA hdK
  rw [if_pos h, if_pos hk, if_pos h, if_pos hk, e1, e2]
  refine ⟨rfl, if_neg ?_⟩
  split <;> decide
theorem hd_undid (h : hearsB v m = true) (hk : m.k = 4) (hs : v.st.s m.id = 0 ∨ v.st.s m.id = 1) (hr : hasRoom v = true) :
    hdS v m = putS v ⟨3, m.id, 0⟩ ∧ hdA v m = [⟨5, v.node, 0, m.id, m.st, 0, 0⟩] := by
  have n1 : ¬ m.k = 1 := by omega
  have e1 : undoS v m.id = putS v ⟨3, m.id, 0⟩ := by unfold undoS; rw [if_pos hs, noteS_room hr]
  have e2 : undoK v m.id = 5 := by unfold undoK; rw [if_neg (by rw [hr]; simp)]
  unfold hdS hdA hdK
  rw [if_pos h, if_neg n1, if_pos hk, if_pos h, if_neg n1, if_pos hk, e1, e2]
  exact ⟨rfl, rfl⟩
theorem hd_undid_full (h : hearsB v m = true) (hk : m.k = 4) (hs : v.st.s m.id = 0 ∨ v.st.s m.id = 1) (hr : hasRoom v = false) : hdS v m = v ∧ hdA v m = [] := by
  have n1 : ¬ m.k = 1 := by omega
  have e1 : undoS v m.id = v := by unfold undoS; rw [if_pos hs, noteS_full hr]
  have e2 : undoK v m.id = 0 := by unfold undoK; rw [if_pos ⟨hs, hr⟩]
  unfold hdS hdA hdK
  rw [if_pos h, if_neg n1, if_pos hk, if_pos h, if_neg n1, if_pos hk, e1, e2]
  exact ⟨rfl, rfl⟩
theorem hd_undid_again (h : hearsB v m = true) (hk : m.k = 4) (hs : ¬ (v.st.s m.id = 0 ∨ v.st.s m.id = 1)) : hdS v m = v ∧ hdA v m = [⟨5, v.node, 0, m.id, m.st, 0, 0⟩] := by
  have n1 : ¬ m.k = 1 := by omega
  have e1 : undoS v m.id = v := by unfold undoS; rw [if_neg hs]
  have e2 : undoK v m.id = 5 := by unfold undoK; rw [if_neg (fun h => hs h.1)]
  unfold hdS hdA hdK
  rw [if_pos h, if_neg n1, if_pos hk, if_pos h, if_neg n1, if_pos hk, e1, e2]
  exact ⟨rfl, rfl⟩
theorem hd_deaf (h : hearsB v m = false) : hdS v m = v ∧ hdA v m = [] := by
  unfold hdS hdA hdK
  rw [h]
  exact ⟨rfl, rfl⟩
theorem hd_other (h1 : m.k ≠ 1) (h4 : m.k ≠ 4) : hdS v m = v ∧ hdA v m = [] := by
  unfold hdS hdA hdK
  rw [if_neg h1, if_neg h4, if_neg h1, if_neg h4]
  refine ⟨by split <;> rfl, if_pos (by split <;> rfl)⟩
/-- With room a message that is heard, of a kind that is here, is answered. -/
theorem hd_one (h : hearsB v m = true) (hk : m.k = 1 ∨ m.k = 4) (hr : hasRoom v = true) : ∃ x, hdA v m = [x] := by
  rcases hk with hk | hk
  · by_cases hs : v.st.s m.id = 0
    · by_cases ht : Hd.takeE v.st.left v.st.h m.id m.a = 0
      · exact ⟨_, (hd_did h hk hs hr ht).2⟩
      · exact ⟨_, (hd_cant h hk hs hr ht).2⟩
    · exact ⟨_, (hd_did_again h hk hs).2⟩
  · by_cases hs : v.st.s m.id = 0 ∨ v.st.s m.id = 1
    · exact ⟨_, (hd_undid h hk hs hr).2⟩
    · exact ⟨_, (hd_undid_again h hk hs).2⟩
end
end Go.Proofs.YtdbmnjodkpeobaaGreatDoor
