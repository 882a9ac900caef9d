/-
  A chief, plainly: an order that is rung for.
-/
import Derived.Test.YtijfcickgicncaaGreatDoorSglcfnmn
namespace Go.Proofs.YtijfcickgicncaaGreatDoor
open Go.RowKit Sg Bl

section
variable {T i : Int} {v : Ch} {o : Od} {f : Fa} {y : Option (Bool × Bool)} {n : Nat}
theorem send_same {w : Ch} (hp : (prepB ⟨o, f, y⟩ && !f.asked) = false) : sendS w ⟨o, f, y⟩ = w ∧ sendA w ⟨o, f, y⟩ = nextF o f := by
  unfold sendS sendA
  dsimp only
  rw [hp]
  simp only [Bool.false_and, Bool.false_eq_true, if_false, and_self]
theorem Ph0.rung (h : Ph0 T i v o f y n) (j : Int) (hj : ringH v.h o.id o.id = j) : Ph0 T j (setH v (ringH v.h o.id)) o f y n := ⟨h.d, h.l, h.len, h.room, h.t, hj⟩
theorem ring_more (h : Ph0 T i v o f y n) (hi : 2 ≤ i) (hp : (prepB ⟨o, f, y⟩ && !f.asked) = false) : rngA v o.id = nextF o f ∧ Ph0 T (i - 1) (rngS v o.id) o f y n := by
  have hof : oftB v.h o.id = false := by unfold oftB; rw [h.h]; simp; omega
  have h1 : ringH v.h o.id o.id = i - 1 := by
    unfold ringH
    rw [h.h, if_neg (by omega), Bl.upd_same]
  have e := send_same (w := setH v (ringH v.h o.id)) hp
  unfold rngA rngS
  rw [h.h, if_neg (by omega), if_neg (by omega), h.l, hof]
  simp only [Bool.false_eq_true, if_false]
  rw [e.1, e.2]
  exact ⟨rfl, h.rung _ h1⟩
theorem ring_dec (h : Ph0 T 1 v o f y n) (hd : (⟨o, f, y⟩ : Lk).dec = true) (hp : (prepB ⟨o, f, y⟩ && !f.asked) = false) : rngA v o.id = nextF o f ∧ stC (rngS v o.id) o.id = stF o f := by
  have hof : oftB v.h o.id = true := by unfold oftB; rw [h.h]; rfl
  have e := send_same (w := agnC (setH v (ringH v.h o.id)) o.id) hp
  unfold rngA rngS
  rw [h.h, if_neg (by omega), if_neg (by omega), h.l, hof]
  simp only [if_true, hd]
  rw [e.1, e.2]
  refine ⟨rfl, ?_⟩
  unfold stC
  rw [show (agnC (setH v (ringH v.h o.id)) o.id).L = v.L from rfl, h.l]
theorem ring_not (hm : mayO o = true) {a : Bool} (h : Ph0 T 1 v o (fwF o.steps.length 0 a false) y n) (hn : n + 1 ≤ 4096) : ∃ r, rngA v o.id = msgM o 10 1 :: r ∧ stC (rngS v o.id) o.id = 4 := by
  have hof : oftB v.h o.id = true := by unfold oftB; rw [h.h]; rfl
  have h1 : ringH v.h o.id o.id = 1 := by
    unfold ringH
    rw [h.h, if_pos (by omega), h.h]
  have k1 := h.rung 1 h1
  have hl : folL ⟨o, fwF o.steps.length 0 a false, y⟩ 5 [] = ⟨o, frF o.steps.length a true, none⟩ := rfl
  have k2 := (k1.add 5 [] (by decide) hl).2
  obtain ⟨r, hN, -⟩ := next_tn hm a
  have hp : prepB ⟨o, frF o.steps.length a true, none⟩ = false := by
    unfold prepB
    dsimp only
    rw [hN]
    rfl
  obtain ⟨g1, g2⟩ := k2.go (by omega) (over_fr hm a true) (by rw [hp]; rfl)
  have hd : (⟨o, fwF o.steps.length 0 a false, y⟩ : Lk).dec = false := rfl
  have e1 : rngS v o.id = goS (sureC (setH v (ringH v.h o.id)) [⟨5, o.id, []⟩]) ⟨o, frF o.steps.length a true, none⟩ := by
    unfold rngS
    rw [h.h, if_neg (by omega), h.l]
    dsimp only
    rw [hof, hd, if_pos rfl, if_neg (by decide)]
    unfold sgS
    rw [k1.has hn, if_pos rfl, hl]
  have e2 : rngA v o.id = goA (sureC (setH v (ringH v.h o.id)) [⟨5, o.id, []⟩]) ⟨o, frF o.steps.length a true, none⟩ := by
    unfold rngA
    rw [h.h, if_neg (by omega), h.l]
    dsimp only
    rw [hof, hd, if_pos rfl, if_neg (by decide)]
    unfold sgA
    rw [k1.has hn, if_pos rfl, hl]
  rw [e1, e2, g2, hN]
  refine ⟨_, rfl, ?_⟩
  unfold stC
  rw [g1.l]
  exact st_fr hm a true
end
/-- While it is rung for: what stands of it, whether it is decided. -/
def Rgp (T : Int) (o : Od) (st : Int) (cm : Bool) (v : Ch) (i : Int) : Prop :=
  ∃ f y n, Ph0 T i v o f y n ∧ (prepB ⟨o, f, y⟩ && !f.asked) = false ∧ nextF o f ≠ [] ∧ stF o f = st ∧ n ≤ 100 ∧ (cm = true → (⟨o, f, y⟩ : Lk).dec = true) ∧ (cm = false → ∃ a, f = fwF o.steps.length 0 a false)
theorem rgp_ring {T : Int} {o : Od} {st : Int} {cm : Bool} {v : Ch} {i : Int} (h : Rgp T o st cm v i) (hi : 2 ≤ i) : ∃ v' xs, rngS v o.id = v' ∧ rngA v o.id = xs ∧ xs ≠ [] ∧ Rgp T o st cm v' (i - 1) ∧ stC v' o.id = st := by
  obtain ⟨f, y, n, h1, h2, h3, h4, h5, h6, h7⟩ := h
  obtain ⟨g1, g2⟩ := ring_more h1 hi h2
  refine ⟨_, _, rfl, g1, h3, ⟨f, y, n, g2, h2, h3, h4, h5, h6, h7⟩, ?_⟩
  unfold stC
  rw [g2.l]
  exact h4
theorem rgp_last {T : Int} {o : Od} {st : Int} {cm : Bool} {v : Ch} (hm : mayO o = true) (h : Rgp T o st cm v 1) : ∃ v' xs, rngS v o.id = v' ∧ rngA v o.id = xs ∧ xs ≠ [] ∧ stC v' o.id = if cm = true then st else 4 := by
  obtain ⟨f, y, n, h1, h2, h3, h4, h5, h6, h7⟩ := h
  cases cm
  · obtain ⟨a, rfl⟩ := h7 rfl
    obtain ⟨r, g1, g2⟩ := ring_not hm h1 (by omega)
    exact ⟨_, _, rfl, g1, by simp, g2⟩
  · obtain ⟨g1, g2⟩ := ring_dec h1 (h6 rfl) h2
    exact ⟨_, _, rfl, g1, h3, g2.trans h4⟩
theorem rgp_begun {T : Int} {o : Od} {v : Ch} {xs : List Mg} (hm : mayO o = true) (h : Phs T o v xs 0) : ∃ st, st ≠ 4 ∧ Rgp T o st false v (T + 1) := by
  have h3 := (mayO_of hm).2.2.2.2.2.1
  rcases h with ⟨h1, ⟨y, n, hn, hp⟩, -⟩ | ⟨h1, ⟨n, hn, hp⟩, -⟩ | ⟨h1, -⟩
  · refine ⟨1, by decide, _, y, n, hp, ?_, ?_, fw_st hm (by omega) false false (fun e => by cases e) (fun e => e), by omega, (fun e => by cases e), fun _ => ⟨false, rfl⟩⟩
    · rw [prep_fw hm (by omega), decide_eq_false (by omega)]; rfl
    · rw [fw_next hm h1]; simp
  · refine ⟨2, by decide, _, _, n, hp, ?_, ?_, fw_st hm (Nat.le_refl _) true false (fun _ => rfl) (fun e => by cases e), by omega, (fun e => by cases e), fun _ => ⟨true, by rw [← h1]⟩⟩
    · show (_ && !true) = false
      simp
    · rw [fw_prep hm]; simp [prepL]
  · omega
theorem rgp_dec {T : Int} {o : Od} {v : Ch} {xs : List Mg} (hm : mayO o = true) (h : Phs T o v xs (o.steps.length + 1)) : Rgp T o 3 true v (T + 1) ∧ stC v o.id = 3 := by
  have h3 := (mayO_of hm).2.2.2.2.2.1
  rcases h with ⟨h1, -⟩ | ⟨h1, -⟩ | ⟨h1, ⟨y, n, hn, hp⟩, -⟩
  · omega
  · omega
  · have hst := fw_st hm (Nat.le_refl _) true true (fun _ => rfl) (fun e => e)
    refine ⟨⟨_, y, n, hp, ?_, ?_, hst, by omega, (fun _ => rfl), fun e => by cases e⟩, ?_⟩
    · show (_ && !true) = false
      simp
    · rw [fw_dec hm]; simp
    · unfold stC
      rw [hp.l]
      exact hst
end Go.Proofs.YtijfcickgicncaaGreatDoor
