/-
  Own texts put together: DkL, DkK.
-/
import Derived.Test.YtnffgamekhedkaaGreatDoorSgaeghgk
/-
  DeskLets, plainly: orders without steps that are handed in one behind another.
-/
namespace Go.Proofs.YtnffgamekhedkaaGreatDoor
open Go.RowKit Sg Bl

/-! How many of a range. -/
theorem cnt_rng (a b : Nat) : ∀ N : Nat, ((List.range N).filter (fun i => decide (a ≤ i ∧ i < b))).length = min N b - a
  | 0 => by simp
  | N + 1 => by
    rw [List.range_succ, List.filter_append, List.length_append, cnt_rng a b N]
    by_cases h : a ≤ N ∧ N < b
    · rw [List.filter_cons_of_pos (by simpa using h)]
      simp
      omega
    · rw [List.filter_cons_of_neg (by simpa using h)]
      simp
      omega
theorem cnt_one {q q' : Nat → Bool} {j : Nat} (h : ∀ i, i ≠ j → q i = q' i) (h1 : q j = true) (h2 : q' j = false) : ∀ N : Nat, ((List.range N).filter q).length = ((List.range N).filter q').length + (if j < N then 1 else 0)
  | 0 => by simp
  | N + 1 => by
    rw [List.range_succ, List.filter_append, List.length_append, List.filter_append, List.length_append, cnt_one h h1 h2 N]
    by_cases e : N = j
    · subst e
      rw [List.filter_cons_of_pos h1, List.filter_cons_of_neg (by rw [h2]; decide), if_neg (by omega), if_pos (by omega)]
      simp
    · have e3 : [N].filter q = [N].filter q' := by
        have := h N e
        cases hq : q' N
        · rw [List.filter_cons_of_neg (by rw [this, hq]; decide), List.filter_cons_of_neg (by rw [hq]; decide)]
          rfl
        · rw [List.filter_cons_of_pos (by rw [this, hq]), List.filter_cons_of_pos hq]
          rfl
      rw [e3]
      by_cases h3 : j < N
      · rw [if_pos h3, if_pos (by omega)]
        omega
      · rw [if_neg h3, if_neg (by omega)]
        omega
theorem cnt_eq {q q' : Nat → Bool} (N : Nat) (h : ∀ i, i < N → q i = q' i) : ((List.range N).filter q).length = ((List.range N).filter q').length := by
  rw [List.filter_congr (fun i hi => h i (List.mem_range.1 hi))]
/-- Who is open, one by one. -/
def opq (v : Ch) (f : Int → Int) (i : Nat) : Bool := f i != 0 && opn1 v ((i : Int), f i)
theorem opn_cnt (v : Ch) (f : Int → Int) (N : Nat) : opnD v (allF f N) = ((List.range N).filter (opq v f)).length := by
  unfold opnD allF
  rw [List.filter_filter, List.filter_map, List.length_map]
  refine congrArg List.length (List.filter_congr (fun i _ => ?_))
  unfold opq
  simp [Bool.and_comm]
def wyq (L : Int → Option Lk) (i : Nat) : Bool := way1 L ((i : Int) + 1)
theorem way_cnt (L : Int → Option Lk) : wayN L = ((List.range 999).filter (wyq L)).length := by
  unfold wayN idsC ids9
  rw [List.filter_filter, List.filter_map, List.length_map]
  refine congrArg List.length (List.filter_congr (fun i _ => ?_))
  unfold wyq way1
  simp only [Function.comp]
  cases L ((i : Int) + 1) <;> simp

def ltO (x : Int) : Od := ⟨x, 0, 1, 0, 1, []⟩
/-- .. as it is led: asked for. -/
def ltL (x : Int) : Lk := frL (ltO x) true false (some (false, false))
theorem lt_may {x : Int} (h1 : 1 ≤ x) (h2 : x ≤ 999) : mayO (ltO x) = true := by
  have h : oidB x = true := by unfold oidB; rw [decide_eq_true_eq]; exact ⟨h1, h2⟩
  unfold mayO
  rw [show (ltO x).id = x from rfl, h]
  rfl
/-- The first b of them are led. -/
def Lt (b : Nat) : Int → Option Lk := fun x => if 1 ≤ x ∧ x ≤ (b : Int) then some (ltL x) else none
theorem Lt_step (b : Nat) : Gd.updO (Lt b) (1 + (b : Int)) (some (ltL (1 + (b : Int)))) = Lt (b + 1) := by
  funext x
  unfold Lt
  by_cases hx : x = 1 + (b : Int)
  · subst hx
    rw [Gd.updO_same, if_pos ⟨by omega, by omega⟩]
  · rw [Gd.updO_other _ _ hx]
    by_cases h : 1 ≤ x ∧ x ≤ (b : Int)
    · rw [if_pos h, if_pos ⟨h.1, by omega⟩]
    · rw [if_neg h, if_neg (by omega)]
theorem Lt_no {b : Nat} {x : Int} (h : (b : Int) < x) : Lt b x = none := by unfold Lt; rw [if_neg (by omega)]
theorem Lt_in {b : Nat} {x : Int} (h1 : 1 ≤ x) (h2 : x ≤ (b : Int)) : Lt b x = some (ltL x) := by unfold Lt; rw [if_pos ⟨h1, h2⟩]
theorem lt_over {x : Int} (h1 : 1 ≤ x) (h2 : x ≤ 999) : overF (ltL x).o (ltL x).f = false := over_fr (lt_may h1 h2) true false
theorem way_Lt {b : Nat} (h : b ≤ 900) : wayN (Lt b) = b := by
  rw [way_cnt, cnt_eq (q' := fun i => decide (0 ≤ i ∧ i < b)) 999 (fun i hi => ?_), cnt_rng]
  · omega
  · unfold wyq way1
    by_cases e : i < b
    · rw [Lt_in (by omega) (by omega)]
      dsimp only
      rw [lt_over (by omega) (by omega)]
      simp [e]
    · rw [Lt_no (by omega)]
      simp [e]
/-- A chief that leads L, behind so many lines. -/
structure RG (M : Int) (L : Int → Option Lk) (n : Nat) (v : Ch) : Prop where
  d : v.down = false
  l : v.L = L
  n : v.T.length ≤ n
  r : v.room = 4096
  m : v.most = M
section
variable {M : Int} {L : Int → Option Lk} {n : Nat} {v : Ch}
theorem RG.new (h1 : 1 ≤ M) (h2 : M ≤ 64) : RG M (Lt 0) 0 (newCh M 4096 3) := by
  refine ⟨rfl, ?_, Nat.le_refl 0, rfl, ?_⟩
  · funext x
    show none = Lt 0 x
    unfold Lt
    rw [if_neg (by omega)]
  · show min (max M 1) 64 = M
    omega
theorem RG.room (h : RG M L n v) {k : Nat} (hk : n + k ≤ 4096) : roomC v k = true := by
  unfold roomC
  have := h.n
  rw [h.r, decide_eq_true_eq]
  omega
theorem RG.begin (h : RG M L n v) {x : Int} (h1 : 1 ≤ x) (h2 : x ≤ 999) (hL : L x = none) (hw : (wayN L : Int) < M) (hn : n + 2 ≤ 4096) :
    begE v (ltO x) = 0 ∧ RG M (Gd.updO L x (some (ltL x))) (n + 2) (begS v (ltO x)) ∧ (begA v (ltO x)).length = 2 := by
  have hm := lt_may h1 h2
  have hvL : v.L (ltO x).id = none := by rw [h.l]; exact hL
  have hE : begE v (ltO x) = 0 := by
    unfold begE
    rw [h.d, hm, hvL, h.l, h.m]
    simp only [Bool.false_eq_true, Bool.true_eq_false, Option.isSome_none, if_false]
    rw [if_neg (by omega)]
    unfold noE
    rw [h.room (show n + ((ltO x).steps.length + 1) ≤ 4096 by show n + 1 ≤ 4096; omega), if_pos rfl]
  have hl : (begV v (ltO x)).L = Gd.updO v.L x (some (begL (ltO x))) := fol_begin hvL
  have hov : overF (begL (ltO x)).o (begL (ltO x)).f = false := over_fr hm false false
  have hN : nextF (begL (ltO x)).o (begL (ltO x)).f = prepL (ltO x) := next_fr hm false
  have hp : prepB (begL (ltO x)) = true := by
    unfold prepB
    rw [hN]
    rfl
  have hT : (begV v (ltO x)).T.length ≤ n + 1 := by
    show (v.T ++ begT (ltO x)).length ≤ n + 1
    rw [List.length_append, begT_len]
    have := h.n
    show v.T.length + (0 + 1) ≤ n + 1
    omega
  have hrm : roomC (begV v (ltO x)) 1 = true := by
    unfold roomC
    rw [show (begV v (ltO x)).room = 4096 from h.r, decide_eq_true_eq]
    omega
  have hrm2 : roomC (agnC (begV v (ltO x)) (begL (ltO x)).o.id) 1 = true := hrm
  have hS : begS v (ltO x) = addC (agnC (begV v (ltO x)) (ltO x).id) [askE x] := by
    unfold begS
    rw [hE, if_pos rfl]
    unfold goS
    rw [hov]
    simp only [Bool.false_eq_true, if_false]
    unfold sendS
    rw [hp, show (begL (ltO x)).f.asked = false from rfl]
    simp only [Bool.not_false, Bool.and_self, if_true]
    unfold noteS
    rw [show [askE (begL (ltO x)).o.id].length = 1 from rfl, hrm2, if_pos rfl]
    rfl
  refine ⟨hE, ?_, ?_⟩
  · rw [hS]
    refine ⟨h.d, ?_, ?_, h.r, h.m⟩
    · show fol (begV v (ltO x)).L (askE x) = _
      rw [hl]
      unfold fol
      rw [show (askE x).id = x from rfl, Gd.updO_same, updO_twice, h.l]
      rfl
    · show ((begV v (ltO x)).T ++ [askE x]).length ≤ n + 2
      rw [List.length_append]
      simp
      omega
  · unfold begA
    rw [hE, if_pos rfl]
    unfold goA
    rw [hov]
    simp only [Bool.false_eq_true, if_false]
    unfold sendA
    rw [hp, hrm, hN]
    rfl
theorem RG.full (h : RG M L n v) {x : Int} (h1 : 1 ≤ x) (h2 : x ≤ 999) (hL : L x = none) (hw : M ≤ (wayN L : Int)) : begE v (ltO x) = 5 ∧ begS v (ltO x) = v ∧ begA v (ltO x) = [] := by
  have hm := lt_may h1 h2
  have hvL : v.L (ltO x).id = none := by rw [h.l]; exact hL
  have hE : begE v (ltO x) = 5 := by
    unfold begE
    rw [h.d, hm, hvL, h.l, h.m]
    simp only [Bool.false_eq_true, Bool.true_eq_false, Option.isSome_none, if_false]
    rw [if_pos hw]
  refine ⟨hE, ?_, ?_⟩
  · unfold begS; rw [hE, if_neg (by decide)]
  · unfold begA; rw [hE, if_neg (by decide)]
theorem RG.twice (h : RG M L n v) {x : Int} (h1 : 1 ≤ x) (h2 : x ≤ 999) {l : Lk} (hL : L x = some l) : begE v (ltO x) = 8 ∧ begS v (ltO x) = v ∧ begA v (ltO x) = [] := by
  have hm := lt_may h1 h2
  have hvL : v.L (ltO x).id = some l := by rw [h.l]; exact hL
  have hE : begE v (ltO x) = 8 := by
    unfold begE
    rw [h.d, hm, hvL]
    simp
  refine ⟨hE, ?_, ?_⟩
  · unfold begS; rw [hE, if_neg (by decide)]
  · unfold begA; rw [hE, if_neg (by decide)]
/-- How one stands. -/
theorem RG.st (h : RG M L n v) {x : Int} {l : Lk} (hL : L x = some l) : stC v x = stF l.o l.f ∧ lkD v x = l := by
  have hvL : v.L x = some l := by rw [h.l]; exact hL
  unfold stC lkD
  rw [hvL]
  exact ⟨rfl, rfl⟩
theorem RG.st0 (h : RG M L n v) {x : Int} (hL : L x = none) : stC v x = 0 := by
  have hvL : v.L x = none := by rw [h.l]; exact hL
  unfold stC
  rw [hvL]
end
theorem lt_st {x : Int} (h1 : 1 ≤ x) (h2 : x ≤ 999) : stF (ltL x).o (ltL x).f = 2 := by
  have := st_fr (lt_may h1 h2) true false
  exact this
/-- Who is rejected behind j of them. -/
def Rj (M : Int) (j : Nat) : Int → Bool := fun x => decide (M < x ∧ x ≤ (j : Int))
theorem Rj_new {M : Int} (h : 0 ≤ M) : Rj M 0 = fun _ => false := by
  funext x
  unfold Rj
  simp
  omega
theorem Rj_in {M : Int} {j : Nat} (h : (j : Int) < M) : subR (Rj M j) 0 (1 + (j : Int)) = Rj M (j + 1) ∧ subR (Rj M (j + 1)) 8 (1 + (j : Int)) = Rj M (j + 1) := by
  constructor
  · funext x
    unfold subR upR Rj
    rw [if_pos rfl]
    by_cases e : x = 1 + (j : Int)
    · rw [if_pos e]; symm; simp; omega
    · rw [if_neg e]; congr 1; simp; omega
  · unfold subR
    rw [if_neg (by decide), if_neg (fun e => e.1.2 rfl)]
theorem Rj_out {M : Int} {j : Nat} (h : M ≤ (j : Int)) (hj : j < 900) : subR (Rj M j) 5 (1 + (j : Int)) = Rj M (j + 1) ∧ subR (Rj M (j + 1)) 5 (1 + (j : Int)) = Rj M (j + 1) := by
  constructor
  · funext x
    unfold subR
    rw [if_neg (by decide), if_pos ⟨by decide, by omega, by omega⟩]
    unfold upR Rj
    by_cases e : x = 1 + (j : Int)
    · rw [if_pos e]; symm; simp; omega
    · rw [if_neg e]; congr 1; simp; omega
  · funext x
    unfold subR
    rw [if_neg (by decide), if_pos ⟨by decide, by omega, by omega⟩]
    unfold upR Rj
    by_cases e : x = 1 + (j : Int)
    · rw [if_pos e]; symm; simp; omega
    · rw [if_neg e]
/-- So many are open. -/
theorem lets_open {M : Int} {b n : Nat} {v : Ch} {R : Int → Bool} (h : RG M (Lt b) n v) (hb : b ≤ 900) : opnD v (allF (stD v R) 1000) = b := by
  rw [opn_cnt, cnt_eq (q' := fun i => decide (1 ≤ i ∧ i < b + 1)) 1000 (fun i hi => ?_), cnt_rng]
  · omega
  · unfold opq opn1
    by_cases e : 1 ≤ i ∧ i < b + 1
    · have hl : Lt b (i : Int) = some (ltL i) := Lt_in (by omega) (by omega)
      have hs : stD v R (i : Int) = 2 := by
        unfold stD
        rw [(h.st hl).1, lt_st (by omega) (by omega), if_neg (fun e => by cases e.1)]
      rw [hs, (h.st hl).2, lt_over (by omega) (by omega)]
      simp [e]
    · have hl : Lt b (i : Int) = none := by unfold Lt; rw [if_neg (by omega)]
      have hs : stD v R (i : Int) = 0 ∨ stD v R (i : Int) = 8 := by
        unfold stD
        rw [h.st0 hl]
        by_cases e : R i = true
        · rw [if_pos ⟨rfl, e⟩]; exact .inr rfl
        · rw [if_neg (fun x => e x.2)]; exact .inl rfl
      rw [decide_eq_false e]
      rcases hs with hs | hs <;> rw [hs] <;> rfl
end Go.Proofs.YtnffgamekhedkaaGreatDoor
/-
  DeskLets, plainly: one of them comes to its end, and another is let in.
-/
namespace Go.Proofs.YtnffgamekhedkaaGreatDoor
open Go.RowKit Sg Bl

def lv1 : Lk := folL (ltL 1) 5 []
def lv2 : Lk := folL lv1 7 [1]
def lv3 : Lk := folL lv2 7 [2]
theorem lv1_p : prepB lv1 = false := by kernel_rfl
theorem lv2_p : prepB lv2 = false := by kernel_rfl
theorem lv3_p : prepB lv3 = false := by kernel_rfl
theorem lv3_o : overF lv3.o lv3.f = true := by kernel_rfl
theorem lv3_s : stF lv3.o lv3.f = 6 := by kernel_rfl
section
variable {M : Int} {L : Int → Option Lk} {n : Nat} {v : Ch}
theorem RG.go (h : RG M L n v) {l : Lk} (hL : L 1 = some l) (kk : Nat) (ns : List Int) (hk : kk ≠ 0) (hp : prepB (folL l kk ns) = false) {v' : Ch} (hv : v'.down = v.down ∧ v'.L = fol v.L ⟨kk, 1, ns⟩ ∧ v'.T = v.T ++ [⟨kk, 1, ns⟩] ∧ v'.room = v.room ∧ v'.most = v.most) :
    RG M (Gd.updO L 1 (some (folL l kk ns))) (n + 1) (goS v' (folL l kk ns)) := by
  obtain ⟨a1, a2, a3, a4, a5⟩ := hv
  have e : fol v.L ⟨kk, 1, ns⟩ = Gd.updO L 1 (some (folL l kk ns)) := by
    unfold fol
    rw [if_neg hk, show (⟨kk, 1, ns⟩ : Et).id = 1 from rfl, h.l, hL]
    rfl
  have hT : v'.T.length ≤ n + 1 := by
    rw [a3, List.length_append]
    have := h.n
    simp
    omega
  unfold goS
  split
  · exact ⟨a1.trans h.d, a2.trans e, hT, a4.trans h.r, a5.trans h.m⟩
  · unfold sendS
    rw [hp]
    exact ⟨a1.trans h.d, a2.trans e, hT, a4.trans h.r, a5.trans h.m⟩
theorem RG.no1 (h : RG M L n v) (hL : L 1 = some (ltL 1)) (hn : n + 1 ≤ 4096) : RG M (Gd.updO L 1 (some lv1)) (n + 1) (hdSA v ⟨8, 1, 0, 1, 0, 0, 0⟩).1 := by
  have hvL : v.L 1 = some (ltL 1) := by rw [h.l]; exact hL
  have e : hdSA v ⟨8, 1, 0, 1, 0, 0, 0⟩ = (sgS v (ltL 1) 5 [], sgA v (ltL 1) 5 []) := by
    unfold hdSA
    rw [h.d, if_neg (fun e => e.elim (fun e => by cases e) (fun e => e rfl)), if_neg (by rintro ⟨e, -⟩; cases e)]
    rw [show v.L (⟨8, 1, 0, 1, 0, 0, 0⟩ : Mg).id = some (ltL 1) from hvL]
    dsimp only
    rw [if_pos (show keepB 1 = true from rfl)]
    unfold keepSA
    rw [if_neg (by rintro ⟨e, -⟩; cases e), if_pos ⟨rfl, rfl⟩]
  rw [e]
  show RG M _ (n + 1) (sgS v (ltL 1) 5 [])
  unfold sgS
  rw [h.room hn, if_pos rfl]
  exact h.go hL 5 [] (by decide) lv1_p ⟨rfl, rfl, rfl, rfl, rfl⟩
theorem RG.ack1 (h : RG M L n v) (hL : L 1 = some lv1) (hn : n + 1 ≤ 4096) : RG M (Gd.updO L 1 (some lv2)) (n + 1) (hdSA v ⟨11, 1, 0, 1, 0, 0, 0⟩).1 := by
  have hvL : v.L 1 = some lv1 := by rw [h.l]; exact hL
  have e : hdSA v ⟨11, 1, 0, 1, 0, 0, 0⟩ = (ngS v lv1 7 [1], ngA v lv1 7 [1]) := by
    unfold hdSA
    rw [h.d, if_neg (fun e => e.elim (fun e => by cases e) (fun e => e rfl)), if_neg (by rintro ⟨e, -⟩; cases e)]
    rw [show v.L (⟨11, 1, 0, 1, 0, 0, 0⟩ : Mg).id = some lv1 from hvL]
    dsimp only
    rw [if_pos (show keepB 1 = true from rfl)]
    unfold keepSA
    rw [if_neg (by rintro ⟨e, -⟩; cases e), if_neg (by rintro ⟨e, -⟩; cases e), if_pos ⟨rfl, rfl⟩]
  rw [e]
  show RG M _ (n + 1) (ngS v lv1 7 [1])
  unfold ngS
  rw [h.room hn, if_pos rfl]
  exact h.go hL 7 [1] (by decide) lv2_p ⟨rfl, rfl, rfl, rfl, rfl⟩
theorem RG.ack2 (h : RG M L n v) (hL : L 1 = some lv2) (hn : n + 1 ≤ 4096) : RG M (Gd.updO L 1 (some lv3)) (n + 1) (hdSA v ⟨11, 2, 0, 1, 0, 0, 0⟩).1 := by
  have hvL : v.L 1 = some lv2 := by rw [h.l]; exact hL
  have e : hdSA v ⟨11, 2, 0, 1, 0, 0, 0⟩ = (ngS v lv2 7 [2], ngA v lv2 7 [2]) := by
    unfold hdSA
    rw [h.d, if_neg (fun e => e.elim (fun e => by cases e) (fun e => e rfl)), if_neg (by rintro ⟨e, -⟩; cases e)]
    rw [show v.L (⟨11, 2, 0, 1, 0, 0, 0⟩ : Mg).id = some lv2 from hvL]
    dsimp only
    rw [if_pos (show keepB 2 = true from rfl)]
    unfold keepSA
    rw [if_neg (by rintro ⟨e, -⟩; cases e), if_neg (by rintro ⟨e, -⟩; cases e), if_pos ⟨rfl, rfl⟩]
  rw [e]
  show RG M _ (n + 1) (ngS v lv2 7 [2])
  unfold ngS
  rw [h.room hn, if_pos rfl]
  exact h.go hL 7 [2] (by decide) lv3_p ⟨rfl, rfl, rfl, rfl, rfl⟩
/-- Behind the three messages. -/
def vEnd (v : Ch) : Ch := (hdSA (hdSA (hdSA v ⟨8, 1, 0, 1, 0, 0, 0⟩).1 ⟨11, 1, 0, 1, 0, 0, 0⟩).1 ⟨11, 2, 0, 1, 0, 0, 0⟩).1
theorem RG.three {b : Nat} (h : RG M (Lt b) n v) (hb : 1 ≤ b) (hn : n + 3 ≤ 4096) : RG M (Gd.updO (Lt b) 1 (some lv3)) (n + 3) (vEnd v) := by
  have h1 := h.no1 (Lt_in (by decide) (by omega)) (by omega)
  have h2 := h1.ack1 (Gd.updO_same _ _ _) (by omega)
  have h3 := h2.ack2 (Gd.updO_same _ _ _) (by omega)
  rw [updO_twice, updO_twice] at h3
  exact h3
end
theorem way_end {b : Nat} (hb : b ≤ 900) : wayN (Gd.updO (Lt b) 1 (some lv3)) = b - 1 := by
  rw [way_cnt, cnt_eq (q' := fun i => decide (1 ≤ i ∧ i < b)) 999 (fun i hi => ?_), cnt_rng]
  · omega
  · unfold wyq way1
    by_cases e0 : (i : Int) + 1 = 1
    · rw [e0, Gd.updO_same]
      dsimp only
      rw [lv3_o, decide_eq_false (by omega)]
      rfl
    · rw [Gd.updO_other _ _ e0]
      by_cases e : i < b
      · rw [Lt_in (by omega) (by omega)]
        dsimp only
        rw [lt_over (by omega) (by omega), decide_eq_true (by omega)]
        rfl
      · rw [Lt_no (by omega), decide_eq_false (by omega)]
/-- The last one is let in. -/
theorem lets_end {M : Int} {b n x : Nat} {v : Ch} (h : RG M (Lt b) n v) (hM : (b : Int) = M) (hb : 1 ≤ b) (hb2 : b ≤ 64) (hn : n ≤ 200) (hx : b < x) (hx2 : x ≤ 80) (R : Int → Bool) :
    begE (vEnd v) (ltO x) = 0 ∧ stD (begS (vEnd v) (ltO x)) R 1 = 6 ∧ stD (begS (vEnd v) (ltO x)) R x = 2 ∧ opnD (begS (vEnd v) (ltO x)) (allF (stD (begS (vEnd v) (ltO x)) R) 1000) = b := by
  have h3 := h.three hb (by omega)
  have hx1 : (x : Int) ≠ 1 := by omega
  have hLx : Gd.updO (Lt b) 1 (some lv3) (x : Int) = none := by rw [Gd.updO_other _ _ hx1]; exact Lt_no (by omega)
  obtain ⟨e1, e2, -⟩ := h3.begin (x := x) (by omega) (by omega) hLx (by rw [way_end (by omega)]; omega) (by omega)
  have s1 := e2.st (x := 1) (l := lv3) (by rw [Gd.updO_other _ _ (fun e => hx1 e.symm)]; exact Gd.updO_same _ _ _)
  have s2 := e2.st (x := x) (l := ltL x) (Gd.updO_same _ _ _)
  have t1 : stD (begS (vEnd v) (ltO x)) R 1 = 6 := by
    unfold stD
    rw [s1.1, lv3_s, if_neg (fun e => by cases e.1)]
  have t2 : stD (begS (vEnd v) (ltO x)) R x = 2 := by
    unfold stD
    rw [s2.1, lt_st (by omega) (by omega), if_neg (fun e => by cases e.1)]
  have q1 : ∀ i : Nat, i ≠ x → opq (begS (vEnd v) (ltO x)) (stD (begS (vEnd v) (ltO x)) R) i = decide (2 ≤ i ∧ i < b + 1) := fun i hi => by
    unfold opq opn1
    by_cases e0 : i = 1
    · subst e0
      rw [show ((1 : Nat) : Int) = 1 from rfl, t1, s1.2, lv3_o, decide_eq_false (by omega)]
      rfl
    · have ei : (i : Int) ≠ x := by omega
      by_cases e : 2 ≤ i ∧ i < b + 1
      · have s3 := e2.st (x := i) (l := ltL i) (by rw [Gd.updO_other _ _ ei, Gd.updO_other _ _ (by omega)]; exact Lt_in (by omega) (by omega))
        have t3 : stD (begS (vEnd v) (ltO x)) R i = 2 := by
          unfold stD
          rw [s3.1, lt_st (by omega) (by omega), if_neg (fun e => by cases e.1)]
        rw [t3, s3.2, lt_over (by omega) (by omega), decide_eq_true e]
        rfl
      · have s3 := e2.st0 (x := i) (by rw [Gd.updO_other _ _ ei, Gd.updO_other _ _ (by omega)]; unfold Lt; rw [if_neg (by omega)])
        have hs : stD (begS (vEnd v) (ltO x)) R (i : Int) = 0 ∨ stD (begS (vEnd v) (ltO x)) R (i : Int) = 8 := by
          unfold stD
          rw [s3]
          by_cases e : R i = true
          · rw [if_pos ⟨rfl, e⟩]; exact .inr rfl
          · rw [if_neg (fun x => e x.2)]; exact .inl rfl
        rw [decide_eq_false e]
        rcases hs with hs | hs <;> rw [hs] <;> rfl
  have q2 : opq (begS (vEnd v) (ltO x)) (stD (begS (vEnd v) (ltO x)) R) x = true := by
    unfold opq opn1
    rw [t2, s2.2, lt_over (by omega) (by omega)]
    rfl
  refine ⟨e1, t1, t2, ?_⟩
  rw [opn_cnt, cnt_one q1 q2 (by rw [decide_eq_false_iff_not]; omega) 1000, cnt_rng, if_pos (by omega)]
  omega
end Go.Proofs.YtnffgamekhedkaaGreatDoor
