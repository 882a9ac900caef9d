/-
  A book of money, plainly, as the program keeps it: what each client had at first, what is allowed for each id, what each id has paid; all else is summed up of that (PrsM's book).
-/
import Derived.Test.YtpahgoehpkohiaaPrsM
namespace Go.Proofs.Ytpahgoehpkohiaa
open Go.RowKit

structure Qb where
  f : Int → Int
  a : Int → Option (Int × Int)
  d : Int → Option (Int × Int)
def moneyK (s : Qb) (k : Int) : Int := s.f k - sumTo (resv s.d k) 1000
def tillQ (s : Qb) : Int := sumTo (alw s.d) 1000
def toP (s : Qb) : Pb := ⟨moneyK s, s.a, tillQ s, alw s.d⟩
/-- What may stand in a map of deals. -/
def GoodD (r : Int → Option (Int × Int)) : Prop := ∀ x c, r x = some c → (1 ≤ x ∧ x ≤ 999) ∧ (0 ≤ c.1 ∧ c.1 < 8) ∧ 1 ≤ c.2
structure GoodQ (s : Qb) : Prop where
  gp : GoodP (toP s)
  da : GoodD s.a
  dd : GoodD s.d
  ft : ∀ k, 0 ≤ k → k < 8 → s.f k ≤ 1000000000
theorem GoodD.pos {r : Int → Option (Int × Int)} (g : GoodD r) (x : Int) : 0 ≤ alw r x := by
  unfold alw prc
  cases h : r x with
  | none => exact Int.le_refl _
  | some c => have := (g x c h).2.2; dsimp only; omega
theorem GoodD.posK {r : Int → Option (Int × Int)} (g : GoodD r) (k x : Int) : 0 ≤ resv r k x := by
  unfold resv amt
  cases h : r x with
  | none => exact Int.le_refl _
  | some c =>
    have := (g x c h).2.2
    dsimp only
    split <;> omega
theorem GoodD.le {r : Int → Option (Int × Int)} (g : GoodD r) (k x : Int) : resv r k x ≤ alw r x := by
  unfold resv amt alw prc
  cases h : r x with
  | none => exact Int.le_refl _
  | some c =>
    have := (g x c h).2.2
    dsimp only
    split <;> omega
theorem sumTo_le {h g : Int → Int} (hg : ∀ x, h x ≤ g x) : ∀ n, sumTo h n ≤ sumTo g n
  | 0 => Int.le_refl _
  | n + 1 => by have := sumTo_le hg n; have := hg n; rw [sumTo, sumTo]; omega
/-- Of some of the keys the sum is no more than of all. -/
theorem sum_some {l : List Int} {v : Int → Int} (hn : l.Nodup) (hb : ∀ x ∈ l, 0 ≤ x ∧ x < 1000) (hp : ∀ x, 0 ≤ v x) : (l.map v).sum ≤ sumTo v 1000 := by
  have e : l.map v = l.map (fun x => if x ∈ l then v x else 0) := List.map_congr_left (fun x hx => (if_pos hx).symm)
  rw [e, sum_nodup (N := 1000) l _ hn (fun x hx => by have := hb x hx; omega) (fun x hx => if_neg hx)]
  refine sumTo_le (fun x => ?_) 1000
  split
  · exact Int.le_refl _
  · exact hp x
theorem sum_nonneg {l : List Int} {v : Int → Int} (hp : ∀ x, 0 ≤ v x) : 0 ≤ (l.map v).sum := by
  induction l with
  | nil => exact Int.le_refl _
  | cons a l ih => rw [List.map_cons, List.sum_cons]; have := hp a; omega
theorem GoodD.nope {r : Int → Option (Int × Int)} (g : GoodD r) {x : Int} (h : alw r x = 0) : r x = none := by
  cases e : r x with
  | none => rfl
  | some c =>
    exfalso
    have := (g x c e).2.2
    unfold alw prc at h
    rw [e] at h
    dsimp only at h
    omega
theorem GoodD.isSome {r : Int → Option (Int × Int)} (g : GoodD r) (x : Int) : (r x).isSome = decide (alw r x ≠ 0) := by
  cases e : r x with
  | none => unfold alw; rw [e]; rfl
  | some c =>
    have := (g x c e).2.2
    unfold alw prc
    rw [e]
    dsimp only [Option.isSome]
    symm
    simp
    omega
theorem GoodD.upd {r : Int → Option (Int × Int)} (g : GoodD r) {id : Int} {c : Int × Int} (h : (1 ≤ id ∧ id ≤ 999) ∧ (0 ≤ c.1 ∧ c.1 < 8) ∧ 1 ≤ c.2) : GoodD (updO r id (some c)) := fun x d hd => by
  by_cases ex : x = id
  · subst ex; rw [updO_same] at hd; cases hd; exact h
  · rw [updO_other _ _ ex] at hd; exact g x d hd
theorem GoodD.del {r : Int → Option (Int × Int)} (g : GoodD r) (id : Int) : GoodD (updO r id none) := fun x d hd => by
  by_cases ex : x = id
  · subst ex; rw [updO_same] at hd; cases hd
  · rw [updO_other _ _ ex] at hd; exact g x d hd
/-- Of no client nothing is allowed. -/
theorem GoodD.out {r : Int → Option (Int × Int)} (g : GoodD r) {k : Int} (hk : ¬ (0 ≤ k ∧ k < 8)) : sumTo (resv r k) 1000 = 0 := by
  rw [← sumTo_zero (n := 1000)]
  refine sumTo_congr (fun x _ => ?_)
  unfold resv amt
  cases h : r x with
  | none => rfl
  | some c =>
    have := (g x c h).2.1
    dsimp only
    exact if_neg (fun (e : c.1 = k) => hk (by omega))

theorem pb_ext {m m' p p' : Int → Int} {a a' : Int → Option (Int × Int)} {t t' : Int} (h1 : m = m') (h2 : a = a') (h3 : t = t') (h4 : p = p') : Pb.mk m a t p = Pb.mk m' a' t' p' := by subst h1 h2 h3 h4; rfl
def newQ (l : List Int) : Qb := ⟨fun k => clampA (l.getD k.toNat 0), fun _ => none, fun _ => none⟩
def alwQ (s : Qb) (id k q : Int) : Qb := if alwE (toP s) id k q = 0 then ⟨s.f, updO s.a id (some (k, q)), s.d⟩ else s
def capQ (s : Qb) (id : Int) : Qb := match s.a id with | some c => ⟨s.f, updO s.a id none, updO s.d id (some c)⟩ | none => s
def voidQ (s : Qb) (id : Int) : Qb := match s.a id with | some _ => ⟨s.f, updO s.a id none, s.d⟩ | none => s
theorem alwQ_ok {s : Qb} {id k q : Int} (e : alwE (toP s) id k q = 0) : alwQ s id k q = ⟨s.f, updO s.a id (some (k, q)), s.d⟩ := if_pos e
theorem alwQ_no {s : Qb} {id k q : Int} (e : alwE (toP s) id k q ≠ 0) : alwQ s id k q = s := if_neg e
theorem capQ_some {s : Qb} {id : Int} {c : Int × Int} (h : s.a id = some c) : capQ s id = ⟨s.f, updO s.a id none, updO s.d id (some c)⟩ := by unfold capQ; rw [h]
theorem capQ_none {s : Qb} {id : Int} (h : s.a id = none) : capQ s id = s := by unfold capQ; rw [h]
theorem voidQ_some {s : Qb} {id : Int} {c : Int × Int} (h : s.a id = some c) : voidQ s id = ⟨s.f, updO s.a id none, s.d⟩ := by unfold voidQ; rw [h]
theorem voidQ_none {s : Qb} {id : Int} (h : s.a id = none) : voidQ s id = s := by unfold voidQ; rw [h]
theorem toP_new (l : List Int) : toP (newQ l) = newP l := by
  refine pb_ext ?_ rfl ?_ rfl
  · funext k
    show clampA _ - sumTo (resv (fun _ => none) k) 1000 = _
    rw [resv_none, sumTo_zero, Int.sub_zero]
  · show sumTo (alw (fun _ => none)) 1000 = 0
    rw [alw_none, sumTo_zero]
theorem toP_alw (s : Qb) (id k q : Int) : toP (alwQ s id k q) = alwS (toP s) id k q := by
  by_cases e : alwE (toP s) id k q = 0
  · rw [alwQ_ok e, alwS_ok e]; rfl
  · rw [alwQ_no e, alwS_no e]
theorem toP_void (s : Qb) (id : Int) : toP (voidQ s id) = voidS (toP s) id := by
  cases h : s.a id with
  | none => rw [voidQ_none h, voidS_none (s := toP s) h]
  | some c => rw [voidQ_some h, voidS_some (s := toP s) h]; rfl
theorem GoodQ.free {s : Qb} (g : GoodQ s) {id : Int} {c : Int × Int} (h : s.a id = some c) : s.d id = none := g.dd.nope (g.gp.at_ id c h).2.2.2
theorem toP_cap {s : Qb} (g : GoodQ s) (id : Int) : toP (capQ s id) = capS (toP s) id := by
  cases h : s.a id with
  | none => rw [capQ_none h, capS_none (s := toP s) h]
  | some c =>
    rw [capQ_some h, capS_some (s := toP s) h]
    have h1 := (g.da id c h).1
    have hd := g.free h
    refine pb_ext ?_ rfl ?_ ?_
    · funext k
      show s.f k - sumTo (resv (updO s.d id (some c)) k) 1000 = Go.Proofs.Ytpahgoehpkohiaa.upd (moneyK s) c.1 (moneyK s c.1 - c.2) k
      have z : resv s.d k id = 0 := by unfold resv; rw [hd]; rfl
      rw [resv_upd, sumTo_upd, if_pos (by omega), z, upd_at]
      unfold moneyK amt
      dsimp only
      by_cases ek : k = c.1
      · subst ek; rw [if_pos rfl, if_pos rfl]; omega
      · rw [if_neg ek, if_neg (fun e => ek e.symm)]; omega
    · show sumTo (alw (updO s.d id (some c))) 1000 = sumTo (alw s.d) 1000 + c.2
      have z : alw s.d id = 0 := by unfold alw; rw [hd]; rfl
      rw [alw_upd, sumTo_upd, if_pos (by omega), z]
      unfold prc
      dsimp only
      omega
    · show alw (updO s.d id (some c)) = _
      rw [alw_upd]
      rfl
theorem GoodQ.new (l : List Int) : GoodQ (newQ l) := ⟨by rw [toP_new]; exact GoodP.new l, fun x c h => (by cases h), fun x c h => (by cases h), fun k _ _ => (clampA_bd _).2⟩
theorem GoodQ.allow {s : Qb} (g : GoodQ s) (id k q : Int) : GoodQ (alwQ s id k q) := by
  refine ⟨by rw [toP_alw]; exact g.gp.allow id k q, ?_, ?_, ?_⟩
  · by_cases e : alwE (toP s) id k q = 0
    · rw [alwQ_ok e]
      obtain ⟨h1, h2, h3, _⟩ := alwE_ok e
      exact g.da.upd ⟨h1, h2, h3⟩
    · rw [alwQ_no e]; exact g.da
  · unfold alwQ; split <;> exact g.dd
  · unfold alwQ; split <;> exact g.ft
theorem GoodQ.cap {s : Qb} (g : GoodQ s) (id : Int) : GoodQ (capQ s id) := by
  refine ⟨by rw [toP_cap g]; exact g.gp.cap id, ?_, ?_, ?_⟩
  · cases h : s.a id with
    | none => rw [capQ_none h]; exact g.da
    | some c => rw [capQ_some h]; exact g.da.del id
  · cases h : s.a id with
    | none => rw [capQ_none h]; exact g.dd
    | some c => rw [capQ_some h]; exact g.dd.upd (g.da id c h)
  · unfold capQ; split <;> exact g.ft
theorem GoodQ.void {s : Qb} (g : GoodQ s) (id : Int) : GoodQ (voidQ s id) := by
  refine ⟨by rw [toP_void]; exact g.gp.void id, ?_, ?_, ?_⟩
  · cases h : s.a id with
    | none => rw [voidQ_none h]; exact g.da
    | some c => rw [voidQ_some h]; exact g.da.del id
  · unfold voidQ; split <;> exact g.dd
  · unfold voidQ; split <;> exact g.ft
theorem GoodQ.sumA {s : Qb} (g : GoodQ s) : 0 ≤ sumTo (alw s.a) 1000 ∧ 0 ≤ sumTo (alw s.d) 1000 ∧ sumTo (alw s.d) 1000 + sumTo (alw s.a) 1000 ≤ 1000000000 := by
  have h1 := g.gp.over
  have h2 := g.gp.allA_nn
  have h3 := g.gp.tnn
  exact ⟨h2, h3, h1⟩
theorem GoodQ.money {s : Qb} (g : GoodQ s) {k : Int} (h0 : 0 ≤ k) (h1 : k < 8) : (0 ≤ sumTo (resv s.a k) 1000 ∧ sumTo (resv s.a k) 1000 ≤ moneyK s k) ∧ moneyK s k ≤ 1000000000 ∧ (0 ≤ sumTo (resv s.d k) 1000 ∧ sumTo (resv s.d k) 1000 ≤ s.f k) ∧ s.f k ≤ 1000000000 := by
  have a1 := g.gp.low k h0 h1
  have a2 := g.gp.alwK_nn k
  have a3 := g.gp.top k h0 h1
  have a4 := g.ft k h0 h1
  have a5 := sumTo_nonneg (g.dd.posK k) 1000
  have a6 : moneyK s k = s.f k - sumTo (resv s.d k) 1000 := rfl
  have b1 : sumTo (resv s.a k) 1000 ≤ moneyK s k := a1
  have b2 : 0 ≤ sumTo (resv s.a k) 1000 := a2
  have b3 : moneyK s k ≤ 1000000000 := a3
  omega
end Go.Proofs.Ytpahgoehpkohiaa
