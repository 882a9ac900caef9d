/-
  Own texts put together: HdA, HdM, Row, GdA, GdH, ZsAmt, ZbAmt, ZbHldM, ZbBelM.
-/
import Derived.Test.YthfgmpooehkhgaaGreatDoorRows
import Derived.WalkKit
import Derived.ProofKit
import Derived.OpenShut
/-
  Contracts of package amount's May, Add, Sub, Mul, Part: each returns what the plain functions here say, and leaves memory as it was.
-/
namespace Go.Proofs.YthfgmpooehkhgaaGreatDoor.Hd
open Go.ChangeShapes Go.WideShapes Go.ChangeAt Go.RowKit

def may (a : Int) : Bool := decide (0 ≤ a ∧ a ≤ 1000000000)
theorem may_iff {a : Int} : may a = true ↔ 0 ≤ a ∧ a ≤ 1000000000 := by unfold may; simp
theorem may_not {a : Int} : may a = false ↔ a < 0 ∨ 1000000000 < a := by unfold may; simp; omega

def addE (a b : Int) : Int := if may a = true ∧ may b = true then (if a + b ≤ 1000000000 then 0 else 4) else 1
theorem may_any (a : Int) (w : World) : Calls Tryz.prog 174 #[.int .i64 a] w fun e w' => e = .returned (.bool (may a)) ∧ w = w' := by
  by_cases h0 : 0 ≤ a
  · by_cases h1 : a ≤ 1000000000
    · have hm : true = may a := (may_iff.2 ⟨h0, h1⟩).symm
      rw [← hm]
      clear hm
      go_enter Tryz.func174, Tryz.ntmps174
      go_wp2
      go_ret
      exact ⟨rfl, rfl⟩
    · have hm : may a = false := may_not.2 (by omega)
      go_enter Tryz.func174, Tryz.ntmps174
      go_wp2
      go_ret
      exact ⟨rfl, rfl⟩
  · have hm : may a = false := may_not.2 (by omega)
    go_enter Tryz.func174, Tryz.ntmps174
    go_wp2
    go_ret
    exact ⟨rfl, rfl⟩

end Go.Proofs.YthfgmpooehkhgaaGreatDoor.Hd
/-
  A book of holds, plainly: what is left, what each id holds.
-/
namespace Go.Proofs.YthfgmpooehkhgaaGreatDoor.Hd
open Go.RowKit

def upd (h : Int → Int) (id v : Int) : Int → Int := fun x => if x = id then v else h x
theorem upd_same (h : Int → Int) (id v : Int) : upd h id v id = v := by simp [upd]
theorem upd_other (h : Int → Int) {id x : Int} (v : Int) (hx : x ≠ id) : upd h id v x = h x := by simp [upd, hx]
def isI (id : Int) : Bool := decide (1 ≤ id ∧ id ≤ 999)
theorem isI_iff {a : Int} : isI a = true ↔ 1 ≤ a ∧ a ≤ 999 := by unfold isI; simp
def clampA (r : Int) : Int := if r < 0 then 0 else if r ≤ 1000000000 then r else 1000000000
/-- h 0 + .. + h (n - 1) -/
def sumTo (h : Int → Int) : Nat → Int
  | 0 => 0
  | n + 1 => sumTo h n + h n
theorem sumTo_congr {h g : Int → Int} {n : Nat} (e : ∀ k : Nat, k < n → h k = g k) : sumTo h n = sumTo g n := by
  induction n with
  | zero => rfl
  | succ n ih => rw [sumTo, sumTo, ih (fun k hk => e k (by omega)), e n (by omega)]
theorem sumTo_upd (h : Int → Int) (id v : Int) (n : Nat) : sumTo (upd h id v) n = sumTo h n + (if 0 ≤ id ∧ id < n then v - h id else 0) := by
  induction n with
  | zero =>
    rw [if_neg (by omega)]
    rfl
  | succ n ih =>
    rw [sumTo, sumTo, ih]
    by_cases e : (n : Int) = id
    · subst e
      rw [upd_same, if_neg (by omega), if_pos (by omega)]
      omega
    · rw [upd_other h v e]
      by_cases hc : 0 ≤ id ∧ id < n
      · rw [if_pos hc, if_pos (by omega)]
        omega
      · rw [if_neg hc, if_neg (by omega)]
        omega
theorem sumTo_zero {n : Nat} : sumTo (fun _ => 0) n = 0 := by
  induction n with
  | zero => rfl
  | succ n ih => rw [sumTo, ih]; rfl
theorem sumTo_nonneg {h : Int → Int} (hp : ∀ x, 0 ≤ h x) : ∀ n, 0 ≤ sumTo h n
  | 0 => Int.le_refl _
  | n + 1 => by have := sumTo_nonneg hp n; have := hp n; rw [sumTo]; omega
theorem le_sumTo {h : Int → Int} (hp : ∀ x, 0 ≤ h x) : ∀ (n : Nat) (x : Int), 0 ≤ x → x < n → h x ≤ sumTo h n
  | 0, x, h0, h1 => by omega
  | n + 1, x, h0, h1 => by
    rw [sumTo]
    by_cases e : x = n
    · subst e; have := sumTo_nonneg hp n; omega
    · have := le_sumTo hp n x h0 (by omega); have := hp n; omega

/-- What a book keeps to. -/
structure Good (left : Int) (h : Int → Int) : Prop where
  nn : 0 ≤ left
  pos : ∀ x, 0 ≤ h x
  at_ : ∀ x, h x ≠ 0 → 1 ≤ x ∧ x ≤ 999
  tot : left + sumTo h 1000 ≤ 1000000000
theorem Good.le {left : Int} {h : Int → Int} (g : Good left h) (x : Int) : h x ≤ 1000000000 - left := by
  have h1 := g.nn
  have h2 := g.tot
  have h3 := sumTo_nonneg g.pos 1000
  by_cases e : h x = 0
  · rw [e]; omega
  · have := le_sumTo g.pos 1000 x (by have := (g.at_ x e).1; omega) (by have := (g.at_ x e).2; omega)
    omega
theorem Good.new {room : Int} : Good (clampA room) (fun _ => 0) := by
  refine ⟨?_, fun _ => Int.le_refl _, fun x h => absurd rfl h, ?_⟩
  · unfold clampA; split <;> (try split) <;> omega
  · rw [sumTo_zero]; unfold clampA; split <;> (try split) <;> omega

def takeE (left : Int) (h : Int → Int) (id n : Int) : Int :=
  if isI id = true ∧ 1 ≤ n ∧ n ≤ 1000000000 then (if h id ≠ 0 then 8 else if n ≤ left then 0 else 9) else 1
def takeL (left : Int) (h : Int → Int) (id n : Int) : Int := if takeE left h id n = 0 then left - n else left
def takeH (left : Int) (h : Int → Int) (id n : Int) : Int → Int := if takeE left h id n = 0 then upd h id n else h
def backL (left : Int) (h : Int → Int) (id : Int) : Int := left + h id
def backH (h : Int → Int) (id : Int) : Int → Int := upd h id 0
theorem takeE_ok {left : Int} {h : Int → Int} {id n : Int} (e : takeE left h id n = 0) : (1 ≤ id ∧ id ≤ 999) ∧ (1 ≤ n ∧ n ≤ left) ∧ h id = 0 := by
  unfold takeE at e
  split at e
  · rename_i hc
    split at e
    · omega
    · split at e
      · exact ⟨isI_iff.1 hc.1, ⟨hc.2.1, by assumption⟩, by omega⟩
      · omega
  · omega
theorem Good.take {left : Int} {h : Int → Int} (g : Good left h) (id n : Int) : Good (takeL left h id n) (takeH left h id n) := by
  unfold takeL takeH
  by_cases e : takeE left h id n = 0
  · rw [if_pos e, if_pos e]
    obtain ⟨h1, h2, h3⟩ := takeE_ok e
    refine ⟨by omega, fun x => ?_, fun x hx => ?_, ?_⟩
    · by_cases hx : x = id
      · subst hx; rw [upd_same]; omega
      · rw [upd_other h n hx]; exact g.pos x
    · by_cases hx' : x = id
      · subst hx'; exact h1
      · rw [upd_other h n hx'] at hx; exact g.at_ x hx
    · have := g.tot
      rw [sumTo_upd, if_pos (by omega), h3]
      omega
  · rw [if_neg e, if_neg e]; exact g
theorem upd_id {h : Int → Int} {id v : Int} (e : h id = v) : upd h id v = h := by
  funext x
  by_cases hx : x = id
  · subst hx; rw [upd_same, e]
  · rw [upd_other h v hx]
theorem Good.back {left : Int} {h : Int → Int} (g : Good left h) (id : Int) : Good (backL left h id) (backH h id) := by
  unfold backL backH
  by_cases e : h id = 0
  · rw [upd_id e, e, Int.add_zero]; exact g
  · have h1 := g.at_ id e
    have h2 := g.pos id
    have h0 := g.nn
    refine ⟨by omega, fun x => ?_, fun x hx => ?_, ?_⟩
    · by_cases hx : x = id
      · subst hx; rw [upd_same]; omega
      · rw [upd_other h 0 hx]; exact g.pos x
    · by_cases hx' : x = id
      · subst hx'; exact h1
      · rw [upd_other h 0 hx'] at hx; exact g.at_ x hx
    · have := g.tot
      rw [sumTo_upd, if_pos (by omega)]
      omega
/-- Who holds some, rising. -/
def idsTo (h : Int → Int) (n : Nat) : List Int := ((List.range n).map (fun k : Nat => (k : Int))).filter (fun x => decide (h x ≠ 0))
def idsL (h : Int → Int) : List Int := idsTo h 1000
theorem idsTo_len (h : Int → Int) (n : Nat) : (idsTo h n).length ≤ n := by
  unfold idsTo
  refine Nat.le_trans (List.length_filter_le _ _) (by simp)
theorem mem_idsL {h : Int → Int} (hat : ∀ x, h x ≠ 0 → 1 ≤ x ∧ x ≤ 999) (x : Int) : x ∈ idsL h ↔ h x ≠ 0 := by
  unfold idsL idsTo
  rw [List.mem_filter, List.mem_map]
  constructor
  · rintro ⟨_, h2⟩; simpa using h2
  · intro hx
    have := hat x hx
    exact ⟨⟨x.toNat, by simp; omega, by omega⟩, by simpa using hx⟩
theorem idsTo_rise (h : Int → Int) (n : Nat) : (idsTo h n).Pairwise (· < ·) := by
  unfold idsTo
  refine List.Pairwise.filter _ ?_
  rw [List.pairwise_map]
  refine List.pairwise_lt_range.imp (fun h => by omega)
theorem idsL_zero : idsL (fun _ => 0) = [] := by
  unfold idsL idsTo
  rw [List.filter_eq_nil_iff]
  simp
end Go.Proofs.YthfgmpooehkhgaaGreatDoor.Hd
/-
  A slice of integers that came in, as the frame tells of it.
-/
namespace Go.Proofs.YthfgmpooehkhgaaGreatDoor
open Go.ChangeShapes Go.WideShapes Go.ChangeAt Go.RowKit

/-- A slice of integers that came in: nil, or a row of cap cells that hold zs. -/
def IsRow (k : IntKind) (w : World) (a : Option Addr) (len cap : Nat) (zs : List Int) : Prop :=
  (a = none ∧ len = 0 ∧ cap = 0 ∧ zs = []) ∨
  ∃ x, a = some x ∧ len ≤ cap ∧ cap ≤ maxLen ∧ zs.length = cap ∧ (∀ i, i < zs.length → w.cell? (x.add i) = some (.int k (zs.getD i 0))) ∧ ∀ n ∈ zs, (Lit.int k n).wf = true
end Go.Proofs.YthfgmpooehkhgaaGreatDoor
/-
  Contracts of package amount's May, Add, Sub, Mul, Part: each returns what the plain functions here say, and leaves memory as it was.
-/
namespace Go.Proofs.YthfgmpooehkhgaaGreatDoor.Gd
open Go.ChangeShapes Go.WideShapes Go.ChangeAt Go.RowKit

def may (a : Int) : Bool := decide (0 ≤ a ∧ a ≤ 1000000000)
theorem may_iff {a : Int} : may a = true ↔ 0 ≤ a ∧ a ≤ 1000000000 := by unfold may; simp
theorem may_not {a : Int} : may a = false ↔ a < 0 ∨ 1000000000 < a := by unfold may; simp; omega

def addE (a b : Int) : Int := if may a = true ∧ may b = true then (if a + b ≤ 1000000000 then 0 else 4) else 1
theorem may_any (a : Int) (w : World) : Calls Tryz.prog 174 #[.int .i64 a] w fun e w' => e = .returned (.bool (may a)) ∧ w = w' := by
  by_cases h0 : 0 ≤ a
  · by_cases h1 : a ≤ 1000000000
    · have hm : true = may a := (may_iff.2 ⟨h0, h1⟩).symm
      rw [← hm]
      clear hm
      go_enter Tryz.func174, Tryz.ntmps174
      go_wp2
      go_ret
      exact ⟨rfl, rfl⟩
    · have hm : may a = false := may_not.2 (by omega)
      go_enter Tryz.func174, Tryz.ntmps174
      go_wp2
      go_ret
      exact ⟨rfl, rfl⟩
  · have hm : may a = false := may_not.2 (by omega)
    go_enter Tryz.func174, Tryz.ntmps174
    go_wp2
    go_ret
    exact ⟨rfl, rfl⟩

end Go.Proofs.YthfgmpooehkhgaaGreatDoor.Gd
/-
  A book of holds, plainly: what is left, what each id holds.
-/
namespace Go.Proofs.YthfgmpooehkhgaaGreatDoor.Gd
open Go.RowKit

def upd (h : Int → Int) (id v : Int) : Int → Int := fun x => if x = id then v else h x
theorem upd_same (h : Int → Int) (id v : Int) : upd h id v id = v := by simp [upd]
theorem upd_other (h : Int → Int) {id x : Int} (v : Int) (hx : x ≠ id) : upd h id v x = h x := by simp [upd, hx]
def isI (id : Int) : Bool := decide (1 ≤ id ∧ id ≤ 999)
theorem isI_iff {a : Int} : isI a = true ↔ 1 ≤ a ∧ a ≤ 999 := by unfold isI; simp
def clampA (r : Int) : Int := if r < 0 then 0 else if r ≤ 1000000000 then r else 1000000000
/-- h 0 + .. + h (n - 1) -/
def sumTo (h : Int → Int) : Nat → Int
  | 0 => 0
  | n + 1 => sumTo h n + h n
theorem sumTo_congr {h g : Int → Int} {n : Nat} (e : ∀ k : Nat, k < n → h k = g k) : sumTo h n = sumTo g n := by
  induction n with
  | zero => rfl
  | succ n ih => rw [sumTo, sumTo, ih (fun k hk => e k (by omega)), e n (by omega)]
theorem sumTo_upd (h : Int → Int) (id v : Int) (n : Nat) : sumTo (upd h id v) n = sumTo h n + (if 0 ≤ id ∧ id < n then v - h id else 0) := by
  induction n with
  | zero =>
    rw [if_neg (by omega)]
    rfl
  | succ n ih =>
    rw [sumTo, sumTo, ih]
    by_cases e : (n : Int) = id
    · subst e
      rw [upd_same, if_neg (by omega), if_pos (by omega)]
      omega
    · rw [upd_other h v e]
      by_cases hc : 0 ≤ id ∧ id < n
      · rw [if_pos hc, if_pos (by omega)]
        omega
      · rw [if_neg hc, if_neg (by omega)]
        omega
theorem sumTo_zero {n : Nat} : sumTo (fun _ => 0) n = 0 := by
  induction n with
  | zero => rfl
  | succ n ih => rw [sumTo, ih]; rfl
theorem sumTo_nonneg {h : Int → Int} (hp : ∀ x, 0 ≤ h x) : ∀ n, 0 ≤ sumTo h n
  | 0 => Int.le_refl _
  | n + 1 => by have := sumTo_nonneg hp n; have := hp n; rw [sumTo]; omega
theorem le_sumTo {h : Int → Int} (hp : ∀ x, 0 ≤ h x) : ∀ (n : Nat) (x : Int), 0 ≤ x → x < n → h x ≤ sumTo h n
  | 0, x, h0, h1 => by omega
  | n + 1, x, h0, h1 => by
    rw [sumTo]
    by_cases e : x = n
    · subst e; have := sumTo_nonneg hp n; omega
    · have := le_sumTo hp n x h0 (by omega); have := hp n; omega

/-- What a book keeps to. -/
structure Good (left : Int) (h : Int → Int) : Prop where
  nn : 0 ≤ left
  pos : ∀ x, 0 ≤ h x
  at_ : ∀ x, h x ≠ 0 → 1 ≤ x ∧ x ≤ 999
  tot : left + sumTo h 1000 ≤ 1000000000
theorem Good.le {left : Int} {h : Int → Int} (g : Good left h) (x : Int) : h x ≤ 1000000000 - left := by
  have h1 := g.nn
  have h2 := g.tot
  have h3 := sumTo_nonneg g.pos 1000
  by_cases e : h x = 0
  · rw [e]; omega
  · have := le_sumTo g.pos 1000 x (by have := (g.at_ x e).1; omega) (by have := (g.at_ x e).2; omega)
    omega
theorem Good.new {room : Int} : Good (clampA room) (fun _ => 0) := by
  refine ⟨?_, fun _ => Int.le_refl _, fun x h => absurd rfl h, ?_⟩
  · unfold clampA; split <;> (try split) <;> omega
  · rw [sumTo_zero]; unfold clampA; split <;> (try split) <;> omega

def takeE (left : Int) (h : Int → Int) (id n : Int) : Int :=
  if isI id = true ∧ 1 ≤ n ∧ n ≤ 1000000000 then (if h id ≠ 0 then 8 else if n ≤ left then 0 else 9) else 1
def takeL (left : Int) (h : Int → Int) (id n : Int) : Int := if takeE left h id n = 0 then left - n else left
def takeH (left : Int) (h : Int → Int) (id n : Int) : Int → Int := if takeE left h id n = 0 then upd h id n else h
def backL (left : Int) (h : Int → Int) (id : Int) : Int := left + h id
def backH (h : Int → Int) (id : Int) : Int → Int := upd h id 0
theorem takeE_ok {left : Int} {h : Int → Int} {id n : Int} (e : takeE left h id n = 0) : (1 ≤ id ∧ id ≤ 999) ∧ (1 ≤ n ∧ n ≤ left) ∧ h id = 0 := by
  unfold takeE at e
  split at e
  · rename_i hc
    split at e
    · omega
    · split at e
      · exact ⟨isI_iff.1 hc.1, ⟨hc.2.1, by assumption⟩, by omega⟩
      · omega
  · omega
theorem Good.take {left : Int} {h : Int → Int} (g : Good left h) (id n : Int) : Good (takeL left h id n) (takeH left h id n) := by
  unfold takeL takeH
  by_cases e : takeE left h id n = 0
  · rw [if_pos e, if_pos e]
    obtain ⟨h1, h2, h3⟩ := takeE_ok e
    refine ⟨by omega, fun x => ?_, fun x hx => ?_, ?_⟩
    · by_cases hx : x = id
      · subst hx; rw [upd_same]; omega
      · rw [upd_other h n hx]; exact g.pos x
    · by_cases hx' : x = id
      · subst hx'; exact h1
      · rw [upd_other h n hx'] at hx; exact g.at_ x hx
    · have := g.tot
      rw [sumTo_upd, if_pos (by omega), h3]
      omega
  · rw [if_neg e, if_neg e]; exact g
theorem upd_id {h : Int → Int} {id v : Int} (e : h id = v) : upd h id v = h := by
  funext x
  by_cases hx : x = id
  · subst hx; rw [upd_same, e]
  · rw [upd_other h v hx]
theorem Good.back {left : Int} {h : Int → Int} (g : Good left h) (id : Int) : Good (backL left h id) (backH h id) := by
  unfold backL backH
  by_cases e : h id = 0
  · rw [upd_id e, e, Int.add_zero]; exact g
  · have h1 := g.at_ id e
    have h2 := g.pos id
    have h0 := g.nn
    refine ⟨by omega, fun x => ?_, fun x hx => ?_, ?_⟩
    · by_cases hx : x = id
      · subst hx; rw [upd_same]; omega
      · rw [upd_other h 0 hx]; exact g.pos x
    · by_cases hx' : x = id
      · subst hx'; exact h1
      · rw [upd_other h 0 hx'] at hx; exact g.at_ x hx
    · have := g.tot
      rw [sumTo_upd, if_pos (by omega)]
      omega
/-- Who holds some, rising. -/
def idsTo (h : Int → Int) (n : Nat) : List Int := ((List.range n).map (fun k : Nat => (k : Int))).filter (fun x => decide (h x ≠ 0))
def idsL (h : Int → Int) : List Int := idsTo h 1000
theorem idsTo_len (h : Int → Int) (n : Nat) : (idsTo h n).length ≤ n := by
  unfold idsTo
  refine Nat.le_trans (List.length_filter_le _ _) (by simp)
theorem mem_idsL {h : Int → Int} (hat : ∀ x, h x ≠ 0 → 1 ≤ x ∧ x ≤ 999) (x : Int) : x ∈ idsL h ↔ h x ≠ 0 := by
  unfold idsL idsTo
  rw [List.mem_filter, List.mem_map]
  constructor
  · rintro ⟨_, h2⟩; simpa using h2
  · intro hx
    have := hat x hx
    exact ⟨⟨x.toNat, by simp; omega, by omega⟩, by simpa using hx⟩
theorem idsTo_rise (h : Int → Int) (n : Nat) : (idsTo h n).Pairwise (· < ·) := by
  unfold idsTo
  refine List.Pairwise.filter _ ?_
  rw [List.pairwise_map]
  refine List.pairwise_lt_range.imp (fun h => by omega)
theorem idsL_zero : idsL (fun _ => 0) = [] := by
  unfold idsL idsTo
  rw [List.filter_eq_nil_iff]
  simp
end Go.Proofs.YthfgmpooehkhgaaGreatDoor.Gd
/-
  Contracts of package amount's May, Add, Sub, Mul, Part: each returns what the plain functions here say, and leaves memory as it was.
-/
namespace Go.Proofs.YthfgmpooehkhgaaGreatDoor.Sg
open Go.ChangeShapes Go.WideShapes Go.ChangeAt Go.RowKit

def may (a : Int) : Bool := decide (0 ≤ a ∧ a ≤ 1000000000)
theorem may_iff {a : Int} : may a = true ↔ 0 ≤ a ∧ a ≤ 1000000000 := by unfold may; simp
theorem may_not {a : Int} : may a = false ↔ a < 0 ∨ 1000000000 < a := by unfold may; simp; omega

def addE (a b : Int) : Int := if may a = true ∧ may b = true then (if a + b ≤ 1000000000 then 0 else 4) else 1
theorem may_any (a : Int) (w : World) : Calls Tryz.prog 174 #[.int .i64 a] w fun e w' => e = .returned (.bool (may a)) ∧ w = w' := by
  by_cases h0 : 0 ≤ a
  · by_cases h1 : a ≤ 1000000000
    · have hm : true = may a := (may_iff.2 ⟨h0, h1⟩).symm
      rw [← hm]
      clear hm
      go_enter Tryz.func174, Tryz.ntmps174
      go_wp2
      go_ret
      exact ⟨rfl, rfl⟩
    · have hm : may a = false := may_not.2 (by omega)
      go_enter Tryz.func174, Tryz.ntmps174
      go_wp2
      go_ret
      exact ⟨rfl, rfl⟩
  · have hm : may a = false := may_not.2 (by omega)
    go_enter Tryz.func174, Tryz.ntmps174
    go_wp2
    go_ret
    exact ⟨rfl, rfl⟩

end Go.Proofs.YthfgmpooehkhgaaGreatDoor.Sg
/-
  Contracts of package amount's May, Add, Sub, Mul, Part: each returns what the plain functions here say, and leaves memory as it was.
-/
namespace Go.Proofs.YthfgmpooehkhgaaGreatDoor.Bl
open Go.ChangeShapes Go.WideShapes Go.ChangeAt Go.RowKit

def may (a : Int) : Bool := decide (0 ≤ a ∧ a ≤ 1000000000)
theorem may_iff {a : Int} : may a = true ↔ 0 ≤ a ∧ a ≤ 1000000000 := by unfold may; simp
theorem may_not {a : Int} : may a = false ↔ a < 0 ∨ 1000000000 < a := by unfold may; simp; omega

def addE (a b : Int) : Int := if may a = true ∧ may b = true then (if a + b ≤ 1000000000 then 0 else 4) else 1
theorem may_any (a : Int) (w : World) : Calls Tryz.prog 174 #[.int .i64 a] w fun e w' => e = .returned (.bool (may a)) ∧ w = w' := by
  by_cases h0 : 0 ≤ a
  · by_cases h1 : a ≤ 1000000000
    · have hm : true = may a := (may_iff.2 ⟨h0, h1⟩).symm
      rw [← hm]
      clear hm
      go_enter Tryz.func174, Tryz.ntmps174
      go_wp2
      go_ret
      exact ⟨rfl, rfl⟩
    · have hm : may a = false := may_not.2 (by omega)
      go_enter Tryz.func174, Tryz.ntmps174
      go_wp2
      go_ret
      exact ⟨rfl, rfl⟩
  · have hm : may a = false := may_not.2 (by omega)
    go_enter Tryz.func174, Tryz.ntmps174
    go_wp2
    go_ret
    exact ⟨rfl, rfl⟩

end Go.Proofs.YthfgmpooehkhgaaGreatDoor.Bl
/-
  A book of holds, plainly: what is left, what each id holds.
-/
namespace Go.Proofs.YthfgmpooehkhgaaGreatDoor.Bl
open Go.RowKit

def upd (h : Int → Int) (id v : Int) : Int → Int := fun x => if x = id then v else h x
theorem upd_same (h : Int → Int) (id v : Int) : upd h id v id = v := by simp [upd]
theorem upd_other (h : Int → Int) {id x : Int} (v : Int) (hx : x ≠ id) : upd h id v x = h x := by simp [upd, hx]
def isI (id : Int) : Bool := decide (1 ≤ id ∧ id ≤ 999)
theorem isI_iff {a : Int} : isI a = true ↔ 1 ≤ a ∧ a ≤ 999 := by unfold isI; simp
def clampA (r : Int) : Int := if r < 0 then 0 else if r ≤ 1000000000 then r else 1000000000
/-- h 0 + .. + h (n - 1) -/
def sumTo (h : Int → Int) : Nat → Int
  | 0 => 0
  | n + 1 => sumTo h n + h n
theorem sumTo_congr {h g : Int → Int} {n : Nat} (e : ∀ k : Nat, k < n → h k = g k) : sumTo h n = sumTo g n := by
  induction n with
  | zero => rfl
  | succ n ih => rw [sumTo, sumTo, ih (fun k hk => e k (by omega)), e n (by omega)]
theorem sumTo_upd (h : Int → Int) (id v : Int) (n : Nat) : sumTo (upd h id v) n = sumTo h n + (if 0 ≤ id ∧ id < n then v - h id else 0) := by
  induction n with
  | zero =>
    rw [if_neg (by omega)]
    rfl
  | succ n ih =>
    rw [sumTo, sumTo, ih]
    by_cases e : (n : Int) = id
    · subst e
      rw [upd_same, if_neg (by omega), if_pos (by omega)]
      omega
    · rw [upd_other h v e]
      by_cases hc : 0 ≤ id ∧ id < n
      · rw [if_pos hc, if_pos (by omega)]
        omega
      · rw [if_neg hc, if_neg (by omega)]
        omega
theorem sumTo_zero {n : Nat} : sumTo (fun _ => 0) n = 0 := by
  induction n with
  | zero => rfl
  | succ n ih => rw [sumTo, ih]; rfl
theorem sumTo_nonneg {h : Int → Int} (hp : ∀ x, 0 ≤ h x) : ∀ n, 0 ≤ sumTo h n
  | 0 => Int.le_refl _
  | n + 1 => by have := sumTo_nonneg hp n; have := hp n; rw [sumTo]; omega
theorem le_sumTo {h : Int → Int} (hp : ∀ x, 0 ≤ h x) : ∀ (n : Nat) (x : Int), 0 ≤ x → x < n → h x ≤ sumTo h n
  | 0, x, h0, h1 => by omega
  | n + 1, x, h0, h1 => by
    rw [sumTo]
    by_cases e : x = n
    · subst e; have := sumTo_nonneg hp n; omega
    · have := le_sumTo hp n x h0 (by omega); have := hp n; omega

/-- What a book keeps to. -/
structure Good (left : Int) (h : Int → Int) : Prop where
  nn : 0 ≤ left
  pos : ∀ x, 0 ≤ h x
  at_ : ∀ x, h x ≠ 0 → 1 ≤ x ∧ x ≤ 999
  tot : left + sumTo h 1000 ≤ 1000000000
theorem Good.le {left : Int} {h : Int → Int} (g : Good left h) (x : Int) : h x ≤ 1000000000 - left := by
  have h1 := g.nn
  have h2 := g.tot
  have h3 := sumTo_nonneg g.pos 1000
  by_cases e : h x = 0
  · rw [e]; omega
  · have := le_sumTo g.pos 1000 x (by have := (g.at_ x e).1; omega) (by have := (g.at_ x e).2; omega)
    omega
theorem Good.new {room : Int} : Good (clampA room) (fun _ => 0) := by
  refine ⟨?_, fun _ => Int.le_refl _, fun x h => absurd rfl h, ?_⟩
  · unfold clampA; split <;> (try split) <;> omega
  · rw [sumTo_zero]; unfold clampA; split <;> (try split) <;> omega

def takeE (left : Int) (h : Int → Int) (id n : Int) : Int :=
  if isI id = true ∧ 1 ≤ n ∧ n ≤ 1000000000 then (if h id ≠ 0 then 8 else if n ≤ left then 0 else 9) else 1
def takeL (left : Int) (h : Int → Int) (id n : Int) : Int := if takeE left h id n = 0 then left - n else left
def takeH (left : Int) (h : Int → Int) (id n : Int) : Int → Int := if takeE left h id n = 0 then upd h id n else h
def backL (left : Int) (h : Int → Int) (id : Int) : Int := left + h id
def backH (h : Int → Int) (id : Int) : Int → Int := upd h id 0
theorem takeE_ok {left : Int} {h : Int → Int} {id n : Int} (e : takeE left h id n = 0) : (1 ≤ id ∧ id ≤ 999) ∧ (1 ≤ n ∧ n ≤ left) ∧ h id = 0 := by
  unfold takeE at e
  split at e
  · rename_i hc
    split at e
    · omega
    · split at e
      · exact ⟨isI_iff.1 hc.1, ⟨hc.2.1, by assumption⟩, by omega⟩
      · omega
  · omega
theorem Good.take {left : Int} {h : Int → Int} (g : Good left h) (id n : Int) : Good (takeL left h id n) (takeH left h id n) := by
  unfold takeL takeH
  by_cases e : takeE left h id n = 0
  · rw [if_pos e, if_pos e]
    obtain ⟨h1, h2, h3⟩ := takeE_ok e
    refine ⟨by omega, fun x => ?_, fun x hx => ?_, ?_⟩
    · by_cases hx : x = id
      · subst hx; rw [upd_same]; omega
      · rw [upd_other h n hx]; exact g.pos x
    · by_cases hx' : x = id
      · subst hx'; exact h1
      · rw [upd_other h n hx'] at hx; exact g.at_ x hx
    · have := g.tot
      rw [sumTo_upd, if_pos (by omega), h3]
      omega
  · rw [if_neg e, if_neg e]; exact g
theorem upd_id {h : Int → Int} {id v : Int} (e : h id = v) : upd h id v = h := by
  funext x
  by_cases hx : x = id
  · subst hx; rw [upd_same, e]
  · rw [upd_other h v hx]
theorem Good.back {left : Int} {h : Int → Int} (g : Good left h) (id : Int) : Good (backL left h id) (backH h id) := by
  unfold backL backH
  by_cases e : h id = 0
  · rw [upd_id e, e, Int.add_zero]; exact g
  · have h1 := g.at_ id e
    have h2 := g.pos id
    have h0 := g.nn
    refine ⟨by omega, fun x => ?_, fun x hx => ?_, ?_⟩
    · by_cases hx : x = id
      · subst hx; rw [upd_same]; omega
      · rw [upd_other h 0 hx]; exact g.pos x
    · by_cases hx' : x = id
      · subst hx'; exact h1
      · rw [upd_other h 0 hx'] at hx; exact g.at_ x hx
    · have := g.tot
      rw [sumTo_upd, if_pos (by omega)]
      omega
/-- Who holds some, rising. -/
def idsTo (h : Int → Int) (n : Nat) : List Int := ((List.range n).map (fun k : Nat => (k : Int))).filter (fun x => decide (h x ≠ 0))
def idsL (h : Int → Int) : List Int := idsTo h 1000
theorem idsTo_len (h : Int → Int) (n : Nat) : (idsTo h n).length ≤ n := by
  unfold idsTo
  refine Nat.le_trans (List.length_filter_le _ _) (by simp)
theorem mem_idsL {h : Int → Int} (hat : ∀ x, h x ≠ 0 → 1 ≤ x ∧ x ≤ 999) (x : Int) : x ∈ idsL h ↔ h x ≠ 0 := by
  unfold idsL idsTo
  rw [List.mem_filter, List.mem_map]
  constructor
  · rintro ⟨_, h2⟩; simpa using h2
  · intro hx
    have := hat x hx
    exact ⟨⟨x.toNat, by simp; omega, by omega⟩, by simpa using hx⟩
theorem idsTo_rise (h : Int → Int) (n : Nat) : (idsTo h n).Pairwise (· < ·) := by
  unfold idsTo
  refine List.Pairwise.filter _ ?_
  rw [List.pairwise_map]
  refine List.pairwise_lt_range.imp (fun h => by omega)
theorem idsL_zero : idsL (fun _ => 0) = [] := by
  unfold idsL idsTo
  rw [List.filter_eq_nil_iff]
  simp
end Go.Proofs.YthfgmpooehkhgaaGreatDoor.Bl
/-
  A tower of bells, plainly: how many tries a bell has, and of each id one more than the tries that are left (0: no bell).
-/
namespace Go.Proofs.YthfgmpooehkhgaaGreatDoor.Bl
open Go.RowKit

def clampT (r : Int) : Int := if r < 1 then 1 else if r ≤ 20 then r else 20
theorem clampT_bd (r : Int) : 1 ≤ clampT r ∧ clampT r ≤ 20 := by unfold clampT; split <;> (try split) <;> omega
theorem clampT_in {r : Int} (h1 : 1 ≤ r) (h2 : r ≤ 20) : clampT r = r := by unfold clampT; rw [if_neg (by omega), if_pos h2]
/-- The tries that are left. -/
def lf (v : Int) : Int := if v ≤ 1 then 0 else v - 1
theorem lf_up {v : Int} (h : 0 ≤ v) : lf (v + 1) = v := by unfold lf; split <;> omega
/-- What a tower keeps to. -/
structure GoodT (t : Int) (h : Int → Int) : Prop where
  lo : 1 ≤ t
  hi : t ≤ 20
  pos : ∀ x, 0 ≤ h x
  top : ∀ x, h x ≤ t + 1
  at_ : ∀ x, h x ≠ 0 → 1 ≤ x ∧ x ≤ 999
theorem GoodT.new {r : Int} : GoodT (clampT r) (fun _ => 0) := ⟨(clampT_bd r).1, (clampT_bd r).2, fun _ => Int.le_refl _, fun _ => by have := (clampT_bd r).1; show (0 : Int) ≤ _; omega, fun _ h => absurd rfl h⟩
theorem GoodT.upd {t : Int} {h : Int → Int} (g : GoodT t h) {id v : Int} (h0 : 0 ≤ v) (h1 : v ≤ t + 1) (hi : v ≠ 0 → 1 ≤ id ∧ id ≤ 999) : GoodT t (upd h id v) := by
  refine ⟨g.lo, g.hi, fun x => ?_, fun x => ?_, fun x hx => ?_⟩
  all_goals by_cases e : x = id
  · subst e; rw [upd_same]; exact h0
  · rw [upd_other h v e]; exact g.pos x
  · subst e; rw [upd_same]; exact h1
  · rw [upd_other h v e]; exact g.top x
  · subst e; rw [upd_same] at hx; exact hi hx
  · rw [upd_other h v e] at hx; exact g.at_ x hx
theorem GoodT.none {t : Int} {h : Int → Int} (g : GoodT t h) {id : Int} (hi : isI id = false) : h id = 0 := by
  rcases Decidable.em (h id = 0) with e | e
  · exact e
  · have := isI_iff.2 (g.at_ id e); rw [hi] at this; cases this
theorem GoodT.isI {t : Int} {h : Int → Int} (g : GoodT t h) {id : Int} (hi : h id ≠ 0) : isI id = true := isI_iff.2 (g.at_ id hi)

def hangB (h : Int → Int) (id : Int) : Bool := isI id && decide (h id = 0)
def hangH (t : Int) (h : Int → Int) (id : Int) : Int → Int := if hangB h id = true then upd h id (t + 1) else h
def hasB (h : Int → Int) (id : Int) : Bool := decide (h id ≠ 0)
def cutH (h : Int → Int) (id : Int) : Int → Int := upd h id 0
def oftB (h : Int → Int) (id : Int) : Bool := decide (h id = 1)
def ringH (h : Int → Int) (id : Int) : Int → Int := if h id ≤ 1 then h else upd h id (h id - 1)
def agnH (t : Int) (h : Int → Int) (id : Int) : Int → Int := if h id = 0 then h else upd h id (t + 1)
theorem GoodT.hang {t : Int} {h : Int → Int} (g : GoodT t h) (id : Int) : GoodT t (hangH t h id) := by
  unfold hangH
  split
  · rename_i e
    unfold hangB at e
    simp only [Bool.and_eq_true] at e
    exact g.upd (by have := g.lo; omega) (Int.le_refl _) (fun _ => isI_iff.1 e.1)
  · exact g
theorem GoodT.cut {t : Int} {h : Int → Int} (g : GoodT t h) (id : Int) : GoodT t (cutH h id) := g.upd (Int.le_refl _) (by have := g.lo; omega) (fun e => absurd rfl e)
theorem GoodT.ring {t : Int} {h : Int → Int} (g : GoodT t h) (id : Int) : GoodT t (ringH h id) := by
  unfold ringH
  split
  · exact g
  · exact g.upd (by omega) (by have := g.top id; omega) (fun _ => g.at_ id (by omega))
theorem GoodT.agn {t : Int} {h : Int → Int} (g : GoodT t h) (id : Int) : GoodT t (agnH t h id) := by
  unfold agnH
  split
  · exact g
  · rename_i e
    exact g.upd (by have := g.lo; omega) (Int.le_refl _) (fun _ => g.at_ id e)
theorem cutH_no {h : Int → Int} {id : Int} (e : h id = 0) : cutH h id = h := upd_id e
end Go.Proofs.YthfgmpooehkhgaaGreatDoor.Bl
