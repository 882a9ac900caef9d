/-
  A book of parcels, plainly: a row of (id, item, how many), in the order in which they went.
-/
import Derived.Test.YtkaniplkobnpjaaSckM
namespace Go.Proofs.Ytkaniplkobnpjaa
open Go.RowKit

/-- A parcel: whose, of which item, how many. -/
def findP : List (Int × Int × Int) → Int → Option (Int × Int)
  | [], _ => none
  | p :: l, id => if p.1 = id then some p.2 else findP l id
def wentP (l : List (Int × Int × Int)) (k : Int) : Int := (l.map (fun p => if p.2.1 = k then p.2.2 else 0)).sum
def idsP (l : List (Int × Int × Int)) : List Int := l.map (fun p => p.1)
/-- What a book keeps to. -/
structure GoodC (l : List (Int × Int × Int)) : Prop where
  nd : (idsP l).Nodup
  at_ : ∀ p ∈ l, (1 ≤ p.1 ∧ p.1 ≤ 999) ∧ (0 ≤ p.2.1 ∧ p.2.1 < 8) ∧ 1 ≤ p.2.2 ∧ p.2.2 ≤ 1000000000
def shipE (l : List (Int × Int × Int)) (id k q : Int) : Int :=
  if isI id = true ∧ isIt k = true ∧ 1 ≤ q ∧ q ≤ 1000000000 then (if (findP l id).isSome = true then 8 else 0) else 1
def shipL (l : List (Int × Int × Int)) (id k q : Int) : List (Int × Int × Int) := if shipE l id k q = 0 then l ++ [(id, k, q)] else l
theorem shipL_ok {l : List (Int × Int × Int)} {id k q : Int} (e : shipE l id k q = 0) : shipL l id k q = l ++ [(id, k, q)] := if_pos e
theorem shipL_no {l : List (Int × Int × Int)} {id k q : Int} (e : shipE l id k q ≠ 0) : shipL l id k q = l := if_neg e
theorem shipE_arg {l : List (Int × Int × Int)} {id k q : Int} (h : ¬ (isI id = true ∧ isIt k = true ∧ 1 ≤ q ∧ q ≤ 1000000000)) : shipE l id k q = 1 := if_neg h
theorem shipE_of {l : List (Int × Int × Int)} {id k q : Int} (h : isI id = true ∧ isIt k = true ∧ 1 ≤ q ∧ q ≤ 1000000000) : shipE l id k q = if (findP l id).isSome = true then 8 else 0 := if_pos h
theorem shipE_ok {l : List (Int × Int × Int)} {id k q : Int} (e : shipE l id k q = 0) : (1 ≤ id ∧ id ≤ 999) ∧ (0 ≤ k ∧ k < 8) ∧ (1 ≤ q ∧ q ≤ 1000000000) ∧ findP l id = none := by
  unfold shipE at e
  split at e
  · rename_i hc
    split at e
    · omega
    · rename_i hs
      exact ⟨isI_iff.1 hc.1, isIt_iff.1 hc.2.1, hc.2.2, by simpa using hs⟩
  · omega
theorem findP_none {l : List (Int × Int × Int)} {id : Int} : findP l id = none ↔ id ∉ idsP l := by
  induction l with
  | nil => simp [findP, idsP]
  | cons p l ih =>
    unfold idsP at ih ⊢
    rw [List.map_cons, List.mem_cons, findP]
    by_cases e : p.1 = id
    · rw [if_pos e]; simp [e]
    · rw [if_neg e, ih]
      exact ⟨fun h x => x.elim (fun x => e x.symm) h, fun h x => h (.inr x)⟩
theorem findP_app (l l' : List (Int × Int × Int)) (id : Int) : findP (l ++ l') id = (findP l id).or (findP l' id) := by
  induction l with
  | nil => rfl
  | cons p l ih =>
    rw [List.cons_append, findP, findP]
    split
    · rfl
    · exact ih
theorem findP_one (id k q x : Int) : findP [(id, k, q)] x = if id = x then some (k, q) else none := rfl
/-- Behind a parcel that went. -/
theorem findP_ship {l : List (Int × Int × Int)} {id k q : Int} (e : shipE l id k q = 0) (x : Int) : findP (shipL l id k q) x = if id = x then some (k, q) else findP l x := by
  rw [shipL_ok e, findP_app, findP_one]
  by_cases h : id = x
  · subst h; rw [if_pos rfl, if_pos rfl, (shipE_ok e).2.2.2]; rfl
  · rw [if_neg h, if_neg h]; cases findP l x <;> rfl
theorem findP_at {l : List (Int × Int × Int)} {id : Int} {c : Int × Int} (h : findP l id = some c) : (id, c.1, c.2) ∈ l := by
  induction l with
  | nil => cases h
  | cons p l ih =>
    rw [findP] at h
    split at h
    · rename_i e
      cases h
      subst e
      exact List.mem_cons_self ..
    · exact List.mem_cons_of_mem _ (ih h)
theorem wentP_app (l l' : List (Int × Int × Int)) (k : Int) : wentP (l ++ l') k = wentP l k + wentP l' k := by unfold wentP; rw [List.map_append, List.sum_append]
theorem wentP_one (id k q x : Int) : wentP [(id, k, q)] x = if k = x then q else 0 := by unfold wentP; rw [List.map_singleton, List.sum_singleton]
theorem wentP_cons (p : Int × Int × Int) (l : List (Int × Int × Int)) (k : Int) : wentP (p :: l) k = (if p.2.1 = k then p.2.2 else 0) + wentP l k := by unfold wentP; rw [List.map_cons, List.sum_cons]
theorem wentP_ship {l : List (Int × Int × Int)} {id k q : Int} (e : shipE l id k q = 0) (x : Int) : wentP (shipL l id k q) x = wentP l x + if k = x then q else 0 := by rw [shipL_ok e, wentP_app, wentP_one]
theorem idsP_ship {l : List (Int × Int × Int)} {id k q : Int} (e : shipE l id k q = 0) : idsP (shipL l id k q) = idsP l ++ [id] := by rw [shipL_ok e]; unfold idsP; rw [List.map_append]; rfl
theorem idsP_len (l : List (Int × Int × Int)) : (idsP l).length = l.length := by unfold idsP; rw [List.length_map]
theorem GoodC.new : GoodC [] := ⟨List.nodup_nil, fun _ h => by cases h⟩
theorem GoodC.ship {l : List (Int × Int × Int)} (g : GoodC l) (id k q : Int) : GoodC (shipL l id k q) := by
  by_cases e : shipE l id k q = 0
  · obtain ⟨h1, h2, h3, h4⟩ := shipE_ok e
    refine ⟨?_, ?_⟩
    · rw [idsP_ship e, List.nodup_append]
      refine ⟨g.nd, by simp, fun a ha b hb => ?_⟩
      rw [List.mem_singleton] at hb
      subst hb
      exact fun e => findP_none.1 h4 (e ▸ ha)
    · rw [shipL_ok e]
      intro p hp
      rcases List.mem_append.1 hp with h | h
      · exact g.at_ p h
      · rw [List.mem_singleton] at h
        subst h
        exact ⟨h1, h2, h3⟩
  · rw [shipL_no e]; exact g
theorem nodup_few : ∀ (N : Nat) (l : List Int), l.Nodup → (∀ x ∈ l, 0 ≤ x ∧ x < N) → l.length ≤ N := fun N l hn hb => by
  have h1 := sum_nodup (N := N) l (fun x => if x ∈ l then 1 else 0) hn hb (fun x hx => if_neg hx)
  have h2 : l.map (fun x => if x ∈ l then (1 : Int) else 0) = l.map (fun _ => 1) := List.map_congr_left (fun x hx => if_pos hx)
  have h3 : ∀ m : List Int, (m.map (fun _ => (1 : Int))).sum = m.length := fun m => by
    induction m with
    | nil => rfl
    | cons a m ih => rw [List.map_cons, List.sum_cons, ih, List.length_cons]; omega
  have h4 : ∀ n : Nat, sumTo (fun x => if x ∈ l then (1 : Int) else 0) n ≤ n := fun n => by
    induction n with
    | zero => exact Int.le_refl _
    | succ n ih =>
      rw [sumTo]
      have : (if ((n : Int)) ∈ l then (1 : Int) else 0) ≤ 1 := by split <;> omega
      omega
  rw [h2, h3] at h1
  have := h4 N
  omega
theorem GoodC.len {l : List (Int × Int × Int)} (g : GoodC l) : l.length ≤ 1000 := by
  rw [← idsP_len]
  refine nodup_few 1000 _ g.nd (fun x hx => ?_)
  unfold idsP at hx
  obtain ⟨p, hp, rfl⟩ := List.mem_map.1 hx
  have := (g.at_ p hp).1
  omega
theorem wentP_bd {l : List (Int × Int × Int)} (h : ∀ p ∈ l, 0 ≤ p.2.2 ∧ p.2.2 ≤ 1000000000) (k : Int) : 0 ≤ wentP l k ∧ wentP l k ≤ 1000000000 * l.length := by
  induction l with
  | nil => exact ⟨Int.le_refl _, Int.le_refl _⟩
  | cons p l ih =>
    have h1 := ih (fun p hp => h p (List.mem_cons_of_mem _ hp))
    have h2 := h p (List.mem_cons_self ..)
    rw [wentP_cons, List.length_cons]
    split <;> omega
theorem GoodC.went {l : List (Int × Int × Int)} (g : GoodC l) (k : Int) : 0 ≤ wentP l k ∧ wentP l k ≤ 1000000000000 := by
  have h1 := wentP_bd (fun p hp => by have := (g.at_ p hp).2.2; omega) k (l := l)
  have h2 := g.len
  omega
/-- Of a beginning no more went. -/
theorem wentP_pre {l l' : List (Int × Int × Int)} (h : ∀ p ∈ l', 0 ≤ p.2.2 ∧ p.2.2 ≤ 1000000000) (k : Int) : wentP l k ≤ wentP (l ++ l') k := by
  rw [wentP_app]
  have := (wentP_bd h k).1
  omega
end Go.Proofs.Ytkaniplkobnpjaa
