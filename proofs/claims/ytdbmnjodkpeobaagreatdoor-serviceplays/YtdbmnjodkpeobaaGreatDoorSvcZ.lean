/-
  Contract of service's Handle.
-/
import Derived.Test.YtdbmnjodkpeobaaGreatDoorSvcY
namespace Go.Proofs.YtdbmnjodkpeobaaGreatDoor
open Go.ChangeShapes Go.WideShapes Go.ChangeAt Go.RowKit Go.Maps

/-- What Handle leaves: its answer, a row of its own; the service behind it. -/
def Hand (B : Nat) (E : Nat → Prop) (w : World) (p : Nat) (v' : Sv) (n' : Nat) (xs : List Ms.Mg) (e : Ending) (w' : World) : Prop :=
  ∃ a c E', e = .returned (.slice a xs.length c) ∧ Ms.Mgs w' a xs ∧ (a = none → xs = []) ∧ (∀ ad, a = some ad → ¬ E' ad.block ∧ w.heap.size ≤ ad.block) ∧ (∀ k, E' k → growE E w w' k) ∧ Nd B E' w' p v' n' ∧ Rg.Kept (fun k _ => E k) w w'
theorem hand_no {B : Nat} {E E' : Nat → Prop} {w w' : World} {p : Nat} {v' : Sv} {n' : Nat} (k : Nd B E' w' p v' n') (hE : ∀ k, E' k → growE E w w' k) (hk : Rg.Kept (fun k _ => E k) w w') : Hand B E w p v' n' [] (.returned (.slice none 0 0)) w' :=
  ⟨none, 0, E', rfl, .inl rfl, fun _ => rfl, (fun _ e => by cases e), hE, k, hk⟩

theorem hand_one {B : Nat} {E : Nat → Prop} {w u u' : World} {p : Nat} {v' : Sv} {n' : Nat} {K nd m3 m4 : Int} (k : Nd B (growE E w u) u p v' n') (hk : Rg.Kept (fun k _ => E k) w u)
    (e1 : Below (u.alloc (.cells #[.int .i64 K, .int .i64 nd, .int .i64 0, .int .i64 m3, .int .i64 m4, .int .i64 0, .int .i64 0] 29)).heap.size (u.alloc (.cells #[.int .i64 K, .int .i64 nd, .int .i64 0, .int .i64 m3, .int .i64 m4, .int .i64 0, .int .i64 0] 29)) u') :
    Hand B E w p v' n' [⟨K, nd, 0, m3, m4, 0, 0⟩] (.returned (.slice (some ⟨u.heap.size, 0, none⟩) 1 1)) u' := by
  have hbA : Below u.heap.size u u' := bel_on' ((Below.refl _ _).alloc (Nat.le_refl _) _) e1
  have hm := (Ms.mgs_new u [⟨K, nd, 0, m3, m4, 0, 0⟩] #[.int .i64 K, .int .i64 nd, .int .i64 0, .int .i64 m3, .int .i64 m4, .int .i64 0, .int .i64 0] rfl).below e1
  refine ⟨_, 1, growE E w u, rfl, hm, (fun e => by cases e), fun ad e => ?_, fun k e => e.imp (fun e => e) (fun e => ⟨e.1, Nat.lt_of_lt_of_le e.2 hbA.size⟩), k.on hbA, hk.trans (Rg.Kept.of_below hbA)⟩
  cases e
  have h0 := hk.size
  exact ⟨fun e => by have : u.heap.size < u.heap.size := (k.1 _ e).2; omega, h0⟩

section
variable {B : Nat} {E : Nat → Prop} {w : World} {p : Nat} {v : Sv} {n : Nat}
theorem do_good (h : GoodSv v) (hd : v.down = false) {id a : Int} (hi : 1 ≤ id ∧ id ≤ 999) (hl : v.st.left ≤ 1000000000) : GoodSv (doS v id a) := by
  unfold doS
  split
  · exact noteS_good h hd (tried_ok hi hl)
  · exact h
theorem undo_good (h : GoodSv v) (hd : v.down = false) {id : Int} (hi : 1 ≤ id ∧ id ≤ 999) : GoodSv (undoS v id) := by
  unfold undoS
  split
  · exact noteS_good h hd (undid_ok hi)
  · exact h
theorem doS_node (v : Sv) (id a : Int) : (doS v id a).node = v.node := by
  unfold doS noteS
  split
  · split <;> rfl
  · rfl
theorem undoS_node (v : Sv) (id : Int) : (undoS v id).node = v.node := by
  unfold undoS noteS
  split
  · split <;> rfl
  · rfl
set_option maxHeartbeats 2000000 in
theorem shandle_any (k : Nd B E w p v n) (hg : ∀ u, Rg.Kept (fun k _ => E k) w u → Gl u) (m : Ms.Mg) (hn : n < 700000) :
    Calls Tryz.prog 15 #[.pointer (some ⟨p, 0, none⟩), .agg #[.int .i64 m.k, .int .i64 m.fr, .int .i64 m.to, .int .i64 m.id, .int .i64 m.st, .int .i64 m.a, .int .i64 m.b]] w (Hand B E w p (hdS v m) (n + 3) (hdA v m)) := by
  obtain ⟨hE, hG, q, r, pb, mb, sb, k0⟩ := id k
  obtain ⟨W, hW⟩ : ∃ W, W = w.alloc (.cells #[.int .i64 m.k, .int .i64 m.fr, .int .i64 m.to, .int .i64 m.id, .int .i64 m.st, .int .i64 m.a, .int .i64 m.b] 29) := ⟨_, rfl⟩
  have hb0 : Below w.heap.size w W := by rw [hW]; exact (Below.refl _ _).alloc (Nat.le_refl _) _
  have hbx : W.heap[w.heap.size]? = some (.cells #[.int .i64 m.k, .int .i64 m.fr, .int .i64 m.to, .int .i64 m.id, .int .i64 m.st, .int .i64 m.a, .int .i64 m.b] 29 (0, 0)) := by rw [hW]; exact World.alloc_heap_new w _
  have H := shears_any (k0.on hb0) m
  have HW := hide hW
  have NO : Hid (∀ u, Below W.heap.size W u → Hand B E w p v (n + 3) [] (.returned (.slice none 0 0)) u) := fun u hu =>
      hand_no ((k.on (bel_on' hb0 hu)).more (by omega)) (fun _ e => .inl e) (Rg.Kept.of_below (bel_on' hb0 hu))
  cases hh : hearsB v m
  · have e1 : hdS v m = v := by unfold hdS; rw [hh]; rfl
    have e2 : hdA v m = [] := by unfold hdA hdK; rw [hh]; rfl
    rw [e1, e2]
    rw [hh] at H
    rw [hW] at H
    clear hh hE hG k0 k hg hbx hb0 e1 e2
    go_enter Tryz.func15, Tryz.ntmps15
    go_wp2_with (go_at_call 34; refine H.mono ?_; clear H; rintro e u1 ⟨rfl, hb1⟩; rw [← HW.out] at hb1; have HX := hide (NO.out u1 hb1); clear hb1 NO)
    go_ret
    exact HX.out
  · obtain ⟨hd, hto, hfr, hi⟩ := hears_of hh
    rw [hh] at H
    by_cases hk1 : m.k = 1
    · have e1 : hdS v m = doS v m.id m.a := by unfold hdS; rw [hh, if_pos rfl, if_pos hk1]
      have e2 : hdA v m = if doK v m.id m.a = 0 then [] else [⟨doK v m.id m.a, v.node, 0, m.id, m.st, 0, 0⟩] := by unfold hdA hdK; rw [hh, if_pos rfl, if_pos hk1]
      rw [e1, e2]
      clear e1 e2 NO
      have NX : Hid (∀ u, Below W.heap.size W u → Calls Tryz.prog 35 #[.pointer (some ⟨p, 0, none⟩), .int .i64 m.id, .int .i64 m.a] u fun e w' => e = .returned (.int .i64 (doK v m.id m.a)) ∧ w'.heap[w.heap.size]? = some (.cells #[.int .i64 m.k, .int .i64 m.fr, .int .i64 m.to, .int .i64 m.id, .int .i64 m.st, .int .i64 m.a, .int .i64 m.b] 29 (0, 0)) ∧ w'.cell? ⟨p, 0, none⟩ = some (.int .i64 v.node) ∧ Nd B (growE E w w') w' p (doS v m.id m.a) (n + 3) ∧ Rg.Kept (fun k _ => E k) w w') := fun u hu => by
        have hbu := bel_on' hb0 hu
        have hku : Rg.Kept (fun k _ => E k) w u := Rg.Kept.of_below hbu
        refine (sdo_any (k0.on hbu) (fun i e => Nat.lt_of_lt_of_le (hE i e).2 hbu.size) (fun u' h' => hg u' (hku.trans h')) hd hi (by omega)).mono ?_
        rintro e w' ⟨h1, ⟨r', h2⟩, h3⟩
        have h4 := h2.wide (E' := growE E w w') (fun i e => e.imp (fun e => e) (fun e => ⟨Nat.le_trans hbu.size e.1, e.2⟩))
        refine ⟨h1, h3.block _ _ ((hu.block _ (Array.getElem?_eq_some_iff.1 hbx).1).trans hbx) (fun e => by have := (hE _ e).2; omega), ?_, ⟨grow_in hE k.low (Nat.le_trans hbu.size h3.size), do_good hG hd hi (Sv.left_le k0), q, r', pb, mb, sb, h4⟩, hku.trans h3⟩
        rw [h4.cells.1, doS_node]
      generalize doS v m.id m.a = v2 at NX ⊢
      generalize doK v m.id m.a = K at NX ⊢
      have CU : Hid (∀ u, Below W.heap.size W u → u.cell? ⟨w.heap.size, 0, none⟩ = some (.int .i64 m.k) ∧ u.cell? ⟨w.heap.size, 1, none⟩ = some (.int .i64 m.fr) ∧ u.cell? ⟨w.heap.size, 2, none⟩ = some (.int .i64 m.to) ∧ u.cell? ⟨w.heap.size, 3, none⟩ = some (.int .i64 m.id) ∧ u.cell? ⟨w.heap.size, 4, none⟩ = some (.int .i64 m.st) ∧ u.cell? ⟨w.heap.size, 5, none⟩ = some (.int .i64 m.a) ∧ u.cell? ⟨w.heap.size, 6, none⟩ = some (.int .i64 m.b)) := fun u hu => seven_of ((hu.block _ (Array.getElem?_eq_some_iff.1 hbx).1).trans hbx)
      rw [hW] at H
      clear hh hE hG k0 k hg hbx hb0 hto hfr hi hd hW
      obtain ⟨m0, m1, m2, m3, m4, m5, m6⟩ := m
      obtain rfl : m0 = 1 := hk1
      simp only at *
      generalize v.node = nd at NX ⊢
      by_cases hK : K = 0
      · subst hK
        rw [if_pos rfl]
        have FX : Hid (∀ u, Nd B (growE E w u) u p v2 (n + 3) → Rg.Kept (fun k _ => E k) w u → Hand B E w p v2 (n + 3) [] (.returned (.slice none 0 0)) u) := fun u h1 h2 => hand_no h1 (fun _ e => e) h2
        go_enter Tryz.func15, Tryz.ntmps15
        go_wp2_with (first
          | (go_at_call 34; refine H.mono ?_; clear H; rintro e u1 ⟨rfl, hb1⟩; rw [← HW.out] at hb1; have DX := NX.out u1 hb1; obtain ⟨a0, a1, a2, a3, a4, a5, a6⟩ := CU.out u1 hb1; clear hb1 NX CU)
          | (go_at_call 35; refine DX.mono ?_; clear DX; rintro e u2 ⟨rfl, hx, hp, hnd, hkk⟩; clear a0 a1 a2 a3 a4 a5 a6; obtain ⟨a0, a1, a2, a3, a4, a5, a6⟩ := seven_of hx; have HX := hide (FX.out u2 hnd hkk); clear hnd hkk FX hx))
        go_ret
        exact HX.out
      · rw [if_neg hK]
        have qK : (K == 0) = false := by simp [hK]
        clear hK
        have FX : Hid (∀ u, Nd B (growE E w u) u p v2 (n + 3) → Rg.Kept (fun k _ => E k) w u → ∀ u' : World, Below (u.alloc (.cells #[.int .i64 K, .int .i64 nd, .int .i64 0, .int .i64 m3, .int .i64 m4, .int .i64 0, .int .i64 0] 29)).heap.size (u.alloc (.cells #[.int .i64 K, .int .i64 nd, .int .i64 0, .int .i64 m3, .int .i64 m4, .int .i64 0, .int .i64 0] 29)) u' → Hand B E w p v2 (n + 3) [⟨K, nd, 0, m3, m4, 0, 0⟩] (.returned (.slice (some ⟨u.heap.size, 0, none⟩) 1 1)) u') := fun u h1 h2 u' e1 => hand_one h1 h2 e1
        go_enter Tryz.func15, Tryz.ntmps15
        go_wp2_with (first
          | (go_at_call 34; refine H.mono ?_; clear H; rintro e u1 ⟨rfl, hb1⟩; rw [← HW.out] at hb1; have DX := NX.out u1 hb1; obtain ⟨a0, a1, a2, a3, a4, a5, a6⟩ := CU.out u1 hb1; clear hb1 NX CU)
          | (go_at_call 35; refine DX.mono ?_; clear DX; rintro e u2 ⟨rfl, hx, hp, hnd, hkk⟩; clear a0 a1 a2 a3 a4 a5 a6; obtain ⟨a0, a1, a2, a3, a4, a5, a6⟩ := seven_of hx; have HX := hide (FX.out u2 hnd hkk); clear hnd hkk FX hx))
        go_region
        all_goals go_wp2
        all_goals go_ret
        all_goals exact HX.out _ (Below.refl _ _).drew
    · by_cases hk4 : m.k = 4
      · have e1 : hdS v m = undoS v m.id := by unfold hdS; rw [hh, if_pos rfl, if_neg hk1, if_pos hk4]
        have e2 : hdA v m = if undoK v m.id = 0 then [] else [⟨undoK v m.id, v.node, 0, m.id, m.st, 0, 0⟩] := by unfold hdA hdK; rw [hh, if_pos rfl, if_neg hk1, if_pos hk4]
        rw [e1, e2]
        clear e1 e2 NO hk1
        have NX : Hid (∀ u, Below W.heap.size W u → Calls Tryz.prog 36 #[.pointer (some ⟨p, 0, none⟩), .int .i64 m.id] u fun e w' => e = .returned (.int .i64 (undoK v m.id)) ∧ w'.heap[w.heap.size]? = some (.cells #[.int .i64 m.k, .int .i64 m.fr, .int .i64 m.to, .int .i64 m.id, .int .i64 m.st, .int .i64 m.a, .int .i64 m.b] 29 (0, 0)) ∧ w'.cell? ⟨p, 0, none⟩ = some (.int .i64 v.node) ∧ Nd B (growE E w w') w' p (undoS v m.id) (n + 3) ∧ Rg.Kept (fun k _ => E k) w w') := fun u hu => by
          have hbu := bel_on' hb0 hu
          have hku : Rg.Kept (fun k _ => E k) w u := Rg.Kept.of_below hbu
          refine (sundo_any (k0.on hbu) (fun i e => Nat.lt_of_lt_of_le (hE i e).2 hbu.size) (fun u' h' => hg u' (hku.trans h')) hd hi (by omega)).mono ?_
          rintro e w' ⟨h1, ⟨r', h2⟩, h3⟩
          have h4 := h2.wide (E' := growE E w w') (fun i e => e.imp (fun e => e) (fun e => ⟨Nat.le_trans hbu.size e.1, e.2⟩))
          refine ⟨h1, h3.block _ _ ((hu.block _ (Array.getElem?_eq_some_iff.1 hbx).1).trans hbx) (fun e => by have := (hE _ e).2; omega), ?_, ⟨grow_in hE k.low (Nat.le_trans hbu.size h3.size), undo_good hG hd hi, q, r', pb, mb, sb, h4⟩, hku.trans h3⟩
          rw [h4.cells.1, undoS_node]
        generalize undoS v m.id = v2 at NX ⊢
        generalize undoK v m.id = K at NX ⊢
        have CU : Hid (∀ u, Below W.heap.size W u → u.cell? ⟨w.heap.size, 0, none⟩ = some (.int .i64 m.k) ∧ u.cell? ⟨w.heap.size, 1, none⟩ = some (.int .i64 m.fr) ∧ u.cell? ⟨w.heap.size, 2, none⟩ = some (.int .i64 m.to) ∧ u.cell? ⟨w.heap.size, 3, none⟩ = some (.int .i64 m.id) ∧ u.cell? ⟨w.heap.size, 4, none⟩ = some (.int .i64 m.st) ∧ u.cell? ⟨w.heap.size, 5, none⟩ = some (.int .i64 m.a) ∧ u.cell? ⟨w.heap.size, 6, none⟩ = some (.int .i64 m.b)) := fun u hu => seven_of ((hu.block _ (Array.getElem?_eq_some_iff.1 hbx).1).trans hbx)
        rw [hW] at H
        clear hh hE hG k0 k hg hbx hb0 hto hfr hi hd hW
        obtain ⟨m0, m1, m2, m3, m4, m5, m6⟩ := m
        obtain rfl : m0 = 4 := hk4
        simp only at *
        generalize v.node = nd at NX ⊢
        by_cases hK : K = 0
        · subst hK
          rw [if_pos rfl]
          have FX : Hid (∀ u, Nd B (growE E w u) u p v2 (n + 3) → Rg.Kept (fun k _ => E k) w u → Hand B E w p v2 (n + 3) [] (.returned (.slice none 0 0)) u) := fun u h1 h2 => hand_no h1 (fun _ e => e) h2
          go_enter Tryz.func15, Tryz.ntmps15
          go_wp2_with (first
            | (go_at_call 34; refine H.mono ?_; clear H; rintro e u1 ⟨rfl, hb1⟩; rw [← HW.out] at hb1; have DX := NX.out u1 hb1; obtain ⟨a0, a1, a2, a3, a4, a5, a6⟩ := CU.out u1 hb1; clear hb1 NX CU)
            | (go_at_call 36; refine DX.mono ?_; clear DX; rintro e u2 ⟨rfl, hx, hp, hnd, hkk⟩; clear a0 a1 a2 a3 a4 a5 a6; obtain ⟨a0, a1, a2, a3, a4, a5, a6⟩ := seven_of hx; have HX := hide (FX.out u2 hnd hkk); clear hnd hkk FX hx))
          go_ret
          exact HX.out
        · rw [if_neg hK]
          have qK : (K == 0) = false := by simp [hK]
          clear hK
          have FX : Hid (∀ u, Nd B (growE E w u) u p v2 (n + 3) → Rg.Kept (fun k _ => E k) w u → ∀ u' : World, Below (u.alloc (.cells #[.int .i64 K, .int .i64 nd, .int .i64 0, .int .i64 m3, .int .i64 m4, .int .i64 0, .int .i64 0] 29)).heap.size (u.alloc (.cells #[.int .i64 K, .int .i64 nd, .int .i64 0, .int .i64 m3, .int .i64 m4, .int .i64 0, .int .i64 0] 29)) u' → Hand B E w p v2 (n + 3) [⟨K, nd, 0, m3, m4, 0, 0⟩] (.returned (.slice (some ⟨u.heap.size, 0, none⟩) 1 1)) u') := fun u h1 h2 u' e1 => hand_one h1 h2 e1
          go_enter Tryz.func15, Tryz.ntmps15
          go_wp2_with (first
            | (go_at_call 34; refine H.mono ?_; clear H; rintro e u1 ⟨rfl, hb1⟩; rw [← HW.out] at hb1; have DX := NX.out u1 hb1; obtain ⟨a0, a1, a2, a3, a4, a5, a6⟩ := CU.out u1 hb1; clear hb1 NX CU)
            | (go_at_call 36; refine DX.mono ?_; clear DX; rintro e u2 ⟨rfl, hx, hp, hnd, hkk⟩; clear a0 a1 a2 a3 a4 a5 a6; obtain ⟨a0, a1, a2, a3, a4, a5, a6⟩ := seven_of hx; have HX := hide (FX.out u2 hnd hkk); clear hnd hkk FX hx))
          go_region
          all_goals go_wp2
          all_goals go_ret
          all_goals exact HX.out _ (Below.refl _ _).drew

      · have e1 : hdS v m = v := by unfold hdS; rw [hh, if_pos rfl, if_neg hk1, if_neg hk4]
        have e2 : hdA v m = [] := by unfold hdA hdK; rw [hh, if_pos rfl, if_neg hk1, if_neg hk4]; rfl
        rw [e1, e2]
        have CU : Hid (∀ u, Below W.heap.size W u → u.cell? ⟨w.heap.size, 0, none⟩ = some (.int .i64 m.k)) := fun u hu => (seven_of ((hu.block _ (Array.getElem?_eq_some_iff.1 hbx).1).trans hbx)).1
        rw [hW] at H
        have q1 : (m.k == 1) = false := by simp [hk1]
        have q4 : (m.k == 4) = false := by simp [hk4]
        generalize m.k = m0 at *
        clear hh hE hG k0 k hg hbx hb0 hto hfr hi hd hW e1 e2 hk1 hk4
        go_enter Tryz.func15, Tryz.ntmps15
        go_wp2_with (go_at_call 34; refine H.mono ?_; clear H; rintro e u1 ⟨rfl, hb1⟩; rw [← HW.out] at hb1; have a0 := CU.out u1 hb1; have HX := hide (NO.out u1 hb1); clear hb1 NO CU)
        go_ret
        exact HX.out
end
end Go.Proofs.YtdbmnjodkpeobaaGreatDoor
