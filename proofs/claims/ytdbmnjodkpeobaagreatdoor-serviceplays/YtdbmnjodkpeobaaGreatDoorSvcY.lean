/-
  Contracts of service's do, undo.
-/
import Derived.Test.YtdbmnjodkpeobaaGreatDoorBd20
namespace Go.Proofs.YtdbmnjodkpeobaaGreatDoor
open Go.ChangeShapes Go.WideShapes Go.ChangeAt Go.RowKit Go.Maps

section
variable {B : Nat} {E : Nat → Prop} {w : World} {p : Nat} {v : Sv} {n q : Nat} {r : Value} {pb mb sb : Nat}
theorem Sv.left_le {w : World} (k : NdV B E w p v n q r pb mb sb) : v.st.left ≤ 1000000000 := by
  have := k.bk.good.tot
  have := Hd.sumTo_nonneg k.bk.good.pos 1000
  omega
set_option maxHeartbeats 1000000 in
theorem sdo_any (k : NdV B E w p v n q r pb mb sb) (hE : ∀ k, E k → k < w.heap.size) (hg : ∀ u, Rg.Kept (fun k _ => E k) w u → Gl u) (hd : v.down = false) {id a : Int} (hi : 1 ≤ id ∧ id ≤ 999) (hn : n < 700000) :
    Calls Tryz.prog 35 #[.pointer (some ⟨p, 0, none⟩), .int .i64 id, .int .i64 a] w fun e w' => e = .returned (.int .i64 (doK v id a)) ∧ (∃ r', NdV B (growE E w w') w' p (doS v id a) (n + 3) q r' pb mb sb) ∧ Rg.Kept (fun k _ => E k) w w' := by
  have hw : (Lit.int .i64 id).wf = true := Hd.wf_of (by omega) (by omega)
  have S := sstate_any k hw
  by_cases hs : v.st.s id = 0
  · have T := stried_any k hE (a := a) hw (by omega)
    have hok := tried_ok (t := v.st) (a := a) hi (Sv.left_le k)
    rw [hs] at S
    have NT : Hid (∀ x c u, Ints u x (nB (triedE v.st id a)) → (∀ ad, x = some ad → ¬ E ad.block ∧ ad.block < u.heap.size) → NdV B E u p v (n + 1) q r pb mb sb → Rg.Kept (fun k _ => E k) w u →
        Calls Tryz.prog 53 #[.pointer (some ⟨p, 0, none⟩), .agg #[.string (kB (triedE v.st id a).c), .int .i64 (triedE v.st id a).id, .slice x (nB (triedE v.st id a)).length c]] u fun x w' => x = .returned (.bool (hasRoom v)) ∧ (∃ r', NdV B (growE E w w') w' p (doS v id a) (n + 3) q r' pb mb sb) ∧ Rg.Kept (fun k _ => E k) w w') := fun x c u h1 h2 h3 h4 => by
      refine (snote_any h3 (fun i e => Nat.lt_of_lt_of_le (hE i e) h4.size) (hg u h4) hd hok h1 h2 (by omega)).mono ?_
      rintro y w' ⟨h5, ⟨r', h6⟩, h7⟩
      refine ⟨h5, ⟨r', ?_⟩, h4.trans h7⟩
      have h8 := h6.wide (E' := growE E w w') (fun i e => e.imp (fun e => e) (fun e => ⟨Nat.le_trans h4.size e.1, e.2⟩))
      unfold doS
      rw [if_pos hs]
      exact h8
    have SS : Hid (∀ u r', NdV B (growE E w u) u p (doS v id a) (n + 3) q r' pb mb sb → Calls Tryz.prog 17 #[.pointer (some ⟨p, 0, none⟩), .int .i64 id] u fun e w' => e = .returned (.int .i64 ((doS v id a).st.s id)) ∧ u = w') := fun u r' h => sstate_any h hw
    generalize triedE v.st id a = t at T NT
    generalize kB t.c = K at T NT
    generalize t.id = ei at T NT
    generalize (nB t).length = ln at T NT
    unfold doK
    cases hR : hasRoom v
    · rw [if_pos ⟨hs, rfl⟩]
      rw [hR] at NT
      clear SS hR hs hok hg hE hd k hw
      go_enter Tryz.func35, Tryz.ntmps35
      go_wp2_with (first
        | (go_at_call 17; refine S.mono ?_; clear S; rintro e w' ⟨rfl, rfl⟩)
        | (go_at_call 54; refine T.mono ?_; clear T; rintro e u1 ⟨x, c, rfl, h1, h2, h3, h4⟩; have N1 := NT.out x c u1 h1 h2 h3 h4; clear NT h1 h2 h3 h4)
        | (go_at_call 53; refine N1.mono ?_; clear N1; rintro e u2 ⟨rfl, hx⟩; have HX := hide hx; clear hx))
      go_ret
      exact ⟨rfl, HX.out⟩
    · rw [if_neg (by simp)]
      rw [hR] at NT
      generalize doS v id a = v2 at NT SS ⊢
      by_cases h1 : v2.st.s id = 1
      · rw [if_pos h1]
        rw [h1] at SS
        clear hR hs hok hg hE hd k hw h1
        go_enter Tryz.func35, Tryz.ntmps35
        go_wp2_with (first
          | (go_at_call 17; refine S.mono ?_; clear S; rintro e w' ⟨rfl, rfl⟩)
          | (go_at_call 54; refine T.mono ?_; clear T; rintro e u1 ⟨x, c, rfl, h1, h2, h3, h4⟩; have N1 := NT.out x c u1 h1 h2 h3 h4; clear NT h1 h2 h3 h4)
          | (go_at_call 53; refine N1.mono ?_; clear N1; rintro e u2 ⟨rfl, ⟨r', hx⟩, hk⟩; have S2 := SS.out u2 r' hx; have HX := hide hx; have HK := hide hk; clear hx hk)
          | (go_at_call 17; refine S2.mono ?_; clear S2; rintro e w' ⟨rfl, rfl⟩))
        go_ret
        exact ⟨rfl, ⟨r', HX.out⟩, HK.out⟩
      · rw [if_neg h1]
        have q1 : (v2.st.s id == 1) = false := by simp [h1]
        generalize v2.st.s id = y at SS q1
        clear hR hs hok hg hE hd k hw h1
        go_enter Tryz.func35, Tryz.ntmps35
        go_wp2_with (first
          | (go_at_call 17; refine S.mono ?_; clear S; rintro e w' ⟨rfl, rfl⟩)
          | (go_at_call 54; refine T.mono ?_; clear T; rintro e u1 ⟨x, c, rfl, h1, h2, h3, h4⟩; have N1 := NT.out x c u1 h1 h2 h3 h4; clear NT h1 h2 h3 h4)
          | (go_at_call 53; refine N1.mono ?_; clear N1; rintro e u2 ⟨rfl, ⟨r', hx⟩, hk⟩; have S2 := SS.out u2 r' hx; have HX := hide hx; have HK := hide hk; clear hx hk)
          | (go_at_call 17; refine S2.mono ?_; clear S2; rintro e w' ⟨rfl, rfl⟩))
        go_ret
        exact ⟨rfl, ⟨r', HX.out⟩, HK.out⟩
  · have eS : doS v id a = v := by unfold doS; rw [if_neg hs]
    have q0 : (v.st.s id == 0) = false := by simp [hs]
    unfold doK
    rw [if_neg (fun h => hs h.1), eS]
    have HX := hide ((k.more (show n ≤ n + 3 by omega)).wide (E' := growE E w w) (fun i e => .inl e))
    by_cases h1 : v.st.s id = 1
    · rw [if_pos h1]
      rw [h1] at S
      clear hs q0 eS hg hE hd k hw h1
      go_enter Tryz.func35, Tryz.ntmps35
      go_wp2_with (first
        | (go_at_call 17; refine S.mono ?_; rintro e w' ⟨rfl, rfl⟩))
      go_ret
      exact ⟨rfl, ⟨r, HX.out⟩, Rg.Kept.refl _ _⟩
    · rw [if_neg h1]
      have q1 : (v.st.s id == 1) = false := by simp [h1]
      generalize v.st.s id = y at S q0 q1
      clear hs eS hg hE hd k hw h1
      go_enter Tryz.func35, Tryz.ntmps35
      go_wp2_with (first
        | (go_at_call 17; refine S.mono ?_; rintro e w' ⟨rfl, rfl⟩))
      go_ret
      exact ⟨rfl, ⟨r, HX.out⟩, Rg.Kept.refl _ _⟩
set_option maxHeartbeats 1000000 in
theorem sundo_any (k : NdV B E w p v n q r pb mb sb) (hE : ∀ k, E k → k < w.heap.size) (hg : ∀ u, Rg.Kept (fun k _ => E k) w u → Gl u) (hd : v.down = false) {id : Int} (hi : 1 ≤ id ∧ id ≤ 999) (hn : n < 700000) :
    Calls Tryz.prog 36 #[.pointer (some ⟨p, 0, none⟩), .int .i64 id] w fun e w' => e = .returned (.int .i64 (undoK v id)) ∧ (∃ r', NdV B (growE E w w') w' p (undoS v id) (n + 3) q r' pb mb sb) ∧ Rg.Kept (fun k _ => E k) w w' := by
  have hw : (Lit.int .i64 id).wf = true := Hd.wf_of (by omega) (by omega)
  have S := sstate_any k hw
  by_cases hs : v.st.s id = 0 ∨ v.st.s id = 1
  · have N := snote_any k hE (hg w (Rg.Kept.refl _ _)) hd (undid_ok hi) (a := none) (c := 0) (.inl rfl) (fun ad e => by cases e) (by omega)
    have N1 : Calls Tryz.prog 53 #[.pointer (some ⟨p, 0, none⟩), .agg #[.string ⟨#[117, 110, 100, 105, 100]⟩, .int .i64 id, .slice none 0 0]] w fun x w' => x = .returned (.bool (hasRoom v)) ∧ (∃ r', NdV B (growE E w w') w' p (undoS v id) (n + 3) q r' pb mb sb) ∧ Rg.Kept (fun k _ => E k) w w' := by
      unfold undoS
      rw [if_pos hs]
      exact N.mono (fun _ _ ⟨h1, ⟨r', h2⟩, h3⟩ => ⟨h1, ⟨r', h2.more (by omega)⟩, h3⟩)
    unfold undoK
    clear N
    have hq : (v.st.s id == 0) = true ∨ ((v.st.s id == 0) = false ∧ (v.st.s id == 1) = true) := by rcases hs with h | h <;> simp [h]
    cases hR : hasRoom v
    · rw [if_pos ⟨hs, rfl⟩]
      rw [hR] at N1
      generalize v.st.s id = y at S hq
      clear hR hs hg hE hd k hw
      rcases hq with q0 | ⟨q0, q1⟩
      all_goals go_enter Tryz.func36, Tryz.ntmps36
      all_goals (go_wp2_with (first
        | (go_at_call 17; refine S.mono ?_; clear S; rintro e w' ⟨rfl, rfl⟩)
        | (go_at_call 53; refine N1.mono ?_; clear N1; rintro e u2 ⟨rfl, hx⟩; have HX := hide hx; clear hx)))
      all_goals go_ret
      all_goals exact ⟨rfl, HX.out⟩
    · rw [if_neg (by simp)]
      rw [hR] at N1
      generalize v.st.s id = y at S hq
      clear hR hs hg hE hd k hw
      rcases hq with q0 | ⟨q0, q1⟩
      all_goals go_enter Tryz.func36, Tryz.ntmps36
      all_goals (go_wp2_with (first
        | (go_at_call 17; refine S.mono ?_; clear S; rintro e w' ⟨rfl, rfl⟩)
        | (go_at_call 53; refine N1.mono ?_; clear N1; rintro e u2 ⟨rfl, hx⟩; have HX := hide hx; clear hx)))
      all_goals go_ret
      all_goals exact ⟨rfl, HX.out⟩
  · have eS : undoS v id = v := by unfold undoS; rw [if_neg hs]
    have q0 : (v.st.s id == 0) = false := by simp; intro h; exact hs (.inl h)
    have q1 : (v.st.s id == 1) = false := by simp; intro h; exact hs (.inr h)
    unfold undoK
    rw [if_neg (fun h => hs h.1), eS]
    have HX := hide ((k.more (show n ≤ n + 3 by omega)).wide (E' := growE E w w) (fun i e => .inl e))
    generalize v.st.s id = y at S q0 q1
    clear hs eS hg hE hd k hw
    go_enter Tryz.func36, Tryz.ntmps36
    go_wp2_with (first
      | (go_at_call 17; refine S.mono ?_; rintro e w' ⟨rfl, rfl⟩))
    go_ret
    exact ⟨rfl, ⟨r, HX.out⟩, Rg.Kept.refl _ _⟩
end
end Go.Proofs.YtdbmnjodkpeobaaGreatDoor
