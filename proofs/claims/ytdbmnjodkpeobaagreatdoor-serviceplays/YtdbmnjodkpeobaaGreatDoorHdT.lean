/-
  Contracts of hold's Take and Back.
-/
import Derived.Test.YtdbmnjodkpeobaaGreatDoorBd12
namespace Go.Proofs.YtdbmnjodkpeobaaGreatDoor.Hd
open Go.ChangeShapes Go.WideShapes Go.ChangeAt Go.RowKit Go.Maps

theorem wf_of {a : Int} (h1 : -9223372036854775808 ≤ a) (h2 : a ≤ 9223372036854775807) : (Lit.int .i64 a).wf = true := WalkArith.wf_i64 ⟨h1, h2⟩

set_option maxHeartbeats 1000000 in
theorem back_any {B : Nat} {w : World} {p b : Nat} {left : Int} {h : Int → Int} {n : Nat} (k : Bk B w p b left h n) {id : Int} (hw : (Lit.int .i64 id).wf = true) :
    Calls Tryz.prog 49 #[.pointer (some ⟨p, 0, none⟩), .int .i64 id] w fun e w' => e = .returned (.int .i64 (backE h id)) ∧ Bk B w' p b (backL left h id) (backH h id) n ∧ Rg.Kept (Own2 p b) w w' := by
  by_cases hz : h id = 0
  · have hE : backE h id = 6 := by unfold backE; rw [if_pos hz]
    have hd : decide (h id ≠ 0) = false := by simp [hz]
    have hH : backH h id = h := upd_id hz
    have hL : backL left h id = left := by unfold backL; rw [hz, Int.add_zero]
    rw [hE, hH, hL]
    have H := has_any k hw
    rw [hd, hz] at H
    have HK := hide k
    clear k hE hd hH hL hz
    go_enter Tryz.func49, Tryz.ntmps49
    go_wp2_with (go_at_call 64; refine H.mono ?_; rintro e w' ⟨rfl, rfl⟩)
    go_ret
    exact ⟨rfl, HK.out, Rg.Kept.refl _ _⟩
  · have hE : backE h id = 0 := by unfold backE; rw [if_neg hz]
    have hd : decide (h id ≠ 0) = true := by simp [hz]
    have H := has_any k hw
    rw [hd] at H
    have g2 := k.good.back id
    have hle := k.good.le id
    have hps := k.good.pos id
    have hnn := k.good.nn
    obtain ⟨⟨c0, c1⟩, f0⟩ := k.cells
    have hne := k.ne
    obtain ⟨h1, h2, h3, h4, D, h5, h6⟩ := k
    have hown : (w.setCell ⟨p, 0, none⟩ (.int .i64 (left + h id))).ownsMap Tryz.prog 3 (plainElem Tryz.prog 3) b n D := h5.setCell (a := ⟨p, 0, none⟩) hne _
    have hkey := keyOf_int_mk Tryz.underlying3 hw
    obtain ⟨v, hv⟩ : ∃ v, v = h id := ⟨_, rfl⟩
    rw [hE]
    have fin : ∀ w1, w1.ownsMap Tryz.prog 3 (plainElem Tryz.prog 3) b n (D.del (.int .i64 id)) → (w.setCell ⟨p, 0, none⟩ (.int .i64 (left + h id))).mapTurned w1 b → Bk B w1 p b (backL left h id) (backH h id) n ∧ Rg.Kept (Own2 p b) w w1 := fun w1 o1 t1 => by
      have k1 : Rg.Kept (Own2 p b) w (w.setCell ⟨p, 0, none⟩ (.int .i64 (left + h id))) := Rg.Kept.setCell _ (fun _ => .inl rfl)
      have k2 : Rg.Kept (Own2 p b) (w.setCell ⟨p, 0, none⟩ (.int .i64 (left + h id))) w1 := Rg.Kept.grown t1.grown (fun i _ e => .inr (by cases e; rfl))
      refine ⟨⟨?_, h2, h3, g2, _, o1, h6.del id⟩, k1.trans k2⟩
      have e1 : (w.setCell ⟨p, 0, none⟩ (.int .i64 (left + h id))).heap[p]? = some (.cells #[.int .i64 (left + h id), .map (some b)] 96 (0, 0)) := by rw [heap_setCell_same _ _ _ _ _ _ h1]; simp
      exact (t1.grown.block p (Array.getElem?_eq_some_iff.1 e1).1 (fun e => hne (by cases e; rfl))).trans e1
    rw [← hv] at H hle hps hown fin
    have FIN := hide fin
    clear fin hE hd hz h1 h2 h3 h4 h5 h6 g2 hv hne
    have q1 : -9223372036854775808 ≤ left + v := by omega
    have q2 : left + v ≤ 9223372036854775807 := by omega
    go_enter Tryz.func49, Tryz.ntmps49
    go_wp2_with (first
      | (go_at_call 64; refine H.mono ?_; rintro e w' ⟨rfl, rfl⟩)
      | (at_delete; refine wpList_delete_own _ rfl _ _ 60 3 rfl 3 lawI Tryz.underlying60 _ b n D rfl hown _ _ rfl hkey ?_; intro w1 hown1 hturn1)
      | go_in)
    go_ret
    exact ⟨rfl, FIN.out _ hown1 hturn1⟩

set_option maxHeartbeats 1000000 in
theorem take_any {B : Nat} {w : World} {p b : Nat} {left : Int} {h : Int → Int} {n : Nat} (k : Bk B w p b left h n) {id x : Int} (hw : (Lit.int .i64 id).wf = true) (hn : n < 1000000) :
    Calls Tryz.prog 48 #[.pointer (some ⟨p, 0, none⟩), .int .i64 id, .int .i64 x] w fun e w' => e = .returned (.int .i64 (takeE left h id x)) ∧ Bk B w' p b (takeL left h id x) (takeH left h id x) (n + 1) ∧ Rg.Kept (Own2 p b) w w' := by
  have no : ∀ c, takeE left h id x = c → c ≠ 0 → takeE left h id x = c ∧ Bk B w p b (takeL left h id x) (takeH left h id x) (n + 1) := fun c e hc => by
    refine ⟨e, ?_⟩
    unfold takeL takeH
    rw [if_neg (by omega), if_neg (by omega)]
    exact k.mono (by omega)
  by_cases hi : isI id = true
  · by_cases hx : 1 ≤ x ∧ x ≤ 1000000000
    · have hm : may x = true := may_iff.2 (by omega)
      have hx0 : (x == 0) = false := by simp; omega
      by_cases hz : h id = 0
      · have hd : decide (h id ≠ 0) = false := by simp [hz]
        have H := has_any k hw
        rw [hd, hz] at H
        have ml : may left = true := may_iff.2 ⟨k.good.nn, by have := k.good.tot; have := sumTo_nonneg k.good.pos 1000; omega⟩
        by_cases hl : x ≤ left
        · have hE : takeE left h id x = 0 := by unfold takeE; rw [if_pos ⟨hi, hx⟩, if_neg (by simp [hz]), if_pos hl]
          have hsv : subV left x = left - x := by simp [subV, ml, hm, hl]
          have hse : subE left x = 0 := by simp [subE, ml, hm, hl]
          have S := sub_any left x w
          rw [hsv, hse] at S
          clear no hsv hse
          rw [hE]
          obtain ⟨⟨c0, c1⟩, f0⟩ := k.cells
          have g2 := k.good.take id x
          have hne := k.ne
          obtain ⟨h1, h2, h3, h4, D, h5, h6⟩ := k
          have hown : (w.setCell ⟨p, 0, none⟩ (.int .i64 (left - x))).ownsMap Tryz.prog 3 (plainElem Tryz.prog 3) b n D := h5.setCell (a := ⟨p, 0, none⟩) hne _
          have hkey := keyOf_int_mk Tryz.underlying3 hw
          have hwx : (Lit.int .i64 x).wf = true := wf_of (by omega) (by omega)
          have hnm : n < maxLen := by unfold maxLen; omega
          have fin : ∀ w1, w1.ownsMap Tryz.prog 3 (plainElem Tryz.prog 3) b (n + 1) (D.put (.int .i64 id) (.lit (.int .i64 x))) → (w.setCell ⟨p, 0, none⟩ (.int .i64 (left - x))).mapTurned w1 b → Bk B w1 p b (takeL left h id x) (takeH left h id x) (n + 1) ∧ Rg.Kept (Own2 p b) w w1 := fun w1 o1 t1 => by
            have k1 : Rg.Kept (Own2 p b) w (w.setCell ⟨p, 0, none⟩ (.int .i64 (left - x))) := Rg.Kept.setCell _ (fun _ => .inl rfl)
            have k2 : Rg.Kept (Own2 p b) (w.setCell ⟨p, 0, none⟩ (.int .i64 (left - x))) w1 := Rg.Kept.grown t1.grown (fun i _ e => .inr (by cases e; rfl))
            have eL : takeL left h id x = left - x := by unfold takeL; rw [if_pos hE]
            have eH : takeH left h id x = upd h id x := by unfold takeH; rw [if_pos hE]
            rw [eL, eH] at g2 ⊢
            refine ⟨⟨?_, h2, h3, g2, _, o1, h6.put id x (by omega)⟩, k1.trans k2⟩
            have e1 : (w.setCell ⟨p, 0, none⟩ (.int .i64 (left - x))).heap[p]? = some (.cells #[.int .i64 (left - x), .map (some b)] 96 (0, 0)) := by rw [heap_setCell_same _ _ _ _ _ _ h1]; simp
            exact (t1.grown.block p (Array.getElem?_eq_some_iff.1 e1).1 (fun e => hne (by cases e; rfl))).trans e1
          obtain ⟨st, w1, w2, hr1, hr2, hown1, hturn1⟩ := own_entry hown lawI Tryz.underlying60 hnm (zeroI _) hkey (plainElem_int Tryz.underlying3 hwx) (by rw [(h6.2 id).2, hd])
          have FIN := hide (fin w2 hown1 hturn1)
          clear fin hown1 hturn1 hown hkey hwx hnm hE hd hz h1 h2 h3 h4 h5 h6 g2 hne hl
          go_enter Tryz.func48, Tryz.ntmps48
          go_wp2_with (first
            | (go_at_call 62; refine (isid_any _ _).mono ?_; rintro e w' ⟨rfl, rfl⟩)
            | (go_at_call 63; refine (may_any _ _).mono ?_; rintro e w' ⟨rfl, rfl⟩)
            | (go_at_call 64; refine H.mono ?_; rintro e w' ⟨rfl, rfl⟩)
            | (go_at_call 65; refine S.mono ?_; rintro e w' ⟨rfl, rfl⟩))
          go_ret
          exact ⟨rfl, FIN.out⟩
        · have hE : takeE left h id x = 9 := by unfold takeE; rw [if_pos ⟨hi, hx⟩, if_neg (by simp [hz]), if_neg hl]
          have hsv : subV left x = 0 := by simp [subV, hl]
          have hse : subE left x = 9 := by simp [subE, ml, hm, hl]
          have S := sub_any left x w
          rw [hsv, hse] at S
          have NO := hide (no 9 hE (by omega))
          clear no hsv hse
          rw [hE]
          obtain ⟨⟨c0, c1⟩, f0⟩ := k.cells
          clear k hE
          go_enter Tryz.func48, Tryz.ntmps48
          go_wp2_with (first
            | (go_at_call 62; refine (isid_any _ _).mono ?_; rintro e w' ⟨rfl, rfl⟩)
            | (go_at_call 63; refine (may_any _ _).mono ?_; rintro e w' ⟨rfl, rfl⟩)
            | (go_at_call 64; refine H.mono ?_; rintro e w' ⟨rfl, rfl⟩)
            | (go_at_call 65; refine S.mono ?_; rintro e w' ⟨rfl, rfl⟩))
          go_ret
          exact ⟨rfl, NO.out.2, Rg.Kept.refl _ _⟩
      · have hE : takeE left h id x = 8 := by unfold takeE; rw [if_pos ⟨hi, hx⟩, if_pos hz]
        have hd : decide (h id ≠ 0) = true := by simp [hz]
        have H := has_any k hw
        rw [hd] at H
        have NO := hide (no 8 hE (by omega))
        obtain ⟨v, hv⟩ : ∃ v, v = h id := ⟨_, rfl⟩
        rw [← hv] at H
        rw [hE]
        clear no hE hv hz k hd
        go_enter Tryz.func48, Tryz.ntmps48
        go_wp2_with (first
          | (go_at_call 62; refine (isid_any _ _).mono ?_; rintro e w' ⟨rfl, rfl⟩)
          | (go_at_call 63; refine (may_any _ _).mono ?_; rintro e w' ⟨rfl, rfl⟩)
          | (go_at_call 64; refine H.mono ?_; rintro e w' ⟨rfl, rfl⟩))
        go_ret
        exact ⟨rfl, NO.out.2, Rg.Kept.refl _ _⟩
    · have hE : takeE left h id x = 1 := by unfold takeE; rw [if_neg (fun e => hx e.2)]
      have NO := hide (no 1 hE (by omega))
      rw [hE]
      clear no hE k
      by_cases hm : may x = true
      · have hx0 : (x == 0) = true := by have := may_iff.1 hm; simp; omega
        clear hx
        go_enter Tryz.func48, Tryz.ntmps48
        go_wp2_with (first
          | (go_at_call 62; refine (isid_any _ _).mono ?_; rintro e w' ⟨rfl, rfl⟩)
          | (go_at_call 63; refine (may_any _ _).mono ?_; rintro e w' ⟨rfl, rfl⟩))
        go_ret
        exact ⟨rfl, NO.out.2, Rg.Kept.refl _ _⟩
      · have hm0 : may x = false := by simpa using hm
        clear hx hm
        go_enter Tryz.func48, Tryz.ntmps48
        go_wp2_with (first
          | (go_at_call 62; refine (isid_any _ _).mono ?_; rintro e w' ⟨rfl, rfl⟩)
          | (go_at_call 63; refine (may_any _ _).mono ?_; rintro e w' ⟨rfl, rfl⟩))
        go_ret
        exact ⟨rfl, NO.out.2, Rg.Kept.refl _ _⟩
  · have hi0 : isI id = false := by simpa using hi
    have hE : takeE left h id x = 1 := by unfold takeE; rw [if_neg (fun e => hi e.1)]
    have NO := hide (no 1 hE (by omega))
    rw [hE]
    clear no hE k hi
    go_enter Tryz.func48, Tryz.ntmps48
    go_wp2_with (first
      | (go_at_call 62; refine (isid_any _ _).mono ?_; rintro e w' ⟨rfl, rfl⟩))
    go_ret
    exact ⟨rfl, NO.out.2, Rg.Kept.refl _ _⟩
end Go.Proofs.YtdbmnjodkpeobaaGreatDoor.Hd
