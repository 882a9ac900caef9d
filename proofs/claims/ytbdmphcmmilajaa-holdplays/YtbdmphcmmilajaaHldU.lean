/-
  Contracts of the reference's Take, Back, Has.
-/
import Derived.Test.YtbdmphcmmilajaaHldR
namespace Go.Proofs.Ytbdmphcmmilajaa
open Go.ChangeShapes Go.WideShapes Go.ChangeAt Go.RowKit Go.Maps

theorem not_held {left : Int} {h : Int → Int} (g : Good left h) {id : Int} (hi : isI id = false) : h id = 0 := by
  rcases Decidable.em (h id = 0) with e | e
  · exact e
  · have := isI_iff.2 (g.at_ id e); rw [hi] at this; cases this

theorem kept_set2 {q : Nat} (w : World) (i j : Nat) (u v : Value) : Rg.Kept (Own1 q) w ((w.setCell ⟨q, i, none⟩ u).setCell ⟨q, j, none⟩ v) := by
  have s1 : Rg.Kept (Own1 q) w (w.setCell ⟨q, i, none⟩ u) := Rg.Kept.setCell _ (fun _ => rfl)
  exact s1.trans (Rg.Kept.setCell _ (fun _ => rfl))
set_option maxHeartbeats 1000000 in
theorem rhas_any {B : Nat} {w : World} {q : Nat} {left : Int} {h : Int → Int} (k : Rb B w q left h) (g : Good left h) (id : Int) :
    Calls Try.prog 15 #[.pointer (some ⟨q, 0, none⟩), .int .i64 id] w fun e w' => e = .returned (.tuple #[.int .i64 (h id), .bool (decide (h id ≠ 0))]) ∧ w = w' := by
  cases hi : isI id
  · have hz := not_held g hi
    have hd : decide (h id ≠ 0) = false := by simp [hz]
    rw [hd, hz]
    clear hd hz
    go_enter Try.func15, Try.ntmps15
    go_wp2_with (go_at_call 22; refine (rid_any _ _).mono ?_; rintro e w' ⟨rfl, rfl⟩)
    go_ret2
    exact ⟨rfl, rfl⟩
  · obtain ⟨i, rfl⟩ : ∃ i : Nat, id = i := ⟨id.toNat, by have := isI_iff.1 hi; omega⟩
    have hi2 := isI_iff.1 hi
    have c := k.cellI (i := i) (by omega)
    obtain ⟨v, hv⟩ : ∃ v, h i = v := ⟨_, rfl⟩
    rw [hv] at c ⊢
    clear hv
    by_cases hz : v = 0
    · subst hz
      go_enter Try.func15, Try.ntmps15
      go_wp2_with (go_at_call 22; refine (rid_any _ _).mono ?_; rintro e w' ⟨rfl, rfl⟩)
      go_ret2
      exact ⟨rfl, rfl⟩
    · have hd : decide (v ≠ 0) = true := by simp [hz]
      have q0 : (v == 0) = false := by simp [hz]
      rw [hd]
      clear hd hz
      go_enter Try.func15, Try.ntmps15
      go_wp2_with (go_at_call 22; refine (rid_any _ _).mono ?_; rintro e w' ⟨rfl, rfl⟩)
      go_ret2
      exact ⟨rfl, rfl⟩
set_option maxHeartbeats 1000000 in
theorem rback_any {B : Nat} {w : World} {q : Nat} {left : Int} {h : Int → Int} (k : Rb B w q left h) (g : Good left h) (id : Int) :
    Calls Try.prog 11 #[.pointer (some ⟨q, 0, none⟩), .int .i64 id] w fun e w' => e = .returned (.int .i64 (backE h id)) ∧ Rb B w' q (backL left h id) (backH h id) ∧ Rg.Kept (Own1 q) w w' := by
  have no : h id = 0 → backE h id = 6 ∧ Rb B w q (backL left h id) (backH h id) := fun hz => by
    refine ⟨by unfold backE; rw [if_pos hz], ?_⟩
    unfold backL backH
    rw [upd_id hz, hz, Int.add_zero]
    exact k
  cases hi : isI id
  · obtain ⟨e6, k6⟩ := no (not_held g hi)
    rw [e6]
    have HK := hide k6
    clear k6 e6 no k
    go_enter Try.func11, Try.ntmps11
    go_wp2_with (go_at_call 22; refine (rid_any _ _).mono ?_; rintro e w' ⟨rfl, rfl⟩)
    go_ret
    exact ⟨rfl, HK.out, Rg.Kept.refl _ _⟩
  · obtain ⟨i, rfl⟩ : ∃ i : Nat, id = i := ⟨id.toNat, by have := isI_iff.1 hi; omega⟩
    have hi2 := isI_iff.1 hi
    have c := k.cellI (i := i) (by omega)
    by_cases hz : h i = 0
    · obtain ⟨e6, k6⟩ := no hz
      rw [e6]
      have HK := hide k6
      rw [hz] at c
      clear k6 e6 no k hz
      go_enter Try.func11, Try.ntmps11
      go_wp2_with (go_at_call 22; refine (rid_any _ _).mono ?_; rintro e w' ⟨rfl, rfl⟩)
      go_ret
      exact ⟨rfl, HK.out, Rg.Kept.refl _ _⟩
    · have e0 : backE h i = 0 := by unfold backE; rw [if_neg hz]
      have c0 := k.cell0
      have f0 := k.frozen 0
      have fi := k.frozen (1 + i)
      have k2 := (k.setLeft (left + h i)).setI (i := i) (by omega) 0
      have kk : Rg.Kept (Own1 q) w ((w.setCell ⟨q, 0, none⟩ (.int .i64 (left + h i))).setCell ⟨q, 1 + i, none⟩ (.int .i64 0)) := kept_set2 _ _ _ _ _
      have hle := g.le i
      have hp := g.pos i
      have hnn := g.nn
      rw [e0]
      show Calls _ _ _ _ fun e w' => _ ∧ Rb B w' q (left + h i) (upd h i 0) ∧ _
      have q0 : (h i == 0) = false := by simp [hz]
      have HK := hide k2
      have HKK := hide kk
      obtain ⟨h', hh'⟩ : ∃ h', upd h i 0 = h' := ⟨_, rfl⟩
      rw [hh'] at HK ⊢
      obtain ⟨v, hv⟩ : ∃ v, h i = v := ⟨_, rfl⟩
      rw [hv] at c q0 HK HKK hle hp ⊢
      clear k2 kk no k e0 hz g hv hh'
      go_enter Try.func11, Try.ntmps11
      go_wp2_with (go_at_call 22; refine (rid_any _ _).mono ?_; rintro e w' ⟨rfl, rfl⟩)
      go_region
      go_wp2
      go_ret
      exact ⟨rfl, HK.out, ⟨HKK.out.os, HKK.out.tape, HKK.out.output, HKK.out.size, HKK.out.block⟩⟩
set_option maxHeartbeats 1000000 in
theorem rtake_any {B : Nat} {w : World} {q : Nat} {left : Int} {h : Int → Int} (k : Rb B w q left h) (g : Good left h) (id x : Int) :
    Calls Try.prog 13 #[.pointer (some ⟨q, 0, none⟩), .int .i64 id, .int .i64 x] w fun e w' => e = .returned (.int .i64 (takeE left h id x)) ∧ Rb B w' q (takeL left h id x) (takeH left h id x) ∧ Rg.Kept (Own1 q) w w' := by
  have no : ∀ c, takeE left h id x = c → c ≠ 0 → takeE left h id x = c ∧ Rb B w q (takeL left h id x) (takeH left h id x) := fun c e hc => by
    refine ⟨e, ?_⟩
    unfold takeL takeH
    rw [if_neg (by omega), if_neg (by omega)]
    exact k
  cases hi : isI id
  · obtain ⟨e1, k1⟩ := no 1 (by unfold takeE; rw [if_neg (by simp [hi])]) (by omega)
    rw [e1]
    have HK := hide k1
    clear k1 e1 no k
    go_enter Try.func13, Try.ntmps13
    go_wp2_with (go_at_call 22; refine (rid_any _ _).mono ?_; rintro e w' ⟨rfl, rfl⟩)
    go_ret
    exact ⟨rfl, HK.out, Rg.Kept.refl _ _⟩
  · cases hx : aboveB x
    · obtain ⟨e1, k1⟩ := no 1 (by unfold takeE; rw [if_neg (fun e => by unfold aboveB at hx; simp at hx; omega)]) (by omega)
      rw [e1]
      have HK := hide k1
      clear k1 e1 no k
      go_enter Try.func13, Try.ntmps13
      go_wp2_with (first
        | (go_at_call 22; refine (rid_any _ _).mono ?_; rintro e w' ⟨rfl, rfl⟩)
        | (go_at_call 26; refine (rabove_any _ _).mono ?_; rintro e w' ⟨rfl, rfl⟩))
      go_ret
      exact ⟨rfl, HK.out, Rg.Kept.refl _ _⟩
    · have hx2 : 1 ≤ x ∧ x ≤ 1000000000 := by unfold aboveB at hx; simpa using hx
      obtain ⟨i, rfl⟩ : ∃ i : Nat, id = i := ⟨id.toNat, by have := isI_iff.1 hi; omega⟩
      have hi2 := isI_iff.1 hi
      have c := k.cellI (i := i) (by omega)
      have c0 := k.cell0
      by_cases hz : h i = 0
      · rw [hz] at c
        by_cases hl : x ≤ left
        · have e0 : takeE left h i x = 0 := by unfold takeE; rw [if_pos ⟨hi, hx2⟩, if_neg (by simp [hz]), if_pos hl]
          have f0 := k.frozen 0
          have fi := k.frozen (1 + i)
          have k2 := (k.setLeft (left - x)).setI (i := i) (by omega) x
          have kk : Rg.Kept (Own1 q) w ((w.setCell ⟨q, 0, none⟩ (.int .i64 (left - x))).setCell ⟨q, 1 + i, none⟩ (.int .i64 x)) := kept_set2 _ _ _ _ _
          have hnn := g.nn
          have htt : left ≤ 1000000000 := by have := g.tot; have := sumTo_nonneg g.pos 1000; omega
          have eL : takeL left h i x = left - x := if_pos e0
          have eH : takeH left h i x = upd h i x := if_pos e0
          rw [e0, eL, eH]
          have HK := hide k2
          have HKK := hide kk
          obtain ⟨h', hh'⟩ : ∃ h', upd h i x = h' := ⟨_, rfl⟩
          rw [hh'] at HK ⊢
          have q1 : ¬ x > left := by omega
          clear k2 kk no k e0 hz g hh' eL eH
          go_enter Try.func13, Try.ntmps13
          go_wp2_with (first
            | (go_at_call 22; refine (rid_any _ _).mono ?_; rintro e w' ⟨rfl, rfl⟩)
            | (go_at_call 26; refine (rabove_any _ _).mono ?_; rintro e w' ⟨rfl, rfl⟩))
          go_ret
          exact ⟨rfl, HK.out, HKK.out⟩
        · obtain ⟨e1, k1⟩ := no 9 (by unfold takeE; rw [if_pos ⟨hi, hx2⟩, if_neg (by simp [hz]), if_neg hl]) (by omega)
          rw [e1]
          have HK := hide k1
          have q1 : x > left := by omega
          clear k1 e1 no k hz
          go_enter Try.func13, Try.ntmps13
          go_wp2_with (first
            | (go_at_call 22; refine (rid_any _ _).mono ?_; rintro e w' ⟨rfl, rfl⟩)
            | (go_at_call 26; refine (rabove_any _ _).mono ?_; rintro e w' ⟨rfl, rfl⟩))
          go_ret
          exact ⟨rfl, HK.out, Rg.Kept.refl _ _⟩
      · obtain ⟨e1, k1⟩ := no 8 (by unfold takeE; rw [if_pos ⟨hi, hx2⟩, if_pos hz]) (by omega)
        rw [e1]
        have HK := hide k1
        have q1 : h i > 0 := by have := g.pos i; omega
        obtain ⟨v, hv⟩ : ∃ v, h i = v := ⟨_, rfl⟩
        rw [hv] at c q1
        clear k1 e1 no k hz g hv
        go_enter Try.func13, Try.ntmps13
        go_wp2_with (first
          | (go_at_call 22; refine (rid_any _ _).mono ?_; rintro e w' ⟨rfl, rfl⟩)
          | (go_at_call 26; refine (rabove_any _ _).mono ?_; rintro e w' ⟨rfl, rfl⟩))
        go_ret
        exact ⟨rfl, HK.out, Rg.Kept.refl _ _⟩
end Go.Proofs.Ytbdmphcmmilajaa
