/-
  Own texts put together: HdU, EntOne, EntBack, CTellM.
-/
import Derived.Test.YtdbmnjodkpeobaaGreatDoorHdR
import Derived.Test.YtdbmnjodkpeobaaGreatDoorBd11
import Derived.Test.YtdbmnjodkpeobaaGreatDoorBd3
/-
  Contracts of the reference's Take, Back, Has.
-/
namespace Go.Proofs.YtdbmnjodkpeobaaGreatDoor.Hd
open Go.ChangeShapes Go.WideShapes Go.ChangeAt Go.RowKit Go.Maps

theorem not_held {left : Int} {h : Int → Int} (g : Good left h) {id : Int} (hi : isI id = false) : h id = 0 := by
  rcases Decidable.em (h id = 0) with e | e
  · exact e
  · have := isI_iff.2 (g.at_ id e); rw [hi] at this; cases this

theorem kept_set2 {q : Nat} (w : World) (i j : Nat) (u v : Value) : Rg.Kept (Own1 q) w ((w.setCell ⟨q, i, none⟩ u).setCell ⟨q, j, none⟩ v) := by
  have s1 : Rg.Kept (Own1 q) w (w.setCell ⟨q, i, none⟩ u) := Rg.Kept.setCell _ (fun _ => rfl)
  exact s1.trans (Rg.Kept.setCell _ (fun _ => rfl))
set_option maxHeartbeats 1000000 in
set_option maxHeartbeats 1000000 in
theorem rback_any {B : Nat} {w : World} {q : Nat} {left : Int} {h : Int → Int} (k : Rb B w q left h) (g : Good left h) (id : Int) :
    Calls Tryz.prog 33 #[.pointer (some ⟨q, 0, none⟩), .int .i64 id] w fun e w' => e = .returned (.int .i64 (backE h id)) ∧ Rb B w' q (backL left h id) (backH h id) ∧ Rg.Kept (Own1 q) w w' := by
  have no : h id = 0 → backE h id = 6 ∧ Rb B w q (backL left h id) (backH h id) := fun hz => by
    refine ⟨by unfold backE; rw [if_pos hz], ?_⟩
    unfold backL backH
    rw [upd_id hz, hz, Int.add_zero]
    exact k
  cases hi : isI id
  · obtain ⟨e6, k6⟩ := no (not_held g hi)
    rw [e6]
    have HK := hide k6
    clear k6 e6 no k
    go_enter Tryz.func33, Tryz.ntmps33
    go_wp2_with (go_at_call 37; refine (rid_any _ _).mono ?_; rintro e w' ⟨rfl, rfl⟩)
    go_ret
    exact ⟨rfl, HK.out, Rg.Kept.refl _ _⟩
  · obtain ⟨i, rfl⟩ : ∃ i : Nat, id = i := ⟨id.toNat, by have := isI_iff.1 hi; omega⟩
    have hi2 := isI_iff.1 hi
    have c := k.cellI (i := i) (by omega)
    by_cases hz : h i = 0
    · obtain ⟨e6, k6⟩ := no hz
      rw [e6]
      have HK := hide k6
      rw [hz] at c
      clear k6 e6 no k hz
      go_enter Tryz.func33, Tryz.ntmps33
      go_wp2_with (go_at_call 37; refine (rid_any _ _).mono ?_; rintro e w' ⟨rfl, rfl⟩)
      go_ret
      exact ⟨rfl, HK.out, Rg.Kept.refl _ _⟩
    · have e0 : backE h i = 0 := by unfold backE; rw [if_neg hz]
      have c0 := k.cell0
      have f0 := k.frozen 0
      have fi := k.frozen (1 + i)
      have k2 := (k.setLeft (left + h i)).setI (i := i) (by omega) 0
      have kk : Rg.Kept (Own1 q) w ((w.setCell ⟨q, 0, none⟩ (.int .i64 (left + h i))).setCell ⟨q, 1 + i, none⟩ (.int .i64 0)) := kept_set2 _ _ _ _ _
      have hle := g.le i
      have hp := g.pos i
      have hnn := g.nn
      rw [e0]
      show Calls _ _ _ _ fun e w' => _ ∧ Rb B w' q (left + h i) (upd h i 0) ∧ _
      have q0 : (h i == 0) = false := by simp [hz]
      have HK := hide k2
      have HKK := hide kk
      obtain ⟨h', hh'⟩ : ∃ h', upd h i 0 = h' := ⟨_, rfl⟩
      rw [hh'] at HK ⊢
      obtain ⟨v, hv⟩ : ∃ v, h i = v := ⟨_, rfl⟩
      rw [hv] at c q0 HK HKK hle hp ⊢
      clear k2 kk no k e0 hz g hv hh'
      go_enter Tryz.func33, Tryz.ntmps33
      go_wp2_with (go_at_call 37; refine (rid_any _ _).mono ?_; rintro e w' ⟨rfl, rfl⟩)
      go_region
      go_wp2
      go_ret
      exact ⟨rfl, HK.out, ⟨HKK.out.os, HKK.out.tape, HKK.out.output, HKK.out.size, HKK.out.block⟩⟩
set_option maxHeartbeats 1000000 in
theorem rtake_any {B : Nat} {w : World} {q : Nat} {left : Int} {h : Int → Int} (k : Rb B w q left h) (g : Good left h) (id x : Int) :
    Calls Tryz.prog 32 #[.pointer (some ⟨q, 0, none⟩), .int .i64 id, .int .i64 x] w fun e w' => e = .returned (.int .i64 (takeE left h id x)) ∧ Rb B w' q (takeL left h id x) (takeH left h id x) ∧ Rg.Kept (Own1 q) w w' := by
  have no : ∀ c, takeE left h id x = c → c ≠ 0 → takeE left h id x = c ∧ Rb B w q (takeL left h id x) (takeH left h id x) := fun c e hc => by
    refine ⟨e, ?_⟩
    unfold takeL takeH
    rw [if_neg (by omega), if_neg (by omega)]
    exact k
  cases hi : isI id
  · obtain ⟨e1, k1⟩ := no 1 (by unfold takeE; rw [if_neg (by simp [hi])]) (by omega)
    rw [e1]
    have HK := hide k1
    clear k1 e1 no k
    go_enter Tryz.func32, Tryz.ntmps32
    go_wp2_with (go_at_call 37; refine (rid_any _ _).mono ?_; rintro e w' ⟨rfl, rfl⟩)
    go_ret
    exact ⟨rfl, HK.out, Rg.Kept.refl _ _⟩
  · cases hx : aboveB x
    · obtain ⟨e1, k1⟩ := no 1 (by unfold takeE; rw [if_neg (fun e => by unfold aboveB at hx; simp at hx; omega)]) (by omega)
      rw [e1]
      have HK := hide k1
      clear k1 e1 no k
      go_enter Tryz.func32, Tryz.ntmps32
      go_wp2_with (first
        | (go_at_call 37; refine (rid_any _ _).mono ?_; rintro e w' ⟨rfl, rfl⟩)
        | (go_at_call 51; refine (rabove_any _ _).mono ?_; rintro e w' ⟨rfl, rfl⟩))
      go_ret
      exact ⟨rfl, HK.out, Rg.Kept.refl _ _⟩
    · have hx2 : 1 ≤ x ∧ x ≤ 1000000000 := by unfold aboveB at hx; simpa using hx
      obtain ⟨i, rfl⟩ : ∃ i : Nat, id = i := ⟨id.toNat, by have := isI_iff.1 hi; omega⟩
      have hi2 := isI_iff.1 hi
      have c := k.cellI (i := i) (by omega)
      have c0 := k.cell0
      by_cases hz : h i = 0
      · rw [hz] at c
        by_cases hl : x ≤ left
        · have e0 : takeE left h i x = 0 := by unfold takeE; rw [if_pos ⟨hi, hx2⟩, if_neg (by simp [hz]), if_pos hl]
          have f0 := k.frozen 0
          have fi := k.frozen (1 + i)
          have k2 := (k.setLeft (left - x)).setI (i := i) (by omega) x
          have kk : Rg.Kept (Own1 q) w ((w.setCell ⟨q, 0, none⟩ (.int .i64 (left - x))).setCell ⟨q, 1 + i, none⟩ (.int .i64 x)) := kept_set2 _ _ _ _ _
          have hnn := g.nn
          have htt : left ≤ 1000000000 := by have := g.tot; have := sumTo_nonneg g.pos 1000; omega
          have eL : takeL left h i x = left - x := if_pos e0
          have eH : takeH left h i x = upd h i x := if_pos e0
          rw [e0, eL, eH]
          have HK := hide k2
          have HKK := hide kk
          obtain ⟨h', hh'⟩ : ∃ h', upd h i x = h' := ⟨_, rfl⟩
          rw [hh'] at HK ⊢
          have q1 : ¬ x > left := by omega
          clear k2 kk no k e0 hz g hh' eL eH
          go_enter Tryz.func32, Tryz.ntmps32
          go_wp2_with (first
            | (go_at_call 37; refine (rid_any _ _).mono ?_; rintro e w' ⟨rfl, rfl⟩)
            | (go_at_call 51; refine (rabove_any _ _).mono ?_; rintro e w' ⟨rfl, rfl⟩))
          go_ret
          exact ⟨rfl, HK.out, HKK.out⟩
        · obtain ⟨e1, k1⟩ := no 9 (by unfold takeE; rw [if_pos ⟨hi, hx2⟩, if_neg (by simp [hz]), if_neg hl]) (by omega)
          rw [e1]
          have HK := hide k1
          have q1 : x > left := by omega
          clear k1 e1 no k hz
          go_enter Tryz.func32, Tryz.ntmps32
          go_wp2_with (first
            | (go_at_call 37; refine (rid_any _ _).mono ?_; rintro e w' ⟨rfl, rfl⟩)
            | (go_at_call 51; refine (rabove_any _ _).mono ?_; rintro e w' ⟨rfl, rfl⟩))
          go_ret
          exact ⟨rfl, HK.out, Rg.Kept.refl _ _⟩
      · obtain ⟨e1, k1⟩ := no 8 (by unfold takeE; rw [if_pos ⟨hi, hx2⟩, if_pos hz]) (by omega)
        rw [e1]
        have HK := hide k1
        have q1 : h i > 0 := by have := g.pos i; omega
        obtain ⟨v, hv⟩ : ∃ v, h i = v := ⟨_, rfl⟩
        rw [hv] at c q1
        clear k1 e1 no k hz g hv
        go_enter Tryz.func32, Tryz.ntmps32
        go_wp2_with (first
          | (go_at_call 37; refine (rid_any _ _).mono ?_; rintro e w' ⟨rfl, rfl⟩)
          | (go_at_call 51; refine (rabove_any _ _).mono ?_; rintro e w' ⟨rfl, rfl⟩))
        go_ret
        exact ⟨rfl, HK.out, Rg.Kept.refl _ _⟩
end Go.Proofs.YtdbmnjodkpeobaaGreatDoor.Hd
/-
  EntryOne: two entries that may be have one line just if they are the same.
-/
namespace Go.Proofs.YtdbmnjodkpeobaaGreatDoor
open Go.ChangeShapes Go.WideShapes Go.ChangeAt Go.RowKit

theorem line_one {k k' : ByteArray} {id id' : Int} {l l' : List Int} (h : mayB k id l = true) (h' : mayB k' id' l' = true) :
    ((sign (txt k id l)).toList == (sign (txt k' id' l')).toList) = sameB k id l k' id' l' := by
  rw [Bool.eq_iff_iff, same_iff, beq_iff_eq, ByteArray.toList_eq, ByteArray.toList_eq]
  constructor
  · intro e
    have e2 : txt k id l = txt k' id' l' := by
      have h1 := (read_sign (txt k id l)).2
      have h2 := (read_sign (txt k' id' l')).2
      rw [← h1, ← h2, bytes_ext e]
    exact txt_inj h h' e2
  · rintro ⟨rfl, rfl, rfl⟩
    rfl

theorem light_len {k : ByteArray} {l : List Int} (h : lightB k l = true) : k.size ≤ 50 ∧ l.length ≤ 20 := by
  unfold lightB at h
  simpa using h

end Go.Proofs.YtdbmnjodkpeobaaGreatDoor
/-
  EntryBack: what is written is read as it was; what is read, of whatever text, is written as that.
-/
namespace Go.Proofs.YtdbmnjodkpeobaaGreatDoor
open Go.ChangeShapes Go.WideShapes Go.ChangeAt Go.RowKit

theorem box3 {v : World} {c0 c1 c2 : Value} {W u : World} (hW : W = v.alloc (.cells #[c0, c1, c2] 70)) (hb : Below W.heap.size W u) :
    u.cell? ⟨v.heap.size, 0, none⟩ = some c0 ∧ u.cell? ⟨v.heap.size, 1, none⟩ = some c1 ∧ u.cell? ⟨v.heap.size, 2, none⟩ = some c2 := by
  refine ⟨cellL (w := W) ?_ hb, cellL (w := W) ?_ hb, cellL (w := W) ?_ hb⟩
  all_goals (rw [hW]; simp)

theorem line_of_read {s k : ByteArray} {id : Int} {l : List Int} (h : ParseR s k id l 0) : lineE k id l = 0 ∧ ((lineV k id l).toList == s.toList) = true ∧ mayB k id l = true := by
  rcases h with ⟨_, h2, h3, h4, h5⟩ | ⟨h1, _⟩
  · refine ⟨by unfold lineE; rw [if_pos h2], ?_, h2⟩
    unfold lineV
    rw [if_pos h2, ← h5]
    exact sign_read s h4
  · exact absurd rfl h1
theorem parse_none {s k : ByteArray} {id : Int} {l : List Int} {er : Int} (h : ParseR s k id l er) (he : er ≠ 0) : k = ⟨#[]⟩ ∧ l = [] := by
  rcases h with ⟨h1, _⟩ | ⟨_, h2, _, h4, _⟩
  · exact absurd h1 he
  · exact ⟨h2, h4⟩
theorem lineV_size {k : ByteArray} {id : Int} {l : List Int} : (lineV k id l).size ≤ 63 := by
  unfold lineV
  split
  · rename_i h
    rw [sign_size]
    have := txt_size h
    omega
  · exact Nat.zero_le _

end Go.Proofs.YtdbmnjodkpeobaaGreatDoor
/-
  Plain facts: a text with one byte changed, or two side by side exchanged, has other letters.
-/
namespace Go.Proofs.YtdbmnjodkpeobaaGreatDoor
open Go.RowKit

theorem wsum_same (p l m : List UInt8) : wsum (p ++ l) % 673 = wsum (p ++ m) % 673 ↔ wsum l % 673 = wsum m % 673 := by
  induction p with
  | nil => simp
  | cons b p ih =>
    rw [← ih]
    simp only [List.cons_append, wsum]
    omega

theorem lets_same {s t : ByteArray} : (lets s).toList = (lets t).toList ↔ num s = num t := by
  constructor
  · intro h
    rw [ByteArray.toList_eq, ByteArray.toList_eq] at h
    simp [lets] at h
    have h1 := let0_nat _ (num_lt s)
    have h2 := let0_nat _ (num_lt t)
    have h3 := let1_nat (num s)
    have h4 := let1_nat (num t)
    rw [h.1] at h1
    rw [h.2] at h3
    omega
  · intro h; unfold lets; rw [h]

theorem set_split (l : List UInt8) (k : Nat) (h : k < l.length) (b : UInt8) : l.set k b = l.take k ++ b :: l.drop (k + 1) := by
  rw [List.set_eq_take_append_cons_drop, if_pos h]

theorem num_change (l : List UInt8) (k : Nat) (h : k < l.length) (b : UInt8) : num ⟨(l.set k b).toArray⟩ = num ⟨l.toArray⟩ ↔ b = l[k] := by
  unfold num
  rw [set_split l k h]
  have e : l = l.take k ++ l[k] :: l.drop (k + 1) := by rw [← List.drop_eq_getElem_cons h, List.take_append_drop]
  conv => lhs; rhs; rw [e]
  simp only [wsum_same, wsum]
  have h1 := b.toNat_lt
  have h2 := l[k].toNat_lt
  constructor
  · intro h; apply UInt8.toNat_inj.1; omega
  · intro h; rw [h]

theorem num_exchange (l : List UInt8) (k : Nat) (h : k + 1 < l.length) : num ⟨((l.set k l[k + 1]).set (k + 1) l[k]).toArray⟩ = num ⟨l.toArray⟩ ↔ l[k] = l[k + 1] := by
  unfold num
  have e : l = l.take k ++ l[k] :: l[k + 1] :: l.drop (k + 1 + 1) := by rw [← List.drop_eq_getElem_cons h, ← List.drop_eq_getElem_cons (by omega), List.take_append_drop]
  have hk : (l.take k).length = k := by simp; omega
  have e2 : (l.set k l[k + 1]).set (k + 1) l[k] = l.take k ++ l[k + 1] :: l[k] :: l.drop (k + 1 + 1) := by
    rw [set_split l k (by omega), List.set_append_right _ _ (by omega), hk]
    have : k + 1 - k = 1 := by omega
    rw [this, List.drop_eq_getElem_cons h]
    rfl
  rw [e2]
  conv => lhs; rhs; rw [e]
  simp only [wsum_same, wsum]
  have h1 := l[k].toNat_lt
  have h2 := l[k + 1].toNat_lt
  constructor
  · intro h; apply UInt8.toNat_inj.1; omega
  · intro h; rw [h]

theorem xor_same (b x : UInt8) : b ^^^ x = b ↔ x = 0 := by
  constructor
  · intro h
    have : b ^^^ (b ^^^ x) = b ^^^ b := by rw [h]
    rw [← UInt8.xor_assoc, UInt8.xor_self, UInt8.zero_xor] at this
    exact this
  · rintro rfl; simp
end Go.Proofs.YtdbmnjodkpeobaaGreatDoor
