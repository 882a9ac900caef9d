/-
  Contracts: the scanner of package order: fail, number, behind.
-/
import Derived.Test.YteefmibnkfojiaaDoorOrdC
import Derived.Test.YteefmibnkfojiaaDoorGlobO
import Derived.Deep.OwnRows
import Derived.WalkMore
namespace Go.Proofs.YteefmibnkfojiaaDoor
open Go.ChangeShapes Go.WideShapes Go.ChangeAt Go.RowKit

/-- The scanner at p: what is left, whether it has failed. -/
def Scn (w : World) (p : Nat) (l : List UInt8) (b : Bool) : Prop := w.heap[p]? = some (.cells #[.string (byB l), .bool b] 55 (0, 0))
/-- Only block p has turned. -/
def Onl (p : Nat) (w w' : World) : Prop := (w'.os = w.os ∧ w'.tape = w.tape ∧ w'.output = w.output ∧ w.heap.size ≤ w'.heap.size) ∧ ∀ k, k < w.heap.size → k ≠ p → w'.heap[k]? = w.heap[k]?
theorem Onl.refl (p : Nat) (w : World) : Onl p w w := ⟨⟨rfl, rfl, rfl, Nat.le_refl _⟩, fun _ _ _ => rfl⟩
theorem Onl.trans {p : Nat} {w w' w'' : World} (h : Onl p w w') (h' : Onl p w' w'') : Onl p w w'' := by
  obtain ⟨⟨a1, a2, a3, a4⟩, a5⟩ := h
  obtain ⟨⟨b1, b2, b3, b4⟩, b5⟩ := h'
  exact ⟨⟨b1.trans a1, b2.trans a2, b3.trans a3, Nat.le_trans a4 b4⟩, fun k hk hp => (b5 k (by omega) hp).trans (a5 k hk hp)⟩
theorem Onl.of_below {p : Nat} {w w' : World} (h : Below w.heap.size w w') : Onl p w w' := ⟨⟨h.os, h.tape, h.output, h.size⟩, fun k hk _ => h.block k hk⟩
theorem Onl.bel {p B : Nat} {w w' : World} (h : Onl p w w') (hp : B ≤ p) (hs : B ≤ w.heap.size) : Below B w w' := ⟨h.1.1, h.1.2.1, h.1.2.2.1, h.1.2.2.2, fun k hk => h.2 k (by omega) (by omega)⟩
theorem Onl.size {p : Nat} {w w' : World} (h : Onl p w w') : w.heap.size ≤ w'.heap.size := h.1.2.2.2
theorem Onl.cell {p : Nat} {w w' : World} (h : Onl p w w') {a : Addr} {x : Value} (hc : w.cell? a = some x) (hp : a.block ≠ p) : w'.cell? a = some x := by
  rw [World.cell?_of_block (h.2 a.block (World.block_lt_of_cell? _ _ hc) hp)]
  exact hc
theorem Onl.set {p : Nat} (w : World) (i : Nat) (v : Value) : Onl p w (w.setCell ⟨p, i, none⟩ v) :=
  ⟨⟨rfl, rfl, rfl, by simp⟩, fun k _ hp => Below.heap_setCell _ _ _ _ (by simpa using hp)⟩
theorem Scn.cells {w : World} {p : Nat} {l : List UInt8} {b : Bool} (h : Scn w p l b) : w.cell? ⟨p, 0, none⟩ = some (.string (byB l)) ∧ w.cell? ⟨p, 1, none⟩ = some (.bool b) ∧ w.frozen? ⟨p, 0, none⟩ = false ∧ w.frozen? ⟨p, 1, none⟩ = false :=
  ⟨by rw [cell_of h]; rfl, by rw [cell_of h]; rfl, frozen_of_row _ _ _ _ _ h, frozen_of_row _ _ _ _ _ h⟩
theorem Scn.set0 {w : World} {p : Nat} {l : List UInt8} {b : Bool} (h : Scn w p l b) (l' : List UInt8) : Scn (w.setCell ⟨p, 0, none⟩ (.string (byB l'))) p l' b := by
  unfold Scn at h ⊢
  rw [heap_setCell_same _ _ _ _ _ _ h]; simp
theorem Scn.set1 {w : World} {p : Nat} {l : List UInt8} {b : Bool} (h : Scn w p l b) (b' : Bool) : Scn (w.setCell ⟨p, 1, none⟩ (.bool b')) p l b' := by
  unfold Scn at h ⊢
  rw [heap_setCell_same _ _ _ _ _ _ h]; simp

theorem fail_any (p : Nat) (l : List UInt8) (b : Bool) (w : World) (h : Scn w p l b) :
    Calls Tryd.prog 38 #[.pointer (some ⟨p, 0, none⟩)] w fun e w' => e = .returned (.int .i64 0) ∧ Scn w' p l true ∧ Onl p w w' := by
  obtain ⟨c0, c1, f0, f1⟩ := h.cells
  have HS := hide (h.set1 true)
  clear h
  go_enter Tryd.func38, Tryd.ntmps38
  go_wp2
  go_ret
  exact ⟨rfl, HS.out, Onl.set _ _ _⟩

theorem drop_cons {l : List UInt8} {d : Nat} (h : d < l.length) : l.drop d = l[d] :: l.drop (d + 1) := List.drop_eq_getElem_cons h
theorem numGo_stop {l : List UInt8} {v d : Nat} (h : l.length ≤ d ∨ ∃ h : d < l.length, digB l[d] = false) : numGo (l.drop d) v d = if d = 0 then none else some (v, d) := by
  rcases h with h | ⟨h, hc⟩
  · rw [List.drop_eq_nil_of_le h]; rfl
  · rw [drop_cons h, numGo, if_neg (by simp [hc])]
theorem numGo_zero {l : List UInt8} {v d : Nat} (h : d < l.length) (hc : digB l[d] = true) (h0 : 0 < d) (hv : v = 0) : numGo (l.drop d) v d = none := by
  rw [drop_cons h, numGo, if_pos hc, if_pos ⟨h0, hv⟩]
theorem numGo_big {l : List UInt8} {v d : Nat} (h : d < l.length) (hc : digB l[d] = true) (hb : 1000000000 < 10 * v + (l[d].toNat - 48)) : numGo (l.drop d) v d = none := by
  rw [drop_cons h, numGo, if_pos hc]
  split
  · rfl
  · rw [if_neg (by omega)]
theorem numGo_next {l : List UInt8} {v d : Nat} (h : d < l.length) (hc : digB l[d] = true) (h0 : ¬ (0 < d ∧ v = 0)) (hb : 10 * v + (l[d].toNat - 48) ≤ 1000000000) : numGo (l.drop d) v d = numGo (l.drop (d + 1)) (10 * v + (l[d].toNat - 48)) (d + 1) := by
  rw [drop_cons h, numGo, if_pos hc, if_neg h0, if_pos hb]
theorem ret_num {a b : Nat} (h : a = b) : Ending.returned (.int .i64 (a : Int)) = .returned (.int .i64 (b : Int)) := by rw [h]

set_option maxHeartbeats 4000000 in
theorem num_any (p : Nat) (l : List UInt8) (w : World) (h : Scn w p l false) (hl : l.length ≤ 9223372036854775807) :
    Calls Tryd.prog 39 #[.pointer (some ⟨p, 0, none⟩)] w fun e w' => ∃ (n : Nat) (r : List UInt8) (b : Bool), e = .returned (.int .i64 n) ∧ Scn w' p r b ∧ Onl p w w' ∧
      ((numGo l 0 0 = none ∧ n = 0 ∧ r = l ∧ b = true) ∨ ∃ e, numGo l 0 0 = some (n, e) ∧ r = l.drop e ∧ b = false) := by
  obtain ⟨c0, c1, f0, f1⟩ := h.cells
  have HS := hide h
  clear h
  obtain ⟨S, hS⟩ : ∃ S, S = byB l := ⟨_, rfl⟩
  rw [← hS] at c0
  have hsz : S.size ≤ 9223372036854775807 := by rw [hS, byB_size]; exact hl
  have HZ : Hid (S.size = l.length) := by show _ = _; rw [hS, byB_size]
  have HE := hide hS
  clear hS hl
  go_enter Tryd.func39, Tryd.ntmps39
  go_wp2
  go_step3
  go_wp2
  go_step3
  go_wp2
  go_loop [3, 4] (fun nv dv => ∃ v d : Nat, nv = .int .i64 v ∧ dv = .int .i64 d ∧ d ≤ S.size ∧ v ≤ 1000000000 ∧ Hid (numGo (l.drop d) v d = numGo l 0 0)) (fun _ dv => S.size - (intOf dv).toNat)
  case atStart => exact ⟨0, 0, rfl, rfl, Nat.zero_le _, Nat.zero_le _, rfl⟩
  case round =>
    obtain ⟨v, d, rfl, rfl, hd, hv, HN⟩ := hrel
    by_cases hlt : d < S.size
    · have hb := S[d].toNat_lt
      have HC : Hid (∃ h : d < l.length, l[d] = S[d]) := ⟨by have := HZ.out; omega, by have := HE.out; subst this; rw [byB_get]⟩
      by_cases c2 : (S[d].toNat : Int) < 48
      · have HST : Hid (numGo (l.drop d) v d = if d = 0 then none else some (v, d)) := by
          obtain ⟨h1, h2⟩ := HC.out
          exact numGo_stop (.inr ⟨h1, by rw [h2]; unfold digB; simp; omega⟩)
        by_cases hd0 : d = 0
        · have q0 : ((d : Int) == 0) = true := by simp; omega
          have HF : Hid (numGo l 0 0 = none) := by show _ = _; rw [← HN.out, HST.out, if_pos hd0]
          clear hd0
          go_wp2_with (first
            | (go_at_call 38; refine (fail_any p l false _ HS.out).mono ?_; rintro e w1 ⟨rfl, hs1, ho1⟩))
          try rw [Exit.noGoto_ret]
          go_ret
          exact ⟨0, l, true, rfl, hs1, ho1, .inl ⟨HF.out, rfl, rfl, rfl⟩⟩
        · have q0 : ((d : Int) == 0) = false := by simp; omega
          have HF : Hid (numGo l 0 0 = some (v, d)) := by show _ = _; rw [← HN.out, HST.out, if_neg hd0]
          have HT : Hid (Scn (w.setCell ⟨p, 0, none⟩ (.string (S.extract d S.size))) p (l.drop d) false) := by
            have := HS.out.set0 (l.drop d)
            rw [← byB_drop, ← HE.out] at this
            exact this
          clear hd0
          go_wp2
          try rw [Exit.noGoto_ret]
          go_ret
          exact ⟨v, l.drop d, false, rfl, HT.out, Onl.set _ _ _, .inr ⟨d, HF.out, rfl, rfl⟩⟩
      by_cases c3 : (S[d].toNat : Int) > 57
      · have HST : Hid (numGo (l.drop d) v d = if d = 0 then none else some (v, d)) := by
          obtain ⟨h1, h2⟩ := HC.out
          exact numGo_stop (.inr ⟨h1, by rw [h2]; unfold digB; simp; omega⟩)
        by_cases hd0 : d = 0
        · have q0 : ((d : Int) == 0) = true := by simp; omega
          have HF : Hid (numGo l 0 0 = none) := by show _ = _; rw [← HN.out, HST.out, if_pos hd0]
          clear hd0
          go_wp2_with (first
            | (go_at_call 38; refine (fail_any p l false _ HS.out).mono ?_; rintro e w1 ⟨rfl, hs1, ho1⟩))
          try rw [Exit.noGoto_ret]
          go_ret
          exact ⟨0, l, true, rfl, hs1, ho1, .inl ⟨HF.out, rfl, rfl, rfl⟩⟩
        · have q0 : ((d : Int) == 0) = false := by simp; omega
          have HF : Hid (numGo l 0 0 = some (v, d)) := by show _ = _; rw [← HN.out, HST.out, if_neg hd0]
          have HT : Hid (Scn (w.setCell ⟨p, 0, none⟩ (.string (S.extract d S.size))) p (l.drop d) false) := by
            have := HS.out.set0 (l.drop d)
            rw [← byB_drop, ← HE.out] at this
            exact this
          clear hd0
          go_wp2
          try rw [Exit.noGoto_ret]
          go_ret
          exact ⟨v, l.drop d, false, rfl, HT.out, Onl.set _ _ _, .inr ⟨d, HF.out, rfl, rfl⟩⟩
      have HD : Hid (∃ h : d < l.length, l[d] = S[d] ∧ digB l[d] = true) := by
        obtain ⟨h1, h2⟩ := HC.out
        exact ⟨h1, h2, by rw [h2, digB_iff]; omega⟩
      obtain ⟨c, hc⟩ : ∃ c : Nat, c = S[d].toNat - 48 := ⟨_, rfl⟩
      have hc9 : c ≤ 9 := by omega
      have HCC : Hid (c = S[d].toNat - 48) := hc
      by_cases hz : 0 < d ∧ v = 0
      · obtain ⟨hz1, rfl⟩ := hz
        have HF : Hid (numGo l 0 0 = none) := by
          obtain ⟨h1, h2, h3⟩ := HD.out
          show _ = _
          rw [← HN.out]; exact numGo_zero h1 h3 hz1 rfl
        clear hc hc9
        go_wp2_with (first
          | (go_at_call 38; refine (fail_any p l false _ HS.out).mono ?_; rintro e w1 ⟨rfl, hs1, ho1⟩))
        try rw [Exit.noGoto_ret]
        go_ret
        exact ⟨0, l, true, rfl, hs1, ho1, .inl ⟨HF.out, rfl, rfl, rfl⟩⟩
      have HZZ := hide hz
      by_cases hd0 : d = 0
      · have q0 : ¬ 0 < d := by omega
        clear hd0 hz
        cases hm : may (10 * (v : Int) + ((S[d].toNat : Int) - 48))
        · have HF : Hid (numGo l 0 0 = none) := by
            obtain ⟨h1, h2, h3⟩ := HD.out
            show _ = _
            rw [← HN.out]
            refine numGo_big h1 h3 ?_
            rw [h2]
            have := may_not.1 hm
            omega
          clear hc hc9
          go_wp2_with (first
            | (go_at_call 33; refine (may_any _ _).mono ?_; rintro e w1 ⟨rfl, rfl⟩)
            | (go_at_call 38; refine (fail_any p l false _ HS.out).mono ?_; rintro e w1 ⟨rfl, hs1, ho1⟩))
          try rw [Exit.noGoto_ret]
          go_ret
          exact ⟨0, l, true, rfl, hs1, ho1, .inl ⟨HF.out, rfl, rfl, rfl⟩⟩
        · have hle := (may_iff.1 hm).2
          have HF : Hid (numGo (l.drop (d + 1)) (10 * v + c) (d + 1) = numGo l 0 0) := by
            obtain ⟨h1, h2, h3⟩ := HD.out
            show _ = _
            rw [← HN.out]
            have e := numGo_next h1 h3 HZZ.out (by rw [h2]; omega)
            rw [e, h2, HCC.out]
          have HV : Hid (10 * v + c ≤ 1000000000 ∧ Value.int .i64 (10 * (v : Int) + ((S[d].toNat : Int) - 48)) = .int .i64 ((10 * v + c : Nat) : Int)) := ⟨by omega, congrArg _ (by omega)⟩
          clear hc hc9 hle
          go_wp2_with (first
            | (go_at_call 33; refine (may_any _ _).mono ?_; rintro e w1 ⟨rfl, rfl⟩))
          go_round
          case rel => exact ⟨10 * v + c, d + 1, HV.out.2, by go_num, by omega, HV.out.1, HF⟩
          case measure => simp [intOf]; omega
      · have q0 : 0 < d := by omega
        have q1 : ((v : Int) == 0) = false := by simp; omega
        clear hd0 hz
        cases hm : may (10 * (v : Int) + ((S[d].toNat : Int) - 48))
        · have HF : Hid (numGo l 0 0 = none) := by
            obtain ⟨h1, h2, h3⟩ := HD.out
            show _ = _
            rw [← HN.out]
            refine numGo_big h1 h3 ?_
            rw [h2]
            have := may_not.1 hm
            omega
          clear hc hc9
          go_wp2_with (first
            | (go_at_call 33; refine (may_any _ _).mono ?_; rintro e w1 ⟨rfl, rfl⟩)
            | (go_at_call 38; refine (fail_any p l false _ HS.out).mono ?_; rintro e w1 ⟨rfl, hs1, ho1⟩))
          try rw [Exit.noGoto_ret]
          go_ret
          exact ⟨0, l, true, rfl, hs1, ho1, .inl ⟨HF.out, rfl, rfl, rfl⟩⟩
        · have hle := (may_iff.1 hm).2
          have HF : Hid (numGo (l.drop (d + 1)) (10 * v + c) (d + 1) = numGo l 0 0) := by
            obtain ⟨h1, h2, h3⟩ := HD.out
            show _ = _
            rw [← HN.out]
            have e := numGo_next h1 h3 HZZ.out (by rw [h2]; omega)
            rw [e, h2, HCC.out]
          have HV : Hid (10 * v + c ≤ 1000000000 ∧ Value.int .i64 (10 * (v : Int) + ((S[d].toNat : Int) - 48)) = .int .i64 ((10 * v + c : Nat) : Int)) := ⟨by omega, congrArg _ (by omega)⟩
          clear hc hc9 hle
          go_wp2_with (first
            | (go_at_call 33; refine (may_any _ _).mono ?_; rintro e w1 ⟨rfl, rfl⟩))
          go_round
          case rel => exact ⟨10 * v + c, d + 1, HV.out.2, by go_num, by omega, HV.out.1, HF⟩
          case measure => simp [intOf]; omega
    · have HST : Hid (numGo (l.drop d) v d = if d = 0 then none else some (v, d)) := numGo_stop (.inl (by have := HZ.out; omega))
      by_cases hd0 : d = 0
      · have q0 : ((d : Int) == 0) = true := by simp; omega
        have HF : Hid (numGo l 0 0 = none) := by show _ = _; rw [← HN.out, HST.out, if_pos hd0]
        clear hd0
        go_wp2_with (first
          | (go_at_call 38; refine (fail_any p l false _ HS.out).mono ?_; rintro e w1 ⟨rfl, hs1, ho1⟩))
        try rw [Exit.noGoto_ret]
        go_ret
        exact ⟨0, l, true, rfl, hs1, ho1, .inl ⟨HF.out, rfl, rfl, rfl⟩⟩
      · have q0 : ((d : Int) == 0) = false := by simp; omega
        have HF : Hid (numGo l 0 0 = some (v, d)) := by show _ = _; rw [← HN.out, HST.out, if_neg hd0]
        have HT : Hid (Scn (w.setCell ⟨p, 0, none⟩ (.string (S.extract d S.size))) p (l.drop d) false) := by
          have := HS.out.set0 (l.drop d)
          rw [← byB_drop, ← HE.out] at this
          exact this
        clear hd0
        go_wp2
        try rw [Exit.noGoto_ret]
        go_ret
        exact ⟨v, l.drop d, false, rfl, HT.out, Onl.set _ _ _, .inr ⟨d, HF.out, rfl, rfl⟩⟩

theorem cut_any (k : ByteArray) (l : List UInt8) (w : World) :
    Calls Tryd.prog 37 #[.string (byB l), .string k] w fun e w' => e = .returned (.tuple #[.string (byB (if k.data.toList.isPrefixOf l = true then l.drop k.data.toList.length else l)), .bool (k.data.toList.isPrefixOf l)]) ∧ w = w' := by
  refine (Tryd.strings_CutPrefix (byB l) k w).mono ?_
  rintro e w' ⟨rfl, rfl⟩
  rw [byB_data]
  exact ⟨rfl, rfl⟩

set_option maxHeartbeats 2000000 in
theorem beh_any (p : Nat) (k : ByteArray) (l : List UInt8) (b : Bool) (w : World) (h : Scn w p l b) (hl : l.length ≤ 9223372036854775807) :
    Calls Tryd.prog 32 #[.pointer (some ⟨p, 0, none⟩), .string k] w fun e w' => e = .returned (.int .i64 (behF k.data.toList (l, b)).1) ∧ Scn w' p (behF k.data.toList (l, b)).2.1 (behF k.data.toList (l, b)).2.2 ∧ Onl p w w' := by
  obtain ⟨c0, c1, f0, f1⟩ := h.cells
  have HS := hide h
  clear h
  have HC := cut_any k l w
  obtain ⟨q, hq⟩ : ∃ q, q = k.data.toList.isPrefixOf l := ⟨_, rfl⟩
  rw [← hq] at HC
  have HQ := hide hq
  clear hq
  by_cases hbad : b = true ∨ q = false
  · have HF : Hid (behF k.data.toList (l, b) = (0, (l, true))) := by
      show _ = _
      unfold behF
      rw [if_pos (by rw [← HQ.out]; exact hbad)]
    rw [HF.out]
    have hbq : (b || !q) = true := by rcases hbad with h | h <;> simp [h]
    generalize byB (if q = true then l.drop k.data.toList.length else l) = T at HC
    cases b
    · obtain rfl : q = false := by simpa using hbad
      clear hbad hbq HF
      go_enter Tryd.func32, Tryd.ntmps32
      go_wp2_with (first
        | (go_at_call 37; refine HC.mono ?_; rintro e w1 ⟨rfl, rfl⟩)
        | (go_at_call 38; refine (fail_any p l _ _ HS.out).mono ?_; rintro e w2 ⟨rfl, hs2, ho2⟩))
      go_ret
      exact ⟨rfl, hs2, ho2⟩
    · clear hbad hbq HF
      go_enter Tryd.func32, Tryd.ntmps32
      go_wp2_with (first
        | (go_at_call 37; refine HC.mono ?_; rintro e w1 ⟨rfl, rfl⟩)
        | (go_at_call 38; refine (fail_any p l _ _ HS.out).mono ?_; rintro e w2 ⟨rfl, hs2, ho2⟩))
      go_ret
      exact ⟨rfl, hs2, ho2⟩
  · obtain ⟨h1, h2⟩ := not_or.1 hbad
    obtain rfl : b = false := by simpa using h1
    obtain rfl : q = true := by simpa using h2
    clear hbad h1 h2
    rw [if_pos rfl] at HC
    obtain ⟨t, ht⟩ : ∃ t, t = l.drop k.data.toList.length := ⟨_, rfl⟩
    rw [← ht] at HC
    have HT := hide (HS.out.set0 t)
    have hlt : t.length ≤ 9223372036854775807 := by rw [ht]; simp; omega
    have HN := num_any p t _ HT.out hlt
    have HF : Hid (behF k.data.toList (l, false) = match numGo t 0 0 with | none => (0, (t, true)) | some (v, e) => (v, (t.drop e, false))) := by
      show _ = _
      unfold behF
      rw [if_neg (by rw [← HQ.out]; simp)]
      simp only [← ht]
      cases numGo t 0 0 <;> rfl
    clear ht hlt
    go_enter Tryd.func32, Tryd.ntmps32
    go_wp2_with (first
      | (go_at_call 37; refine HC.mono ?_; rintro e w1 ⟨rfl, rfl⟩)
      | (go_at_call 39; refine HN.mono ?_; rintro e w2 ⟨n, r, b2, rfl, hs2, ho2, hcase⟩))
    go_ret
    rw [HF.out]
    rcases hcase with ⟨e1, rfl, rfl, rfl⟩ | ⟨e, e1, rfl, rfl⟩
    · rw [e1]
      exact ⟨rfl, hs2, (Onl.set _ _ _).trans ho2⟩
    · rw [e1]
      exact ⟨rfl, hs2, (Onl.set _ _ _).trans ho2⟩
end Go.Proofs.YteefmibnkfojiaaDoor
