/-
  PeersFewer's walk.
-/
import Derived.Test.YtlndiobkkmknnaaPerA
import Derived.Test.YtlndiobkkmknnaaPerB
import Derived.Test.YtlndiobkkmknnaaNum
namespace Go.Proofs.Ytlndiobkkmknnaa
open Go.ChangeShapes Go.WideShapes Go.ChangeAt Go.RowKit

theorem saf_beside (l : List Int) : safV (l ++ [1, 4, 5]) = safV l := by
  have e : ∀ t, t = 13 ∨ t = 14 → hasV t (l ++ [1, 4, 5]) = hasV t l := fun t h => by
    rw [has_app]
    rcases h with rfl | rfl
    · rw [show hasV 13 [1, 4, 5] = false by decide, Bool.or_false]
    · rw [show hasV 14 [1, 4, 5] = false by decide, Bool.or_false]
  have a := saf_iff l
  have b := saf_iff (l ++ [1, 4, 5])
  rw [e 13 (.inl rfl), e 14 (.inr rfl)] at b
  have c : (∀ s ∈ l ++ [1, 4, 5], mayV s = true) ↔ ∀ s ∈ l, mayV s = true := by
    constructor
    · exact fun h s hs => h s (List.mem_append.2 (.inl hs))
    · intro h s hs
      rcases List.mem_append.1 hs with hs | hs
      · exact h s hs
      · simp at hs; rcases hs with rfl | rfl | rfl <;> decide
  rw [c, ← a] at b
  cases h1 : safV (l ++ [1, 4, 5]) <;> cases h2 : safV l <;> rw [h1, h2] at b <;> simp at b <;> rfl
theorem saf_odd (l : List Int) : safV (l ++ [6]) = false := saf_out (s := 6) (by simp) (by decide)
theorem saf_head {l : List Int} (h : safV l = true) (k : Nat) : safV (l.take k) = true := saf_mem h fun _ hs => List.mem_of_mem_take hs
theorem saf_tail {l : List Int} (h : safV l = true) (k : Nat) : safV (l.drop k) = true := saf_mem h fun _ hs => List.mem_of_mem_drop hs
theorem ints_three (w : World) (x y z : Int) : Ints (w.alloc (.cells #[.int .i64 x, .int .i64 y, .int .i64 z] 3)) (some ⟨w.heap.size, 0, none⟩) [x, y, z] :=
  .inr ⟨w.heap.size, 0, rfl, fun i hi => by
    have : [x, y, z].length = 3 := rfl
    have h0 : i = 0 ∨ i = 1 ∨ i = 2 := by omega
    rcases h0 with rfl | rfl | rfl <;> simp⟩
set_option maxHeartbeats 4000000 in
theorem peersFewer_walk (a0 : Option Addr) (len0 cap0 : Nat) (z0 : List Int) (a1 : Int) (w : World) (w0 : IsRow .i64 w a0 len0 cap0 z0) (_w1 : (Lit.int .i64 a1).wf = true) :
    Calls Try.prog 5 #[.slice a0 len0 cap0, .int .i64 a1] w fun e w' => e = .returned (.bool true) ∧ Below w.heap.size w w' := by
  have hlc : len0 ≤ cap0 := by
    rcases w0 with ⟨_, rfl, rfl, _⟩ | ⟨x, _, h, _⟩
    · exact Nat.le_refl _
    · exact h
  have HN := hide w0.nils
  obtain ⟨l, rfl, hl9, hi⟩ := w0.ints
  clear w0 _w1
  by_cases hbig : 60 < l.length
  · clear hi
    go_enter Try.func5, Try.ntmps5
    go_wp2_with (go_at_call 7; refine (pawake_any _).mono ?_; rintro e u ⟨rfl, hb⟩)
    go_ret
    exact ⟨rfl, hb⟩
  have S0 := hide (psafe_any a0 l cap0 w (by omega) hi)
  obtain ⟨s, hs⟩ : ∃ s, safV l = s := ⟨_, rfl⟩
  rw [hs] at S0
  have HS := hide hs
  have HI := hide hi
  have HLC := hide hlc
  obtain ⟨c0, c1⟩ := um_bd a1 ((l.length : Int) + 1) (by omega) (by omega)
  obtain ⟨c, hc⟩ : ∃ c : Nat, um a1 ((l.length : Int) + 1) = c := ⟨(um a1 ((l.length : Int) + 1)).toNat, by omega⟩
  have hcl : c ≤ l.length := by omega
  unfold um at hc
  clear c0 c1 hs hi hlc hl9
  cases s
  · go_enter Try.func5, Try.ntmps5
    go_wp2_with fail
    refine S0.out.mono ?_
    rintro e u ⟨rfl, rfl⟩
    have KA : Hid (Ints (w.alloc (.cells #[] 3)) a0 l) := HI.out.below ((Below.refl _ _).alloc (Nat.le_refl _) _)
    clear S0
    go_wp2_with (first
      | (at_builtin; refine append_numsN rfl (.tmp 22) (.tmp 23) rfl w.heap.size _ 0 [] rfl (nums_empty w _ (Nat.le_refl _)) a0 l.length cap0 l rfl rfl HN.out KA.out (by omega) (by simp) ?_
         intro v1 w1 o1 g1
         have K1 : Hid (OwnI w w1 v1 l) := (OwnI.fresh (Below.refl _ _)).more (m := l) (by simp) o1 g1
         clear o1 g1)
      | (at_builtin; refine append_nums rfl (.tmp 24) (.tmp 25) rfl w.heap.size v1 l.length l rfl (K1.out.own.alloc _) ⟨w1.heap.size, 0, none⟩ 3 3 [1, 4, 5] rfl rfl (ints_three _ _ _ _) (by omega) (by have := K1.out.bel.size; simp; omega) ?_
         intro v2 w2 o2 g2
         obtain ⟨L2, hL2⟩ : ∃ L, L = l ++ [1, 4, 5] := ⟨_, rfl⟩
         have K2 : OwnI w w2 v2 (l ++ [1, 4, 5]) := (K1.out.alloc _).more (m := [1, 4, 5]) (by simp) o2 g2
         rw [← hL2] at K2
         obtain ⟨b2, d2, rfl, -, -, i2⟩ := K2.ints
         have HB2 := hide K2.bel
         have HI2 := hide i2
         have HL2 := hide hL2
         have KB : Hid (Ints (w2.alloc (.cells #[] 3)) a0 l) := (HI.out.below K2.bel).below ((Below.refl _ _).alloc (Nat.le_refl _) _)
         clear o2 g2 K2 i2 hL2)
      | (at_builtin; refine append_numsN rfl (.tmp 27) (.tmp 28) rfl w2.heap.size _ 0 [] rfl (nums_empty w2 _ (Nat.le_refl _)) a0 l.length cap0 l rfl rfl HN.out KB.out (by omega) (by simp) ?_
         intro v3 w3 o3 g3
         have K3 : Hid (OwnI w2 w3 v3 l) := (OwnI.fresh (Below.refl _ _)).more (m := l) (by simp) o3 g3
         clear o3 g3)
      | (at_builtin; refine append_nums rfl (.tmp 29) (.tmp 30) rfl w2.heap.size v3 l.length l rfl (K3.out.own.alloc _) ⟨w3.heap.size, 0, none⟩ 1 1 [6] rfl rfl (ints_one _ _) (by omega) (by have := K3.out.bel.size; simp; omega) ?_
         intro v4 w4 o4 g4
         obtain ⟨L4, hL4⟩ : ∃ L, L = l ++ [6] := ⟨_, rfl⟩
         have K4 : OwnI w2 w4 v4 (l ++ [6]) := (K3.out.alloc _).more (m := [6]) (by simp) o4 g4
         rw [← hL4] at K4
         obtain ⟨b4, d4, rfl, -, -, i4⟩ := K4.ints
         have HB4 := hide K4.bel
         have HI4 := hide i4
         have HL4 := hide hL4
         have Q2 : Hid (Calls Try.prog 12 #[.slice b2 L2.length d2] w4 fun e w' => e = .returned (.bool false) ∧ w4 = w') := by
           have := psafe_any b2 L2 d2 w4 (by rw [HL2.out]; simp; omega) (HI2.out.below HB4.out)
           rw [show safV L2 = false by rw [HL2.out, saf_beside, HS.out]] at this
           exact this
         have Q4 : Hid (Calls Try.prog 12 #[.slice b4 L4.length d4] w4 fun e w' => e = .returned (.bool false) ∧ w4 = w') := by
           have := psafe_any b4 L4 d4 w4 (by rw [HL4.out]; simp; omega) HI4.out
           rw [show safV L4 = false by rw [HL4.out, saf_odd]] at this
           exact this
         have HB := hide (bel_on' HB2.out HB4.out)
         clear o4 g4 K4 i4 hL4))
    refine Q2.out.mono ?_
    rintro e u ⟨rfl, rfl⟩
    go_wp2_with fail
    refine Q4.out.mono ?_
    rintro e u ⟨rfl, rfl⟩
    go_wp2_with (go_at_call 7; refine (pawake_any _).mono ?_; rintro e u ⟨rfl, hb⟩)
    have HE := hide (bel_on' HB.out hb)
    go_ret
    exact ⟨rfl, HE.out⟩
  · have qc : (c : Int) ≤ (cap0 : Int) := by have := HLC.out; omega
    have qd : (c : Int) ≤ (l.length : Int) := by omega
    go_enter Try.func5, Try.ntmps5
    go_wp2_with fail
    refine S0.out.mono ?_
    rintro e u ⟨rfl, rfl⟩
    have KA : Hid (Ints (w.alloc (.cells #[] 3)) a0 l) := HI.out.below ((Below.refl _ _).alloc (Nat.le_refl _) _)
    clear S0
    go_wp2_with (first
      | (at_builtin; refine append_numsN rfl (.tmp 22) (.tmp 23) rfl w.heap.size _ 0 [] rfl (nums_empty w _ (Nat.le_refl _)) a0 l.length cap0 l rfl rfl HN.out KA.out (by omega) (by simp) ?_
         intro v1 w1 o1 g1
         have K1 : Hid (OwnI w w1 v1 l) := (OwnI.fresh (Below.refl _ _)).more (m := l) (by simp) o1 g1
         clear o1 g1)
      | (at_builtin; refine append_nums rfl (.tmp 24) (.tmp 25) rfl w.heap.size v1 l.length l rfl (K1.out.own.alloc _) ⟨w1.heap.size, 0, none⟩ 3 3 [1, 4, 5] rfl rfl (ints_three _ _ _ _) (by omega) (by have := K1.out.bel.size; simp; omega) ?_
         intro v2 w2 o2 g2
         obtain ⟨L2, hL2⟩ : ∃ L, L = l ++ [1, 4, 5] := ⟨_, rfl⟩
         have K2 : OwnI w w2 v2 (l ++ [1, 4, 5]) := (K1.out.alloc _).more (m := [1, 4, 5]) (by simp) o2 g2
         rw [← hL2] at K2
         obtain ⟨b2, d2, rfl, -, -, i2⟩ := K2.ints
         have HB2 := hide K2.bel
         have HI2 := hide i2
         have HL2 := hide hL2
         have KB : Hid (Ints (w2.alloc (.cells #[] 3)) a0 l) := (HI.out.below K2.bel).below ((Below.refl _ _).alloc (Nat.le_refl _) _)
         clear o2 g2 K2 i2 hL2)
      | (at_builtin; refine append_numsN rfl (.tmp 27) (.tmp 28) rfl w2.heap.size _ 0 [] rfl (nums_empty w2 _ (Nat.le_refl _)) a0 l.length cap0 l rfl rfl HN.out KB.out (by omega) (by simp) ?_
         intro v3 w3 o3 g3
         have K3 : Hid (OwnI w2 w3 v3 l) := (OwnI.fresh (Below.refl _ _)).more (m := l) (by simp) o3 g3
         clear o3 g3)
      | (at_builtin; refine append_nums rfl (.tmp 29) (.tmp 30) rfl w2.heap.size v3 l.length l rfl (K3.out.own.alloc _) ⟨w3.heap.size, 0, none⟩ 1 1 [6] rfl rfl (ints_one _ _) (by omega) (by have := K3.out.bel.size; simp; omega) ?_
         intro v4 w4 o4 g4
         obtain ⟨L4, hL4⟩ : ∃ L, L = l ++ [6] := ⟨_, rfl⟩
         have K4 : OwnI w2 w4 v4 (l ++ [6]) := (K3.out.alloc _).more (m := [6]) (by simp) o4 g4
         rw [← hL4] at K4
         obtain ⟨b4, d4, rfl, -, -, i4⟩ := K4.ints
         have HB4 := hide K4.bel
         have HI4 := hide i4
         have HL4 := hide hL4
         have Q2 : Hid (Calls Try.prog 12 #[.slice b2 L2.length d2] w4 fun e w' => e = .returned (.bool true) ∧ w4 = w') := by
           have := psafe_any b2 L2 d2 w4 (by rw [HL2.out]; simp; omega) (HI2.out.below HB4.out)
           rw [show safV L2 = true by rw [HL2.out, saf_beside, HS.out]] at this
           exact this
         have Q4 : Hid (Calls Try.prog 12 #[.slice b4 L4.length d4] w4 fun e w' => e = .returned (.bool false) ∧ w4 = w') := by
           have := psafe_any b4 L4 d4 w4 (by rw [HL4.out]; simp; omega) HI4.out
           rw [show safV L4 = false by rw [HL4.out, saf_odd]] at this
           exact this
         have HB := hide (bel_on' HB2.out HB4.out)
         have Q0 : Hid (Calls Try.prog 12 #[.slice a0 c cap0] w4 fun e w' => e = .returned (.bool true) ∧ w4 = w') := by
           have := psafe_any a0 (l.take c) cap0 w4 (by simp; omega) ((HI.out.below HB.out).head c)
           rw [saf_head HS.out, List.length_take, Nat.min_eq_left hcl] at this
           exact this
         have Q1 := psafe_any (tailA a0 cap0 c) (l.drop c) (cap0 - c) w4 (by simp; omega) ((HI.out.below HB.out).tail cap0 c HLC.out)
         rw [saf_tail HS.out, List.length_drop] at Q1
         have Q1a : Hid (cap0 = c → Calls Try.prog 12 #[.slice a0 (l.length - c) 0] w4 fun e w' => e = .returned (.bool true) ∧ w4 = w') := fun h => by
           have := Q1
           unfold tailA at this
           rw [if_pos h, h, Nat.sub_self] at this
           exact this
         have Q1b : Hid (¬ cap0 = c → Calls Try.prog 12 #[.slice (Option.map (fun x => x.add c) a0) (l.length - c) (cap0 - c)] w4 fun e w' => e = .returned (.bool true) ∧ w4 = w') := fun h => by
           have := Q1
           unfold tailA at this
           rw [if_neg h] at this
           exact this
         clear Q1
         clear o4 g4 K4 i4 hL4))
    refine Q0.out.mono ?_
    rintro e u ⟨rfl, rfl⟩
    go_wp2_with fail
    · refine (Q1a.out (by assumption)).mono ?_
      rintro e u ⟨rfl, rfl⟩
      go_wp2_with fail
      refine Q2.out.mono ?_
      rintro e u ⟨rfl, rfl⟩
      go_wp2_with fail
      refine Q4.out.mono ?_
      rintro e u ⟨rfl, rfl⟩
      go_wp2_with (go_at_call 7; refine (pawake_any _).mono ?_; rintro e u ⟨rfl, hb⟩)
      have HE := hide (bel_on' HB.out hb)
      go_ret
      exact ⟨rfl, HE.out⟩
    · refine (Q1b.out (by assumption)).mono ?_
      rintro e u ⟨rfl, rfl⟩
      go_wp2_with fail
      refine Q2.out.mono ?_
      rintro e u ⟨rfl, rfl⟩
      go_wp2_with fail
      refine Q4.out.mono ?_
      rintro e u ⟨rfl, rfl⟩
      go_wp2_with (go_at_call 7; refine (pawake_any _).mono ?_; rintro e u ⟨rfl, hb⟩)
      have HE := hide (bel_on' HB.out hb)
      go_ret
      exact ⟨rfl, HE.out⟩
end Go.Proofs.Ytlndiobkkmknnaa
