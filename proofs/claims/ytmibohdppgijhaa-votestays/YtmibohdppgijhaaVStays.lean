/-
  VoteStays's walk.
-/
import Derived.Test.YtmibohdppgijhaaVotL
import Derived.Test.YtmibohdppgijhaaVotA
import Derived.Test.YtmibohdppgijhaaAgnD
import Derived.Test.YtmibohdppgijhaaStrs
namespace Go.Proofs.Ytmibohdppgijhaa
open Go.ChangeShapes Go.WideShapes Go.ChangeAt Go.RowKit

/-- What stands behind j messages: the way so far, its last state s, the row that holds it. -/
structure StW (w wr : World) (j : Nat) (s : Int) (a : Option Addr) (c : Nat) (r : List Int) : Prop where
  len : r.length = j
  leg : legGo 0 r = r.length
  last : (0 :: r).getLast (by simp) = s
  may : mayV s = true
  own : wr.ownsRow w.heap.size 3 1 (.slice a (j + 1) c) (j + 1) ((0 :: r).map (Value.int .i64))
  bel : Below w.heap.size w wr
def SRel (w : World) (len : Nat) (sv v i : Value) (wr : World) : Prop :=
  ∃ (j : Nat) (s : Int) (a : Option Addr) (c : Nat) (r : List Int), i = .int .i64 j ∧ sv = .int .i64 s ∧ v = .slice a (j + 1) c ∧ j ≤ len ∧ j ≤ 200 ∧ Hid (StW w wr j s a c r)
theorem StW.legal {w wr : World} {j : Nat} {s : Int} {a : Option Addr} {c : Nat} {r : List Int} (h : StW w wr j s a c r) (hj : j ≤ 200) :
    Calls Try.prog 20 #[.slice a (j + 1) c] wr fun e w' => e = .returned (.int .i64 ((j + 1 : Nat) : Int)) ∧ wr = w' := by
  have hl : (0 :: r : List Int).length = j + 1 := by rw [List.length_cons, h.len]
  obtain ⟨a', c', e, _, hi⟩ := owned_nums h.own
  cases e
  obtain ⟨_, _, e, hc⟩ := row_slice h.own
  cases e
  have e : legV (0 :: r) = j + 1 := by
    show (if (0 : Int) = 0 then legGo 0 r + 1 else 0) = _
    rw [if_pos rfl, h.leg, h.len]
  have := vlegal_any a (0 :: r) c wr (by omega) (by omega) hi
  rw [hl, e] at this
  exact this
theorem getLast_snoc (r : List Int) (n : Int) : (0 :: (r ++ [n])).getLast (List.cons_ne_nil _ _) = n := by
  exact List.getLast_concat (l := 0 :: r)
theorem StW.more {w wr u : World} {j : Nat} {s n : Int} {a a4 : Option Addr} {c c4 : Nat} {r : List Int} {o : Obj} (h : StW w wr j s a c r) (ho : u.ownsRow w.heap.size 3 1 (.slice a4 (j + 1 + 1) c4) (j + 1 + 1) ((0 :: r ++ [n]).map (Value.int .i64))) (hg : (wr.alloc o).grownBy u (Value.slice a (j + 1) c).ownBlock) (hf : folV s n = true) (hm : mayV n = true) :
    StW w u (j + 1) n a4 c4 (r ++ [n]) :=
  ⟨by simp [h.len], by rw [legGo_app r 0 n h.leg (by rw [h.last]; exact hf)]; simp, getLast_snoc r n, hm, ho, (h.bel.alloc h.bel.size _).grown hg (by have := h.bel.size; simp; omega) (fun i e => (h.own.lt i e).1)⟩
set_option maxHeartbeats 4000000 in
theorem voteStays_walk (a0 : Option Addr) (len0 cap0 : Nat) (z0 : List Int) (l1 : List Bool) (a1 : Option Addr) (cap1 : Nat) (w : World) (w0 : IsRow .i64 w a0 len0 cap0 z0) (w1 : BlsIn w l1 a1) :
    Calls Try.prog 4 #[.slice a0 len0 cap0, .slice a1 l1.length cap1] w fun e w' => e = .returned (.bool true) ∧ Below w.heap.size w w' := by
  obtain ⟨l, rfl, hl9, hi⟩ := w0.ints
  clear w0
  obtain ⟨hb9, hbl⟩ := w1
  have HI := hide hi
  have HBL := hide hbl
  have HS0 : Hid (StW w (w.alloc (.cells #[.int .i64 0] 3)) 0 0 (some ⟨w.heap.size, 0, none⟩) 1 []) :=
    ⟨rfl, rfl, rfl, by decide, ⟨rfl, .inr ⟨w.heap.size, 1, #[.int .i64 0], rfl, Nat.le_refl _, by show (w.heap.push _)[w.heap.size]? = _; simp, Nat.le_refl _, by unfold maxLen; omega, rfl, rfl⟩⟩, (Below.refl _ _).alloc (Nat.le_refl _) _⟩
  clear hi hbl
  go_enter Try.func4, Try.ntmps4
  go_wp2
  go_loopw [5, 6, 15] (fun s v i wr => SRel w l.length s v i wr) (fun _ _ i _ => (l.length - intOf i).toNat)
  case atStart => exact ⟨0, 0, _, 1, [], rfl, rfl, rfl, Nat.zero_le _, Nat.zero_le _, HS0⟩
  case round =>
    obtain ⟨j, s, a, c, r, rfl, rfl, rfl, hj, hj2, HS⟩ := hrel
    clear HS0
    by_cases hlt : j < l.length
    · have ql : (j : Int) < (l.length : Int) := by omega
      rcases HI.out.below HS.out.bel with h0 | ⟨bi, oi, rfl, hci⟩
      · subst h0; simp at hlt
      have c0 := hci j hlt
      obtain ⟨k, hk⟩ : ∃ k, l.getD j 0 = k := ⟨_, rfl⟩
      rw [hk] at c0
      clear hci hk
      by_cases h200 : j < 200
      · have q200 : ¬ (j : Int) ≥ 200 := by omega
        have fin : ∀ b : Bool, ∃ n m : Int, (∀ u, Calls Try.prog 10 #[.int .i64 s, .int .i64 k, .bool b] u fun e w' => e = .returned (.tuple #[.int .i64 n, .int .i64 m]) ∧ u = w') ∧ mayV n = true ∧ (finV s = true → n = s) ∧ folV s n = true := fun b =>
          ⟨_, _, fun u => vnext_any s k b u, nx_may HS.out.may, fun h => final_stays h, nx_fol⟩
        by_cases hcan : j < l1.length
        · have qc : (j : Int) < (l1.length : Int) := by omega
          obtain ⟨b, hb⟩ : ∃ b, l1[j]? = some b := ⟨l1[j], by simp [hcan]⟩
          rcases HBL.out.below HS.out.bel with h0 | ⟨bc, oc, rfl, hcb⟩
          · subst h0; simp at hcan
          have d0 := hcb j b hb
          clear hcb hb
          obtain ⟨n, m, HN, hn, hf, hfol⟩ := fin b
          have HNX := hide HN
          have HM := hide (fun u => vmay_any n u)
          have HFI := hide (fun u => vfin_any s u)
          have HS' : Hid (StW w wr j s a c r) := HS
          have HFO := hide hfol
          have HMY := hide hn
          have HL := hide HS.out.len
          rw [hn] at HM
          clear fin HN hn hfol
          cases hfs : finV s
          · rw [hfs] at HFI
            clear hfs hf
            go_wp2_with (first
              | (go_at_call 10; refine (HNX.out _).mono ?_; rintro e u ⟨rfl, rfl⟩)
              | (go_at_call 16; refine (HFI.out _).mono ?_; rintro e u ⟨rfl, rfl⟩)
              | (go_at_call 14; refine (HM.out _).mono ?_; rintro e u ⟨rfl, rfl⟩)
              | (at_builtin; refine append_nums rfl (.tmp 51) (.tmp 53) rfl w.heap.size (.slice a (j + 1) c) (j + 1) (0 :: r) rfl (HS.out.own.alloc _) ⟨wr.heap.size, 0, none⟩ 1 1 [n] rfl rfl (ints_one _ _) (by omega) (by have := HS.out.bel.size; simp; omega) ?_; intro v' w4 hown' hgrow; obtain ⟨a4, c4, rfl, -⟩ := row_slice hown'; have HS4 := hide (HS.out.more (n := n) hown' hgrow HFO.out HMY.out); clear hown' hgrow))
            go_roundw
            case rel => exact ⟨j + 1, n, a4, c4, r ++ [n], by go_num, rfl, rfl, by omega, by omega, HS4⟩
            case measure => simp [intOf]; omega
          · rw [hfs] at HFI
            have e := hf hfs
            clear hfs hf
            subst e
            have qn : (n != n) = false := by simp
            go_wp2_with (first
              | (go_at_call 10; refine (HNX.out _).mono ?_; rintro e u ⟨rfl, rfl⟩)
              | (go_at_call 16; refine (HFI.out _).mono ?_; rintro e u ⟨rfl, rfl⟩)
              | (go_at_call 14; refine (HM.out _).mono ?_; rintro e u ⟨rfl, rfl⟩)
              | (at_builtin; refine append_nums rfl (.tmp 51) (.tmp 53) rfl w.heap.size (.slice a (j + 1) c) (j + 1) (0 :: r) rfl (HS.out.own.alloc _) ⟨wr.heap.size, 0, none⟩ 1 1 [n] rfl rfl (ints_one _ _) (by omega) (by have := HS.out.bel.size; simp; omega) ?_; intro v' w4 hown' hgrow; obtain ⟨a4, c4, rfl, -⟩ := row_slice hown'; have HS4 := hide (HS.out.more (n := n) hown' hgrow HFO.out HMY.out); clear hown' hgrow))
            go_roundw
            case rel => exact ⟨j + 1, n, a4, c4, r ++ [n], by go_num, rfl, rfl, by omega, by omega, HS4⟩
            case measure => simp [intOf]; omega
        · have qc : ¬ (j : Int) < (l1.length : Int) := by omega
          obtain ⟨n, m, HN, hn, hf, hfol⟩ := fin false
          have HNX := hide HN
          have HM := hide (fun u => vmay_any n u)
          have HFI := hide (fun u => vfin_any s u)
          have HS' : Hid (StW w wr j s a c r) := HS
          have HFO := hide hfol
          have HMY := hide hn
          have HL := hide HS.out.len
          rw [hn] at HM
          clear fin HN hn hfol
          cases hfs : finV s
          · rw [hfs] at HFI
            clear hfs hf
            go_wp2_with (first
              | (go_at_call 10; refine (HNX.out _).mono ?_; rintro e u ⟨rfl, rfl⟩)
              | (go_at_call 16; refine (HFI.out _).mono ?_; rintro e u ⟨rfl, rfl⟩)
              | (go_at_call 14; refine (HM.out _).mono ?_; rintro e u ⟨rfl, rfl⟩)
              | (at_builtin; refine append_nums rfl (.tmp 51) (.tmp 53) rfl w.heap.size (.slice a (j + 1) c) (j + 1) (0 :: r) rfl (HS.out.own.alloc _) ⟨wr.heap.size, 0, none⟩ 1 1 [n] rfl rfl (ints_one _ _) (by omega) (by have := HS.out.bel.size; simp; omega) ?_; intro v' w4 hown' hgrow; obtain ⟨a4, c4, rfl, -⟩ := row_slice hown'; have HS4 := hide (HS.out.more (n := n) hown' hgrow HFO.out HMY.out); clear hown' hgrow))
            go_roundw
            case rel => exact ⟨j + 1, n, a4, c4, r ++ [n], by go_num, rfl, rfl, by omega, by omega, HS4⟩
            case measure => simp [intOf]; omega
          · rw [hfs] at HFI
            have e := hf hfs
            clear hfs hf
            subst e
            have qn : (n != n) = false := by simp
            go_wp2_with (first
              | (go_at_call 10; refine (HNX.out _).mono ?_; rintro e u ⟨rfl, rfl⟩)
              | (go_at_call 16; refine (HFI.out _).mono ?_; rintro e u ⟨rfl, rfl⟩)
              | (go_at_call 14; refine (HM.out _).mono ?_; rintro e u ⟨rfl, rfl⟩)
              | (at_builtin; refine append_nums rfl (.tmp 51) (.tmp 53) rfl w.heap.size (.slice a (j + 1) c) (j + 1) (0 :: r) rfl (HS.out.own.alloc _) ⟨wr.heap.size, 0, none⟩ 1 1 [n] rfl rfl (ints_one _ _) (by omega) (by have := HS.out.bel.size; simp; omega) ?_; intro v' w4 hown' hgrow; obtain ⟨a4, c4, rfl, -⟩ := row_slice hown'; have HS4 := hide (HS.out.more (n := n) hown' hgrow HFO.out HMY.out); clear hown' hgrow))
            go_roundw
            case rel => exact ⟨j + 1, n, a4, c4, r ++ [n], by go_num, rfl, rfl, by omega, by omega, HS4⟩
            case measure => simp [intOf]; omega
      · have q200 : (j : Int) ≥ 200 := by omega
        have CL := HS.out.legal hj2
        have HB := hide HS.out.bel
        have qe : (((j + 1 : Nat) : Int) == ((j + 1 : Nat) : Int)) = true := by simp
        clear HS
        go_wp2_with (first
          | (go_at_call 20; refine CL.mono ?_; rintro e u ⟨rfl, rfl⟩)
          | (go_at_call 9; refine (vawake_any _).mono ?_; rintro e u ⟨rfl, rfl⟩))
        go_ret
        exact ⟨rfl, HB.out⟩
    · have ql : ¬ (j : Int) < (l.length : Int) := by omega
      have CL := HS.out.legal hj2
      have HB := hide HS.out.bel
      have qe : (((j + 1 : Nat) : Int) == ((j + 1 : Nat) : Int)) = true := by simp
      clear HS
      go_wp2_with (first
        | (go_at_call 20; refine CL.mono ?_; rintro e u ⟨rfl, rfl⟩)
        | (go_at_call 9; refine (vawake_any _).mono ?_; rintro e u ⟨rfl, rfl⟩))
      go_ret
      exact ⟨rfl, HB.out⟩
end Go.Proofs.Ytmibohdppgijhaa
