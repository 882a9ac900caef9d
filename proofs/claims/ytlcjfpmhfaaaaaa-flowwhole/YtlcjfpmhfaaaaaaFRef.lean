/-
  The reference's Plan and Back, SameActs.
-/
import Derived.Test.YtlcjfpmhfaaaaaaFlwT
import Derived.Test.YtlcjfpmhfaaaaaaFlwB
import Derived.Test.YtlcjfpmhfaaaaaaFlwG
import Derived.Test.YtlcjfpmhfaaaaaaOrdF
namespace Go.Proofs.Ytlcjfpmhfaaaaaa
open Go.ChangeShapes Go.WideShapes Go.ChangeAt Go.RowKit

theorem ownActs_of {w w' : World} {L : List (Int × Int)} {a : Option Addr} {n c : Nat} (h : OwnR w' w.heap.size (.slice a n c) n L) (hb : Below w.heap.size w w') : OwnActs w L (.returned (.slice a n c)) w' := by
  obtain ⟨rfl, h2⟩ := h
  exact ⟨a, c, rfl, OwnR.cap ⟨rfl, h2⟩, h2, hb⟩
theorem upL_next (k : Int) (i : Nat) : upL k 0 i ++ [(k, (i : Int))] = upL k 0 (i + 1) := by rw [upL_snoc]; simp

set_option maxHeartbeats 4000000 in
theorem rplan_any (o : Od) (a : Option Addr) (c : Nat) (w : World) (ha : Sts w a o.steps) (hl : o.steps.length ≤ 9223372036854775807) (hcap : o.steps.length ≤ c) :
    Calls Try.prog 10 #[.agg #[.int .i64 o.id, .int .i64 o.item, .int .i64 o.qty, .int .i64 o.client, .int .i64 o.price, .slice a o.steps.length c]] w (OwnActs w (planL o)) := by
  obtain ⟨V, hV⟩ : ∃ V, V = w.alloc (.cells #[.int .i64 o.id, .int .i64 o.item, .int .i64 o.qty, .int .i64 o.client, .int .i64 o.price, .slice a o.steps.length c] 24) := ⟨_, rfl⟩
  have hbV : Below w.heap.size w V := by rw [hV]; exact (Below.refl _ _).alloc (Nat.le_refl _) _
  have hVb : V.heap[w.heap.size]? = some (.cells #[.int .i64 o.id, .int .i64 o.item, .int .i64 o.qty, .int .i64 o.client, .int .i64 o.price, .slice a o.steps.length c] 24 (0, 0)) := by rw [hV]; exact World.alloc_heap_new w _
  have MY := ref_omay_any o a c V (ha.below hbV) hl hcap
  rw [hV] at MY
  have HV := hide hV
  have HBV := hide hbV
  have HVB := hide hVb
  clear hV hbV hVb ha
  cases hm : mayO o
  · rw [planL_not hm]
    rw [hm] at MY
    go_enter Try.func10, Try.ntmps10
    go_wp2_with fail
    refine MY.mono ?_
    rintro e w1 ⟨rfl, hb1⟩
    rw [← HV.out] at hb1
    have HB1 := hide (bel_on' HBV.out hb1)
    clear hb1 MY
    go_wp2
    go_ret
    exact ownActs_of (OwnR.nil _ _) HB1.out
  have h3 := may_three hm
  rw [planL_may hm]
  rw [hm] at MY
  clear hm
  go_enter Try.func10, Try.ntmps10
  go_wp2_with fail
  refine MY.mono ?_
  rintro e w1 ⟨rfl, hb1⟩
  rw [← HV.out] at hb1
  have HB1 := hide (bel_on' HBV.out hb1)
  have hx := (hb1.block _ (Array.getElem?_eq_some_iff.1 HVB.out).1).trans HVB.out
  have c5 := cell_of (i := 5) hx
  simp at c5
  clear hb1 MY hx
  go_wp2_with fail
  clear c5
  go_loopw [3, 11] (fun lv iv wr => ∃ (i : Nat) (av : Option Addr) (cv : Nat), lv = .slice av i cv ∧ iv = .int .i64 i ∧ i ≤ o.steps.length ∧ Hid (OwnR wr w.heap.size (.slice av i cv) i (upL 1 0 i)) ∧ Hid (Below w.heap.size w wr)) (fun _ iv _ => o.steps.length - (intOf iv).toNat)
  case atStart => exact ⟨0, none, 0, rfl, rfl, Nat.zero_le _, OwnR.nil _ _, HB1⟩
  case round =>
    obtain ⟨i, av, cv, rfl, rfl, hi, HR, HB⟩ := hrel
    have hbs : w.heap.size ≤ wr.heap.size := HB.out.size
    by_cases hlt : i < o.steps.length
    · have q1 : (i : Int) < (o.steps.length : Int) := by omega
      go_wp2_with (at_builtin; refine append_R rfl (.tmp 14) (.tmp 17) rfl w.heap.size _ i (upL 1 0 i) rfl (HR.out.alloc _) ⟨wr.heap.size, 0, none⟩ [(1, (i : Int))] 1 1 rfl rfl (acts_one wr 1 i) (by omega) (by simp; omega) ?_; intro a5 c5 w5 o5 b5; rw [upL_next] at o5; have O5 := hide o5; have B5 := hide ((HB.out.alloc hbs _).trans b5); clear o5 b5)
      go_roundw
      case rel => exact ⟨i + 1, a5, c5, rfl, by go_num, by omega, O5, B5⟩
      case measure => simp [intOf]; omega
    have q1 : ¬ (i : Int) < (o.steps.length : Int) := by omega
    obtain rfl : i = o.steps.length := by omega
    go_wp2_with (at_builtin; refine append_R rfl (.tmp 20) (.tmp 24) rfl w.heap.size _ o.steps.length (upL 1 0 o.steps.length) rfl (HR.out.alloc _) ⟨wr.heap.size, 0, none⟩ [(6, 0), (9, 0), (15, 0)] 3 3 rfl rfl (sts_new wr [(6, 0), (9, 0), (15, 0)] #[.int .i64 6, .int .i64 0, .int .i64 9, .int .i64 0, .int .i64 15, .int .i64 0] rfl) (by omega) (by simp; omega) ?_; intro a5 c5 w5 o5 b5; have O5 := hide o5; have B5 := hide ((HB.out.alloc hbs _).trans b5); clear o5 b5)
    go_ret
    exact ownActs_of O5.out B5.out

set_option maxHeartbeats 4000000 in
theorem rback_any (o : Od) (a : Option Addr) (c : Nat) (w : World) (ha : Sts w a o.steps) (hl : o.steps.length ≤ 9223372036854775807) (hcap : o.steps.length ≤ c) :
    Calls Try.prog 11 #[.agg #[.int .i64 o.id, .int .i64 o.item, .int .i64 o.qty, .int .i64 o.client, .int .i64 o.price, .slice a o.steps.length c]] w (OwnActs w (backL o)) := by
  obtain ⟨V, hV⟩ : ∃ V, V = w.alloc (.cells #[.int .i64 o.id, .int .i64 o.item, .int .i64 o.qty, .int .i64 o.client, .int .i64 o.price, .slice a o.steps.length c] 24) := ⟨_, rfl⟩
  have hbV : Below w.heap.size w V := by rw [hV]; exact (Below.refl _ _).alloc (Nat.le_refl _) _
  have hVb : V.heap[w.heap.size]? = some (.cells #[.int .i64 o.id, .int .i64 o.item, .int .i64 o.qty, .int .i64 o.client, .int .i64 o.price, .slice a o.steps.length c] 24 (0, 0)) := by rw [hV]; exact World.alloc_heap_new w _
  have MY := ref_omay_any o a c V (ha.below hbV) hl hcap
  rw [hV] at MY
  have HV := hide hV
  have HBV := hide hbV
  have HVB := hide hVb
  clear hV hbV hVb ha
  cases hm : mayO o
  · rw [backL_not hm]
    rw [hm] at MY
    go_enter Try.func11, Try.ntmps11
    go_wp2_with fail
    refine MY.mono ?_
    rintro e w1 ⟨rfl, hb1⟩
    rw [← HV.out] at hb1
    have HB1 := hide (bel_on' HBV.out hb1)
    clear hb1 MY
    go_wp2
    go_ret
    exact ownActs_of (OwnR.nil _ _) HB1.out
  have h3 := may_three hm
  rw [backL_may hm]
  rw [hm] at MY
  clear hm
  go_enter Try.func11, Try.ntmps11
  go_wp2_with fail
  refine MY.mono ?_
  rintro e w1 ⟨rfl, hb1⟩
  rw [← HV.out] at hb1
  have HB1 := hide (bel_on' HBV.out hb1)
  have hx := (hb1.block _ (Array.getElem?_eq_some_iff.1 HVB.out).1).trans HVB.out
  obtain ⟨A, hA⟩ : ∃ A, A = w1.alloc (.cells #[.int .i64 10, .int .i64 0] 34) := ⟨_, rfl⟩
  have hbA : Below w1.heap.size w1 A := by rw [hA]; exact (Below.refl _ _).alloc (Nat.le_refl _) _
  have c5 := cell_of (i := 5) ((hbA.block _ (Array.getElem?_eq_some_iff.1 hx).1).trans hx)
  simp at c5
  have HO0 : Hid (OwnR A w.heap.size (.slice (some ⟨w1.heap.size, 0, none⟩) 1 1) 1 [(10, 0)]) := by
    rw [hA]
    exact OwnR.new w1 w.heap.size HB1.out.size [(10, 0)] _ rfl (by decide)
  have HBA := hide (bel_on' HB1.out hbA)
  rw [hA] at c5
  clear hb1 MY hx hbA
  go_wp2_with fail
  rw [← hA]
  clear c5 hA
  go_loopw [3, 4] (fun lv iv wr => ∃ (r : Nat) (z : Int) (av : Option Addr) (cv : Nat), lv = .slice av (1 + r) cv ∧ iv = .int .i64 z ∧ Hid (z = (o.steps.length : Int) - r - 1) ∧ r ≤ o.steps.length ∧ -1 ≤ z ∧ z ≤ 10 ∧ Hid (OwnR wr w.heap.size (.slice av (1 + r) cv) (1 + r) ([(10, 0)] ++ dnTo 4 o.steps.length r)) ∧ Hid (Below w.heap.size w wr)) (fun _ iv _ => (intOf iv + 1).toNat)
  case atStart => exact ⟨0, (o.steps.length : Int) - 1, some ⟨w1.heap.size, 0, none⟩, 1, rfl, by go_num, by show _ = _; simp, Nat.zero_le _, by omega, by omega, HO0, HBA⟩
  case round =>
    obtain ⟨r, z, a5, c5, rfl, rfl, HZ, hr, hz0, hz1, O5, B5⟩ := hrel
    have hbs : w.heap.size ≤ wr.heap.size := B5.out.size
    by_cases hlt : 0 ≤ z
    · have q2 : z ≥ 0 := hlt
      have HDN : Hid ([(10, 0)] ++ dnTo 4 o.steps.length r ++ [(4, z)] = [(10, 0)] ++ dnTo 4 o.steps.length (r + 1) ∧ r + 1 ≤ o.steps.length) := by
        have hz := HZ.out
        refine ⟨?_, by omega⟩
        rw [List.append_assoc _ (dnTo 4 o.steps.length r), dnTo]
        congr 3
        simp
        omega
      go_wp2_with (at_builtin; refine append_R rfl (.tmp 18) (.tmp 21) rfl w.heap.size _ (1 + r) ([(10, 0)] ++ dnTo 4 o.steps.length r) rfl (O5.out.alloc _) ⟨wr.heap.size, 0, none⟩ [(4, z)] 1 1 rfl rfl (acts_one wr 4 z) (by omega) (by simp; omega) ?_; intro a6 c6 w6 o6 b6; rw [HDN.out.1] at o6; have O6 := hide o6; have B6 := hide ((B5.out.alloc hbs _).trans b6); clear o6 b6)
      go_roundw
      case rel => exact ⟨r + 1, z - 1, a6, c6, rfl, by go_num, by show _ = _; have := HZ.out; push_cast; omega, HDN.out.2, by omega, by omega, O6, B6⟩
      case measure => simp [intOf]; omega
    have q2 : ¬ z ≥ 0 := by omega
    obtain rfl : r = o.steps.length := by have := HZ.out; omega
    rw [dnTo_end] at O5
    go_wp2
    go_ret
    exact ownActs_of O5.out B5.out

theorem neq_act (x1 x2 y1 y2 : Int) (w : World) : Sem.run Try.prog (binOp .neq 34 (.agg #[.int .i64 x1, .int .i64 x2]) (.agg #[.int .i64 y1, .int .i64 y2])) w = .ok (.bool (!(x1 == y1 && x2 == y2))) w := by
  have u3 := Try.underlying3
  have a3 := Try.isAgg3
  have z3 := Try.sizeOf3
  have hS : Try.prog.underlying 34 = some (.struct (Try.prog.fieldsOf 34)) := by kernel_rfl
  have hp : Try.prog.stoodInHeld 34 = false := by kernel_rfl
  rw [run_neq_struct, show (10000 : Nat) = 9999 + 1 from rfl, run_equalIn_agg w 9999 34 _ _ hS hp]
  simp only [Program.fieldsOf, Try.underlying34]
  go_simp
  by_cases h1 : x1 = y1 <;> by_cases h2 : x2 = y2 <;> simp [h1, h2]

set_option maxHeartbeats 2000000 in
/-- Two rows that are the same. -/
theorem same_acts (a b : Option Addr) (l : List (Int × Int)) (n ca cb : Nat) (w : World) (hn : l.length = n) (hl : n ≤ 9223372036854775807) (ha : Sts w a l) (hb : Sts w b l) :
    Calls Try.prog 12 #[.slice a n ca, .slice b n cb] w fun e w' => e = .returned (.bool true) ∧ Below w.heap.size w w' := by
  have hne := neq_act
  have hgd := guard_act
  have q0 : ((n : Int) != (n : Int)) = false := by simp
  have HN := hide hn
  have HA := hide ha
  have HB := hide hb
  clear hn ha hb
  go_enter Try.func12, Try.ntmps12
  go_wp2_with fail
  go_loopw [13] (fun i wr => ∃ k : Nat, i = .int .i64 k ∧ k ≤ n ∧ Hid (Below w.heap.size w wr)) (fun i _ => n - (intOf i).toNat)
  case atStart => exact ⟨0, rfl, Nat.zero_le _, Below.refl _ _⟩
  case round =>
    obtain ⟨k, rfl, hk, HR⟩ := hrel
    by_cases hlt : k < n
    rotate_left
    · have hq : ¬ (k : Int) < (n : Int) := by omega
      go_wp2
      go_ret
      exact ⟨rfl, HR.out⟩
    have hkl : k < l.length := by have := HN.out; omega
    obtain ⟨ba, oa, rfl, p1, p2⟩ := (HA.out.below HR.out).at hkl
    obtain ⟨bb, ob, rfl, q1, q2⟩ := (HB.out.below HR.out).at hkl
    have hq : (k : Int) < (n : Int) := by omega
    obtain ⟨⟨x1, x2⟩, hx⟩ : ∃ x, x = stAt l k := ⟨_, rfl⟩
    rw [← hx] at p1 p2 q1 q2
    simp only at p1 p2 q1 q2
    clear hx hkl
    have qe : (!(x1 == x1 && x2 == x2)) = false := by simp
    go_wp2_with fail
    go_quiet (fail)
    go_wp2
    go_roundw
    case rel => exact ⟨k + 1, by go_num, by omega, belN HR.out _⟩
    case measure => simp [intOf]; omega
end Go.Proofs.Ytlcjfpmhfaaaaaa
