/-
  The contracts of force.
-/
import Derived.Test.YtlhfkomnmfkeaaaFrcM
import Derived.Test.YtlhfkomnmfkeaaaVotS
import Derived.Test.YtlhfkomnmfkeaaaPerB
namespace Go.Proofs.Ytlhfkomnmfkeaaa
open Go.ChangeShapes Go.WideShapes Go.ChangeAt Go.RowKit

theorem ffrc_any (s : Int) (y : Bool) (w : World) : Calls Try.prog 8 #[.int .i64 s, .bool y] w fun e w' => e = .returned (.tuple #[.int .i64 (frcS s y), .int .i64 (frcE s)]) ∧ w = w' := by
  have CM := vmay_any s w
  obtain ⟨m, hm⟩ : ∃ m, mayV s = m := ⟨_, rfl⟩
  by_cases h1 : s = 1
  · subst h1
    clear hm
    rw [show mayV 1 = true from rfl] at CM
    cases y
    all_goals
      go_enter Try.func8, Try.ntmps8
      go_wp2_with (go_at_call 19; refine CM.mono ?_; rintro e u ⟨rfl, rfl⟩)
      go_ret2
      exact ⟨rfl, rfl⟩
  · have e1 : frcS s y = 0 := by unfold frcS; rw [if_neg h1]
    have e2 : frcE s = if m = true then 7 else 1 := by unfold frcE; rw [hm, if_neg h1]
    have q : (s != 1) = true := by simpa using h1
    rw [hm] at CM
    rw [e1, e2]
    clear e1 e2 h1 hm
    cases m
    all_goals
      go_enter Try.func8, Try.ntmps8
      go_wp2_with (go_at_call 19; refine CM.mono ?_; rintro e u ⟨rfl, rfl⟩)
      go_ret2
      exact ⟨rfl, rfl⟩
theorem fdam_any (s : Int) (y : Bool) (w : World) : Calls Try.prog 10 #[.int .i64 s, .bool y] w fun e w' => e = .returned (.bool (damV s y)) ∧ w = w' := by
  cases y
  all_goals
    go_enter Try.func10, Try.ntmps10
    go_wp2
    go_ret
    exact ⟨rfl, rfl⟩
/-- What is handed back reads as xs; nothing that there was is turned. -/
def TellI (w : World) (xs : List Int) (e : Ending) (w' : World) : Prop :=
  ∃ a c, e = .returned (.slice a xs.length c) ∧ Ints w' a xs ∧ Below w.heap.size w w'
set_option maxHeartbeats 1000000 in
theorem fwh_any (a : Option Addr) (l : List Int) (c : Nat) (y : Bool) (w : World) (hl : l.length ≤ 1000000) (ha : Ints w a l) :
    Calls Try.prog 13 #[.slice a l.length c, .bool y] w (TellI w (whV l y l.length)) := by
  have HA := hide ha
  clear ha
  go_enter Try.func13, Try.ntmps13
  go_wp2
  go_loopw [5, 10] (fun v i wr => ∃ (j : Nat) (av : Option Addr) (cv : Nat), i = .int .i64 j ∧ v = .slice av (whV l y j).length cv ∧ j ≤ l.length ∧ Hid (wr.ownsRow w.heap.size 3 1 (.slice av (whV l y j).length cv) (whV l y j).length ((whV l y j).map (Value.int .i64))) ∧ Hid (Below w.heap.size w wr)) (fun _ i _ => l.length - (intOf i).toNat)
  case atStart => exact ⟨0, none, 0, rfl, rfl, Nat.zero_le _, World.ownsRow_nil _ _ _ _, Below.refl _ _⟩
  case round =>
    obtain ⟨j, av, cv, rfl, rfl, hj, HR, HB⟩ := hrel
    by_cases hlt : j < l.length
    · have ql : (j : Int) < (l.length : Int) := by omega
      rcases HA.out.below HB.out with h0 | ⟨bi, oi, rfl, hci⟩
      · subst h0; simp at hlt
      have c0 := hci j hlt
      obtain ⟨s, hs⟩ : ∃ s, l.getD j 0 = s := ⟨_, rfl⟩
      have F1 := fun h => wh_on (l := l) (y := y) (k := j) h
      have F2 := fun h => wh_off (l := l) (y := y) (k := j) h
      rw [hs] at c0 F1 F2
      have CD := fun u => fdam_any s y u
      obtain ⟨d, hd⟩ : ∃ d, damV s y = d := ⟨_, rfl⟩
      rw [hd] at F1 F2 CD
      have hlen := wh_bd l y j
      have hbb := HB.out.size
      clear hd hs hci HA
      cases d
      · have HE := hide (F2 rfl)
        clear F1 F2 hlen
        go_wp2_with (go_at_call 10; refine (CD _).mono ?_; rintro e u ⟨rfl, rfl⟩)
        go_roundw
        case rel => exact ⟨j + 1, av, cv, by go_num, by rw [HE.out], by omega, by rw [HE.out]; exact HR, HB⟩
        case measure => simp [intOf]; omega
      · have HE := hide (F1 rfl)
        clear F1 F2
        go_wp2_with (first
          | (go_at_call 10; refine (CD _).mono ?_; rintro e u ⟨rfl, rfl⟩)
          | (at_builtin; refine append_nums rfl _ _ rfl w.heap.size (.slice av (whV l y j).length cv) (whV l y j).length (whV l y j) rfl (HR.out.alloc _) ⟨wr.heap.size, 0, none⟩ 1 1 [(j : Int)] rfl rfl (ints_one _ _) (by omega) (by simp; omega) ?_; intro v' w4 hown' hgrow; obtain ⟨a4, c4, rfl, -⟩ := row_slice hown'; have HR4 := hide hown'; have HB4 : Hid (Below w.heap.size w w4) := (HB.out.alloc HB.out.size _).grown hgrow (by simp; omega) (fun i e => (HR.out.lt i e).1); clear hown' hgrow))
        go_roundw
        case rel => exact ⟨j + 1, a4, c4, by go_num, by rw [HE.out]; simp, by omega, by rw [HE.out, List.length_append]; exact HR4, HB4⟩
        case measure => simp [intOf]; omega
    · have ql : ¬ (j : Int) < (l.length : Int) := by omega
      have ej : j = l.length := by omega
      have HT : Hid (TellI w (whV l y l.length) (.returned (.slice av (whV l y j).length cv)) wr) := by
        obtain ⟨a5, c5, e5, -, i5⟩ := owned_nums HR.out
        cases e5
        rw [ej] at i5 ⊢
        exact ⟨_, _, rfl, i5, HB.out⟩
      clear HR HB ej
      go_wp2
      go_ret
      exact HT.out
theorem ret_tup {a b c d : Bool} (h1 : a = c) (h2 : b = d) : Ending.returned (.tuple #[.bool a, .bool b]) = .returned (.tuple #[.bool c, .bool d]) := by rw [h1, h2]
set_option maxHeartbeats 1000000 in
theorem fev_any (a : Option Addr) (l : List Int) (c : Nat) (w : World) (hl : l.length ≤ 4611686018427387904) (ha : Ints w a l) :
    Calls Try.prog 15 #[.slice a l.length c] w fun e w' => e = .returned (.bool (evV l)) ∧ w = w' := by
  have HA := hide ha
  clear ha
  go_enter Try.func15, Try.ntmps15
  go_wp2
  go_loopw [3, 4, 11] (fun yv nv i wr => ∃ (j : Nat) (p n : Bool), yv = .bool p ∧ nv = .bool n ∧ i = .int .i64 j ∧ j ≤ l.length ∧ Hid (anyD true (l.take j) = p ∧ anyD false (l.take j) = n) ∧ wr = w) (fun _ _ i _ => l.length - (intOf i).toNat)
  case atStart => exact ⟨0, false, false, rfl, rfl, rfl, Nat.zero_le _, ⟨rfl, rfl⟩, rfl⟩
  case round =>
    obtain ⟨j, p, n, rfl, rfl, rfl, hj, HV, hw⟩ := hrel
    subst hw
    by_cases hlt : j < l.length
    · have ql : (j : Int) < (l.length : Int) := by omega
      rcases HA.out with h0 | ⟨bi, oi, rfl, hci⟩
      · subst h0; simp at hlt
      have c0 := hci j hlt
      obtain ⟨s, hs⟩ : ∃ s, l.getD j 0 = s := ⟨_, rfl⟩
      have F1 := anyD_snoc (l := l) true hlt
      have F2 := anyD_snoc (l := l) false hlt
      rw [hs] at c0 F1 F2
      rw [HV.out.1] at F1
      rw [HV.out.2] at F2
      unfold isD at F1 F2
      have CD := vdec_any s wr
      obtain ⟨f, hf⟩ : ∃ f, finV s = f := ⟨_, rfl⟩
      obtain ⟨g, hg⟩ : ∃ g, yesV s = g := ⟨_, rfl⟩
      rw [hf, hg] at F1 F2 CD
      have HE := And.intro F1 F2
      clear hf hg hs hci HV F1 F2
      cases f <;> cases g <;> cases p <;> cases n
      all_goals
        have HF := hide HE
        clear HE
        go_wp2_with (go_at_call 21; refine CD.mono ?_; rintro e u ⟨rfl, rfl⟩)
        go_roundw
        case rel => exact ⟨j + 1, _, _, rfl, rfl, by go_num, by omega, HF, by trivial⟩
        case measure => simp [intOf]; omega
    · have ql : ¬ (j : Int) < (l.length : Int) := by omega
      have HE : Hid ((!p || !n) = evV l) := by
        have := HV.out
        rw [List.take_of_length_le (by omega)] at this
        show (!p || !n) = evV l
        unfold evV; rw [this.1, this.2]
      clear HV
      cases p <;> cases n
      all_goals
        go_wp2
        go_ret
        exact ⟨ret_bool HE.out, rfl⟩
end Go.Proofs.Ytlhfkomnmfkeaaa
