/-
  ForceForms's walk.
-/
import Derived.Test.YtlhfkomnmfkeaaaFrcA
import Derived.Test.YtlhfkomnmfkeaaaFrcR
namespace Go.Proofs.Ytlhfkomnmfkeaaa
open Go.ChangeShapes Go.WideShapes Go.ChangeAt Go.RowKit

set_option maxHeartbeats 2000000 in
theorem forceForms_walk (a0 : Int) (a1 : Bool) (a2 : Option Addr) (len2 cap2 : Nat) (z2 : List Int) (w : World) (_w0 : (Lit.int .i64 a0).wf = true) (w2 : IsRow .i64 w a2 len2 cap2 z2) :
    Calls Try.prog 3 #[.int .i64 a0, .bool a1, .slice a2 len2 cap2] w fun e w' => e = .returned (.bool true) ∧ Below w.heap.size w w' := by
  obtain ⟨l, rfl, hl9, hi⟩ := w2.ints
  clear w2 _w0
  by_cases hbig : 200 < l.length
  · clear hi
    go_enter Try.func3, Try.ntmps3
    go_wp2_with (go_at_call 7; refine (fawake_any _).mono ?_; rintro e u ⟨rfl, hb⟩)
    go_ret
    exact ⟨rfl, hb⟩
  have T0 := hide (fun u => ffrc_any a0 a1 u)
  have T1 := hide (fun u => rfrc_any a0 a1 u)
  have D0 := hide (fun u => fdam_any a0 a1 u)
  have D1 := hide (fun u => rdam_any a0 a1 u)
  have hl : l.length ≤ 200 := by omega
  obtain ⟨x, hx⟩ : ∃ x, frcS a0 a1 = x := ⟨_, rfl⟩
  obtain ⟨f, hf⟩ : ∃ f, frcE a0 = f := ⟨_, rfl⟩
  obtain ⟨d, hd⟩ : ∃ d, damV a0 a1 = d := ⟨_, rfl⟩
  obtain ⟨p, hp⟩ : ∃ p, whV l a1 l.length = p := ⟨_, rfl⟩
  obtain ⟨v, hv⟩ : ∃ v, evV l = v := ⟨_, rfl⟩
  have hpl : p.length ≤ 200 := by rw [← hp]; exact Nat.le_trans (wh_bd _ _ _) hl
  have W0 := fwh_any a2 l cap2 a1 w (by omega) hi
  have W1 : Hid (∀ u, Below w.heap.size w u → Calls Try.prog 14 #[.slice a2 l.length cap2, .bool a1] u (TellI u p)) := fun u hb => by
    have := rwh_any a2 l cap2 a1 u (by omega) (hi.below hb)
    rwa [hp] at this
  have S0 : Hid (∀ u, Below w.heap.size w u → Calls Try.prog 15 #[.slice a2 l.length cap2] u fun e w' => e = .returned (.bool v) ∧ u = w') := fun u hb => by
    have := fev_any a2 l cap2 u (by omega) (hi.below hb)
    rwa [hv] at this
  have S1 : Hid (∀ u, Below w.heap.size w u → Calls Try.prog 16 #[.slice a2 l.length cap2] u fun e w' => e = .returned (.bool v) ∧ u = w') := fun u hb => by
    have := rev_any a2 l cap2 u (by omega) (hi.below hb)
    rwa [hv] at this
  rw [hx, hf] at T0 T1
  rw [hd] at D0 D1
  rw [hp] at W0
  have W := hide W0
  have HP := hide hpl
  clear hx hf hd hp hv hi hl9 hl W0 hpl
  have e1 : (x == x) = true := by simp
  have e2 : (f == f) = true := by simp
  have e3 : (d == d) = true := by simp
  have e4 : (v == v) = true := by simp
  go_enter Try.func3, Try.ntmps3
  go_wp2_with (first
    | (go_at_call 8; refine (T0.out _).mono ?_; rintro e u ⟨rfl, rfl⟩)
    | (go_at_call 9; refine (T1.out _).mono ?_; rintro e u ⟨rfl, rfl⟩)
    | (go_at_call 10; refine (D0.out _).mono ?_; rintro e u ⟨rfl, rfl⟩)
    | (go_at_call 11; refine (D1.out _).mono ?_; rintro e u ⟨rfl, rfl⟩)
    | (go_at_call 13; refine W.out.mono ?_; rintro e u1 ⟨b1, d1, rfl, i1, hb1⟩; have HI1 := hide i1; have HB1 := hide hb1; clear i1 hb1)
    | (go_at_call 14; refine (W1.out _ HB1.out).mono ?_; rintro e u2 ⟨b2, d2, rfl, i2, hb2⟩; have HI2 := hide i2; have HJ1 := hide (HI1.out.below hb2); have HB2 := hide (bel_on' HB1.out hb2); clear i2 hb2)
    | (go_at_call 12; refine (same_any b1 b2 p p d1 d2 u2 (by have := HP.out; omega) HJ1.out HI2.out).mono ?_; rw [show decide (p = p) = true by simp]; rintro e u3 ⟨rfl, n, hu3⟩; have HB3 : Hid (Below w.heap.size w u3) := (by rw [hu3]; exact belN HB2.out n); clear hu3)
    | (go_at_call 15; refine (S0.out _ HB3.out).mono ?_; rintro e u ⟨rfl, rfl⟩)
    | (go_at_call 16; refine (S1.out _ HB3.out).mono ?_; rintro e u ⟨rfl, rfl⟩)
    | (go_at_call 7; refine (fawake_any _).mono ?_; rintro e u ⟨rfl, hb⟩; have HB4 := hide (bel_on' HB3.out hb); clear hb))
  go_ret
  exact ⟨rfl, HB4.out⟩
end Go.Proofs.Ytlhfkomnmfkeaaa
