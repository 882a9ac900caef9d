/-
  VoteForms's walk.
-/
import Derived.Test.YtmibohdppgijhaaVotR
namespace Go.Proofs.Ytmibohdppgijhaa
open Go.ChangeShapes Go.WideShapes Go.ChangeAt Go.RowKit

set_option maxHeartbeats 2000000 in
theorem voteForms_walk (a0 a1 : Int) (a2 : Bool) (a3 : Option Addr) (len3 cap3 : Nat) (z3 : List Int) (w : World) (_w0 : (Lit.int .i64 a0).wf = true) (_w1 : (Lit.int .i64 a1).wf = true) (w3 : IsRow .i64 w a3 len3 cap3 z3) :
    Calls Try.prog 3 #[.int .i64 a0, .int .i64 a1, .bool a2, .slice a3 len3 cap3] w fun e w' => e = .returned (.bool true) ∧ Below w.heap.size w w' := by
  have hlc : len3 ≤ cap3 := by
    rcases w3 with ⟨_, rfl, rfl, _⟩ | ⟨x, _, h, _⟩
    · exact Nat.le_refl _
    · exact h
  obtain ⟨l, rfl, hl9, hi⟩ := w3.ints
  clear w3
  by_cases hbig : 200 < l.length
  · clear hlc hi
    go_enter Try.func3, Try.ntmps3
    go_wp2_with (go_at_call 9; refine (vawake_any _).mono ?_; rintro e u ⟨rfl, rfl⟩)
    go_ret
    exact ⟨rfl, Below.refl _ _⟩
  have L0 := hide (vlegal_any a3 l cap3 w (by omega) hlc hi)
  have L1 := hide (rlegal_any a3 l cap3 w (by omega) hi)
  have M0 := hide (fun u => vmay_any a0 u)
  have R0 := hide (fun u => rmay_any a0 u)
  have N0 := hide (fun u => vname_any a0 u)
  have N1 := hide (fun u => rname_any a0 u)
  have F0 := hide (fun u => vfin_any a0 u)
  have F1 := hide (fun u => rfin_any a0 u)
  have D0 := hide (fun u => vdec_any a0 u)
  have D1 := hide (fun u => rdec_any a0 u)
  have X0 := hide (fun u => vnext_any a0 a1 a2 u)
  have X1 := hide (fun u => rnext_any a0 a1 a2 u)
  obtain ⟨g, hg⟩ : ∃ g : Int, (legV l : Int) = g := ⟨_, rfl⟩
  obtain ⟨m, hm⟩ : ∃ m, mayV a0 = m := ⟨_, rfl⟩
  obtain ⟨n, hn⟩ : ∃ n, nmV a0 = n := ⟨_, rfl⟩
  obtain ⟨f, hf⟩ : ∃ f, finV a0 = f := ⟨_, rfl⟩
  obtain ⟨y, hy⟩ : ∃ y, yesV a0 = y := ⟨_, rfl⟩
  obtain ⟨p, hp⟩ : ∃ p, nxS a0 (mnt a1) a2 = p := ⟨_, rfl⟩
  obtain ⟨q, hq⟩ : ∃ q, nxK a0 (mnt a1) a2 = q := ⟨_, rfl⟩
  rw [hg] at L0 L1
  rw [hm] at M0 R0
  rw [hn] at N0 N1
  rw [hf] at F0 F1
  rw [hy, hf] at D0 D1
  rw [hp, hq] at X0 X1
  clear hg hm hn hf hy hp hq _w0 _w1 hlc hi hl9
  have e1 : (g == g) = true := by simp
  have e2 : (m == m) = true := by simp
  have e3 : (n.toList == n.toList) = true := by simp
  have e4 : (f == f) = true := by simp
  have e5 : (y == y) = true := by simp
  have e6 : (p == p) = true := by simp
  have e7 : (q == q) = true := by simp
  go_enter Try.func3, Try.ntmps3
  go_wp2_with (first
    | (go_at_call 10; refine (X0.out _).mono ?_; rintro e u ⟨rfl, rfl⟩)
    | (go_at_call 11; refine (X1.out _).mono ?_; rintro e u ⟨rfl, rfl⟩)
    | (go_at_call 12; refine (D0.out _).mono ?_; rintro e u ⟨rfl, rfl⟩)
    | (go_at_call 13; refine (D1.out _).mono ?_; rintro e u ⟨rfl, rfl⟩)
    | (go_at_call 14; refine (M0.out _).mono ?_; rintro e u ⟨rfl, rfl⟩)
    | (go_at_call 15; refine (R0.out _).mono ?_; rintro e u ⟨rfl, rfl⟩)
    | (go_at_call 16; refine (F0.out _).mono ?_; rintro e u ⟨rfl, rfl⟩)
    | (go_at_call 17; refine (F1.out _).mono ?_; rintro e u ⟨rfl, rfl⟩)
    | (go_at_call 18; refine (N0.out _).mono ?_; rintro e u ⟨rfl, rfl⟩)
    | (go_at_call 19; refine (N1.out _).mono ?_; rintro e u ⟨rfl, rfl⟩)
    | (go_at_call 20; refine L0.out.mono ?_; rintro e u ⟨rfl, rfl⟩)
    | (go_at_call 21; refine L1.out.mono ?_; rintro e u ⟨rfl, rfl⟩)
    | (go_at_call 9; refine (vawake_any _).mono ?_; rintro e u ⟨rfl, rfl⟩))
  go_ret
  exact ⟨rfl, Below.refl _ _⟩
end Go.Proofs.Ytmibohdppgijhaa
