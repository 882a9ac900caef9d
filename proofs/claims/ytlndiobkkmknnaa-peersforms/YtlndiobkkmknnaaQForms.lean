/-
  PeersForms's walk.
-/
import Derived.Test.YtlndiobkkmknnaaPerA
import Derived.Test.YtlndiobkkmknnaaPerR
namespace Go.Proofs.Ytlndiobkkmknnaa
open Go.ChangeShapes Go.WideShapes Go.ChangeAt Go.RowKit

set_option maxHeartbeats 2000000 in
theorem peersForms_walk (a0 : Int) (a1 : Option Addr) (len1 cap1 : Nat) (z1 : List Int) (w : World) (_w0 : (Lit.int .i64 a0).wf = true) (w1 : IsRow .i64 w a1 len1 cap1 z1) :
    Calls Try.prog 3 #[.int .i64 a0, .slice a1 len1 cap1] w fun e w' => e = .returned (.bool true) ∧ Below w.heap.size w w' := by
  obtain ⟨l, rfl, hl9, hi⟩ := w1.ints
  clear w1 _w0
  by_cases hbig : 200 < l.length
  · clear hi
    go_enter Try.func3, Try.ntmps3
    go_wp2_with (go_at_call 7; refine (pawake_any _).mono ?_; rintro e u ⟨rfl, hb⟩)
    go_ret
    exact ⟨rfl, hb⟩
  have T0 := hide (fun u => ptell_any a0 u)
  have T1 := hide (fun u => rtell_any a0 u)
  have D0 := hide (pdec_any a1 l cap1 w (by omega) hi)
  have D1 := hide (rdecide_any a1 l cap1 w (by omega) hi)
  have S0 := hide (psafe_any a1 l cap1 w (by omega) hi)
  have S1 := hide (rsafe_any a1 l cap1 w (by omega) hi)
  obtain ⟨t, ht⟩ : ∃ t, telV a0 = t := ⟨_, rfl⟩
  obtain ⟨d, hd⟩ : ∃ d, decV l = d := ⟨_, rfl⟩
  obtain ⟨s, hs⟩ : ∃ s, safV l = s := ⟨_, rfl⟩
  rw [ht] at T0 T1
  rw [hd] at D0 D1
  rw [hs] at S0 S1
  clear ht hd hs hi hl9
  have e1 : (t == t) = true := by simp
  have e2 : (d == d) = true := by simp
  have e3 : (s == s) = true := by simp
  go_enter Try.func3, Try.ntmps3
  go_wp2_with (first
    | (go_at_call 8; refine (T0.out _).mono ?_; rintro e u ⟨rfl, rfl⟩)
    | (go_at_call 9; refine (T1.out _).mono ?_; rintro e u ⟨rfl, rfl⟩)
    | (go_at_call 10; refine D0.out.mono ?_; rintro e u ⟨rfl, rfl⟩)
    | (go_at_call 11; refine D1.out.mono ?_; rintro e u ⟨rfl, rfl⟩)
    | (go_at_call 12; refine S0.out.mono ?_; rintro e u ⟨rfl, rfl⟩)
    | (go_at_call 13; refine S1.out.mono ?_; rintro e u ⟨rfl, rfl⟩)
    | (go_at_call 7; refine (pawake_any _).mono ?_; rintro e u ⟨rfl, hb⟩))
  go_ret
  exact ⟨rfl, hb⟩
end Go.Proofs.Ytlndiobkkmknnaa
