/-
  Contracts: the reference's MayFacts.
-/
import Derived.Test.YtinbmnefdhkdfaaSgbS
namespace Go.Proofs.Ytinbmnefdhkdfaa
open Go.ChangeShapes Go.WideShapes Go.ChangeAt Go.RowKit

set_option maxRecDepth 100000 in
set_option maxHeartbeats 8000000 in
theorem rmay_any (o : Od) (a : Option Addr) (c : Nat) (f : Fa) (da : Option Addr) (dc : Nat) (ua : Option Addr) (uc : Nat) (w : World) (ha : Sts w a o.steps) (hl : o.steps.length ≤ 9223372036854775807) (hi : FaIn w f da dc ua uc) (hcap : o.steps.length ≤ c) :
    Calls Try.prog 13 #[.agg #[.int .i64 o.id, .int .i64 o.item, .int .i64 o.qty, .int .i64 o.client, .int .i64 o.price, .slice a o.steps.length c], .agg #[.slice da f.dn.length dc, .slice ua f.un.length uc, .bool f.asked, .bool f.yes, .bool f.turned, .bool f.k0, .bool f.k1, .bool f.ship, .bool f.d0, .bool f.d1, .bool f.acc]] w fun e w' => e = .returned (.bool (mayR o f)) ∧ Below w.heap.size w w' := by
  have HR := Rd.new (c := c) 31 ha hl hi
  have C1 : ∀ u, Rd w w.heap.size (w.heap.size + 1) 31 o a c f da dc ua uc u → Calls Try.prog 21 #[.agg #[.int .i64 o.id, .int .i64 o.item, .int .i64 o.qty, .int .i64 o.client, .int .i64 o.price, .slice a o.steps.length c]] u fun e w' => e = .returned (.bool (mayO o)) ∧ Below u.heap.size u w' := fun u h => ref_omay_any o a c u h.st h.hl hcap
  have C2 : ∀ u, Rd w w.heap.size (w.heap.size + 1) 31 o a c f da dc ua uc u → Calls Try.prog 26 #[.slice da f.dn.length dc] u fun e w' => e = .returned (.bool (allB f.dn)) ∧ Below u.heap.size u w' := fun u h => (rall_any f.dn da dc u h.fi.dn (by have := h.fi.dl; have := h.fi.dm; omega)).mono (fun e w' h2 => ⟨h2.1, h2.2 ▸ Below.refl _ _⟩)
  have C3 : ∀ u, Rd w w.heap.size (w.heap.size + 1) 31 o a c f da dc ua uc u → Calls Try.prog 27 #[.slice ua f.un.length uc] u fun e w' => e = .returned (.bool (!hasB f.un true)) ∧ Below u.heap.size u w' := fun u h => (rnone_any f.un ua uc u h.fi.un (by have := h.fi.ul; have := h.fi.um; omega)).mono (fun e w' h2 => ⟨h2.1, h2.2 ▸ Below.refl _ _⟩)
  have C4 : ∀ u, Rd w w.heap.size (w.heap.size + 1) 31 o a c f da dc ua uc u → Calls Try.prog 27 #[.slice (some ⟨w.heap.size + 1, 5, none⟩) 2 2] u fun e w' => e = .returned (.bool (!hasB [f.k0, f.k1] true)) ∧ Below u.heap.size u w' := fun u h => (rnone_any [f.k0, f.k1] _ 2 u (pair_in h.cells.2.2.2.2.2.2.1 h.cells.2.2.2.2.2.2.2.1) (by simp)).mono (fun e w' h2 => ⟨h2.1, h2.2 ▸ Below.refl _ _⟩)
  have C5 : ∀ u, Rd w w.heap.size (w.heap.size + 1) 31 o a c f da dc ua uc u → Calls Try.prog 27 #[.slice (some ⟨w.heap.size + 1, 8, none⟩) 2 2] u fun e w' => e = .returned (.bool (!hasB [f.d0, f.d1] true)) ∧ Below u.heap.size u w' := fun u h => (rnone_any [f.d0, f.d1] _ 2 u (pair_in h.cells.2.2.2.2.2.2.2.2.2.1 h.cells.2.2.2.2.2.2.2.2.2.2.1) (by simp)).mono (fun e w' h2 => ⟨h2.1, h2.2 ▸ Below.refl _ _⟩)
  have HML : Hid (f.dn.length ≤ 9223372036854775807 ∧ f.un.length ≤ 9223372036854775807) := ⟨by have := hi.dl; have := hi.dm; omega, by have := hi.ul; have := hi.um; omega⟩
  obtain ⟨X, hX⟩ : ∃ X, mayR o f = X := ⟨_, rfl⟩
  have HX := hide hX
  rw [hX]
  have HX0 := hide hX
  have HA0 := hide ha
  have HL0 := hide hl
  have HI0 := hide hi
  have HC0 := hide hcap
  unfold mayR at HX
  clear ha hl hi hX hcap
  obtain ⟨dn, un, asked, yes, turned, k0, k1, ship, g0, g1, acc⟩ := f
  dsimp only at C1 C2 C3 C4 C5 HX HML
  have HC := HR.cells; dsimp only at HC; obtain ⟨⟨d0, d1, d2, d3, d4, d5⟩, e0, e1, e2, e3, e4, e5, e6, e7, e8, e9, e10⟩ := HC
  cases p1 : mayO o
  · rw [p1] at C1 HX
    have HF : Hid (false = X) := by show _ = _; rw [← HX.out]; rfl
    go_enter Try.func13, Try.ntmps13
    go_wp2_with (first
      | (go_at_call 21; (with_reducible refine ((C1 _ HR)).mono ?_); rintro e u ⟨rfl, hb⟩; replace HR := HR.on hb; clear hb d0 d1 d2 d3 d4 d5 e0 e1 e2 e3 e4 e5 e6 e7 e8 e9 e10; have HC := HR.cells; dsimp only at HC; obtain ⟨⟨d0, d1, d2, d3, d4, d5⟩, e0, e1, e2, e3, e4, e5, e6, e7, e8, e9, e10⟩ := HC)
      | (go_at_call 26; (with_reducible refine ((C2 _ HR)).mono ?_); rintro e u ⟨rfl, hb⟩; replace HR := HR.on hb; clear hb d0 d1 d2 d3 d4 d5 e0 e1 e2 e3 e4 e5 e6 e7 e8 e9 e10; have HC := HR.cells; dsimp only at HC; obtain ⟨⟨d0, d1, d2, d3, d4, d5⟩, e0, e1, e2, e3, e4, e5, e6, e7, e8, e9, e10⟩ := HC)
      | (go_at_call 27; (with_reducible refine ((C3 _ HR)).mono ?_); rintro e u ⟨rfl, hb⟩; replace HR := HR.on hb; clear hb d0 d1 d2 d3 d4 d5 e0 e1 e2 e3 e4 e5 e6 e7 e8 e9 e10; have HC := HR.cells; dsimp only at HC; obtain ⟨⟨d0, d1, d2, d3, d4, d5⟩, e0, e1, e2, e3, e4, e5, e6, e7, e8, e9, e10⟩ := HC)
      | (go_at_call 27; (with_reducible refine ((C4 _ HR)).mono ?_); rintro e u ⟨rfl, hb⟩; replace HR := HR.on hb; clear hb d0 d1 d2 d3 d4 d5 e0 e1 e2 e3 e4 e5 e6 e7 e8 e9 e10; have HC := HR.cells; dsimp only at HC; obtain ⟨⟨d0, d1, d2, d3, d4, d5⟩, e0, e1, e2, e3, e4, e5, e6, e7, e8, e9, e10⟩ := HC)
      | (go_at_call 27; (with_reducible refine ((C5 _ HR)).mono ?_); rintro e u ⟨rfl, hb⟩; replace HR := HR.on hb; clear hb d0 d1 d2 d3 d4 d5 e0 e1 e2 e3 e4 e5 e6 e7 e8 e9 e10; have HC := HR.cells; dsimp only at HC; obtain ⟨⟨d0, d1, d2, d3, d4, d5⟩, e0, e1, e2, e3, e4, e5, e6, e7, e8, e9, e10⟩ := HC))
    go_ret
    exact ⟨ret_bool HF.out, HR.bel⟩
  rw [p1] at C1 HX
  by_cases h1 : (dn.length : Int) = (o.steps.length : Int)
  rotate_left
  · rw [decide_eq_false (show ¬ dn.length = o.steps.length by omega)] at HX
    have HF : Hid (false = X) := by show _ = _; rw [← HX.out]; rfl
    go_enter Try.func13, Try.ntmps13
    go_wp2_with (first
      | (go_at_call 21; (with_reducible refine ((C1 _ HR)).mono ?_); rintro e u ⟨rfl, hb⟩; replace HR := HR.on hb; clear hb d0 d1 d2 d3 d4 d5 e0 e1 e2 e3 e4 e5 e6 e7 e8 e9 e10; have HC := HR.cells; dsimp only at HC; obtain ⟨⟨d0, d1, d2, d3, d4, d5⟩, e0, e1, e2, e3, e4, e5, e6, e7, e8, e9, e10⟩ := HC)
      | (go_at_call 26; (with_reducible refine ((C2 _ HR)).mono ?_); rintro e u ⟨rfl, hb⟩; replace HR := HR.on hb; clear hb d0 d1 d2 d3 d4 d5 e0 e1 e2 e3 e4 e5 e6 e7 e8 e9 e10; have HC := HR.cells; dsimp only at HC; obtain ⟨⟨d0, d1, d2, d3, d4, d5⟩, e0, e1, e2, e3, e4, e5, e6, e7, e8, e9, e10⟩ := HC)
      | (go_at_call 27; (with_reducible refine ((C3 _ HR)).mono ?_); rintro e u ⟨rfl, hb⟩; replace HR := HR.on hb; clear hb d0 d1 d2 d3 d4 d5 e0 e1 e2 e3 e4 e5 e6 e7 e8 e9 e10; have HC := HR.cells; dsimp only at HC; obtain ⟨⟨d0, d1, d2, d3, d4, d5⟩, e0, e1, e2, e3, e4, e5, e6, e7, e8, e9, e10⟩ := HC)
      | (go_at_call 27; (with_reducible refine ((C4 _ HR)).mono ?_); rintro e u ⟨rfl, hb⟩; replace HR := HR.on hb; clear hb d0 d1 d2 d3 d4 d5 e0 e1 e2 e3 e4 e5 e6 e7 e8 e9 e10; have HC := HR.cells; dsimp only at HC; obtain ⟨⟨d0, d1, d2, d3, d4, d5⟩, e0, e1, e2, e3, e4, e5, e6, e7, e8, e9, e10⟩ := HC)
      | (go_at_call 27; (with_reducible refine ((C5 _ HR)).mono ?_); rintro e u ⟨rfl, hb⟩; replace HR := HR.on hb; clear hb d0 d1 d2 d3 d4 d5 e0 e1 e2 e3 e4 e5 e6 e7 e8 e9 e10; have HC := HR.cells; dsimp only at HC; obtain ⟨⟨d0, d1, d2, d3, d4, d5⟩, e0, e1, e2, e3, e4, e5, e6, e7, e8, e9, e10⟩ := HC))
    go_ret
    exact ⟨ret_bool HF.out, HR.bel⟩
  by_cases h2 : (un.length : Int) = (o.steps.length : Int)
  rotate_left
  · rw [decide_eq_false (show ¬ un.length = o.steps.length by omega)] at HX
    have HF : Hid (false = X) := by show _ = _; rw [← HX.out]; simp
    go_enter Try.func13, Try.ntmps13
    go_wp2_with (first
      | (go_at_call 21; (with_reducible refine ((C1 _ HR)).mono ?_); rintro e u ⟨rfl, hb⟩; replace HR := HR.on hb; clear hb d0 d1 d2 d3 d4 d5 e0 e1 e2 e3 e4 e5 e6 e7 e8 e9 e10; have HC := HR.cells; dsimp only at HC; obtain ⟨⟨d0, d1, d2, d3, d4, d5⟩, e0, e1, e2, e3, e4, e5, e6, e7, e8, e9, e10⟩ := HC)
      | (go_at_call 26; (with_reducible refine ((C2 _ HR)).mono ?_); rintro e u ⟨rfl, hb⟩; replace HR := HR.on hb; clear hb d0 d1 d2 d3 d4 d5 e0 e1 e2 e3 e4 e5 e6 e7 e8 e9 e10; have HC := HR.cells; dsimp only at HC; obtain ⟨⟨d0, d1, d2, d3, d4, d5⟩, e0, e1, e2, e3, e4, e5, e6, e7, e8, e9, e10⟩ := HC)
      | (go_at_call 27; (with_reducible refine ((C3 _ HR)).mono ?_); rintro e u ⟨rfl, hb⟩; replace HR := HR.on hb; clear hb d0 d1 d2 d3 d4 d5 e0 e1 e2 e3 e4 e5 e6 e7 e8 e9 e10; have HC := HR.cells; dsimp only at HC; obtain ⟨⟨d0, d1, d2, d3, d4, d5⟩, e0, e1, e2, e3, e4, e5, e6, e7, e8, e9, e10⟩ := HC)
      | (go_at_call 27; (with_reducible refine ((C4 _ HR)).mono ?_); rintro e u ⟨rfl, hb⟩; replace HR := HR.on hb; clear hb d0 d1 d2 d3 d4 d5 e0 e1 e2 e3 e4 e5 e6 e7 e8 e9 e10; have HC := HR.cells; dsimp only at HC; obtain ⟨⟨d0, d1, d2, d3, d4, d5⟩, e0, e1, e2, e3, e4, e5, e6, e7, e8, e9, e10⟩ := HC)
      | (go_at_call 27; (with_reducible refine ((C5 _ HR)).mono ?_); rintro e u ⟨rfl, hb⟩; replace HR := HR.on hb; clear hb d0 d1 d2 d3 d4 d5 e0 e1 e2 e3 e4 e5 e6 e7 e8 e9 e10; have HC := HR.cells; dsimp only at HC; obtain ⟨⟨d0, d1, d2, d3, d4, d5⟩, e0, e1, e2, e3, e4, e5, e6, e7, e8, e9, e10⟩ := HC))
    go_ret
    exact ⟨ret_bool HF.out, HR.bel⟩
  have z1 : dn.length = o.steps.length := by omega
  have z2 : un.length = o.steps.length := by omega
  cases yes
  · cases turned
    · rw [← HX0.out]
      exact rmay_ff o a c _ da dc ua uc w HA0.out HL0.out HI0.out HC0.out p1 z1 z2 rfl rfl
    · rw [← HX0.out]
      exact rmay_ft o a c _ da dc ua uc w HA0.out HL0.out HI0.out HC0.out p1 z1 z2 rfl rfl
  · cases turned
    · rw [← HX0.out]
      exact rmay_tf o a c _ da dc ua uc w HA0.out HL0.out HI0.out HC0.out p1 z1 z2 rfl rfl
    · clear z1 z2
      have HF : Hid (false = X) := by show _ = _; rw [← HX.out]; simp
      go_enter Try.func13, Try.ntmps13
      go_wp2_with (first
        | (go_at_call 21; (with_reducible refine ((C1 _ HR)).mono ?_); rintro e u ⟨rfl, hb⟩; replace HR := HR.on hb; clear hb d0 d1 d2 d3 d4 d5 e0 e1 e2 e3 e4 e5 e6 e7 e8 e9 e10; have HC := HR.cells; dsimp only at HC; obtain ⟨⟨d0, d1, d2, d3, d4, d5⟩, e0, e1, e2, e3, e4, e5, e6, e7, e8, e9, e10⟩ := HC)
        | (go_at_call 26; (with_reducible refine ((C2 _ HR)).mono ?_); rintro e u ⟨rfl, hb⟩; replace HR := HR.on hb; clear hb d0 d1 d2 d3 d4 d5 e0 e1 e2 e3 e4 e5 e6 e7 e8 e9 e10; have HC := HR.cells; dsimp only at HC; obtain ⟨⟨d0, d1, d2, d3, d4, d5⟩, e0, e1, e2, e3, e4, e5, e6, e7, e8, e9, e10⟩ := HC)
        | (go_at_call 27; (with_reducible refine ((C3 _ HR)).mono ?_); rintro e u ⟨rfl, hb⟩; replace HR := HR.on hb; clear hb d0 d1 d2 d3 d4 d5 e0 e1 e2 e3 e4 e5 e6 e7 e8 e9 e10; have HC := HR.cells; dsimp only at HC; obtain ⟨⟨d0, d1, d2, d3, d4, d5⟩, e0, e1, e2, e3, e4, e5, e6, e7, e8, e9, e10⟩ := HC)
        | (go_at_call 27; (with_reducible refine ((C4 _ HR)).mono ?_); rintro e u ⟨rfl, hb⟩; replace HR := HR.on hb; clear hb d0 d1 d2 d3 d4 d5 e0 e1 e2 e3 e4 e5 e6 e7 e8 e9 e10; have HC := HR.cells; dsimp only at HC; obtain ⟨⟨d0, d1, d2, d3, d4, d5⟩, e0, e1, e2, e3, e4, e5, e6, e7, e8, e9, e10⟩ := HC)
        | (go_at_call 27; (with_reducible refine ((C5 _ HR)).mono ?_); rintro e u ⟨rfl, hb⟩; replace HR := HR.on hb; clear hb d0 d1 d2 d3 d4 d5 e0 e1 e2 e3 e4 e5 e6 e7 e8 e9 e10; have HC := HR.cells; dsimp only at HC; obtain ⟨⟨d0, d1, d2, d3, d4, d5⟩, e0, e1, e2, e3, e4, e5, e6, e7, e8, e9, e10⟩ := HC))
      go_ret
      exact ⟨ret_bool HF.out, HR.bel⟩
end Go.Proofs.Ytinbmnefdhkdfaa
