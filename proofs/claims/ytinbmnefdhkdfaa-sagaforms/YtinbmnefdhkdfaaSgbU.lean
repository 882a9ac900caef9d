/-
  Contracts: the reference's over and Over.
-/
import Derived.Test.YtinbmnefdhkdfaaSgbT
namespace Go.Proofs.Ytinbmnefdhkdfaa
open Go.ChangeShapes Go.WideShapes Go.ChangeAt Go.RowKit

def ovR (o : Od) (f : Fa) : Bool := mayR o f && (allB [f.k0, f.k1] && ((f.turned && allB f.un) || (f.yes && f.ship)))
set_option maxRecDepth 100000 in
set_option maxHeartbeats 8000000 in
theorem rov_any (o : Od) (a : Option Addr) (c : Nat) (f : Fa) (da : Option Addr) (dc : Nat) (ua : Option Addr) (uc : Nat) (w : World) (ha : Sts w a o.steps) (hl : o.steps.length ≤ 9223372036854775807) (hi : FaIn w f da dc ua uc) (hcap : o.steps.length ≤ c) :
    Calls Try.prog 30 #[.agg #[.int .i64 o.id, .int .i64 o.item, .int .i64 o.qty, .int .i64 o.client, .int .i64 o.price, .slice a o.steps.length c], .agg #[.slice da f.dn.length dc, .slice ua f.un.length uc, .bool f.asked, .bool f.yes, .bool f.turned, .bool f.k0, .bool f.k1, .bool f.ship, .bool f.d0, .bool f.d1, .bool f.acc]] w fun e w' => e = .returned (.bool (ovR o f)) ∧ Below w.heap.size w w' := by
  have HR := Rd.new (c := c) 31 ha hl hi
  have C1 : ∀ u, Rd w w.heap.size (w.heap.size + 1) 31 o a c f da dc ua uc u → Calls Try.prog 13 #[.agg #[.int .i64 o.id, .int .i64 o.item, .int .i64 o.qty, .int .i64 o.client, .int .i64 o.price, .slice a o.steps.length c], .agg #[.slice da f.dn.length dc, .slice ua f.un.length uc, .bool f.asked, .bool f.yes, .bool f.turned, .bool f.k0, .bool f.k1, .bool f.ship, .bool f.d0, .bool f.d1, .bool f.acc]] u fun e w' => e = .returned (.bool (mayR o f)) ∧ Below u.heap.size u w' := fun u h => rmay_any o a c f da dc ua uc u h.st h.hl h.fi hcap
  have C2 : ∀ u, Rd w w.heap.size (w.heap.size + 1) 31 o a c f da dc ua uc u → Calls Try.prog 26 #[.slice (some ⟨w.heap.size + 1, 5, none⟩) 2 2] u fun e w' => e = .returned (.bool (allB [f.k0, f.k1])) ∧ Below u.heap.size u w' := fun u h => (rall_any [f.k0, f.k1] _ 2 u (pair_in h.cells.2.2.2.2.2.2.1 h.cells.2.2.2.2.2.2.2.1) (by simp)).mono (fun e w' h2 => ⟨h2.1, h2.2 ▸ Below.refl _ _⟩)
  have C3 : ∀ u, Rd w w.heap.size (w.heap.size + 1) 31 o a c f da dc ua uc u → Calls Try.prog 26 #[.slice ua f.un.length uc] u fun e w' => e = .returned (.bool (allB f.un)) ∧ Below u.heap.size u w' := fun u h => (rall_any f.un ua uc u h.fi.un (by have := h.fi.ul; have := h.fi.um; omega)).mono (fun e w' h2 => ⟨h2.1, h2.2 ▸ Below.refl _ _⟩)
  unfold ovR
  obtain ⟨M, hM⟩ : ∃ M, mayR o f = M := ⟨_, rfl⟩
  obtain ⟨K, hK⟩ : ∃ K, allB [f.k0, f.k1] = K := ⟨_, rfl⟩
  obtain ⟨U, hU⟩ : ∃ U, allB f.un = U := ⟨_, rfl⟩
  rw [hM] at C1 ⊢
  rw [hK] at C2 ⊢
  rw [hU] at C3 ⊢
  clear ha hl hi hcap hM hK hU
  obtain ⟨dn, un, asked, yes, turned, k0, k1, ship, g0, g1, acc⟩ := f
  dsimp only at C1 C2 C3 ⊢
  have HC := HR.cells; dsimp only at HC; obtain ⟨⟨d0, d1, d2, d3, d4, d5⟩, e0, e1, e2, e3, e4, e5, e6, e7, e8, e9, e10⟩ := HC
  cases M
  · skip
    go_enter Try.func30, Try.ntmps30
    go_wp2_with (first
      | (go_at_call 13; (with_reducible refine ((C1 _ HR)).mono ?_); rintro e u ⟨rfl, hb⟩; replace HR := HR.on hb; clear hb d0 d1 d2 d3 d4 d5 e0 e1 e2 e3 e4 e5 e6 e7 e8 e9 e10; have HC := HR.cells; dsimp only at HC; obtain ⟨⟨d0, d1, d2, d3, d4, d5⟩, e0, e1, e2, e3, e4, e5, e6, e7, e8, e9, e10⟩ := HC)
      | (go_at_call 26; (with_reducible refine ((C2 _ HR)).mono ?_); rintro e u ⟨rfl, hb⟩; replace HR := HR.on hb; clear hb d0 d1 d2 d3 d4 d5 e0 e1 e2 e3 e4 e5 e6 e7 e8 e9 e10; have HC := HR.cells; dsimp only at HC; obtain ⟨⟨d0, d1, d2, d3, d4, d5⟩, e0, e1, e2, e3, e4, e5, e6, e7, e8, e9, e10⟩ := HC)
      | (go_at_call 26; (with_reducible refine ((C3 _ HR)).mono ?_); rintro e u ⟨rfl, hb⟩; replace HR := HR.on hb; clear hb d0 d1 d2 d3 d4 d5 e0 e1 e2 e3 e4 e5 e6 e7 e8 e9 e10; have HC := HR.cells; dsimp only at HC; obtain ⟨⟨d0, d1, d2, d3, d4, d5⟩, e0, e1, e2, e3, e4, e5, e6, e7, e8, e9, e10⟩ := HC))
    go_ret
    exact ⟨rfl, HR.bel⟩
  cases K
  · skip
    go_enter Try.func30, Try.ntmps30
    go_wp2_with (first
      | (go_at_call 13; (with_reducible refine ((C1 _ HR)).mono ?_); rintro e u ⟨rfl, hb⟩; replace HR := HR.on hb; clear hb d0 d1 d2 d3 d4 d5 e0 e1 e2 e3 e4 e5 e6 e7 e8 e9 e10; have HC := HR.cells; dsimp only at HC; obtain ⟨⟨d0, d1, d2, d3, d4, d5⟩, e0, e1, e2, e3, e4, e5, e6, e7, e8, e9, e10⟩ := HC)
      | (go_at_call 26; (with_reducible refine ((C2 _ HR)).mono ?_); rintro e u ⟨rfl, hb⟩; replace HR := HR.on hb; clear hb d0 d1 d2 d3 d4 d5 e0 e1 e2 e3 e4 e5 e6 e7 e8 e9 e10; have HC := HR.cells; dsimp only at HC; obtain ⟨⟨d0, d1, d2, d3, d4, d5⟩, e0, e1, e2, e3, e4, e5, e6, e7, e8, e9, e10⟩ := HC)
      | (go_at_call 26; (with_reducible refine ((C3 _ HR)).mono ?_); rintro e u ⟨rfl, hb⟩; replace HR := HR.on hb; clear hb d0 d1 d2 d3 d4 d5 e0 e1 e2 e3 e4 e5 e6 e7 e8 e9 e10; have HC := HR.cells; dsimp only at HC; obtain ⟨⟨d0, d1, d2, d3, d4, d5⟩, e0, e1, e2, e3, e4, e5, e6, e7, e8, e9, e10⟩ := HC))
    go_ret
    exact ⟨rfl, HR.bel⟩
  cases turned
  · cases yes
    · skip
      go_enter Try.func30, Try.ntmps30
      go_wp2_with (first
        | (go_at_call 13; (with_reducible refine ((C1 _ HR)).mono ?_); rintro e u ⟨rfl, hb⟩; replace HR := HR.on hb; clear hb d0 d1 d2 d3 d4 d5 e0 e1 e2 e3 e4 e5 e6 e7 e8 e9 e10; have HC := HR.cells; dsimp only at HC; obtain ⟨⟨d0, d1, d2, d3, d4, d5⟩, e0, e1, e2, e3, e4, e5, e6, e7, e8, e9, e10⟩ := HC)
        | (go_at_call 26; (with_reducible refine ((C2 _ HR)).mono ?_); rintro e u ⟨rfl, hb⟩; replace HR := HR.on hb; clear hb d0 d1 d2 d3 d4 d5 e0 e1 e2 e3 e4 e5 e6 e7 e8 e9 e10; have HC := HR.cells; dsimp only at HC; obtain ⟨⟨d0, d1, d2, d3, d4, d5⟩, e0, e1, e2, e3, e4, e5, e6, e7, e8, e9, e10⟩ := HC)
        | (go_at_call 26; (with_reducible refine ((C3 _ HR)).mono ?_); rintro e u ⟨rfl, hb⟩; replace HR := HR.on hb; clear hb d0 d1 d2 d3 d4 d5 e0 e1 e2 e3 e4 e5 e6 e7 e8 e9 e10; have HC := HR.cells; dsimp only at HC; obtain ⟨⟨d0, d1, d2, d3, d4, d5⟩, e0, e1, e2, e3, e4, e5, e6, e7, e8, e9, e10⟩ := HC))
      go_ret
      exact ⟨rfl, HR.bel⟩
    · cases ship
      · skip
        go_enter Try.func30, Try.ntmps30
        go_wp2_with (first
          | (go_at_call 13; (with_reducible refine ((C1 _ HR)).mono ?_); rintro e u ⟨rfl, hb⟩; replace HR := HR.on hb; clear hb d0 d1 d2 d3 d4 d5 e0 e1 e2 e3 e4 e5 e6 e7 e8 e9 e10; have HC := HR.cells; dsimp only at HC; obtain ⟨⟨d0, d1, d2, d3, d4, d5⟩, e0, e1, e2, e3, e4, e5, e6, e7, e8, e9, e10⟩ := HC)
          | (go_at_call 26; (with_reducible refine ((C2 _ HR)).mono ?_); rintro e u ⟨rfl, hb⟩; replace HR := HR.on hb; clear hb d0 d1 d2 d3 d4 d5 e0 e1 e2 e3 e4 e5 e6 e7 e8 e9 e10; have HC := HR.cells; dsimp only at HC; obtain ⟨⟨d0, d1, d2, d3, d4, d5⟩, e0, e1, e2, e3, e4, e5, e6, e7, e8, e9, e10⟩ := HC)
          | (go_at_call 26; (with_reducible refine ((C3 _ HR)).mono ?_); rintro e u ⟨rfl, hb⟩; replace HR := HR.on hb; clear hb d0 d1 d2 d3 d4 d5 e0 e1 e2 e3 e4 e5 e6 e7 e8 e9 e10; have HC := HR.cells; dsimp only at HC; obtain ⟨⟨d0, d1, d2, d3, d4, d5⟩, e0, e1, e2, e3, e4, e5, e6, e7, e8, e9, e10⟩ := HC))
        go_ret
        exact ⟨rfl, HR.bel⟩
      · skip
        go_enter Try.func30, Try.ntmps30
        go_wp2_with (first
          | (go_at_call 13; (with_reducible refine ((C1 _ HR)).mono ?_); rintro e u ⟨rfl, hb⟩; replace HR := HR.on hb; clear hb d0 d1 d2 d3 d4 d5 e0 e1 e2 e3 e4 e5 e6 e7 e8 e9 e10; have HC := HR.cells; dsimp only at HC; obtain ⟨⟨d0, d1, d2, d3, d4, d5⟩, e0, e1, e2, e3, e4, e5, e6, e7, e8, e9, e10⟩ := HC)
          | (go_at_call 26; (with_reducible refine ((C2 _ HR)).mono ?_); rintro e u ⟨rfl, hb⟩; replace HR := HR.on hb; clear hb d0 d1 d2 d3 d4 d5 e0 e1 e2 e3 e4 e5 e6 e7 e8 e9 e10; have HC := HR.cells; dsimp only at HC; obtain ⟨⟨d0, d1, d2, d3, d4, d5⟩, e0, e1, e2, e3, e4, e5, e6, e7, e8, e9, e10⟩ := HC)
          | (go_at_call 26; (with_reducible refine ((C3 _ HR)).mono ?_); rintro e u ⟨rfl, hb⟩; replace HR := HR.on hb; clear hb d0 d1 d2 d3 d4 d5 e0 e1 e2 e3 e4 e5 e6 e7 e8 e9 e10; have HC := HR.cells; dsimp only at HC; obtain ⟨⟨d0, d1, d2, d3, d4, d5⟩, e0, e1, e2, e3, e4, e5, e6, e7, e8, e9, e10⟩ := HC))
        go_ret
        exact ⟨rfl, HR.bel⟩
  · cases U
    · cases yes
      · skip
        go_enter Try.func30, Try.ntmps30
        go_wp2_with (first
          | (go_at_call 13; (with_reducible refine ((C1 _ HR)).mono ?_); rintro e u ⟨rfl, hb⟩; replace HR := HR.on hb; clear hb d0 d1 d2 d3 d4 d5 e0 e1 e2 e3 e4 e5 e6 e7 e8 e9 e10; have HC := HR.cells; dsimp only at HC; obtain ⟨⟨d0, d1, d2, d3, d4, d5⟩, e0, e1, e2, e3, e4, e5, e6, e7, e8, e9, e10⟩ := HC)
          | (go_at_call 26; (with_reducible refine ((C2 _ HR)).mono ?_); rintro e u ⟨rfl, hb⟩; replace HR := HR.on hb; clear hb d0 d1 d2 d3 d4 d5 e0 e1 e2 e3 e4 e5 e6 e7 e8 e9 e10; have HC := HR.cells; dsimp only at HC; obtain ⟨⟨d0, d1, d2, d3, d4, d5⟩, e0, e1, e2, e3, e4, e5, e6, e7, e8, e9, e10⟩ := HC)
          | (go_at_call 26; (with_reducible refine ((C3 _ HR)).mono ?_); rintro e u ⟨rfl, hb⟩; replace HR := HR.on hb; clear hb d0 d1 d2 d3 d4 d5 e0 e1 e2 e3 e4 e5 e6 e7 e8 e9 e10; have HC := HR.cells; dsimp only at HC; obtain ⟨⟨d0, d1, d2, d3, d4, d5⟩, e0, e1, e2, e3, e4, e5, e6, e7, e8, e9, e10⟩ := HC))
        go_ret
        exact ⟨rfl, HR.bel⟩
      · cases ship
        · skip
          go_enter Try.func30, Try.ntmps30
          go_wp2_with (first
            | (go_at_call 13; (with_reducible refine ((C1 _ HR)).mono ?_); rintro e u ⟨rfl, hb⟩; replace HR := HR.on hb; clear hb d0 d1 d2 d3 d4 d5 e0 e1 e2 e3 e4 e5 e6 e7 e8 e9 e10; have HC := HR.cells; dsimp only at HC; obtain ⟨⟨d0, d1, d2, d3, d4, d5⟩, e0, e1, e2, e3, e4, e5, e6, e7, e8, e9, e10⟩ := HC)
            | (go_at_call 26; (with_reducible refine ((C2 _ HR)).mono ?_); rintro e u ⟨rfl, hb⟩; replace HR := HR.on hb; clear hb d0 d1 d2 d3 d4 d5 e0 e1 e2 e3 e4 e5 e6 e7 e8 e9 e10; have HC := HR.cells; dsimp only at HC; obtain ⟨⟨d0, d1, d2, d3, d4, d5⟩, e0, e1, e2, e3, e4, e5, e6, e7, e8, e9, e10⟩ := HC)
            | (go_at_call 26; (with_reducible refine ((C3 _ HR)).mono ?_); rintro e u ⟨rfl, hb⟩; replace HR := HR.on hb; clear hb d0 d1 d2 d3 d4 d5 e0 e1 e2 e3 e4 e5 e6 e7 e8 e9 e10; have HC := HR.cells; dsimp only at HC; obtain ⟨⟨d0, d1, d2, d3, d4, d5⟩, e0, e1, e2, e3, e4, e5, e6, e7, e8, e9, e10⟩ := HC))
          go_ret
          exact ⟨rfl, HR.bel⟩
        · skip
          go_enter Try.func30, Try.ntmps30
          go_wp2_with (first
            | (go_at_call 13; (with_reducible refine ((C1 _ HR)).mono ?_); rintro e u ⟨rfl, hb⟩; replace HR := HR.on hb; clear hb d0 d1 d2 d3 d4 d5 e0 e1 e2 e3 e4 e5 e6 e7 e8 e9 e10; have HC := HR.cells; dsimp only at HC; obtain ⟨⟨d0, d1, d2, d3, d4, d5⟩, e0, e1, e2, e3, e4, e5, e6, e7, e8, e9, e10⟩ := HC)
            | (go_at_call 26; (with_reducible refine ((C2 _ HR)).mono ?_); rintro e u ⟨rfl, hb⟩; replace HR := HR.on hb; clear hb d0 d1 d2 d3 d4 d5 e0 e1 e2 e3 e4 e5 e6 e7 e8 e9 e10; have HC := HR.cells; dsimp only at HC; obtain ⟨⟨d0, d1, d2, d3, d4, d5⟩, e0, e1, e2, e3, e4, e5, e6, e7, e8, e9, e10⟩ := HC)
            | (go_at_call 26; (with_reducible refine ((C3 _ HR)).mono ?_); rintro e u ⟨rfl, hb⟩; replace HR := HR.on hb; clear hb d0 d1 d2 d3 d4 d5 e0 e1 e2 e3 e4 e5 e6 e7 e8 e9 e10; have HC := HR.cells; dsimp only at HC; obtain ⟨⟨d0, d1, d2, d3, d4, d5⟩, e0, e1, e2, e3, e4, e5, e6, e7, e8, e9, e10⟩ := HC))
          go_ret
          exact ⟨rfl, HR.bel⟩
    · skip
      go_enter Try.func30, Try.ntmps30
      go_wp2_with (first
        | (go_at_call 13; (with_reducible refine ((C1 _ HR)).mono ?_); rintro e u ⟨rfl, hb⟩; replace HR := HR.on hb; clear hb d0 d1 d2 d3 d4 d5 e0 e1 e2 e3 e4 e5 e6 e7 e8 e9 e10; have HC := HR.cells; dsimp only at HC; obtain ⟨⟨d0, d1, d2, d3, d4, d5⟩, e0, e1, e2, e3, e4, e5, e6, e7, e8, e9, e10⟩ := HC)
        | (go_at_call 26; (with_reducible refine ((C2 _ HR)).mono ?_); rintro e u ⟨rfl, hb⟩; replace HR := HR.on hb; clear hb d0 d1 d2 d3 d4 d5 e0 e1 e2 e3 e4 e5 e6 e7 e8 e9 e10; have HC := HR.cells; dsimp only at HC; obtain ⟨⟨d0, d1, d2, d3, d4, d5⟩, e0, e1, e2, e3, e4, e5, e6, e7, e8, e9, e10⟩ := HC)
        | (go_at_call 26; (with_reducible refine ((C3 _ HR)).mono ?_); rintro e u ⟨rfl, hb⟩; replace HR := HR.on hb; clear hb d0 d1 d2 d3 d4 d5 e0 e1 e2 e3 e4 e5 e6 e7 e8 e9 e10; have HC := HR.cells; dsimp only at HC; obtain ⟨⟨d0, d1, d2, d3, d4, d5⟩, e0, e1, e2, e3, e4, e5, e6, e7, e8, e9, e10⟩ := HC))
      go_ret
      exact ⟨rfl, HR.bel⟩
end Go.Proofs.Ytinbmnefdhkdfaa
