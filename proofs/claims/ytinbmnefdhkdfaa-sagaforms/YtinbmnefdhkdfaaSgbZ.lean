/-
  Contracts: the reference's Needs.
-/
import Derived.Test.YtinbmnefdhkdfaaSgbT
import Derived.Test.YtinbmnefdhkdfaaSgaZ
namespace Go.Proofs.Ytinbmnefdhkdfaa
open Go.ChangeShapes Go.WideShapes Go.ChangeAt Go.RowKit

set_option maxRecDepth 100000 in
set_option maxHeartbeats 8000000 in
theorem rneeds_no (o : Od) (a : Option Addr) (c : Nat) (f : Fa) (da : Option Addr) (dc : Nat) (ua : Option Addr) (uc : Nat) (w : World) (ha : Sts w a o.steps) (hl : o.steps.length ≤ 9223372036854775807) (hi : FaIn w f da dc ua uc) (hcap : o.steps.length ≤ c) (hm : mayR o f = false) :
    Calls Try.prog 20 #[.agg #[.int .i64 o.id, .int .i64 o.item, .int .i64 o.qty, .int .i64 o.client, .int .i64 o.price, .slice a o.steps.length c], .agg #[.slice da f.dn.length dc, .slice ua f.un.length uc, .bool f.asked, .bool f.yes, .bool f.turned, .bool f.k0, .bool f.k1, .bool f.ship, .bool f.d0, .bool f.d1, .bool f.acc]] w fun e w' => e = .returned (.slice none 0 0) ∧ Below w.heap.size w w' := by
  have HR := Rd.new (c := c) 31 ha hl hi
  have C1 : ∀ u, Rd w w.heap.size (w.heap.size + 1) 31 o a c f da dc ua uc u → Calls Try.prog 13 #[.agg #[.int .i64 o.id, .int .i64 o.item, .int .i64 o.qty, .int .i64 o.client, .int .i64 o.price, .slice a o.steps.length c], .agg #[.slice da f.dn.length dc, .slice ua f.un.length uc, .bool f.asked, .bool f.yes, .bool f.turned, .bool f.k0, .bool f.k1, .bool f.ship, .bool f.d0, .bool f.d1, .bool f.acc]] u fun e w' => e = .returned (.bool (mayR o f)) ∧ Below u.heap.size u w' := fun u h => rmay_any o a c f da dc ua uc u h.st h.hl h.fi hcap
  rw [hm] at C1
  clear ha hl hi hcap hm
  have HC := HR.cells; (try dsimp only at HC); obtain ⟨⟨d0, d1, d2, d3, d4, d5⟩, e0, e1, e2, e3, e4, e5, e6, e7, e8, e9, e10⟩ := HC
  go_enter Try.func20, Try.ntmps20
  go_wp2_with (first
    | (go_at_call 13; (with_reducible refine ((C1 _ HR)).mono ?_); rintro e u ⟨rfl, hb⟩; replace HR := HR.on hb; clear hb d0 d1 d2 d3 d4 d5 e0 e1 e2 e3 e4 e5 e6 e7 e8 e9 e10; have HC := HR.cells; (try dsimp only at HC); obtain ⟨⟨d0, d1, d2, d3, d4, d5⟩, e0, e1, e2, e3, e4, e5, e6, e7, e8, e9, e10⟩ := HC))
  go_ret
  exact ⟨rfl, HR.bel⟩
end Go.Proofs.Ytinbmnefdhkdfaa
