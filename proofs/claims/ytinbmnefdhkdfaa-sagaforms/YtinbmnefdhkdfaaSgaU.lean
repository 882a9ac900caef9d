/-
  Contracts: package saga's Over.
-/
import Derived.Test.YtinbmnefdhkdfaaSgaT
namespace Go.Proofs.Ytinbmnefdhkdfaa
open Go.ChangeShapes Go.WideShapes Go.ChangeAt Go.RowKit

theorem FaIn.acc {w : World} {f : Fa} {da : Option Addr} {dc : Nat} {ua : Option Addr} {uc : Nat} (h : FaIn w f da dc ua uc) (b : Bool) : FaIn w { f with acc := b } da dc ua uc := ⟨h.dn, h.un, h.dl, h.ul, h.dm, h.um⟩
set_option maxHeartbeats 4000000 in
theorem sover_any (o : Od) (a : Option Addr) (c : Nat) (f : Fa) (da : Option Addr) (dc : Nat) (ua : Option Addr) (uc : Nat) (w : World) (ha : Sts w a o.steps) (hl : o.steps.length ≤ 9223372036854775807) (hi : FaIn w f da dc ua uc) :
    Calls Try.prog 16 #[.agg #[.int .i64 o.id, .int .i64 o.item, .int .i64 o.qty, .int .i64 o.client, .int .i64 o.price, .slice a o.steps.length c], .agg #[.slice da f.dn.length dc, .slice ua f.un.length uc, .bool f.asked, .bool f.yes, .bool f.turned, .bool f.k0, .bool f.k1, .bool f.ship, .bool f.d0, .bool f.d1, .bool f.acc]] w fun e w' => e = .returned (.bool (overF o f)) ∧ Below w.heap.size w w' := by
  have HR := Rd.new (f := { f with acc := true }) (c := c) 28 ha hl (hi.acc true)
  have ST := sstate_any o a c { f with acc := true } da dc ua uc _ HR.st hl HR.fi
  have HB := hide HR.bel
  unfold overF
  obtain ⟨s, hs⟩ : ∃ s, stF o { f with acc := true } = s := ⟨_, rfl⟩
  rw [hs] at ST ⊢
  clear hs ha hi HR
  dsimp only at ST
  by_cases h5 : s = 5
  · subst h5
    go_enter Try.func16, Try.ntmps16
    go_wp2_with (go_at_call 14; refine ST.mono ?_; rintro e u ⟨rfl, hb⟩)
    go_ret
    exact ⟨rfl, bel_on' HB.out hb⟩
  have q5 : (s == 5) = false := by simpa using h5
  by_cases h6 : s = 6
  · subst h6
    go_enter Try.func16, Try.ntmps16
    go_wp2_with (go_at_call 14; refine ST.mono ?_; rintro e u ⟨rfl, hb⟩)
    go_ret
    exact ⟨rfl, bel_on' HB.out hb⟩
  have q6 : (s == 6) = false := by simpa using h6
  have HF : Hid (false = (s == 5 || s == 6)) := by show _ = _; rw [q5, q6]; rfl
  go_enter Try.func16, Try.ntmps16
  go_wp2_with (go_at_call 14; refine ST.mono ?_; rintro e u ⟨rfl, hb⟩)
  go_ret
  exact ⟨ret_bool HF.out, bel_on' HB.out hb⟩
end Go.Proofs.Ytinbmnefdhkdfaa
