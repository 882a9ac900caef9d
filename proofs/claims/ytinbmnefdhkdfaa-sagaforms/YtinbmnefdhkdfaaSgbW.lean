/-
  The law's awake returns true; facts; light.
-/
import Derived.Test.YtinbmnefdhkdfaaSgbH
import Derived.Test.YtinbmnefdhkdfaaSgaU
namespace Go.Proofs.Ytinbmnefdhkdfaa
open Go.ChangeShapes Go.WideShapes Go.ChangeAt Go.RowKit

def odA : Od := ⟨1, 0, 2, 0, 3, []⟩
def fa0 : Fa := ⟨[], [], false, false, false, false, false, false, false, false, false⟩
def fa1 : Fa := ⟨[], [], true, false, false, false, false, false, false, false, false⟩
theorem odA_next : nextF odA fa0 = prepL odA := rfl
theorem odA_state : stF odA fa1 = 2 := by decide
theorem fa0_in (w : World) : FaIn w fa0 none 0 none 0 := ⟨.inl rfl, .inl rfl, by decide, by decide, by decide, by decide⟩
theorem fa1_in (w : World) : FaIn w fa1 none 0 none 0 := ⟨.inl rfl, .inl rfl, by decide, by decide, by decide, by decide⟩

set_option maxRecDepth 100000 in
set_option maxHeartbeats 4000000 in
theorem gawake_any (w : World) : Calls Try.prog 10 #[] w fun e w' => e = .returned (.bool true) ∧ Below w.heap.size w w' := by
  have NX : ∀ u, Calls Try.prog 19 #[.agg #[.int .i64 1, .int .i64 0, .int .i64 2, .int .i64 0, .int .i64 3, .slice none 0 0], .agg #[.slice none 0 0, .slice none 0 0, .bool false, .bool false, .bool false, .bool false, .bool false, .bool false, .bool false, .bool false, .bool false]] u (OwnM u (prepL odA)) := fun u => by
    rw [← odA_next]
    exact snext_any odA none 0 fa0 none 0 none 0 u (.inl rfl) (by decide) (fa0_in u)
  have ST : ∀ u, Calls Try.prog 14 #[.agg #[.int .i64 1, .int .i64 0, .int .i64 2, .int .i64 0, .int .i64 3, .slice none 0 0], .agg #[.slice none 0 0, .slice none 0 0, .bool true, .bool false, .bool false, .bool false, .bool false, .bool false, .bool false, .bool false, .bool false]] u fun e w' => e = .returned (.int .i64 2) ∧ Below u.heap.size u w' := fun u => by
    rw [← odA_state]
    exact sstate_any odA none 0 fa1 none 0 none 0 u (.inl rfl) (by decide) (fa1_in u)
  go_enter Try.func10, Try.ntmps10
  go_wp2_with fail
  refine (NX _).mono ?_
  rintro e u ⟨a1, c1, rfl, hc, -, hrow, hb⟩
  have HRQ : Rq w odA none 0 u := (Rq.new (w := w) (o := odA) (a := none) (c := 0)).on hb
  have hms := row_mgs hrow
  obtain ⟨b, off, rfl, x0, -, x2, -⟩ := hms.get (i := 0) (m := ⟨6, 0, 1, 1, 0, 0, 2⟩) rfl
  obtain ⟨b', off', e', -, -, -, -, -, -, y6⟩ := hms.get (i := 1) (m := ⟨6, 0, 2, 1, 0, 0, 3⟩) rfl
  cases e'
  obtain ⟨d0, d1, d2, d3, d4, d5⟩ := six_cells HRQ.ob
  have HB := hide HRQ.bel
  change _ ≤ _ at hc
  clear hb hrow hms NX
  show _
  dsimp only [prepL, odA, List.length_cons, List.length_nil] at *
  simp only [Nat.zero_mul, Nat.add_zero, Nat.one_mul] at x0 x2 y6
  have y6' : u.cell? ⟨b, off + 13, none⟩ = some (.int .i64 3) := y6
  go_wp2_with (go_at_call 14; refine (ST _).mono ?_; rintro e u2 ⟨rfl, hb⟩; have HB2 := hide (bel_on' HB.out hb); clear hb)
  go_ret
  exact ⟨rfl, HB2.out⟩

theorem facts_any (f : Fa) (da : Option Addr) (dc : Nat) (ua : Option Addr) (uc : Nat) (w : World) :
    Calls Try.prog 11 #[.agg #[.slice da f.dn.length dc, .slice ua f.un.length uc, .bool f.asked, .bool f.yes, .bool f.turned, .bool f.k0, .bool f.k1, .bool f.ship, .bool f.d0, .bool f.d1, .bool f.acc]] w fun e w' => e = .returned (.agg #[.slice da f.dn.length dc, .slice ua f.un.length uc, .bool f.asked, .bool f.yes, .bool f.turned, .bool f.k0, .bool f.k1, .bool f.ship, .bool f.d0, .bool f.d1, .bool f.acc]) ∧ Below w.heap.size w w' := by
  have HB : Hid (Below w.heap.size w ((w.alloc (.cells #[.slice da f.dn.length dc, .slice ua f.un.length uc, .bool f.asked, .bool f.yes, .bool f.turned, .bool f.k0, .bool f.k1, .bool f.ship, .bool f.d0, .bool f.d1, .bool f.acc] 28)).alloc (.cells #[.slice da f.dn.length dc, .slice ua f.un.length uc, .bool f.asked, .bool f.yes, .bool f.turned, .bool f.k0, .bool f.k1, .bool f.ship, .bool f.d0, .bool f.d1, .bool f.acc] 31))) := ((Below.refl _ _).alloc (Nat.le_refl _) _).alloc (by simp) _
  have HN : Hid (((w.alloc (.cells #[.slice da f.dn.length dc, .slice ua f.un.length uc, .bool f.asked, .bool f.yes, .bool f.turned, .bool f.k0, .bool f.k1, .bool f.ship, .bool f.d0, .bool f.d1, .bool f.acc] 28)).alloc (.cells #[.slice da f.dn.length dc, .slice ua f.un.length uc, .bool f.asked, .bool f.yes, .bool f.turned, .bool f.k0, .bool f.k1, .bool f.ship, .bool f.d0, .bool f.d1, .bool f.acc] 31)).heap[w.heap.size + 1]? = some (.cells #[.slice da f.dn.length dc, .slice ua f.un.length uc, .bool f.asked, .bool f.yes, .bool f.turned, .bool f.k0, .bool f.k1, .bool f.ship, .bool f.d0, .bool f.d1, .bool f.acc] 31 (0, 0))) := by
    have := World.alloc_heap_new (w.alloc (.cells #[.slice da f.dn.length dc, .slice ua f.un.length uc, .bool f.asked, .bool f.yes, .bool f.turned, .bool f.k0, .bool f.k1, .bool f.ship, .bool f.d0, .bool f.d1, .bool f.acc] 28)) (.cells #[.slice da f.dn.length dc, .slice ua f.un.length uc, .bool f.asked, .bool f.yes, .bool f.turned, .bool f.k0, .bool f.k1, .bool f.ship, .bool f.d0, .bool f.d1, .bool f.acc] 31)
    rwa [World.size_alloc] at this
  go_enter Try.func11, Try.ntmps11
  go_wp2
  refine bodyPost_ret (v := .agg #[.slice da f.dn.length dc, .slice ua f.un.length uc, .bool f.asked, .bool f.yes, .bool f.turned, .bool f.k0, .bool f.k1, .bool f.ship, .bool f.d0, .bool f.d1, .bool f.acc]) ?_ rfl ?_
  · exact results_cell_row Try.results11 _ _ (w.heap.size + 1) 31 _ (0, 0) _ rfl HN.out Try.underlying31 rfl (by kernel_rfl)
  exact ⟨rfl, HB.out⟩

def litB (o : Od) (f : Fa) : Bool := decide (o.steps.length ≤ 20 ∧ f.dn.length ≤ 20 ∧ f.un.length ≤ 20)
theorem glight_any (o : Od) (a : Option Addr) (c : Nat) (f : Fa) (da : Option Addr) (dc : Nat) (ua : Option Addr) (uc : Nat) (w : World) :
    Calls Try.prog 9 #[.agg #[.int .i64 o.id, .int .i64 o.item, .int .i64 o.qty, .int .i64 o.client, .int .i64 o.price, .slice a o.steps.length c], .agg #[.slice da f.dn.length dc, .slice ua f.un.length uc, .bool f.asked, .bool f.yes, .bool f.turned, .bool f.k0, .bool f.k1, .bool f.ship, .bool f.d0, .bool f.d1, .bool f.acc]] w fun e w' => e = .returned (.bool (litB o f)) ∧ Below w.heap.size w w' := by
  have HB : Hid (Below w.heap.size w ((w.alloc (.cells #[.int .i64 o.id, .int .i64 o.item, .int .i64 o.qty, .int .i64 o.client, .int .i64 o.price, .slice a o.steps.length c] 24)).alloc (.cells #[.slice da f.dn.length dc, .slice ua f.un.length uc, .bool f.asked, .bool f.yes, .bool f.turned, .bool f.k0, .bool f.k1, .bool f.ship, .bool f.d0, .bool f.d1, .bool f.acc] 28))) := ((Below.refl _ _).alloc (Nat.le_refl _) _).alloc (by simp) _
  by_cases h1 : (o.steps.length : Int) ≤ 20
  · by_cases h2 : (f.dn.length : Int) ≤ 20
    · by_cases h3 : (f.un.length : Int) ≤ 20
      · have HF : Hid (true = litB o f) := by show _ = _; unfold litB; symm; simp; omega
        go_enter Try.func9, Try.ntmps9
        go_wp2
        go_ret
        exact ⟨ret_bool HF.out, HB.out⟩
      · have HF : Hid (false = litB o f) := by show _ = _; unfold litB; symm; simp; omega
        have qd : decide ((f.un.length : Int) ≤ 20) = false := by simp; omega
        go_enter Try.func9, Try.ntmps9
        go_wp2
        go_ret
        exact ⟨ret_bool HF.out, HB.out⟩
    · have HF : Hid (false = litB o f) := by show _ = _; unfold litB; symm; simp; omega
      have qd : decide ((f.dn.length : Int) ≤ 20) = false := by simp; omega
      go_enter Try.func9, Try.ntmps9
      go_wp2
      go_ret
      exact ⟨ret_bool HF.out, HB.out⟩
  · have HF : Hid (false = litB o f) := by show _ = _; unfold litB; symm; simp; omega
    have qd : decide ((o.steps.length : Int) ≤ 20) = false := by simp; omega
    go_enter Try.func9, Try.ntmps9
    go_wp2
    go_ret
    exact ⟨ret_bool HF.out, HB.out⟩
end Go.Proofs.Ytinbmnefdhkdfaa
