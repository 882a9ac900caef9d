/-
  Contracts: the reference's Needs, where it may be.
-/
import Derived.Test.YtinbmnefdhkdfaaSgbT
import Derived.Test.YtinbmnefdhkdfaaSgaZ
import Derived.Test.YtinbmnefdhkdfaaSgcA
import Derived.Test.YtinbmnefdhkdfaaSgbZ
import Derived.Test.YtinbmnefdhkdfaaSgbA
import Derived.Deep.RegionLaw
namespace Go.Proofs.Ytinbmnefdhkdfaa
open Go.ChangeShapes Go.WideShapes Go.ChangeAt Go.RowKit

theorem own_new {w W : World} {g n : Nat} (hb : Below w.heap.size w W) (l : List Mg) (cs : Array Value) (h : cs.toList = mgCells l) (hl : l.length ≤ 1000000) (hg : g = W.heap.size) (hn : n = l.length) : OwnM w l (.returned (.slice (some ⟨g, 0, none⟩) n n)) (W.alloc (.cells cs 43)) := by
  subst hg
  subst hn
  exact ⟨_, _, rfl, Nat.le_refl _, fun h => (by cases h), mrow_new W w.heap.size hb.size l cs h hl, hb.alloc hb.size _⟩
theorem own_end {w W : World} {a : Option Addr} {n c : Nat} {M : List Mg} (ho : W.ownsRow w.heap.size 43 7 (.slice a M.length c) M.length (mgCells M)) (hb : Below w.heap.size w W) (hn : n = M.length) : OwnM w M (.returned (.slice a n c)) W := by
  subst hn
  obtain ⟨a', c', e, hc⟩ := row_slice ho
  cases e
  exact ⟨a, c, rfl, hc, fun h => by subst h; have := row_none ho; exact ⟨List.eq_nil_of_length_eq_zero this.1, this.2⟩, ho, hb⟩
set_option maxRecDepth 100000 in
set_option maxHeartbeats 8000000 in
theorem rneeds_yes (o : Od) (a : Option Addr) (c : Nat) (f : Fa) (da : Option Addr) (dc : Nat) (ua : Option Addr) (uc : Nat) (w : World) (ha : Sts w a o.steps) (hl : o.steps.length ≤ 9223372036854775807) (hi : FaIn w f da dc ua uc) (hcap : o.steps.length ≤ c) (hm : mayR o f = true) (ht : f.turned = false) (hy : f.yes = true) :
    Calls Try.prog 20 #[.agg #[.int .i64 o.id, .int .i64 o.item, .int .i64 o.qty, .int .i64 o.client, .int .i64 o.price, .slice a o.steps.length c], .agg #[.slice da f.dn.length dc, .slice ua f.un.length uc, .bool f.asked, .bool f.yes, .bool f.turned, .bool f.k0, .bool f.k1, .bool f.ship, .bool f.d0, .bool f.d1, .bool f.acc]] w (OwnM w (decL o f 9 ++ shipL o f)) := by
  have HR := Rd.new (c := c) 31 ha hl hi
  have C1 : ∀ u, Rd w w.heap.size (w.heap.size + 1) 31 o a c f da dc ua uc u → Calls Try.prog 13 #[.agg #[.int .i64 o.id, .int .i64 o.item, .int .i64 o.qty, .int .i64 o.client, .int .i64 o.price, .slice a o.steps.length c], .agg #[.slice da f.dn.length dc, .slice ua f.un.length uc, .bool f.asked, .bool f.yes, .bool f.turned, .bool f.k0, .bool f.k1, .bool f.ship, .bool f.d0, .bool f.d1, .bool f.acc]] u fun e w' => e = .returned (.bool (mayR o f)) ∧ Below u.heap.size u w' := fun u h => rmay_any o a c f da dc ua uc u h.st h.hl h.fi hcap
  rw [hm] at C1
  have HA := hide ha
  have HI := hide hi
  have HH0 := hide hl
  have hmn := mayN.1 ((may_ref o f).symm.trans hm)
  have hn3 := mayO_three hmn.1
  have HUN := hide hmn.2.2.1
  have HDN := hide hmn.2.1
  clear ha hl hi hcap hm hmn
  obtain ⟨dn, un, asked, yes, turned, k0, k1, ship, g0, g1, acc⟩ := f
  dsimp only at ht hy HUN HDN; subst ht; subst hy
  have ix0 : ∀ W, (Instr.index 26 (.agg #[.bool k0, .bool k1]) (.int .i64 0)).run Try.prog W = .ok (.bool k0) W := fun W => by kernel_rfl
  have ix1 : ∀ W, (Instr.index 26 (.agg #[.bool k0, .bool k1]) (.int .i64 1)).run Try.prog W = .ok (.bool k1) W := fun W => by kernel_rfl
  dsimp only at C1 ⊢
  have HC := HR.cells; (try dsimp only at HC); obtain ⟨⟨d0, d1, d2, d3, d4, d5⟩, e0, e1, e2, e3, e4, e5, e6, e7, e8, e9, e10⟩ := HC
  go_enter Try.func20, Try.ntmps20
  go_wp2_with (first
    | (go_at_call 13; (with_reducible refine ((C1 _ HR)).mono ?_); rintro e u ⟨rfl, hb⟩; replace HR := HR.on hb; clear hb d0 d1 d2 d3 d4 d5 e0 e1 e2 e3 e4 e5 e6 e7 e8 e9 e10; have HC := HR.cells; (try dsimp only at HC); obtain ⟨⟨d0, d1, d2, d3, d4, d5⟩, e0, e1, e2, e3, e4, e5, e6, e7, e8, e9, e10⟩ := HC))
  go_loopw [5, 26] (fun v i wr => ∃ (j c1 : Nat) (a1 : Option Addr), i = .int .i64 j ∧ j ≤ 2 ∧ v = .slice a1 (decP o (⟨dn, un, asked, true, false, k0, k1, ship, g0, g1, acc⟩ : Fa) 9 j).length c1 ∧ Hid (wr.ownsRow w.heap.size 43 7 (.slice a1 (decP o (⟨dn, un, asked, true, false, k0, k1, ship, g0, g1, acc⟩ : Fa) 9 j).length c1) (decP o (⟨dn, un, asked, true, false, k0, k1, ship, g0, g1, acc⟩ : Fa) 9 j).length (mgCells (decP o (⟨dn, un, asked, true, false, k0, k1, ship, g0, g1, acc⟩ : Fa) 9 j))) ∧ Hid (Rd w w.heap.size (w.heap.size + 1) 31 o a c (⟨dn, un, asked, true, false, k0, k1, ship, g0, g1, acc⟩ : Fa) da dc ua uc wr)) (fun _ i _ => 2 - (intOf i).toNat)
  case atStart => exact ⟨0, 0, none, rfl, Nat.zero_le _, rfl, row_nil _ _ _ _, HR⟩
  case round =>
    clear HR d0 d1 d2 d3 d4 d5 e0 e1 e2 e3 e4 e5 e6 e7 e8 e9 e10
    obtain ⟨j, c1, a1, rfl, hj, rfl, HROW, HRR⟩ := hrel
    have HLE := hide (decP_len o (⟨dn, un, asked, true, false, k0, k1, ship, g0, g1, acc⟩ : Fa) 9 j)
    obtain rfl | rfl | rfl : j = 0 ∨ j = 1 ∨ j = 2 := by omega
    · cases k0
      · skip
        have HNX : Hid (decP o (⟨dn, un, asked, true, false, false, k1, ship, g0, g1, acc⟩ : Fa) 9 0 ++ [msgM o 9 1] = decP o (⟨dn, un, asked, true, false, false, k1, ship, g0, g1, acc⟩ : Fa) 9 1) := by show _ = _; unfold decP; rfl
        obtain ⟨DD, hD⟩ : ∃ D, decP o (⟨dn, un, asked, true, false, false, k1, ship, g0, g1, acc⟩ : Fa) 9 0 = D := ⟨_, rfl⟩
        rw [hD] at HROW HNX HLE ⊢
        clear hD
        have HH := HRR.out.cells
        obtain ⟨⟨d0, d1, d2, d3, d4, d5⟩, e0, e1, e2, e3, e4, e5, e6, e7, e8, e9, e10⟩ := HH
        go_wp2_with (first
          | (at_builtin; refine append_mgs rfl _ _ rfl w.heap.size (.slice a1 DD.length c1) DD rfl (HROW.out.alloc _) (some ⟨wr.heap.size, 0, none⟩) [msgM o 9 1] 1 rfl (fun h => by cases h) (mgs_new wr [msgM o 9 1] #[.int .i64 9, .int .i64 0, .int .i64 1, .int .i64 o.id, .int .i64 0, .int .i64 0, .int .i64 0] rfl) (by have := HLE.out; simp; omega) (by have := HRR.out.bel.size; simp; omega) ?_; intro a2 c2 w2 o2 g2; have HO2 := hide (own_cast HNX.out o2); have HR2 := hide ((HRR.out.on ((Below.refl _ _).alloc (Nat.le_refl _) _)).grown HA.out HI.out (HROW.out.alloc _) (by decide) (by decide) g2); clear o2 g2))
        go_roundw
        case rel => exact ⟨1, c2, a2, by go_num, by omega, by rw [← HNX.out]; simp, HO2, HR2⟩
        case measure => simp [intOf]
      · skip
        have HNX : Hid (decP o (⟨dn, un, asked, true, false, true, k1, ship, g0, g1, acc⟩ : Fa) 9 0 = decP o (⟨dn, un, asked, true, false, true, k1, ship, g0, g1, acc⟩ : Fa) 9 1) := by show _ = _; unfold decP; simp
        rw [HNX.out] at HROW ⊢
        go_wp2
        go_roundw
        case rel => exact ⟨1, c1, a1, by go_num, by omega, rfl, HROW.out, HRR⟩
        case measure => simp [intOf]
    · cases k1
      · skip
        have HNX : Hid (decP o (⟨dn, un, asked, true, false, k0, false, ship, g0, g1, acc⟩ : Fa) 9 1 ++ [msgM o 9 2] = decP o (⟨dn, un, asked, true, false, k0, false, ship, g0, g1, acc⟩ : Fa) 9 2) := by show _ = _; unfold decP decL; rfl
        obtain ⟨DD, hD⟩ : ∃ D, decP o (⟨dn, un, asked, true, false, k0, false, ship, g0, g1, acc⟩ : Fa) 9 1 = D := ⟨_, rfl⟩
        rw [hD] at HROW HNX HLE ⊢
        clear hD
        have HH := HRR.out.cells
        obtain ⟨⟨d0, d1, d2, d3, d4, d5⟩, e0, e1, e2, e3, e4, e5, e6, e7, e8, e9, e10⟩ := HH
        go_wp2_with (first
          | (at_builtin; refine append_mgs rfl _ _ rfl w.heap.size (.slice a1 DD.length c1) DD rfl (HROW.out.alloc _) (some ⟨wr.heap.size, 0, none⟩) [msgM o 9 2] 1 rfl (fun h => by cases h) (mgs_new wr [msgM o 9 2] #[.int .i64 9, .int .i64 0, .int .i64 2, .int .i64 o.id, .int .i64 0, .int .i64 0, .int .i64 0] rfl) (by have := HLE.out; simp; omega) (by have := HRR.out.bel.size; simp; omega) ?_; intro a2 c2 w2 o2 g2; have HO2 := hide (own_cast HNX.out o2); have HR2 := hide ((HRR.out.on ((Below.refl _ _).alloc (Nat.le_refl _) _)).grown HA.out HI.out (HROW.out.alloc _) (by decide) (by decide) g2); clear o2 g2))
        go_roundw
        case rel => exact ⟨2, c2, a2, by go_num, by omega, by rw [← HNX.out]; simp, HO2, HR2⟩
        case measure => simp [intOf]
      · skip
        have HNX : Hid (decP o (⟨dn, un, asked, true, false, k0, true, ship, g0, g1, acc⟩ : Fa) 9 1 = decP o (⟨dn, un, asked, true, false, k0, true, ship, g0, g1, acc⟩ : Fa) 9 2) := by show _ = _; unfold decP decL; simp
        rw [HNX.out] at HROW ⊢
        go_wp2
        go_roundw
        case rel => exact ⟨2, c1, a1, by go_num, by omega, rfl, HROW.out, HRR⟩
        case measure => simp [intOf]
    · have HLC : Hid ((decP o (⟨dn, un, asked, true, false, k0, k1, ship, g0, g1, acc⟩ : Fa) 9 2).length ≤ c1 ∧ (a1 = none → decP o (⟨dn, un, asked, true, false, k0, k1, ship, g0, g1, acc⟩ : Fa) 9 2 = [] ∧ c1 = 0)) := by
        obtain ⟨a', c', e, hc⟩ := row_slice HROW.out
        cases e
        exact ⟨hc, fun h => by subst h; have := row_none HROW.out; exact ⟨List.eq_nil_of_length_eq_zero this.1, this.2⟩⟩
      obtain ⟨DD, hD⟩ : ∃ D, decP o (⟨dn, un, asked, true, false, k0, k1, ship, g0, g1, acc⟩ : Fa) 9 2 = D := ⟨_, rfl⟩
      have HDL : Hid (decL o (⟨dn, un, asked, true, false, k0, k1, ship, g0, g1, acc⟩ : Fa) 9 = DD) := hD
      rw [hD] at HROW HLE HLC ⊢
      clear hD
      have HR := HRR.out
      have HC := HR.cells; (try dsimp only at HC); obtain ⟨⟨d0, d1, d2, d3, d4, d5⟩, e0, e1, e2, e3, e4, e5, e6, e7, e8, e9, e10⟩ := HC
      cases ship
      · skip
        have HNX : Hid (DD ++ [shipM o] = decL o (⟨dn, un, asked, true, false, k0, k1, false, g0, g1, acc⟩ : Fa) 9 ++ shipL o (⟨dn, un, asked, true, false, k0, k1, false, g0, g1, acc⟩ : Fa)) := by show _ = _; rw [← HDL.out]; rfl
        go_wp2_with (first
          | (at_builtin; refine append_mgs rfl _ _ rfl w.heap.size (.slice a1 DD.length c1) DD rfl (HROW.out.alloc _) (some ⟨wr.heap.size, 0, none⟩) [shipM o] 1 rfl (fun h => by cases h) (mgs_new wr [shipM o] #[.int .i64 15, .int .i64 0, .int .i64 3, .int .i64 o.id, .int .i64 0, .int .i64 o.item, .int .i64 o.qty] rfl) (by have := HLE.out; simp; omega) (by have := HRR.out.bel.size; simp; omega) ?_; intro a2 c2 w2 o2 g2; have HO2 := hide (own_cast HNX.out o2); have HR2 := hide ((HRR.out.on ((Below.refl _ _).alloc (Nat.le_refl _) _)).grown HA.out HI.out (HROW.out.alloc _) (by decide) (by decide) g2); clear o2 g2))
        go_ret
        exact own_end HO2.out HR2.out.bel (by rw [← HNX.out]; simp)
      · skip
        have HNX : Hid (DD = decL o (⟨dn, un, asked, true, false, k0, k1, true, g0, g1, acc⟩ : Fa) 9 ++ shipL o (⟨dn, un, asked, true, false, k0, k1, true, g0, g1, acc⟩ : Fa)) := by show _ = _; rw [← HDL.out]; unfold shipL; simp
        go_wp2_with fail
        go_ret
        rw [← HNX.out]
        exact ⟨a1, c1, rfl, HLC.out.1, HLC.out.2, HROW.out, HRR.out.bel⟩
set_option maxRecDepth 100000 in
set_option maxHeartbeats 8000000 in
theorem rneeds_turn (o : Od) (a : Option Addr) (c : Nat) (f : Fa) (da : Option Addr) (dc : Nat) (ua : Option Addr) (uc : Nat) (w : World) (ha : Sts w a o.steps) (hl : o.steps.length ≤ 9223372036854775807) (hi : FaIn w f da dc ua uc) (hcap : o.steps.length ≤ c) (hm : mayR o f = true) (ht : f.turned = true) :
    Calls Try.prog 20 #[.agg #[.int .i64 o.id, .int .i64 o.item, .int .i64 o.qty, .int .i64 o.client, .int .i64 o.price, .slice a o.steps.length c], .agg #[.slice da f.dn.length dc, .slice ua f.un.length uc, .bool f.asked, .bool f.yes, .bool f.turned, .bool f.k0, .bool f.k1, .bool f.ship, .bool f.d0, .bool f.d1, .bool f.acc]] w (OwnM w (decL o f 10 ++ unL o f)) := by
  have HR := Rd.new (c := c) 31 ha hl hi
  have C1 : ∀ u, Rd w w.heap.size (w.heap.size + 1) 31 o a c f da dc ua uc u → Calls Try.prog 13 #[.agg #[.int .i64 o.id, .int .i64 o.item, .int .i64 o.qty, .int .i64 o.client, .int .i64 o.price, .slice a o.steps.length c], .agg #[.slice da f.dn.length dc, .slice ua f.un.length uc, .bool f.asked, .bool f.yes, .bool f.turned, .bool f.k0, .bool f.k1, .bool f.ship, .bool f.d0, .bool f.d1, .bool f.acc]] u fun e w' => e = .returned (.bool (mayR o f)) ∧ Below u.heap.size u w' := fun u h => rmay_any o a c f da dc ua uc u h.st h.hl h.fi hcap
  rw [hm] at C1
  have HA := hide ha
  have HI := hide hi
  have HH0 := hide hl
  have hmn := mayN.1 ((may_ref o f).symm.trans hm)
  have hn3 := mayO_three hmn.1
  have HUN := hide hmn.2.2.1
  have HDN := hide hmn.2.1
  clear ha hl hi hcap hm hmn
  obtain ⟨dn, un, asked, yes, turned, k0, k1, ship, g0, g1, acc⟩ := f
  dsimp only at ht HUN HDN; subst ht
  have ix0 : ∀ W, (Instr.index 26 (.agg #[.bool k0, .bool k1]) (.int .i64 0)).run Try.prog W = .ok (.bool k0) W := fun W => by kernel_rfl
  have ix1 : ∀ W, (Instr.index 26 (.agg #[.bool k0, .bool k1]) (.int .i64 1)).run Try.prog W = .ok (.bool k1) W := fun W => by kernel_rfl
  dsimp only at C1 ⊢
  have HC := HR.cells; (try dsimp only at HC); obtain ⟨⟨d0, d1, d2, d3, d4, d5⟩, e0, e1, e2, e3, e4, e5, e6, e7, e8, e9, e10⟩ := HC
  go_enter Try.func20, Try.ntmps20
  go_wp2_with (first
    | (go_at_call 13; (with_reducible refine ((C1 _ HR)).mono ?_); rintro e u ⟨rfl, hb⟩; replace HR := HR.on hb; clear hb d0 d1 d2 d3 d4 d5 e0 e1 e2 e3 e4 e5 e6 e7 e8 e9 e10; have HC := HR.cells; (try dsimp only at HC); obtain ⟨⟨d0, d1, d2, d3, d4, d5⟩, e0, e1, e2, e3, e4, e5, e6, e7, e8, e9, e10⟩ := HC))
  go_loopw [5, 26] (fun v i wr => ∃ (j c1 : Nat) (a1 : Option Addr), i = .int .i64 j ∧ j ≤ 2 ∧ v = .slice a1 (decP o (⟨dn, un, asked, yes, true, k0, k1, ship, g0, g1, acc⟩ : Fa) 10 j).length c1 ∧ Hid (wr.ownsRow w.heap.size 43 7 (.slice a1 (decP o (⟨dn, un, asked, yes, true, k0, k1, ship, g0, g1, acc⟩ : Fa) 10 j).length c1) (decP o (⟨dn, un, asked, yes, true, k0, k1, ship, g0, g1, acc⟩ : Fa) 10 j).length (mgCells (decP o (⟨dn, un, asked, yes, true, k0, k1, ship, g0, g1, acc⟩ : Fa) 10 j))) ∧ Hid (Rd w w.heap.size (w.heap.size + 1) 31 o a c (⟨dn, un, asked, yes, true, k0, k1, ship, g0, g1, acc⟩ : Fa) da dc ua uc wr)) (fun _ i _ => 2 - (intOf i).toNat)
  case atStart => exact ⟨0, 0, none, rfl, Nat.zero_le _, rfl, row_nil _ _ _ _, HR⟩
  case round =>
    clear HR d0 d1 d2 d3 d4 d5 e0 e1 e2 e3 e4 e5 e6 e7 e8 e9 e10
    obtain ⟨j, c1, a1, rfl, hj, rfl, HROW, HRR⟩ := hrel
    have HLE := hide (decP_len o (⟨dn, un, asked, yes, true, k0, k1, ship, g0, g1, acc⟩ : Fa) 10 j)
    obtain rfl | rfl | rfl : j = 0 ∨ j = 1 ∨ j = 2 := by omega
    · cases k0
      · skip
        have HNX : Hid (decP o (⟨dn, un, asked, yes, true, false, k1, ship, g0, g1, acc⟩ : Fa) 10 0 ++ [msgM o 10 1] = decP o (⟨dn, un, asked, yes, true, false, k1, ship, g0, g1, acc⟩ : Fa) 10 1) := by show _ = _; unfold decP; rfl
        obtain ⟨DD, hD⟩ : ∃ D, decP o (⟨dn, un, asked, yes, true, false, k1, ship, g0, g1, acc⟩ : Fa) 10 0 = D := ⟨_, rfl⟩
        rw [hD] at HROW HNX HLE ⊢
        clear hD
        have HH := HRR.out.cells
        obtain ⟨⟨d0, d1, d2, d3, d4, d5⟩, e0, e1, e2, e3, e4, e5, e6, e7, e8, e9, e10⟩ := HH
        go_wp2_with (first
          | (at_builtin; refine append_mgs rfl _ _ rfl w.heap.size (.slice a1 DD.length c1) DD rfl (HROW.out.alloc _) (some ⟨wr.heap.size, 0, none⟩) [msgM o 10 1] 1 rfl (fun h => by cases h) (mgs_new wr [msgM o 10 1] #[.int .i64 10, .int .i64 0, .int .i64 1, .int .i64 o.id, .int .i64 0, .int .i64 0, .int .i64 0] rfl) (by have := HLE.out; simp; omega) (by have := HRR.out.bel.size; simp; omega) ?_; intro a2 c2 w2 o2 g2; have HO2 := hide (own_cast HNX.out o2); have HR2 := hide ((HRR.out.on ((Below.refl _ _).alloc (Nat.le_refl _) _)).grown HA.out HI.out (HROW.out.alloc _) (by decide) (by decide) g2); clear o2 g2))
        go_roundw
        case rel => exact ⟨1, c2, a2, by go_num, by omega, by rw [← HNX.out]; simp, HO2, HR2⟩
        case measure => simp [intOf]
      · skip
        have HNX : Hid (decP o (⟨dn, un, asked, yes, true, true, k1, ship, g0, g1, acc⟩ : Fa) 10 0 = decP o (⟨dn, un, asked, yes, true, true, k1, ship, g0, g1, acc⟩ : Fa) 10 1) := by show _ = _; unfold decP; simp
        rw [HNX.out] at HROW ⊢
        go_wp2
        go_roundw
        case rel => exact ⟨1, c1, a1, by go_num, by omega, rfl, HROW.out, HRR⟩
        case measure => simp [intOf]
    · cases k1
      · skip
        have HNX : Hid (decP o (⟨dn, un, asked, yes, true, k0, false, ship, g0, g1, acc⟩ : Fa) 10 1 ++ [msgM o 10 2] = decP o (⟨dn, un, asked, yes, true, k0, false, ship, g0, g1, acc⟩ : Fa) 10 2) := by show _ = _; unfold decP decL; rfl
        obtain ⟨DD, hD⟩ : ∃ D, decP o (⟨dn, un, asked, yes, true, k0, false, ship, g0, g1, acc⟩ : Fa) 10 1 = D := ⟨_, rfl⟩
        rw [hD] at HROW HNX HLE ⊢
        clear hD
        have HH := HRR.out.cells
        obtain ⟨⟨d0, d1, d2, d3, d4, d5⟩, e0, e1, e2, e3, e4, e5, e6, e7, e8, e9, e10⟩ := HH
        go_wp2_with (first
          | (at_builtin; refine append_mgs rfl _ _ rfl w.heap.size (.slice a1 DD.length c1) DD rfl (HROW.out.alloc _) (some ⟨wr.heap.size, 0, none⟩) [msgM o 10 2] 1 rfl (fun h => by cases h) (mgs_new wr [msgM o 10 2] #[.int .i64 10, .int .i64 0, .int .i64 2, .int .i64 o.id, .int .i64 0, .int .i64 0, .int .i64 0] rfl) (by have := HLE.out; simp; omega) (by have := HRR.out.bel.size; simp; omega) ?_; intro a2 c2 w2 o2 g2; have HO2 := hide (own_cast HNX.out o2); have HR2 := hide ((HRR.out.on ((Below.refl _ _).alloc (Nat.le_refl _) _)).grown HA.out HI.out (HROW.out.alloc _) (by decide) (by decide) g2); clear o2 g2))
        go_roundw
        case rel => exact ⟨2, c2, a2, by go_num, by omega, by rw [← HNX.out]; simp, HO2, HR2⟩
        case measure => simp [intOf]
      · skip
        have HNX : Hid (decP o (⟨dn, un, asked, yes, true, k0, true, ship, g0, g1, acc⟩ : Fa) 10 1 = decP o (⟨dn, un, asked, yes, true, k0, true, ship, g0, g1, acc⟩ : Fa) 10 2) := by show _ = _; unfold decP decL; simp
        rw [HNX.out] at HROW ⊢
        go_wp2
        go_roundw
        case rel => exact ⟨2, c1, a1, by go_num, by omega, rfl, HROW.out, HRR⟩
        case measure => simp [intOf]
    · have HLC : Hid ((decP o (⟨dn, un, asked, yes, true, k0, k1, ship, g0, g1, acc⟩ : Fa) 10 2).length ≤ c1 ∧ (a1 = none → decP o (⟨dn, un, asked, yes, true, k0, k1, ship, g0, g1, acc⟩ : Fa) 10 2 = [] ∧ c1 = 0)) := by
        obtain ⟨a', c', e, hc⟩ := row_slice HROW.out
        cases e
        exact ⟨hc, fun h => by subst h; have := row_none HROW.out; exact ⟨List.eq_nil_of_length_eq_zero this.1, this.2⟩⟩
      obtain ⟨DD, hD⟩ : ∃ D, decP o (⟨dn, un, asked, yes, true, k0, k1, ship, g0, g1, acc⟩ : Fa) 10 2 = D := ⟨_, rfl⟩
      have HDL : Hid (decL o (⟨dn, un, asked, yes, true, k0, k1, ship, g0, g1, acc⟩ : Fa) 10 = DD) := hD
      rw [hD] at HROW HLE HLC ⊢
      clear hD
      have HR := HRR.out
      have HC := HR.cells; (try dsimp only at HC); obtain ⟨⟨d0, d1, d2, d3, d4, d5⟩, e0, e1, e2, e3, e4, e5, e6, e7, e8, e9, e10⟩ := HC
      have wk : wrap64 ((o.steps.length : Int) - 1) = (o.steps.length : Int) - 1 := by unfold wrap64; omega
      go_wp2_with fail
      obtain ⟨wz, hwz⟩ : ∃ wz, wz = wr := ⟨_, rfl⟩
      rw [← hwz] at HROW HRR HR d0 d1 d2 d3 d4 d5 e0 e1 e2 e3 e4 e5 e6 e7 e8 e9 e10 ⊢
      clear hwz
      go_loopw [9] (fun i wy => ∃ m : Nat, i = .int .i64 ((m : Int) - 1) ∧ m ≤ o.steps.length ∧ Hid (lastF un o.steps.length = lastF un m) ∧ wy = wz) (fun i _ => ((intOf i) + 1).toNat)
      case atStart => exact ⟨o.steps.length, rfl, Nat.le_refl _, rfl, rfl⟩
      case round =>
        obtain ⟨m, rfl, hmn, HLF, rfl⟩ := hrel
        cases m with
        | zero =>
          have HNX : Hid (DD = decL o (⟨dn, un, asked, yes, true, k0, k1, ship, g0, g1, acc⟩ : Fa) 10 ++ unL o (⟨dn, un, asked, yes, true, k0, k1, ship, g0, g1, acc⟩ : Fa)) := by show _ = _; rw [← HDL.out]; unfold unL; dsimp only; rw [HLF.out]; simp [lastF]
          rw [show ((0 : Nat) : Int) - 1 = -1 by rfl]
          go_wp2_with fail
          go_ret
          rw [← HNX.out]
          exact ⟨a1, c1, rfl, HLC.out.1, HLC.out.2, HROW.out, HRR.out.bel⟩
        | succ k =>
          rw [show ((k + 1 : Nat) : Int) - 1 = (k : Int) by omega]
          have hku : k < un.length := by rw [HUN.out]; omega
          obtain ⟨ub, uoff, y, rfl, hy, hc⟩ := HR.fi.un.get hku
          have q1 : (k : Int) < (un.length : Int) := by omega
          have q2 : (k : Int) ≥ 0 := by omega
          cases y
          · have HNX : Hid (DD ++ [undoM o k] = decL o (⟨dn, un, asked, yes, true, k0, k1, ship, g0, g1, acc⟩ : Fa) 10 ++ unL o (⟨dn, un, asked, yes, true, k0, k1, ship, g0, g1, acc⟩ : Fa)) := by
              show _ = _
              rw [← HDL.out]
              unfold unL
              dsimp only
              rw [HLF.out, lastF]
              simp [List.getD, hy]
            obtain ⟨sb, soff, rfl, s0, s1⟩ := HR.st.at (show k < o.steps.length by omega)
            have HMU : Hid (undoM o k = ⟨4, 0, (stAt o.steps k).1, o.id, k, 0, 0⟩) := rfl
            obtain ⟨x, hx⟩ : ∃ x, stAt o.steps k = x := ⟨_, rfl⟩
            rw [hx] at s0 s1 HMU
            have q3 : (k : Int) < (o.steps.length : Int) := by omega
            clear hx hy hku HLF
            go_wp2_with fail
            have HBD : Hid (Below wr.heap.size wr (wr.alloc (.cells #[.int .i64 4, .int .i64 0, .int .i64 x.1, .int .i64 o.id, .int .i64 (k : Int), .int .i64 0, .int .i64 0] 43)).drew) := ((Below.refl _ _).alloc (Nat.le_refl _) _).drew
            have HO3 := hide (own_on HROW.out HBD.out)
            have HM3 : Hid (Mgs (wr.alloc (.cells #[.int .i64 4, .int .i64 0, .int .i64 x.1, .int .i64 o.id, .int .i64 (k : Int), .int .i64 0, .int .i64 0] 43)).drew (some ⟨wr.heap.size, 0, none⟩) [undoM o k]) := by
              show Mgs _ _ _
              rw [HMU.out]
              exact (mgs_new wr [⟨4, 0, x.1, o.id, k, 0, 0⟩] _ rfl).below ((Below.refl _ _).drew)
            go_region_law (refine step_app rfl (.tmp 98) (.tmp 109) rfl w.heap.size (.slice a1 DD.length c1) DD rfl HO3.out (some ⟨wr.heap.size, 0, none⟩) [undoM o k] 1 rfl (fun h => by cases h) HM3.out (by have := HLE.out; simp; omega) (by have := HRR.out.bel.size; simp; omega) ?_; intro a2 c2 w2 o2 g2; have HO2 := hide o2; have HR2 := hide ((HRR.out.on HBD.out).grown HA.out HI.out HO3.out (by decide) (by decide) g2); clear o2 g2)
            all_goals (go_wp2_with fail; go_ret; rw [← HNX.out]; exact own_end HO2.out HR2.out.bel (by simp))
          · have HNX : Hid (lastF un o.steps.length = lastF un k) := by
              show _ = _
              rw [HLF.out, lastF]
              simp [List.getD, hy]
            clear hy hku HLF
            go_wp2_with fail
            go_roundw
            case rel => exact ⟨k, by go_num, by omega, HNX, by trivial⟩
            case measure => simp [intOf]
set_option maxRecDepth 100000 in
set_option maxHeartbeats 8000000 in
theorem rneeds_ask (o : Od) (a : Option Addr) (c : Nat) (f : Fa) (da : Option Addr) (dc : Nat) (ua : Option Addr) (uc : Nat) (w : World) (ha : Sts w a o.steps) (hl : o.steps.length ≤ 9223372036854775807) (hi : FaIn w f da dc ua uc) (hcap : o.steps.length ≤ c) (hm : mayR o f = true) (ht : f.turned = false) (hy : f.yes = false) :
    Calls Try.prog 20 #[.agg #[.int .i64 o.id, .int .i64 o.item, .int .i64 o.qty, .int .i64 o.client, .int .i64 o.price, .slice a o.steps.length c], .agg #[.slice da f.dn.length dc, .slice ua f.un.length uc, .bool f.asked, .bool f.yes, .bool f.turned, .bool f.k0, .bool f.k1, .bool f.ship, .bool f.d0, .bool f.d1, .bool f.acc]] w (OwnM w (askL o f)) := by
  have HR := Rd.new (c := c) 31 ha hl hi
  have C1 : ∀ u, Rd w w.heap.size (w.heap.size + 1) 31 o a c f da dc ua uc u → Calls Try.prog 13 #[.agg #[.int .i64 o.id, .int .i64 o.item, .int .i64 o.qty, .int .i64 o.client, .int .i64 o.price, .slice a o.steps.length c], .agg #[.slice da f.dn.length dc, .slice ua f.un.length uc, .bool f.asked, .bool f.yes, .bool f.turned, .bool f.k0, .bool f.k1, .bool f.ship, .bool f.d0, .bool f.d1, .bool f.acc]] u fun e w' => e = .returned (.bool (mayR o f)) ∧ Below u.heap.size u w' := fun u h => rmay_any o a c f da dc ua uc u h.st h.hl h.fi hcap
  rw [hm] at C1
  have HA := hide ha
  have HI := hide hi
  have HH0 := hide hl
  have hmn := mayN.1 ((may_ref o f).symm.trans hm)
  have hn3 := mayO_three hmn.1
  have HUN := hide hmn.2.2.1
  have HDN := hide hmn.2.1
  clear ha hl hi hcap hm hmn
  obtain ⟨dn, un, asked, yes, turned, k0, k1, ship, g0, g1, acc⟩ := f
  dsimp only at ht hy HUN HDN; subst ht; subst hy
  have ix0 : ∀ W, (Instr.index 26 (.agg #[.bool k0, .bool k1]) (.int .i64 0)).run Try.prog W = .ok (.bool k0) W := fun W => by kernel_rfl
  have ix1 : ∀ W, (Instr.index 26 (.agg #[.bool k0, .bool k1]) (.int .i64 1)).run Try.prog W = .ok (.bool k1) W := fun W => by kernel_rfl
  dsimp only at C1 ⊢
  have HC := HR.cells; (try dsimp only at HC); obtain ⟨⟨d0, d1, d2, d3, d4, d5⟩, e0, e1, e2, e3, e4, e5, e6, e7, e8, e9, e10⟩ := HC
  go_enter Try.func20, Try.ntmps20
  go_wp2_with (first
    | (go_at_call 13; (with_reducible refine ((C1 _ HR)).mono ?_); rintro e u ⟨rfl, hb⟩; replace HR := HR.on hb; clear hb d0 d1 d2 d3 d4 d5 e0 e1 e2 e3 e4 e5 e6 e7 e8 e9 e10; have HC := HR.cells; (try dsimp only at HC); obtain ⟨⟨d0, d1, d2, d3, d4, d5⟩, e0, e1, e2, e3, e4, e5, e6, e7, e8, e9, e10⟩ := HC))
  obtain ⟨wz, hwz⟩ : ∃ wz, wz = u := ⟨_, rfl⟩
  rw [← hwz] at HR d0 d1 d2 d3 d4 d5 e0 e1 e2 e3 e4 e5 e6 e7 e8 e9 e10 ⊢
  clear hwz
  go_loopw [45] (fun i wy => ∃ j : Nat, i = .int .i64 j ∧ j ≤ o.steps.length ∧ Hid (firstF dn 0 o.steps.length = firstF dn j (o.steps.length - j)) ∧ Hid (Rd w w.heap.size (w.heap.size + 1) 31 o a c (⟨dn, un, asked, false, false, k0, k1, ship, g0, g1, acc⟩ : Fa) da dc ua uc wy)) (fun i _ => o.steps.length - (intOf i).toNat)
  case atStart => exact ⟨0, rfl, Nat.zero_le _, by show _ = _; simp, HR⟩
  case round =>
    clear HR d0 d1 d2 d3 d4 d5 e0 e1 e2 e3 e4 e5 e6 e7 e8 e9 e10
    obtain ⟨j, rfl, hj, HFF, HRR⟩ := hrel
    have HR := HRR.out
    have HC := HR.cells; (try dsimp only at HC); obtain ⟨⟨d0, d1, d2, d3, d4, d5⟩, e0, e1, e2, e3, e4, e5, e6, e7, e8, e9, e10⟩ := HC
    by_cases hjl : j < o.steps.length
    · have hjd : j < dn.length := by rw [HDN.out]; omega
      obtain ⟨db, doff, y, rfl, hy, hc⟩ := HR.fi.dn.get hjd
      obtain ⟨sb, soff, rfl, s0, s1⟩ := HR.st.at hjl
      have HMU : Hid (doM o j = ⟨1, 0, (stAt o.steps j).1, o.id, j, (stAt o.steps j).2, 0⟩) := rfl
      obtain ⟨x, hx⟩ : ∃ x, stAt o.steps j = x := ⟨_, rfl⟩
      rw [hx] at s0 s1 HMU
      have q1 : (j : Int) < (dn.length : Int) := by omega
      have q3 : (j : Int) < (o.steps.length : Int) := by omega
      obtain ⟨r, hr⟩ : ∃ r, o.steps.length - j = r + 1 := ⟨o.steps.length - j - 1, by omega⟩
      have HRN : Hid (o.steps.length - (j + 1) = r) := by show _ = _; omega
      rw [hr] at HFF
      have hbx := World.block_lt_of_cell? _ _ s0
      have hby := World.block_lt_of_cell? _ _ hc
      have hb1 := (Array.getElem?_eq_some_iff.1 HR.ob).1
      have hb2 := (Array.getElem?_eq_some_iff.1 HR.fb).1
      have HBD : Hid (Below w.heap.size w wr) := HR.bel
      cases y
      · have HNX : Hid ([doM o j] = askL o (⟨dn, un, asked, false, false, k0, k1, ship, g0, g1, acc⟩ : Fa)) := by
          show _ = _
          unfold askL
          dsimp only
          rw [HFF.out, firstF]
          simp [List.getD, hy]
        clear hx hy hjd HFF hr
        go_wp2_with fail
        go_ret
        rw [← HNX.out, HMU.out]
        exact own_new (W := wr.alloc (.cells #[.int .i64 x.1, .int .i64 x.2] 45)) (HBD.out.alloc HBD.out.size _) [⟨1, 0, x.1, o.id, j, x.2, 0⟩] #[.int .i64 1, .int .i64 0, .int .i64 x.1, .int .i64 o.id, .int .i64 (j : Int), .int .i64 x.2, .int .i64 0] rfl (by simp) (by simp) rfl
      · have HNX : Hid (firstF dn 0 o.steps.length = firstF dn (j + 1) (o.steps.length - (j + 1))) := by
          show _ = _
          rw [HRN.out, HFF.out, firstF]
          simp [List.getD, hy]
        have HR2 : Hid (Rd w w.heap.size (w.heap.size + 1) 31 o (some ⟨sb, soff, none⟩) c (⟨dn, un, asked, false, false, k0, k1, ship, g0, g1, acc⟩ : Fa) (some ⟨db, doff, none⟩) dc ua uc (wr.alloc (.cells #[.int .i64 x.1, .int .i64 x.2] 45))) := HR.on ((Below.refl _ _).alloc (Nat.le_refl _) _)
        clear hx hy hjd HFF hr
        go_wp2_with fail
        go_roundw
        case rel => exact ⟨j + 1, by go_num, by omega, HNX, HR2⟩
        case measure => simp [intOf]; omega
    · have q3 : ¬ (j : Int) < (o.steps.length : Int) := by omega
      have HNX : Hid (prepL o = askL o (⟨dn, un, asked, false, false, k0, k1, ship, g0, g1, acc⟩ : Fa)) := by
        show _ = _
        unfold askL
        dsimp only
        rw [HFF.out, show o.steps.length - j = 0 by omega]
        rfl
      go_wp2_with fail
      go_ret
      rw [← HNX.out]
      exact own_new (W := wr) HR.bel (prepL o) #[.int .i64 6, .int .i64 0, .int .i64 1, .int .i64 o.id, .int .i64 0, .int .i64 o.item, .int .i64 o.qty, .int .i64 6, .int .i64 0, .int .i64 2, .int .i64 o.id, .int .i64 0, .int .i64 o.client, .int .i64 o.price] rfl (by simp [prepL]) rfl rfl
/-- What the reference tells is what the program tells. -/
theorem rneeds_any (o : Od) (a : Option Addr) (c : Nat) (f : Fa) (da : Option Addr) (dc : Nat) (ua : Option Addr) (uc : Nat) (w : World) (ha : Sts w a o.steps) (hl : o.steps.length ≤ 9223372036854775807) (hi : FaIn w f da dc ua uc) (hcap : o.steps.length ≤ c) :
    Calls Try.prog 20 #[.agg #[.int .i64 o.id, .int .i64 o.item, .int .i64 o.qty, .int .i64 o.client, .int .i64 o.price, .slice a o.steps.length c], .agg #[.slice da f.dn.length dc, .slice ua f.un.length uc, .bool f.asked, .bool f.yes, .bool f.turned, .bool f.k0, .bool f.k1, .bool f.ship, .bool f.d0, .bool f.d1, .bool f.acc]] w (OwnM w (nextF o f)) := by
  cases hm : mayR o f
  · rw [next_not ((may_ref o f).symm.trans hm)]
    refine (rneeds_no o a c f da dc ua uc w ha hl hi hcap hm).mono ?_
    rintro e w' ⟨rfl, hb⟩
    exact ⟨none, 0, rfl, Nat.le_refl _, fun _ => ⟨rfl, rfl⟩, row_nil _ _ _ _, hb⟩
  · rw [next_need ((may_ref o f).symm.trans hm)]
    obtain ht | ht := Bool.eq_false_or_eq_true f.turned
    · rw [show needF o f = decL o f 10 ++ unL o f by unfold needF; rw [ht]; rfl]
      exact rneeds_turn o a c f da dc ua uc w ha hl hi hcap hm ht
    · obtain hy | hy := Bool.eq_false_or_eq_true f.yes
      · rw [show needF o f = decL o f 9 ++ shipL o f by unfold needF; rw [ht, hy]; rfl]
        exact rneeds_yes o a c f da dc ua uc w ha hl hi hcap hm ht hy
      · rw [show needF o f = askL o f by unfold needF; rw [ht, hy]; rfl]
        exact rneeds_ask o a c f da dc ua uc w ha hl hi hcap hm ht hy
end Go.Proofs.Ytinbmnefdhkdfaa
