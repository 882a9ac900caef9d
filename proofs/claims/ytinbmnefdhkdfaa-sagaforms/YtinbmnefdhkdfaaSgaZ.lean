/-
  Contracts: package saga's decision.
-/
import Derived.Test.YtinbmnefdhkdfaaSgaX
namespace Go.Proofs.Ytinbmnefdhkdfaa
open Go.ChangeShapes Go.WideShapes Go.ChangeAt Go.RowKit

theorem own_cast {W : World} {B : Nat} {a : Option Addr} {c : Nat} {L m M : List Mg} (h : L ++ m = M) (ho : W.ownsRow B 43 7 (.slice a (L.length + m.length) c) (L ++ m).length (mgCells (L ++ m))) : W.ownsRow B 43 7 (.slice a M.length c) M.length (mgCells M) := by
  subst h
  rw [List.length_append] at ho ⊢
  exact ho
/-- What is told to the first j of both. -/
def decP (o : Od) (f : Fa) (k : Int) : Nat → List Mg
  | 0 => []
  | 1 => if f.k0 then [] else [msgM o k 1]
  | _ => decL o f k
theorem decP_len (o : Od) (f : Fa) (k : Int) (j : Nat) : (decP o f k j).length ≤ 2 := by
  unfold decP decL
  split
  · simp
  · split <;> simp
  · cases f.k0 <;> cases f.k1 <;> simp
theorem own_on {w u : World} {base : Nat} {e : TypeId} {s : Nat} {v : Value} {n : Nat} {xs : List Value} (h : w.ownsRow base e s v n xs) (hb : Below w.heap.size w u) : u.ownsRow base e s v n xs :=
  row_stays h (fun k _ _ hc => hb.block k (Array.getElem?_eq_some_iff.1 hc).1)
theorem grown_off {W w1 : World} {B : Nat} {v : Value} {t t' : TypeId} {s n : Nat} {xs : List Value} (hown : W.ownsRow B t s v n xs) (hg : W.grownBy w1 v.ownBlock) {k : Nat} {cs : Array Value} (hk : W.heap[k]? = some (.cells cs t' (0, 0))) (hne : t' ≠ t) : w1.heap[k]? = some (.cells cs t' (0, 0)) := by
  refine (hg.block k (Array.getElem?_eq_some_iff.1 hk).1 (fun e => ?_)).trans hk
  rcases hown.2 with ⟨rfl, _⟩ | ⟨g, cap, cur, rfl, _, hc, _⟩
  · simp [Value.ownBlock] at e
  · simp [Value.ownBlock] at e
    subst e
    rw [hk] at hc
    cases hc
    exact hne rfl
theorem Rd.grown {w : World} {p q : Nat} {t : TypeId} {o : Od} {a : Option Addr} {c : Nat} {f : Fa} {da : Option Addr} {dc : Nat} {ua : Option Addr} {uc : Nat} {u w1 : World} {v : Value} {n : Nat} {xs : List Value} (h : Rd w p q t o a c f da dc ua uc u) (ha : Sts w a o.steps) (hi : FaIn w f da dc ua uc)
    (hown : u.ownsRow w.heap.size 43 7 v n xs) (h1 : 24 ≠ 43) (h2 : t ≠ 43) (hg : u.grownBy w1 v.ownBlock) : Rd w p q t o a c f da dc ua uc w1 := by
  have hb : Below w.heap.size u w1 := (Below.refl _ _).grown hg h.bel.size (fun k e => (hown.lt k e).1)
  have hB := h.bel.trans hb
  exact ⟨grown_off hown hg h.ob h1, grown_off hown hg h.fb h2, ha.below hB, hi.below hB, hB, h.hl⟩

set_option maxRecDepth 100000 in
set_option maxHeartbeats 4000000 in
theorem deci_any (o : Od) (a : Option Addr) (c : Nat) (f : Fa) (da : Option Addr) (dc : Nat) (ua : Option Addr) (uc : Nat) (k : Int) (w : World) (ha : Sts w a o.steps) (hl : o.steps.length ≤ 9223372036854775807) (hi : FaIn w f da dc ua uc) :
    Calls Try.prog 42 #[.agg #[.int .i64 o.id, .int .i64 o.item, .int .i64 o.qty, .int .i64 o.client, .int .i64 o.price, .slice a o.steps.length c], .agg #[.slice da f.dn.length dc, .slice ua f.un.length uc, .bool f.asked, .bool f.yes, .bool f.turned, .bool f.k0, .bool f.k1, .bool f.ship, .bool f.d0, .bool f.d1, .bool f.acc], .int .i64 k] w (OwnM w (decL o f k)) := by
  have HR := Rd.new (c := c) 28 ha hl hi
  have ix0 : ∀ W, (Instr.index 26 (.agg #[.bool f.k0, .bool f.k1]) (.int .i64 0)).run Try.prog W = .ok (.bool f.k0) W := fun W => by kernel_rfl
  have ix1 : ∀ W, (Instr.index 26 (.agg #[.bool f.k0, .bool f.k1]) (.int .i64 1)).run Try.prog W = .ok (.bool f.k1) W := fun W => by kernel_rfl
  have HA := hide ha
  have HI := hide hi
  clear ha hl hi
  go_enter Try.func42, Try.ntmps42
  go_wp2
  go_loopw [7, 12] (fun v i wr => ∃ (j c1 : Nat) (a1 : Option Addr), i = .int .i64 j ∧ j ≤ 2 ∧ v = .slice a1 (decP o f k j).length c1 ∧ Hid (wr.ownsRow w.heap.size 43 7 (.slice a1 (decP o f k j).length c1) (decP o f k j).length (mgCells (decP o f k j))) ∧ Hid (Rd w w.heap.size (w.heap.size + 1) 28 o a c f da dc ua uc wr)) (fun _ i _ => 2 - (intOf i).toNat)
  case atStart => exact ⟨0, 0, none, rfl, Nat.zero_le _, rfl, row_nil _ _ _ _, HR⟩
  case round =>
    obtain ⟨j, c1, a1, rfl, hj, rfl, HROW, HRR⟩ := hrel
    have HLE := hide (decP_len o f k j)
    obtain rfl | rfl | rfl : j = 0 ∨ j = 1 ∨ j = 2 := by omega
    · cases hk : f.k0
      · rw [hk] at ix0
        have HNX : Hid (decP o f k 0 ++ [msgM o k 1] = decP o f k 1) := by show _ = _; unfold decP; rw [hk]; rfl
        obtain ⟨D, hD⟩ : ∃ D, decP o f k 0 = D := ⟨_, rfl⟩
        rw [hD] at HROW HNX HLE ⊢
        clear hD
        have HH := HRR.out.cells
        obtain ⟨⟨d0, d1, d2, d3, d4, d5⟩, e0, e1, e2, e3, e4, e5, e6, e7, e8, e9, e10⟩ := HH
        clear HR
        go_wp2_with (first
          | (go_at_call 55; with_reducible refine (msg_any o a c k 1 _).mono ?_; rintro e u ⟨rfl, hb⟩; have HRU := hide (HRR.out.on hb); have HRW := hide (own_on HROW.out hb); clear hb d0 d1 d2 d3 d4 d5 e0 e1 e2 e3 e4 e5 e6 e7 e8 e9 e10)
          | (at_builtin; refine append_mgs rfl _ _ rfl w.heap.size _ D rfl (HRW.out.alloc _) (some ⟨u.heap.size, 0, none⟩) [msgM o k 1] 1 rfl (fun h => by cases h) (mgs_new u [msgM o k 1] #[.int .i64 k, .int .i64 0, .int .i64 1, .int .i64 o.id, .int .i64 0, .int .i64 0, .int .i64 0] rfl) (by have := HLE.out; simp; omega) (by have := HRU.out.bel.size; simp; omega) ?_; intro a2 c2 w2 o2 g2; have HO2 := hide (own_cast HNX.out o2); have HR2 := hide ((HRU.out.on ((Below.refl _ _).alloc (Nat.le_refl _) _)).grown HA.out HI.out (HRW.out.alloc _) (by decide) (by decide) g2); clear o2 g2))
        go_roundw
        case rel => exact ⟨1, c2, a2, by go_num, by omega, by rw [← HNX.out]; simp, HO2, HR2⟩
        case measure => simp [intOf]
      · rw [hk] at ix0
        have HNX : Hid (decP o f k 0 = decP o f k 1) := by show _ = _; unfold decP; rw [hk]; simp
        rw [HNX.out] at HROW ⊢
        go_wp2
        go_roundw
        case rel => exact ⟨1, c1, a1, by go_num, by omega, rfl, HROW.out, HRR⟩
        case measure => simp [intOf]
    · cases hk : f.k1
      · rw [hk] at ix1
        have HNX : Hid (decP o f k 1 ++ [msgM o k 2] = decP o f k 2) := by show _ = _; unfold decP decL; rw [hk]; rfl
        obtain ⟨D, hD⟩ : ∃ D, decP o f k 1 = D := ⟨_, rfl⟩
        rw [hD] at HROW HNX HLE ⊢
        clear hD
        have HH := HRR.out.cells
        obtain ⟨⟨d0, d1, d2, d3, d4, d5⟩, e0, e1, e2, e3, e4, e5, e6, e7, e8, e9, e10⟩ := HH
        clear HR
        go_wp2_with (first
          | (go_at_call 55; with_reducible refine (msg_any o a c k 2 _).mono ?_; rintro e u ⟨rfl, hb⟩; have HRU := hide (HRR.out.on hb); have HRW := hide (own_on HROW.out hb); clear hb d0 d1 d2 d3 d4 d5 e0 e1 e2 e3 e4 e5 e6 e7 e8 e9 e10)
          | (at_builtin; refine append_mgs rfl _ _ rfl w.heap.size _ D rfl (HRW.out.alloc _) (some ⟨u.heap.size, 0, none⟩) [msgM o k 2] 1 rfl (fun h => by cases h) (mgs_new u [msgM o k 2] #[.int .i64 k, .int .i64 0, .int .i64 2, .int .i64 o.id, .int .i64 0, .int .i64 0, .int .i64 0] rfl) (by have := HLE.out; simp; omega) (by have := HRU.out.bel.size; simp; omega) ?_; intro a2 c2 w2 o2 g2; have HO2 := hide (own_cast HNX.out o2); have HR2 := hide ((HRU.out.on ((Below.refl _ _).alloc (Nat.le_refl _) _)).grown HA.out HI.out (HRW.out.alloc _) (by decide) (by decide) g2); clear o2 g2))
        go_roundw
        case rel => exact ⟨2, c2, a2, by go_num, by omega, by rw [← HNX.out]; simp, HO2, HR2⟩
        case measure => simp [intOf]
      · rw [hk] at ix1
        have HNX : Hid (decP o f k 1 = decP o f k 2) := by show _ = _; unfold decP decL; rw [hk]; simp
        rw [HNX.out] at HROW ⊢
        go_wp2
        go_roundw
        case rel => exact ⟨2, c1, a1, by go_num, by omega, rfl, HROW.out, HRR⟩
        case measure => simp [intOf]
    · have HLC : Hid ((decP o f k 2).length ≤ c1 ∧ (a1 = none → decP o f k 2 = [] ∧ c1 = 0)) := by
        obtain ⟨a', c', e, hc⟩ := row_slice HROW.out
        cases e
        exact ⟨hc, fun h => by subst h; have := row_none HROW.out; exact ⟨List.eq_nil_of_length_eq_zero this.1, this.2⟩⟩
      go_wp2
      go_ret
      exact ⟨a1, c1, rfl, HLC.out.1, HLC.out.2, HROW.out, HRR.out.bel⟩
end Go.Proofs.Ytinbmnefdhkdfaa
