/-
  Contracts: the reference's MayFacts.
-/
import Derived.Test.YtinbmnefdhkdfaaSgbR
namespace Go.Proofs.Ytinbmnefdhkdfaa
open Go.ChangeShapes Go.WideShapes Go.ChangeAt Go.RowKit

theorem Bls.get2 {w : World} {a : Option Addr} {l : List Bool} (h : Bls w a l) {k : Nat} (hk : k + 1 < l.length) : ∃ b off, a = some ⟨b, off, none⟩ ∧ w.cell? ⟨b, off + k, none⟩ = some (.bool (l.getD k false)) ∧ w.cell? ⟨b, off + (k + 1), none⟩ = some (.bool (l.getD (k + 1) false)) := by
  rcases h with h | ⟨b, off, ha, hc⟩
  · subst h; simp at hk
  · refine ⟨b, off, ha, hc _ _ ?_, hc _ _ ?_⟩
    · rw [List.getD, List.getElem?_eq_getElem (by omega)]; rfl
    · rw [List.getD, List.getElem?_eq_getElem hk]; rfl
set_option maxRecDepth 100000 in
set_option maxHeartbeats 8000000 in
theorem rmay_ff (o : Od) (a : Option Addr) (c : Nat) (f : Fa) (da : Option Addr) (dc : Nat) (ua : Option Addr) (uc : Nat) (w : World) (ha : Sts w a o.steps) (hl : o.steps.length ≤ 9223372036854775807) (hi : FaIn w f da dc ua uc) (hcap : o.steps.length ≤ c) (hmy : mayO o = true) (hln : f.dn.length = o.steps.length) (hun : f.un.length = o.steps.length) (hy : f.yes = false) (ht : f.turned = false) :
    Calls Try.prog 13 #[.agg #[.int .i64 o.id, .int .i64 o.item, .int .i64 o.qty, .int .i64 o.client, .int .i64 o.price, .slice a o.steps.length c], .agg #[.slice da f.dn.length dc, .slice ua f.un.length uc, .bool f.asked, .bool f.yes, .bool f.turned, .bool f.k0, .bool f.k1, .bool f.ship, .bool f.d0, .bool f.d1, .bool f.acc]] w fun e w' => e = .returned (.bool (mayR o f)) ∧ Below w.heap.size w w' := by
  have HR := Rd.new (c := c) 31 ha hl hi
  have C1 : ∀ u, Rd w w.heap.size (w.heap.size + 1) 31 o a c f da dc ua uc u → Calls Try.prog 21 #[.agg #[.int .i64 o.id, .int .i64 o.item, .int .i64 o.qty, .int .i64 o.client, .int .i64 o.price, .slice a o.steps.length c]] u fun e w' => e = .returned (.bool (mayO o)) ∧ Below u.heap.size u w' := fun u h => ref_omay_any o a c u h.st h.hl hcap
  have C2 : ∀ u, Rd w w.heap.size (w.heap.size + 1) 31 o a c f da dc ua uc u → Calls Try.prog 26 #[.slice da f.dn.length dc] u fun e w' => e = .returned (.bool (allB f.dn)) ∧ Below u.heap.size u w' := fun u h => (rall_any f.dn da dc u h.fi.dn (by have := h.fi.dl; have := h.fi.dm; omega)).mono (fun e w' h2 => ⟨h2.1, h2.2 ▸ Below.refl _ _⟩)
  have C3 : ∀ u, Rd w w.heap.size (w.heap.size + 1) 31 o a c f da dc ua uc u → Calls Try.prog 27 #[.slice ua f.un.length uc] u fun e w' => e = .returned (.bool (!hasB f.un true)) ∧ Below u.heap.size u w' := fun u h => (rnone_any f.un ua uc u h.fi.un (by have := h.fi.ul; have := h.fi.um; omega)).mono (fun e w' h2 => ⟨h2.1, h2.2 ▸ Below.refl _ _⟩)
  have C4 : ∀ u, Rd w w.heap.size (w.heap.size + 1) 31 o a c f da dc ua uc u → Calls Try.prog 27 #[.slice (some ⟨w.heap.size + 1, 5, none⟩) 2 2] u fun e w' => e = .returned (.bool (!hasB [f.k0, f.k1] true)) ∧ Below u.heap.size u w' := fun u h => (rnone_any [f.k0, f.k1] _ 2 u (pair_in h.cells.2.2.2.2.2.2.1 h.cells.2.2.2.2.2.2.2.1) (by simp)).mono (fun e w' h2 => ⟨h2.1, h2.2 ▸ Below.refl _ _⟩)
  have C5 : ∀ u, Rd w w.heap.size (w.heap.size + 1) 31 o a c f da dc ua uc u → Calls Try.prog 27 #[.slice (some ⟨w.heap.size + 1, 8, none⟩) 2 2] u fun e w' => e = .returned (.bool (!hasB [f.d0, f.d1] true)) ∧ Below u.heap.size u w' := fun u h => (rnone_any [f.d0, f.d1] _ 2 u (pair_in h.cells.2.2.2.2.2.2.2.2.2.1 h.cells.2.2.2.2.2.2.2.2.2.2.1) (by simp)).mono (fun e w' h2 => ⟨h2.1, h2.2 ▸ Below.refl _ _⟩)
  have HML : Hid (f.dn.length ≤ 9223372036854775807 ∧ f.un.length ≤ 9223372036854775807) := ⟨by have := hi.dl; have := hi.dm; omega, by have := hi.ul; have := hi.um; omega⟩
  obtain ⟨X, hX⟩ : ∃ X, mayR o f = X := ⟨_, rfl⟩
  have HX := hide hX
  rw [hX]
  unfold mayR at HX
  clear ha hl hi hX hcap
  obtain ⟨dn, un, asked, yes, turned, k0, k1, ship, g0, g1, acc⟩ := f
  dsimp only at C1 C2 C3 C4 C5 HX HML
  have HC := HR.cells; dsimp only at HC; obtain ⟨⟨d0, d1, d2, d3, d4, d5⟩, e0, e1, e2, e3, e4, e5, e6, e7, e8, e9, e10⟩ := HC
  subst hy ht
  have p1 := hmy
  have h1 : (dn.length : Int) = (o.steps.length : Int) := by have : dn.length = o.steps.length := hln; omega
  have h2 : (un.length : Int) = (o.steps.length : Int) := by have : un.length = o.steps.length := hun; omega
  clear hmy hln hun
  have HM3 := hide (mayO_three p1)
  rw [p1] at C1 HX
  clear p1
  rw [decide_eq_true (show dn.length = o.steps.length by omega), decide_eq_true (show un.length = o.steps.length by omega)] at HX
  have HG2 := hide (good_chain false dn un dn.length rfl (by omega) (by have := HM3.out; omega))
  rw [← HG2.out] at HX
  obtain ⟨A, hA⟩ : ∃ A, allB dn = A := ⟨_, rfl⟩
  obtain ⟨N, hN⟩ : ∃ N, hasB un true = N := ⟨_, rfl⟩
  rw [hA] at C2 HX
  rw [hN] at C3 HX
  clear hA hN
  focus
    · cases N
      · cases ship
        · obtain ⟨K, hK⟩ : ∃ K, hasB [k0, k1] true = K := ⟨_, rfl⟩
          have HK : Hid ((k0 || k1) = K) := by show _ = _; rw [← hK]; cases k0 <;> cases k1 <;> rfl
          obtain ⟨D, hD⟩ : ∃ D, hasB [g0, g1] true = D := ⟨_, rfl⟩
          have HD : Hid ((g0 || g1) = D) := by show _ = _; rw [← hD]; cases g0 <;> cases g1 <;> rfl
          rw [hK] at C4
          rw [hD] at C5
          rw [HK.out, HD.out] at HX
          clear hK hD
          cases K
          · cases D
            · clear HM3
              go_enter Try.func13, Try.ntmps13
              go_wp2_with (first
                | (go_at_call 21; (with_reducible refine ((C1 _ HR)).mono ?_); rintro e u ⟨rfl, hb⟩; replace HR := HR.on hb; clear hb d0 d1 d2 d3 d4 d5 e0 e1 e2 e3 e4 e5 e6 e7 e8 e9 e10; have HC := HR.cells; dsimp only at HC; obtain ⟨⟨d0, d1, d2, d3, d4, d5⟩, e0, e1, e2, e3, e4, e5, e6, e7, e8, e9, e10⟩ := HC)
                | (go_at_call 26; (with_reducible refine ((C2 _ HR)).mono ?_); rintro e u ⟨rfl, hb⟩; replace HR := HR.on hb; clear hb d0 d1 d2 d3 d4 d5 e0 e1 e2 e3 e4 e5 e6 e7 e8 e9 e10; have HC := HR.cells; dsimp only at HC; obtain ⟨⟨d0, d1, d2, d3, d4, d5⟩, e0, e1, e2, e3, e4, e5, e6, e7, e8, e9, e10⟩ := HC)
                | (go_at_call 27; (with_reducible refine ((C3 _ HR)).mono ?_); rintro e u ⟨rfl, hb⟩; replace HR := HR.on hb; clear hb d0 d1 d2 d3 d4 d5 e0 e1 e2 e3 e4 e5 e6 e7 e8 e9 e10; have HC := HR.cells; dsimp only at HC; obtain ⟨⟨d0, d1, d2, d3, d4, d5⟩, e0, e1, e2, e3, e4, e5, e6, e7, e8, e9, e10⟩ := HC)
                | (go_at_call 27; (with_reducible refine ((C4 _ HR)).mono ?_); rintro e u ⟨rfl, hb⟩; replace HR := HR.on hb; clear hb d0 d1 d2 d3 d4 d5 e0 e1 e2 e3 e4 e5 e6 e7 e8 e9 e10; have HC := HR.cells; dsimp only at HC; obtain ⟨⟨d0, d1, d2, d3, d4, d5⟩, e0, e1, e2, e3, e4, e5, e6, e7, e8, e9, e10⟩ := HC)
                | (go_at_call 27; (with_reducible refine ((C5 _ HR)).mono ?_); rintro e u ⟨rfl, hb⟩; replace HR := HR.on hb; clear hb d0 d1 d2 d3 d4 d5 e0 e1 e2 e3 e4 e5 e6 e7 e8 e9 e10; have HC := HR.cells; dsimp only at HC; obtain ⟨⟨d0, d1, d2, d3, d4, d5⟩, e0, e1, e2, e3, e4, e5, e6, e7, e8, e9, e10⟩ := HC))
              have HRU := hide HR
              have H1 := hide h1
              have H2 := hide h2
              clear d0 d1 d2 d3 d4 d5 h1 h2
              go_loopw [5] (fun i wr => ∃ k : Nat, i = .int .i64 ((k : Int) + 1) ∧ (k = 0 ∨ k + 1 ≤ dn.length) ∧ Hid (goodP false dn un k = true) ∧ wr = u) (fun i _ => dn.length + 1 - (intOf i).toNat)
              case atStart => exact ⟨0, by go_num, .inl rfl, rfl, rfl⟩
              case round =>
                obtain ⟨k, rfl, hk, HG, rfl⟩ := hrel
                by_cases hlt : k + 1 < dn.length
                · obtain ⟨b, off, rfl, xd0, xd1⟩ := HR.fi.dn.get2 hlt
                  obtain ⟨b', off', rfl, xu0, xu1⟩ := HR.fi.un.get2 (l := un) (k := k) (by show k + 1 < un.length; have := H1.out; have := H2.out; omega)
                  have HLT : Hid (k < dn.length - 1) := by show _ < _; omega
                  have hul : un.length = dn.length := by have := H1.out; have := H2.out; omega
                  have q1 : (k : Int) + 1 < (dn.length : Int) := by omega
                  have q2 : (k : Int) < (dn.length : Int) := by omega
                  have q3 : (k : Int) + 1 < (un.length : Int) := by omega
                  have q4 : (k : Int) < (un.length : Int) := by omega
                  have hk63 : k + 2 ≤ 9223372036854775807 := by have := HML.out.1; omega
                  have wk : wrap64 (k : Int) = (k : Int) := by unfold wrap64; omega
                  have wk2 : wrap64 ((k : Int) + 1 + 1) = (k : Int) + 1 + 1 := by unfold wrap64; omega
                  have HUL := hide hul
                  clear hul
                  obtain ⟨x0, hx0⟩ : ∃ x, dn.getD k false = x := ⟨_, rfl⟩
                  obtain ⟨x1, hx1⟩ : ∃ x, dn.getD (k + 1) false = x := ⟨_, rfl⟩
                  obtain ⟨y0, hy0⟩ : ∃ x, un.getD k false = x := ⟨_, rfl⟩
                  obtain ⟨y1, hy1⟩ : ∃ x, un.getD (k + 1) false = x := ⟨_, rfl⟩
                  dsimp only at xd0 xd1 xu0 xu1
                  rw [hx0] at xd0
                  rw [hx1] at xd1
                  rw [hy0] at xu0
                  rw [hy1] at xu1
                  have QD0 := hide hx0
                  have QD1 := hide hx1
                  have QU0 := hide hy0
                  have QU1 := hide hy1
                  clear hx0 hx1 hy0 hy1
                  cases x1
                  · skip
                    cases y0
                    · skip
                      have HG3 : Hid (goodP false dn un (k + 1) = true) := by show _ = _; rw [goodP, HG.out]; unfold badP; rw [QD0.out, QD1.out, QU0.out, QU1.out]; rfl
                      go_wp2
                      go_roundw
                      case rel => exact ⟨k + 1, by go_num, .inr (by omega), HG3, by trivial⟩
                      case measure => simp [intOf]; omega
                    · cases y1
                      · skip
                        have HF : Hid (false = X) := by show _ = _; rw [← HX.out, good_bad (by unfold badP; rw [QD0.out, QD1.out, QU0.out, QU1.out]; rfl) _ HLT.out]; simp
                        go_wp2
                        go_ret
                        exact ⟨ret_bool HF.out, HR.bel⟩
                      · skip
                        have HG3 : Hid (goodP false dn un (k + 1) = true) := by show _ = _; rw [goodP, HG.out]; unfold badP; rw [QD0.out, QD1.out, QU0.out, QU1.out]; rfl
                        go_wp2
                        go_roundw
                        case rel => exact ⟨k + 1, by go_num, .inr (by omega), HG3, by trivial⟩
                        case measure => simp [intOf]; omega
                  · cases x0
                    · skip
                      have HF : Hid (false = X) := by show _ = _; rw [← HX.out, good_bad (by unfold badP; rw [QD0.out, QD1.out, QU0.out, QU1.out]; rfl) _ HLT.out]; simp
                      go_wp2
                      go_ret
                      exact ⟨ret_bool HF.out, HR.bel⟩
                    · skip
                      cases y0
                      · skip
                        have HG3 : Hid (goodP false dn un (k + 1) = true) := by show _ = _; rw [goodP, HG.out]; unfold badP; rw [QD0.out, QD1.out, QU0.out, QU1.out]; rfl
                        go_wp2
                        go_roundw
                        case rel => exact ⟨k + 1, by go_num, .inr (by omega), HG3, by trivial⟩
                        case measure => simp [intOf]; omega
                      · cases y1
                        · skip
                          have HF : Hid (false = X) := by show _ = _; rw [← HX.out, good_bad (by unfold badP; rw [QD0.out, QD1.out, QU0.out, QU1.out]; rfl) _ HLT.out]; simp
                          go_wp2
                          go_ret
                          exact ⟨ret_bool HF.out, HR.bel⟩
                        · skip
                          have HG3 : Hid (goodP false dn un (k + 1) = true) := by show _ = _; rw [goodP, HG.out]; unfold badP; rw [QD0.out, QD1.out, QU0.out, QU1.out]; rfl
                          go_wp2
                          go_roundw
                          case rel => exact ⟨k + 1, by go_num, .inr (by omega), HG3, by trivial⟩
                          case measure => simp [intOf]; omega
                · have HF : Hid (true = X) := by
                    show _ = _
                    have e : dn.length - 1 = k := by omega
                    have := HG.out
                    rw [← HX.out, e, this]
                    rfl
                  have q1 : ¬ (k : Int) + 1 < (dn.length : Int) := by omega
                  go_wp2
                  go_ret
                  exact ⟨ret_bool HF.out, HR.bel⟩
            · skip
              have HF : Hid (false = X) := by show _ = _; rw [← HX.out]; simp
              go_enter Try.func13, Try.ntmps13
              go_wp2_with (first
                | (go_at_call 21; (with_reducible refine ((C1 _ HR)).mono ?_); rintro e u ⟨rfl, hb⟩; replace HR := HR.on hb; clear hb d0 d1 d2 d3 d4 d5 e0 e1 e2 e3 e4 e5 e6 e7 e8 e9 e10; have HC := HR.cells; dsimp only at HC; obtain ⟨⟨d0, d1, d2, d3, d4, d5⟩, e0, e1, e2, e3, e4, e5, e6, e7, e8, e9, e10⟩ := HC)
                | (go_at_call 26; (with_reducible refine ((C2 _ HR)).mono ?_); rintro e u ⟨rfl, hb⟩; replace HR := HR.on hb; clear hb d0 d1 d2 d3 d4 d5 e0 e1 e2 e3 e4 e5 e6 e7 e8 e9 e10; have HC := HR.cells; dsimp only at HC; obtain ⟨⟨d0, d1, d2, d3, d4, d5⟩, e0, e1, e2, e3, e4, e5, e6, e7, e8, e9, e10⟩ := HC)
                | (go_at_call 27; (with_reducible refine ((C3 _ HR)).mono ?_); rintro e u ⟨rfl, hb⟩; replace HR := HR.on hb; clear hb d0 d1 d2 d3 d4 d5 e0 e1 e2 e3 e4 e5 e6 e7 e8 e9 e10; have HC := HR.cells; dsimp only at HC; obtain ⟨⟨d0, d1, d2, d3, d4, d5⟩, e0, e1, e2, e3, e4, e5, e6, e7, e8, e9, e10⟩ := HC)
                | (go_at_call 27; (with_reducible refine ((C4 _ HR)).mono ?_); rintro e u ⟨rfl, hb⟩; replace HR := HR.on hb; clear hb d0 d1 d2 d3 d4 d5 e0 e1 e2 e3 e4 e5 e6 e7 e8 e9 e10; have HC := HR.cells; dsimp only at HC; obtain ⟨⟨d0, d1, d2, d3, d4, d5⟩, e0, e1, e2, e3, e4, e5, e6, e7, e8, e9, e10⟩ := HC)
                | (go_at_call 27; (with_reducible refine ((C5 _ HR)).mono ?_); rintro e u ⟨rfl, hb⟩; replace HR := HR.on hb; clear hb d0 d1 d2 d3 d4 d5 e0 e1 e2 e3 e4 e5 e6 e7 e8 e9 e10; have HC := HR.cells; dsimp only at HC; obtain ⟨⟨d0, d1, d2, d3, d4, d5⟩, e0, e1, e2, e3, e4, e5, e6, e7, e8, e9, e10⟩ := HC))
              go_ret
              exact ⟨ret_bool HF.out, HR.bel⟩
          · skip
            have HF : Hid (false = X) := by show _ = _; rw [← HX.out]; simp
            go_enter Try.func13, Try.ntmps13
            go_wp2_with (first
              | (go_at_call 21; (with_reducible refine ((C1 _ HR)).mono ?_); rintro e u ⟨rfl, hb⟩; replace HR := HR.on hb; clear hb d0 d1 d2 d3 d4 d5 e0 e1 e2 e3 e4 e5 e6 e7 e8 e9 e10; have HC := HR.cells; dsimp only at HC; obtain ⟨⟨d0, d1, d2, d3, d4, d5⟩, e0, e1, e2, e3, e4, e5, e6, e7, e8, e9, e10⟩ := HC)
              | (go_at_call 26; (with_reducible refine ((C2 _ HR)).mono ?_); rintro e u ⟨rfl, hb⟩; replace HR := HR.on hb; clear hb d0 d1 d2 d3 d4 d5 e0 e1 e2 e3 e4 e5 e6 e7 e8 e9 e10; have HC := HR.cells; dsimp only at HC; obtain ⟨⟨d0, d1, d2, d3, d4, d5⟩, e0, e1, e2, e3, e4, e5, e6, e7, e8, e9, e10⟩ := HC)
              | (go_at_call 27; (with_reducible refine ((C3 _ HR)).mono ?_); rintro e u ⟨rfl, hb⟩; replace HR := HR.on hb; clear hb d0 d1 d2 d3 d4 d5 e0 e1 e2 e3 e4 e5 e6 e7 e8 e9 e10; have HC := HR.cells; dsimp only at HC; obtain ⟨⟨d0, d1, d2, d3, d4, d5⟩, e0, e1, e2, e3, e4, e5, e6, e7, e8, e9, e10⟩ := HC)
              | (go_at_call 27; (with_reducible refine ((C4 _ HR)).mono ?_); rintro e u ⟨rfl, hb⟩; replace HR := HR.on hb; clear hb d0 d1 d2 d3 d4 d5 e0 e1 e2 e3 e4 e5 e6 e7 e8 e9 e10; have HC := HR.cells; dsimp only at HC; obtain ⟨⟨d0, d1, d2, d3, d4, d5⟩, e0, e1, e2, e3, e4, e5, e6, e7, e8, e9, e10⟩ := HC)
              | (go_at_call 27; (with_reducible refine ((C5 _ HR)).mono ?_); rintro e u ⟨rfl, hb⟩; replace HR := HR.on hb; clear hb d0 d1 d2 d3 d4 d5 e0 e1 e2 e3 e4 e5 e6 e7 e8 e9 e10; have HC := HR.cells; dsimp only at HC; obtain ⟨⟨d0, d1, d2, d3, d4, d5⟩, e0, e1, e2, e3, e4, e5, e6, e7, e8, e9, e10⟩ := HC))
            go_ret
            exact ⟨ret_bool HF.out, HR.bel⟩
        · skip
          have HF : Hid (false = X) := by show _ = _; rw [← HX.out]; simp
          go_enter Try.func13, Try.ntmps13
          go_wp2_with (first
            | (go_at_call 21; (with_reducible refine ((C1 _ HR)).mono ?_); rintro e u ⟨rfl, hb⟩; replace HR := HR.on hb; clear hb d0 d1 d2 d3 d4 d5 e0 e1 e2 e3 e4 e5 e6 e7 e8 e9 e10; have HC := HR.cells; dsimp only at HC; obtain ⟨⟨d0, d1, d2, d3, d4, d5⟩, e0, e1, e2, e3, e4, e5, e6, e7, e8, e9, e10⟩ := HC)
            | (go_at_call 26; (with_reducible refine ((C2 _ HR)).mono ?_); rintro e u ⟨rfl, hb⟩; replace HR := HR.on hb; clear hb d0 d1 d2 d3 d4 d5 e0 e1 e2 e3 e4 e5 e6 e7 e8 e9 e10; have HC := HR.cells; dsimp only at HC; obtain ⟨⟨d0, d1, d2, d3, d4, d5⟩, e0, e1, e2, e3, e4, e5, e6, e7, e8, e9, e10⟩ := HC)
            | (go_at_call 27; (with_reducible refine ((C3 _ HR)).mono ?_); rintro e u ⟨rfl, hb⟩; replace HR := HR.on hb; clear hb d0 d1 d2 d3 d4 d5 e0 e1 e2 e3 e4 e5 e6 e7 e8 e9 e10; have HC := HR.cells; dsimp only at HC; obtain ⟨⟨d0, d1, d2, d3, d4, d5⟩, e0, e1, e2, e3, e4, e5, e6, e7, e8, e9, e10⟩ := HC)
            | (go_at_call 27; (with_reducible refine ((C4 _ HR)).mono ?_); rintro e u ⟨rfl, hb⟩; replace HR := HR.on hb; clear hb d0 d1 d2 d3 d4 d5 e0 e1 e2 e3 e4 e5 e6 e7 e8 e9 e10; have HC := HR.cells; dsimp only at HC; obtain ⟨⟨d0, d1, d2, d3, d4, d5⟩, e0, e1, e2, e3, e4, e5, e6, e7, e8, e9, e10⟩ := HC)
            | (go_at_call 27; (with_reducible refine ((C5 _ HR)).mono ?_); rintro e u ⟨rfl, hb⟩; replace HR := HR.on hb; clear hb d0 d1 d2 d3 d4 d5 e0 e1 e2 e3 e4 e5 e6 e7 e8 e9 e10; have HC := HR.cells; dsimp only at HC; obtain ⟨⟨d0, d1, d2, d3, d4, d5⟩, e0, e1, e2, e3, e4, e5, e6, e7, e8, e9, e10⟩ := HC))
          go_ret
          exact ⟨ret_bool HF.out, HR.bel⟩
      · skip
        have HF : Hid (false = X) := by show _ = _; rw [← HX.out]; simp
        go_enter Try.func13, Try.ntmps13
        go_wp2_with (first
          | (go_at_call 21; (with_reducible refine ((C1 _ HR)).mono ?_); rintro e u ⟨rfl, hb⟩; replace HR := HR.on hb; clear hb d0 d1 d2 d3 d4 d5 e0 e1 e2 e3 e4 e5 e6 e7 e8 e9 e10; have HC := HR.cells; dsimp only at HC; obtain ⟨⟨d0, d1, d2, d3, d4, d5⟩, e0, e1, e2, e3, e4, e5, e6, e7, e8, e9, e10⟩ := HC)
          | (go_at_call 26; (with_reducible refine ((C2 _ HR)).mono ?_); rintro e u ⟨rfl, hb⟩; replace HR := HR.on hb; clear hb d0 d1 d2 d3 d4 d5 e0 e1 e2 e3 e4 e5 e6 e7 e8 e9 e10; have HC := HR.cells; dsimp only at HC; obtain ⟨⟨d0, d1, d2, d3, d4, d5⟩, e0, e1, e2, e3, e4, e5, e6, e7, e8, e9, e10⟩ := HC)
          | (go_at_call 27; (with_reducible refine ((C3 _ HR)).mono ?_); rintro e u ⟨rfl, hb⟩; replace HR := HR.on hb; clear hb d0 d1 d2 d3 d4 d5 e0 e1 e2 e3 e4 e5 e6 e7 e8 e9 e10; have HC := HR.cells; dsimp only at HC; obtain ⟨⟨d0, d1, d2, d3, d4, d5⟩, e0, e1, e2, e3, e4, e5, e6, e7, e8, e9, e10⟩ := HC)
          | (go_at_call 27; (with_reducible refine ((C4 _ HR)).mono ?_); rintro e u ⟨rfl, hb⟩; replace HR := HR.on hb; clear hb d0 d1 d2 d3 d4 d5 e0 e1 e2 e3 e4 e5 e6 e7 e8 e9 e10; have HC := HR.cells; dsimp only at HC; obtain ⟨⟨d0, d1, d2, d3, d4, d5⟩, e0, e1, e2, e3, e4, e5, e6, e7, e8, e9, e10⟩ := HC)
          | (go_at_call 27; (with_reducible refine ((C5 _ HR)).mono ?_); rintro e u ⟨rfl, hb⟩; replace HR := HR.on hb; clear hb d0 d1 d2 d3 d4 d5 e0 e1 e2 e3 e4 e5 e6 e7 e8 e9 e10; have HC := HR.cells; dsimp only at HC; obtain ⟨⟨d0, d1, d2, d3, d4, d5⟩, e0, e1, e2, e3, e4, e5, e6, e7, e8, e9, e10⟩ := HC))
        go_ret
        exact ⟨ret_bool HF.out, HR.bel⟩

set_option maxRecDepth 100000 in
set_option maxHeartbeats 8000000 in
theorem rmay_ft (o : Od) (a : Option Addr) (c : Nat) (f : Fa) (da : Option Addr) (dc : Nat) (ua : Option Addr) (uc : Nat) (w : World) (ha : Sts w a o.steps) (hl : o.steps.length ≤ 9223372036854775807) (hi : FaIn w f da dc ua uc) (hcap : o.steps.length ≤ c) (hmy : mayO o = true) (hln : f.dn.length = o.steps.length) (hun : f.un.length = o.steps.length) (hy : f.yes = false) (ht : f.turned = true) :
    Calls Try.prog 13 #[.agg #[.int .i64 o.id, .int .i64 o.item, .int .i64 o.qty, .int .i64 o.client, .int .i64 o.price, .slice a o.steps.length c], .agg #[.slice da f.dn.length dc, .slice ua f.un.length uc, .bool f.asked, .bool f.yes, .bool f.turned, .bool f.k0, .bool f.k1, .bool f.ship, .bool f.d0, .bool f.d1, .bool f.acc]] w fun e w' => e = .returned (.bool (mayR o f)) ∧ Below w.heap.size w w' := by
  have HR := Rd.new (c := c) 31 ha hl hi
  have C1 : ∀ u, Rd w w.heap.size (w.heap.size + 1) 31 o a c f da dc ua uc u → Calls Try.prog 21 #[.agg #[.int .i64 o.id, .int .i64 o.item, .int .i64 o.qty, .int .i64 o.client, .int .i64 o.price, .slice a o.steps.length c]] u fun e w' => e = .returned (.bool (mayO o)) ∧ Below u.heap.size u w' := fun u h => ref_omay_any o a c u h.st h.hl hcap
  have C2 : ∀ u, Rd w w.heap.size (w.heap.size + 1) 31 o a c f da dc ua uc u → Calls Try.prog 26 #[.slice da f.dn.length dc] u fun e w' => e = .returned (.bool (allB f.dn)) ∧ Below u.heap.size u w' := fun u h => (rall_any f.dn da dc u h.fi.dn (by have := h.fi.dl; have := h.fi.dm; omega)).mono (fun e w' h2 => ⟨h2.1, h2.2 ▸ Below.refl _ _⟩)
  have C3 : ∀ u, Rd w w.heap.size (w.heap.size + 1) 31 o a c f da dc ua uc u → Calls Try.prog 27 #[.slice ua f.un.length uc] u fun e w' => e = .returned (.bool (!hasB f.un true)) ∧ Below u.heap.size u w' := fun u h => (rnone_any f.un ua uc u h.fi.un (by have := h.fi.ul; have := h.fi.um; omega)).mono (fun e w' h2 => ⟨h2.1, h2.2 ▸ Below.refl _ _⟩)
  have C4 : ∀ u, Rd w w.heap.size (w.heap.size + 1) 31 o a c f da dc ua uc u → Calls Try.prog 27 #[.slice (some ⟨w.heap.size + 1, 5, none⟩) 2 2] u fun e w' => e = .returned (.bool (!hasB [f.k0, f.k1] true)) ∧ Below u.heap.size u w' := fun u h => (rnone_any [f.k0, f.k1] _ 2 u (pair_in h.cells.2.2.2.2.2.2.1 h.cells.2.2.2.2.2.2.2.1) (by simp)).mono (fun e w' h2 => ⟨h2.1, h2.2 ▸ Below.refl _ _⟩)
  have C5 : ∀ u, Rd w w.heap.size (w.heap.size + 1) 31 o a c f da dc ua uc u → Calls Try.prog 27 #[.slice (some ⟨w.heap.size + 1, 8, none⟩) 2 2] u fun e w' => e = .returned (.bool (!hasB [f.d0, f.d1] true)) ∧ Below u.heap.size u w' := fun u h => (rnone_any [f.d0, f.d1] _ 2 u (pair_in h.cells.2.2.2.2.2.2.2.2.2.1 h.cells.2.2.2.2.2.2.2.2.2.2.1) (by simp)).mono (fun e w' h2 => ⟨h2.1, h2.2 ▸ Below.refl _ _⟩)
  have HML : Hid (f.dn.length ≤ 9223372036854775807 ∧ f.un.length ≤ 9223372036854775807) := ⟨by have := hi.dl; have := hi.dm; omega, by have := hi.ul; have := hi.um; omega⟩
  obtain ⟨X, hX⟩ : ∃ X, mayR o f = X := ⟨_, rfl⟩
  have HX := hide hX
  rw [hX]
  unfold mayR at HX
  clear ha hl hi hX hcap
  obtain ⟨dn, un, asked, yes, turned, k0, k1, ship, g0, g1, acc⟩ := f
  dsimp only at C1 C2 C3 C4 C5 HX HML
  have HC := HR.cells; dsimp only at HC; obtain ⟨⟨d0, d1, d2, d3, d4, d5⟩, e0, e1, e2, e3, e4, e5, e6, e7, e8, e9, e10⟩ := HC
  subst hy ht
  have p1 := hmy
  have h1 : (dn.length : Int) = (o.steps.length : Int) := by have : dn.length = o.steps.length := hln; omega
  have h2 : (un.length : Int) = (o.steps.length : Int) := by have : un.length = o.steps.length := hun; omega
  clear hmy hln hun
  have HM3 := hide (mayO_three p1)
  rw [p1] at C1 HX
  clear p1
  rw [decide_eq_true (show dn.length = o.steps.length by omega), decide_eq_true (show un.length = o.steps.length by omega)] at HX
  have HG2 := hide (good_chain true dn un dn.length rfl (by omega) (by have := HM3.out; omega))
  rw [← HG2.out] at HX
  obtain ⟨A, hA⟩ : ∃ A, allB dn = A := ⟨_, rfl⟩
  obtain ⟨N, hN⟩ : ∃ N, hasB un true = N := ⟨_, rfl⟩
  rw [hA] at C2 HX
  rw [hN] at C3 HX
  clear hA hN
  focus
    · cases ship
      · clear HM3
        go_enter Try.func13, Try.ntmps13
        go_wp2_with (first
          | (go_at_call 21; (with_reducible refine ((C1 _ HR)).mono ?_); rintro e u ⟨rfl, hb⟩; replace HR := HR.on hb; clear hb d0 d1 d2 d3 d4 d5 e0 e1 e2 e3 e4 e5 e6 e7 e8 e9 e10; have HC := HR.cells; dsimp only at HC; obtain ⟨⟨d0, d1, d2, d3, d4, d5⟩, e0, e1, e2, e3, e4, e5, e6, e7, e8, e9, e10⟩ := HC)
          | (go_at_call 26; (with_reducible refine ((C2 _ HR)).mono ?_); rintro e u ⟨rfl, hb⟩; replace HR := HR.on hb; clear hb d0 d1 d2 d3 d4 d5 e0 e1 e2 e3 e4 e5 e6 e7 e8 e9 e10; have HC := HR.cells; dsimp only at HC; obtain ⟨⟨d0, d1, d2, d3, d4, d5⟩, e0, e1, e2, e3, e4, e5, e6, e7, e8, e9, e10⟩ := HC)
          | (go_at_call 27; (with_reducible refine ((C3 _ HR)).mono ?_); rintro e u ⟨rfl, hb⟩; replace HR := HR.on hb; clear hb d0 d1 d2 d3 d4 d5 e0 e1 e2 e3 e4 e5 e6 e7 e8 e9 e10; have HC := HR.cells; dsimp only at HC; obtain ⟨⟨d0, d1, d2, d3, d4, d5⟩, e0, e1, e2, e3, e4, e5, e6, e7, e8, e9, e10⟩ := HC)
          | (go_at_call 27; (with_reducible refine ((C4 _ HR)).mono ?_); rintro e u ⟨rfl, hb⟩; replace HR := HR.on hb; clear hb d0 d1 d2 d3 d4 d5 e0 e1 e2 e3 e4 e5 e6 e7 e8 e9 e10; have HC := HR.cells; dsimp only at HC; obtain ⟨⟨d0, d1, d2, d3, d4, d5⟩, e0, e1, e2, e3, e4, e5, e6, e7, e8, e9, e10⟩ := HC)
          | (go_at_call 27; (with_reducible refine ((C5 _ HR)).mono ?_); rintro e u ⟨rfl, hb⟩; replace HR := HR.on hb; clear hb d0 d1 d2 d3 d4 d5 e0 e1 e2 e3 e4 e5 e6 e7 e8 e9 e10; have HC := HR.cells; dsimp only at HC; obtain ⟨⟨d0, d1, d2, d3, d4, d5⟩, e0, e1, e2, e3, e4, e5, e6, e7, e8, e9, e10⟩ := HC))
        have HRU := hide HR
        have H1 := hide h1
        have H2 := hide h2
        clear d0 d1 d2 d3 d4 d5 h1 h2
        go_loopw [5] (fun i wr => ∃ k : Nat, i = .int .i64 ((k : Int) + 1) ∧ (k = 0 ∨ k + 1 ≤ dn.length) ∧ Hid (goodP true dn un k = true) ∧ wr = u) (fun i _ => dn.length + 1 - (intOf i).toNat)
        case atStart => exact ⟨0, by go_num, .inl rfl, rfl, rfl⟩
        case round =>
          obtain ⟨k, rfl, hk, HG, rfl⟩ := hrel
          by_cases hlt : k + 1 < dn.length
          · obtain ⟨b, off, rfl, xd0, xd1⟩ := HR.fi.dn.get2 hlt
            obtain ⟨b', off', rfl, xu0, xu1⟩ := HR.fi.un.get2 (l := un) (k := k) (by show k + 1 < un.length; have := H1.out; have := H2.out; omega)
            have HLT : Hid (k < dn.length - 1) := by show _ < _; omega
            have hul : un.length = dn.length := by have := H1.out; have := H2.out; omega
            have q1 : (k : Int) + 1 < (dn.length : Int) := by omega
            have q2 : (k : Int) < (dn.length : Int) := by omega
            have q3 : (k : Int) + 1 < (un.length : Int) := by omega
            have q4 : (k : Int) < (un.length : Int) := by omega
            have hk63 : k + 2 ≤ 9223372036854775807 := by have := HML.out.1; omega
            have wk : wrap64 (k : Int) = (k : Int) := by unfold wrap64; omega
            have wk2 : wrap64 ((k : Int) + 1 + 1) = (k : Int) + 1 + 1 := by unfold wrap64; omega
            have HUL := hide hul
            clear hul
            obtain ⟨x0, hx0⟩ : ∃ x, dn.getD k false = x := ⟨_, rfl⟩
            obtain ⟨x1, hx1⟩ : ∃ x, dn.getD (k + 1) false = x := ⟨_, rfl⟩
            obtain ⟨y0, hy0⟩ : ∃ x, un.getD k false = x := ⟨_, rfl⟩
            obtain ⟨y1, hy1⟩ : ∃ x, un.getD (k + 1) false = x := ⟨_, rfl⟩
            dsimp only at xd0 xd1 xu0 xu1
            rw [hx0] at xd0
            rw [hx1] at xd1
            rw [hy0] at xu0
            rw [hy1] at xu1
            have QD0 := hide hx0
            have QD1 := hide hx1
            have QU0 := hide hy0
            have QU1 := hide hy1
            clear hx0 hx1 hy0 hy1
            cases y0
            · skip
              have HG3 : Hid (goodP true dn un (k + 1) = true) := by show _ = _; rw [goodP, HG.out]; unfold badP; rw [QD0.out, QD1.out, QU0.out, QU1.out]; rfl
              go_wp2
              go_roundw
              case rel => exact ⟨k + 1, by go_num, .inr (by omega), HG3, by trivial⟩
              case measure => simp [intOf]; omega
            · cases y1
              · skip
                have HF : Hid (false = X) := by show _ = _; rw [← HX.out, good_bad (by unfold badP; rw [QD0.out, QD1.out, QU0.out, QU1.out]; rfl) _ HLT.out]; simp
                go_wp2
                go_ret
                exact ⟨ret_bool HF.out, HR.bel⟩
              · skip
                have HG3 : Hid (goodP true dn un (k + 1) = true) := by show _ = _; rw [goodP, HG.out]; unfold badP; rw [QD0.out, QD1.out, QU0.out, QU1.out]; rfl
                go_wp2
                go_roundw
                case rel => exact ⟨k + 1, by go_num, .inr (by omega), HG3, by trivial⟩
                case measure => simp [intOf]; omega
          · have HF : Hid (true = X) := by
              show _ = _
              have e : dn.length - 1 = k := by omega
              have := HG.out
              rw [← HX.out, e, this]
              rfl
            have q1 : ¬ (k : Int) + 1 < (dn.length : Int) := by omega
            go_wp2
            go_ret
            exact ⟨ret_bool HF.out, HR.bel⟩
      · skip
        have HF : Hid (false = X) := by show _ = _; rw [← HX.out]; simp
        go_enter Try.func13, Try.ntmps13
        go_wp2_with (first
          | (go_at_call 21; (with_reducible refine ((C1 _ HR)).mono ?_); rintro e u ⟨rfl, hb⟩; replace HR := HR.on hb; clear hb d0 d1 d2 d3 d4 d5 e0 e1 e2 e3 e4 e5 e6 e7 e8 e9 e10; have HC := HR.cells; dsimp only at HC; obtain ⟨⟨d0, d1, d2, d3, d4, d5⟩, e0, e1, e2, e3, e4, e5, e6, e7, e8, e9, e10⟩ := HC)
          | (go_at_call 26; (with_reducible refine ((C2 _ HR)).mono ?_); rintro e u ⟨rfl, hb⟩; replace HR := HR.on hb; clear hb d0 d1 d2 d3 d4 d5 e0 e1 e2 e3 e4 e5 e6 e7 e8 e9 e10; have HC := HR.cells; dsimp only at HC; obtain ⟨⟨d0, d1, d2, d3, d4, d5⟩, e0, e1, e2, e3, e4, e5, e6, e7, e8, e9, e10⟩ := HC)
          | (go_at_call 27; (with_reducible refine ((C3 _ HR)).mono ?_); rintro e u ⟨rfl, hb⟩; replace HR := HR.on hb; clear hb d0 d1 d2 d3 d4 d5 e0 e1 e2 e3 e4 e5 e6 e7 e8 e9 e10; have HC := HR.cells; dsimp only at HC; obtain ⟨⟨d0, d1, d2, d3, d4, d5⟩, e0, e1, e2, e3, e4, e5, e6, e7, e8, e9, e10⟩ := HC)
          | (go_at_call 27; (with_reducible refine ((C4 _ HR)).mono ?_); rintro e u ⟨rfl, hb⟩; replace HR := HR.on hb; clear hb d0 d1 d2 d3 d4 d5 e0 e1 e2 e3 e4 e5 e6 e7 e8 e9 e10; have HC := HR.cells; dsimp only at HC; obtain ⟨⟨d0, d1, d2, d3, d4, d5⟩, e0, e1, e2, e3, e4, e5, e6, e7, e8, e9, e10⟩ := HC)
          | (go_at_call 27; (with_reducible refine ((C5 _ HR)).mono ?_); rintro e u ⟨rfl, hb⟩; replace HR := HR.on hb; clear hb d0 d1 d2 d3 d4 d5 e0 e1 e2 e3 e4 e5 e6 e7 e8 e9 e10; have HC := HR.cells; dsimp only at HC; obtain ⟨⟨d0, d1, d2, d3, d4, d5⟩, e0, e1, e2, e3, e4, e5, e6, e7, e8, e9, e10⟩ := HC))
        go_ret
        exact ⟨ret_bool HF.out, HR.bel⟩

set_option maxRecDepth 100000 in
set_option maxHeartbeats 8000000 in
theorem rmay_tf (o : Od) (a : Option Addr) (c : Nat) (f : Fa) (da : Option Addr) (dc : Nat) (ua : Option Addr) (uc : Nat) (w : World) (ha : Sts w a o.steps) (hl : o.steps.length ≤ 9223372036854775807) (hi : FaIn w f da dc ua uc) (hcap : o.steps.length ≤ c) (hmy : mayO o = true) (hln : f.dn.length = o.steps.length) (hun : f.un.length = o.steps.length) (hy : f.yes = true) (ht : f.turned = false) :
    Calls Try.prog 13 #[.agg #[.int .i64 o.id, .int .i64 o.item, .int .i64 o.qty, .int .i64 o.client, .int .i64 o.price, .slice a o.steps.length c], .agg #[.slice da f.dn.length dc, .slice ua f.un.length uc, .bool f.asked, .bool f.yes, .bool f.turned, .bool f.k0, .bool f.k1, .bool f.ship, .bool f.d0, .bool f.d1, .bool f.acc]] w fun e w' => e = .returned (.bool (mayR o f)) ∧ Below w.heap.size w w' := by
  have HR := Rd.new (c := c) 31 ha hl hi
  have C1 : ∀ u, Rd w w.heap.size (w.heap.size + 1) 31 o a c f da dc ua uc u → Calls Try.prog 21 #[.agg #[.int .i64 o.id, .int .i64 o.item, .int .i64 o.qty, .int .i64 o.client, .int .i64 o.price, .slice a o.steps.length c]] u fun e w' => e = .returned (.bool (mayO o)) ∧ Below u.heap.size u w' := fun u h => ref_omay_any o a c u h.st h.hl hcap
  have C2 : ∀ u, Rd w w.heap.size (w.heap.size + 1) 31 o a c f da dc ua uc u → Calls Try.prog 26 #[.slice da f.dn.length dc] u fun e w' => e = .returned (.bool (allB f.dn)) ∧ Below u.heap.size u w' := fun u h => (rall_any f.dn da dc u h.fi.dn (by have := h.fi.dl; have := h.fi.dm; omega)).mono (fun e w' h2 => ⟨h2.1, h2.2 ▸ Below.refl _ _⟩)
  have C3 : ∀ u, Rd w w.heap.size (w.heap.size + 1) 31 o a c f da dc ua uc u → Calls Try.prog 27 #[.slice ua f.un.length uc] u fun e w' => e = .returned (.bool (!hasB f.un true)) ∧ Below u.heap.size u w' := fun u h => (rnone_any f.un ua uc u h.fi.un (by have := h.fi.ul; have := h.fi.um; omega)).mono (fun e w' h2 => ⟨h2.1, h2.2 ▸ Below.refl _ _⟩)
  have C4 : ∀ u, Rd w w.heap.size (w.heap.size + 1) 31 o a c f da dc ua uc u → Calls Try.prog 27 #[.slice (some ⟨w.heap.size + 1, 5, none⟩) 2 2] u fun e w' => e = .returned (.bool (!hasB [f.k0, f.k1] true)) ∧ Below u.heap.size u w' := fun u h => (rnone_any [f.k0, f.k1] _ 2 u (pair_in h.cells.2.2.2.2.2.2.1 h.cells.2.2.2.2.2.2.2.1) (by simp)).mono (fun e w' h2 => ⟨h2.1, h2.2 ▸ Below.refl _ _⟩)
  have C5 : ∀ u, Rd w w.heap.size (w.heap.size + 1) 31 o a c f da dc ua uc u → Calls Try.prog 27 #[.slice (some ⟨w.heap.size + 1, 8, none⟩) 2 2] u fun e w' => e = .returned (.bool (!hasB [f.d0, f.d1] true)) ∧ Below u.heap.size u w' := fun u h => (rnone_any [f.d0, f.d1] _ 2 u (pair_in h.cells.2.2.2.2.2.2.2.2.2.1 h.cells.2.2.2.2.2.2.2.2.2.2.1) (by simp)).mono (fun e w' h2 => ⟨h2.1, h2.2 ▸ Below.refl _ _⟩)
  have HML : Hid (f.dn.length ≤ 9223372036854775807 ∧ f.un.length ≤ 9223372036854775807) := ⟨by have := hi.dl; have := hi.dm; omega, by have := hi.ul; have := hi.um; omega⟩
  obtain ⟨X, hX⟩ : ∃ X, mayR o f = X := ⟨_, rfl⟩
  have HX := hide hX
  rw [hX]
  unfold mayR at HX
  clear ha hl hi hX hcap
  obtain ⟨dn, un, asked, yes, turned, k0, k1, ship, g0, g1, acc⟩ := f
  dsimp only at C1 C2 C3 C4 C5 HX HML
  have HC := HR.cells; dsimp only at HC; obtain ⟨⟨d0, d1, d2, d3, d4, d5⟩, e0, e1, e2, e3, e4, e5, e6, e7, e8, e9, e10⟩ := HC
  subst hy ht
  have p1 := hmy
  have h1 : (dn.length : Int) = (o.steps.length : Int) := by have : dn.length = o.steps.length := hln; omega
  have h2 : (un.length : Int) = (o.steps.length : Int) := by have : un.length = o.steps.length := hun; omega
  clear hmy hln hun
  have HM3 := hide (mayO_three p1)
  rw [p1] at C1 HX
  clear p1
  rw [decide_eq_true (show dn.length = o.steps.length by omega), decide_eq_true (show un.length = o.steps.length by omega)] at HX
  have HG2 := hide (good_chain false dn un dn.length rfl (by omega) (by have := HM3.out; omega))
  rw [← HG2.out] at HX
  obtain ⟨A, hA⟩ : ∃ A, allB dn = A := ⟨_, rfl⟩
  obtain ⟨N, hN⟩ : ∃ N, hasB un true = N := ⟨_, rfl⟩
  rw [hA] at C2 HX
  rw [hN] at C3 HX
  clear hA hN
  focus
    · cases A
      · skip
        have HF : Hid (false = X) := by show _ = _; rw [← HX.out]; simp
        go_enter Try.func13, Try.ntmps13
        go_wp2_with (first
          | (go_at_call 21; (with_reducible refine ((C1 _ HR)).mono ?_); rintro e u ⟨rfl, hb⟩; replace HR := HR.on hb; clear hb d0 d1 d2 d3 d4 d5 e0 e1 e2 e3 e4 e5 e6 e7 e8 e9 e10; have HC := HR.cells; dsimp only at HC; obtain ⟨⟨d0, d1, d2, d3, d4, d5⟩, e0, e1, e2, e3, e4, e5, e6, e7, e8, e9, e10⟩ := HC)
          | (go_at_call 26; (with_reducible refine ((C2 _ HR)).mono ?_); rintro e u ⟨rfl, hb⟩; replace HR := HR.on hb; clear hb d0 d1 d2 d3 d4 d5 e0 e1 e2 e3 e4 e5 e6 e7 e8 e9 e10; have HC := HR.cells; dsimp only at HC; obtain ⟨⟨d0, d1, d2, d3, d4, d5⟩, e0, e1, e2, e3, e4, e5, e6, e7, e8, e9, e10⟩ := HC)
          | (go_at_call 27; (with_reducible refine ((C3 _ HR)).mono ?_); rintro e u ⟨rfl, hb⟩; replace HR := HR.on hb; clear hb d0 d1 d2 d3 d4 d5 e0 e1 e2 e3 e4 e5 e6 e7 e8 e9 e10; have HC := HR.cells; dsimp only at HC; obtain ⟨⟨d0, d1, d2, d3, d4, d5⟩, e0, e1, e2, e3, e4, e5, e6, e7, e8, e9, e10⟩ := HC)
          | (go_at_call 27; (with_reducible refine ((C4 _ HR)).mono ?_); rintro e u ⟨rfl, hb⟩; replace HR := HR.on hb; clear hb d0 d1 d2 d3 d4 d5 e0 e1 e2 e3 e4 e5 e6 e7 e8 e9 e10; have HC := HR.cells; dsimp only at HC; obtain ⟨⟨d0, d1, d2, d3, d4, d5⟩, e0, e1, e2, e3, e4, e5, e6, e7, e8, e9, e10⟩ := HC)
          | (go_at_call 27; (with_reducible refine ((C5 _ HR)).mono ?_); rintro e u ⟨rfl, hb⟩; replace HR := HR.on hb; clear hb d0 d1 d2 d3 d4 d5 e0 e1 e2 e3 e4 e5 e6 e7 e8 e9 e10; have HC := HR.cells; dsimp only at HC; obtain ⟨⟨d0, d1, d2, d3, d4, d5⟩, e0, e1, e2, e3, e4, e5, e6, e7, e8, e9, e10⟩ := HC))
        go_ret
        exact ⟨ret_bool HF.out, HR.bel⟩
      · cases N
        · cases asked
          · skip
            have HF : Hid (false = X) := by show _ = _; rw [← HX.out]; simp
            go_enter Try.func13, Try.ntmps13
            go_wp2_with (first
              | (go_at_call 21; (with_reducible refine ((C1 _ HR)).mono ?_); rintro e u ⟨rfl, hb⟩; replace HR := HR.on hb; clear hb d0 d1 d2 d3 d4 d5 e0 e1 e2 e3 e4 e5 e6 e7 e8 e9 e10; have HC := HR.cells; dsimp only at HC; obtain ⟨⟨d0, d1, d2, d3, d4, d5⟩, e0, e1, e2, e3, e4, e5, e6, e7, e8, e9, e10⟩ := HC)
              | (go_at_call 26; (with_reducible refine ((C2 _ HR)).mono ?_); rintro e u ⟨rfl, hb⟩; replace HR := HR.on hb; clear hb d0 d1 d2 d3 d4 d5 e0 e1 e2 e3 e4 e5 e6 e7 e8 e9 e10; have HC := HR.cells; dsimp only at HC; obtain ⟨⟨d0, d1, d2, d3, d4, d5⟩, e0, e1, e2, e3, e4, e5, e6, e7, e8, e9, e10⟩ := HC)
              | (go_at_call 27; (with_reducible refine ((C3 _ HR)).mono ?_); rintro e u ⟨rfl, hb⟩; replace HR := HR.on hb; clear hb d0 d1 d2 d3 d4 d5 e0 e1 e2 e3 e4 e5 e6 e7 e8 e9 e10; have HC := HR.cells; dsimp only at HC; obtain ⟨⟨d0, d1, d2, d3, d4, d5⟩, e0, e1, e2, e3, e4, e5, e6, e7, e8, e9, e10⟩ := HC)
              | (go_at_call 27; (with_reducible refine ((C4 _ HR)).mono ?_); rintro e u ⟨rfl, hb⟩; replace HR := HR.on hb; clear hb d0 d1 d2 d3 d4 d5 e0 e1 e2 e3 e4 e5 e6 e7 e8 e9 e10; have HC := HR.cells; dsimp only at HC; obtain ⟨⟨d0, d1, d2, d3, d4, d5⟩, e0, e1, e2, e3, e4, e5, e6, e7, e8, e9, e10⟩ := HC)
              | (go_at_call 27; (with_reducible refine ((C5 _ HR)).mono ?_); rintro e u ⟨rfl, hb⟩; replace HR := HR.on hb; clear hb d0 d1 d2 d3 d4 d5 e0 e1 e2 e3 e4 e5 e6 e7 e8 e9 e10; have HC := HR.cells; dsimp only at HC; obtain ⟨⟨d0, d1, d2, d3, d4, d5⟩, e0, e1, e2, e3, e4, e5, e6, e7, e8, e9, e10⟩ := HC))
            go_ret
            exact ⟨ret_bool HF.out, HR.bel⟩
          · clear HM3
            cases ship
            · skip
              go_enter Try.func13, Try.ntmps13
              go_wp2_with (first
                | (go_at_call 21; (with_reducible refine ((C1 _ HR)).mono ?_); rintro e u ⟨rfl, hb⟩; replace HR := HR.on hb; clear hb d0 d1 d2 d3 d4 d5 e0 e1 e2 e3 e4 e5 e6 e7 e8 e9 e10; have HC := HR.cells; dsimp only at HC; obtain ⟨⟨d0, d1, d2, d3, d4, d5⟩, e0, e1, e2, e3, e4, e5, e6, e7, e8, e9, e10⟩ := HC)
                | (go_at_call 26; (with_reducible refine ((C2 _ HR)).mono ?_); rintro e u ⟨rfl, hb⟩; replace HR := HR.on hb; clear hb d0 d1 d2 d3 d4 d5 e0 e1 e2 e3 e4 e5 e6 e7 e8 e9 e10; have HC := HR.cells; dsimp only at HC; obtain ⟨⟨d0, d1, d2, d3, d4, d5⟩, e0, e1, e2, e3, e4, e5, e6, e7, e8, e9, e10⟩ := HC)
                | (go_at_call 27; (with_reducible refine ((C3 _ HR)).mono ?_); rintro e u ⟨rfl, hb⟩; replace HR := HR.on hb; clear hb d0 d1 d2 d3 d4 d5 e0 e1 e2 e3 e4 e5 e6 e7 e8 e9 e10; have HC := HR.cells; dsimp only at HC; obtain ⟨⟨d0, d1, d2, d3, d4, d5⟩, e0, e1, e2, e3, e4, e5, e6, e7, e8, e9, e10⟩ := HC)
                | (go_at_call 27; (with_reducible refine ((C4 _ HR)).mono ?_); rintro e u ⟨rfl, hb⟩; replace HR := HR.on hb; clear hb d0 d1 d2 d3 d4 d5 e0 e1 e2 e3 e4 e5 e6 e7 e8 e9 e10; have HC := HR.cells; dsimp only at HC; obtain ⟨⟨d0, d1, d2, d3, d4, d5⟩, e0, e1, e2, e3, e4, e5, e6, e7, e8, e9, e10⟩ := HC)
                | (go_at_call 27; (with_reducible refine ((C5 _ HR)).mono ?_); rintro e u ⟨rfl, hb⟩; replace HR := HR.on hb; clear hb d0 d1 d2 d3 d4 d5 e0 e1 e2 e3 e4 e5 e6 e7 e8 e9 e10; have HC := HR.cells; dsimp only at HC; obtain ⟨⟨d0, d1, d2, d3, d4, d5⟩, e0, e1, e2, e3, e4, e5, e6, e7, e8, e9, e10⟩ := HC))
              have HRU := hide HR
              have H1 := hide h1
              have H2 := hide h2
              clear d0 d1 d2 d3 d4 d5 h1 h2
              go_loopw [5] (fun i wr => ∃ k : Nat, i = .int .i64 ((k : Int) + 1) ∧ (k = 0 ∨ k + 1 ≤ dn.length) ∧ Hid (goodP false dn un k = true) ∧ wr = u) (fun i _ => dn.length + 1 - (intOf i).toNat)
              case atStart => exact ⟨0, by go_num, .inl rfl, rfl, rfl⟩
              case round =>
                obtain ⟨k, rfl, hk, HG, rfl⟩ := hrel
                by_cases hlt : k + 1 < dn.length
                · obtain ⟨b, off, rfl, xd0, xd1⟩ := HR.fi.dn.get2 hlt
                  obtain ⟨b', off', rfl, xu0, xu1⟩ := HR.fi.un.get2 (l := un) (k := k) (by show k + 1 < un.length; have := H1.out; have := H2.out; omega)
                  have HLT : Hid (k < dn.length - 1) := by show _ < _; omega
                  have hul : un.length = dn.length := by have := H1.out; have := H2.out; omega
                  have q1 : (k : Int) + 1 < (dn.length : Int) := by omega
                  have q2 : (k : Int) < (dn.length : Int) := by omega
                  have q3 : (k : Int) + 1 < (un.length : Int) := by omega
                  have q4 : (k : Int) < (un.length : Int) := by omega
                  have hk63 : k + 2 ≤ 9223372036854775807 := by have := HML.out.1; omega
                  have wk : wrap64 (k : Int) = (k : Int) := by unfold wrap64; omega
                  have wk2 : wrap64 ((k : Int) + 1 + 1) = (k : Int) + 1 + 1 := by unfold wrap64; omega
                  have HUL := hide hul
                  clear hul
                  obtain ⟨x0, hx0⟩ : ∃ x, dn.getD k false = x := ⟨_, rfl⟩
                  obtain ⟨x1, hx1⟩ : ∃ x, dn.getD (k + 1) false = x := ⟨_, rfl⟩
                  obtain ⟨y0, hy0⟩ : ∃ x, un.getD k false = x := ⟨_, rfl⟩
                  obtain ⟨y1, hy1⟩ : ∃ x, un.getD (k + 1) false = x := ⟨_, rfl⟩
                  dsimp only at xd0 xd1 xu0 xu1
                  rw [hx0] at xd0
                  rw [hx1] at xd1
                  rw [hy0] at xu0
                  rw [hy1] at xu1
                  have QD0 := hide hx0
                  have QD1 := hide hx1
                  have QU0 := hide hy0
                  have QU1 := hide hy1
                  clear hx0 hx1 hy0 hy1
                  cases x1
                  · skip
                    cases y0
                    · skip
                      have HG3 : Hid (goodP false dn un (k + 1) = true) := by show _ = _; rw [goodP, HG.out]; unfold badP; rw [QD0.out, QD1.out, QU0.out, QU1.out]; rfl
                      go_wp2
                      go_roundw
                      case rel => exact ⟨k + 1, by go_num, .inr (by omega), HG3, by trivial⟩
                      case measure => simp [intOf]; omega
                    · cases y1
                      · skip
                        have HF : Hid (false = X) := by show _ = _; rw [← HX.out, good_bad (by unfold badP; rw [QD0.out, QD1.out, QU0.out, QU1.out]; rfl) _ HLT.out]; simp
                        go_wp2
                        go_ret
                        exact ⟨ret_bool HF.out, HR.bel⟩
                      · skip
                        have HG3 : Hid (goodP false dn un (k + 1) = true) := by show _ = _; rw [goodP, HG.out]; unfold badP; rw [QD0.out, QD1.out, QU0.out, QU1.out]; rfl
                        go_wp2
                        go_roundw
                        case rel => exact ⟨k + 1, by go_num, .inr (by omega), HG3, by trivial⟩
                        case measure => simp [intOf]; omega
                  · cases x0
                    · skip
                      have HF : Hid (false = X) := by show _ = _; rw [← HX.out, good_bad (by unfold badP; rw [QD0.out, QD1.out, QU0.out, QU1.out]; rfl) _ HLT.out]; simp
                      go_wp2
                      go_ret
                      exact ⟨ret_bool HF.out, HR.bel⟩
                    · skip
                      cases y0
                      · skip
                        have HG3 : Hid (goodP false dn un (k + 1) = true) := by show _ = _; rw [goodP, HG.out]; unfold badP; rw [QD0.out, QD1.out, QU0.out, QU1.out]; rfl
                        go_wp2
                        go_roundw
                        case rel => exact ⟨k + 1, by go_num, .inr (by omega), HG3, by trivial⟩
                        case measure => simp [intOf]; omega
                      · cases y1
                        · skip
                          have HF : Hid (false = X) := by show _ = _; rw [← HX.out, good_bad (by unfold badP; rw [QD0.out, QD1.out, QU0.out, QU1.out]; rfl) _ HLT.out]; simp
                          go_wp2
                          go_ret
                          exact ⟨ret_bool HF.out, HR.bel⟩
                        · skip
                          have HG3 : Hid (goodP false dn un (k + 1) = true) := by show _ = _; rw [goodP, HG.out]; unfold badP; rw [QD0.out, QD1.out, QU0.out, QU1.out]; rfl
                          go_wp2
                          go_roundw
                          case rel => exact ⟨k + 1, by go_num, .inr (by omega), HG3, by trivial⟩
                          case measure => simp [intOf]; omega
                · have HF : Hid (true = X) := by
                    show _ = _
                    have e : dn.length - 1 = k := by omega
                    have := HG.out
                    rw [← HX.out, e, this]
                    rfl
                  have q1 : ¬ (k : Int) + 1 < (dn.length : Int) := by omega
                  go_wp2
                  go_ret
                  exact ⟨ret_bool HF.out, HR.bel⟩
            · skip
              go_enter Try.func13, Try.ntmps13
              go_wp2_with (first
                | (go_at_call 21; (with_reducible refine ((C1 _ HR)).mono ?_); rintro e u ⟨rfl, hb⟩; replace HR := HR.on hb; clear hb d0 d1 d2 d3 d4 d5 e0 e1 e2 e3 e4 e5 e6 e7 e8 e9 e10; have HC := HR.cells; dsimp only at HC; obtain ⟨⟨d0, d1, d2, d3, d4, d5⟩, e0, e1, e2, e3, e4, e5, e6, e7, e8, e9, e10⟩ := HC)
                | (go_at_call 26; (with_reducible refine ((C2 _ HR)).mono ?_); rintro e u ⟨rfl, hb⟩; replace HR := HR.on hb; clear hb d0 d1 d2 d3 d4 d5 e0 e1 e2 e3 e4 e5 e6 e7 e8 e9 e10; have HC := HR.cells; dsimp only at HC; obtain ⟨⟨d0, d1, d2, d3, d4, d5⟩, e0, e1, e2, e3, e4, e5, e6, e7, e8, e9, e10⟩ := HC)
                | (go_at_call 27; (with_reducible refine ((C3 _ HR)).mono ?_); rintro e u ⟨rfl, hb⟩; replace HR := HR.on hb; clear hb d0 d1 d2 d3 d4 d5 e0 e1 e2 e3 e4 e5 e6 e7 e8 e9 e10; have HC := HR.cells; dsimp only at HC; obtain ⟨⟨d0, d1, d2, d3, d4, d5⟩, e0, e1, e2, e3, e4, e5, e6, e7, e8, e9, e10⟩ := HC)
                | (go_at_call 27; (with_reducible refine ((C4 _ HR)).mono ?_); rintro e u ⟨rfl, hb⟩; replace HR := HR.on hb; clear hb d0 d1 d2 d3 d4 d5 e0 e1 e2 e3 e4 e5 e6 e7 e8 e9 e10; have HC := HR.cells; dsimp only at HC; obtain ⟨⟨d0, d1, d2, d3, d4, d5⟩, e0, e1, e2, e3, e4, e5, e6, e7, e8, e9, e10⟩ := HC)
                | (go_at_call 27; (with_reducible refine ((C5 _ HR)).mono ?_); rintro e u ⟨rfl, hb⟩; replace HR := HR.on hb; clear hb d0 d1 d2 d3 d4 d5 e0 e1 e2 e3 e4 e5 e6 e7 e8 e9 e10; have HC := HR.cells; dsimp only at HC; obtain ⟨⟨d0, d1, d2, d3, d4, d5⟩, e0, e1, e2, e3, e4, e5, e6, e7, e8, e9, e10⟩ := HC))
              have HRU := hide HR
              have H1 := hide h1
              have H2 := hide h2
              clear d0 d1 d2 d3 d4 d5 h1 h2
              go_loopw [5] (fun i wr => ∃ k : Nat, i = .int .i64 ((k : Int) + 1) ∧ (k = 0 ∨ k + 1 ≤ dn.length) ∧ Hid (goodP false dn un k = true) ∧ wr = u) (fun i _ => dn.length + 1 - (intOf i).toNat)
              case atStart => exact ⟨0, by go_num, .inl rfl, rfl, rfl⟩
              case round =>
                obtain ⟨k, rfl, hk, HG, rfl⟩ := hrel
                by_cases hlt : k + 1 < dn.length
                · obtain ⟨b, off, rfl, xd0, xd1⟩ := HR.fi.dn.get2 hlt
                  obtain ⟨b', off', rfl, xu0, xu1⟩ := HR.fi.un.get2 (l := un) (k := k) (by show k + 1 < un.length; have := H1.out; have := H2.out; omega)
                  have HLT : Hid (k < dn.length - 1) := by show _ < _; omega
                  have hul : un.length = dn.length := by have := H1.out; have := H2.out; omega
                  have q1 : (k : Int) + 1 < (dn.length : Int) := by omega
                  have q2 : (k : Int) < (dn.length : Int) := by omega
                  have q3 : (k : Int) + 1 < (un.length : Int) := by omega
                  have q4 : (k : Int) < (un.length : Int) := by omega
                  have hk63 : k + 2 ≤ 9223372036854775807 := by have := HML.out.1; omega
                  have wk : wrap64 (k : Int) = (k : Int) := by unfold wrap64; omega
                  have wk2 : wrap64 ((k : Int) + 1 + 1) = (k : Int) + 1 + 1 := by unfold wrap64; omega
                  have HUL := hide hul
                  clear hul
                  obtain ⟨x0, hx0⟩ : ∃ x, dn.getD k false = x := ⟨_, rfl⟩
                  obtain ⟨x1, hx1⟩ : ∃ x, dn.getD (k + 1) false = x := ⟨_, rfl⟩
                  obtain ⟨y0, hy0⟩ : ∃ x, un.getD k false = x := ⟨_, rfl⟩
                  obtain ⟨y1, hy1⟩ : ∃ x, un.getD (k + 1) false = x := ⟨_, rfl⟩
                  dsimp only at xd0 xd1 xu0 xu1
                  rw [hx0] at xd0
                  rw [hx1] at xd1
                  rw [hy0] at xu0
                  rw [hy1] at xu1
                  have QD0 := hide hx0
                  have QD1 := hide hx1
                  have QU0 := hide hy0
                  have QU1 := hide hy1
                  clear hx0 hx1 hy0 hy1
                  cases x1
                  · skip
                    cases y0
                    · skip
                      have HG3 : Hid (goodP false dn un (k + 1) = true) := by show _ = _; rw [goodP, HG.out]; unfold badP; rw [QD0.out, QD1.out, QU0.out, QU1.out]; rfl
                      go_wp2
                      go_roundw
                      case rel => exact ⟨k + 1, by go_num, .inr (by omega), HG3, by trivial⟩
                      case measure => simp [intOf]; omega
                    · cases y1
                      · skip
                        have HF : Hid (false = X) := by show _ = _; rw [← HX.out, good_bad (by unfold badP; rw [QD0.out, QD1.out, QU0.out, QU1.out]; rfl) _ HLT.out]; simp
                        go_wp2
                        go_ret
                        exact ⟨ret_bool HF.out, HR.bel⟩
                      · skip
                        have HG3 : Hid (goodP false dn un (k + 1) = true) := by show _ = _; rw [goodP, HG.out]; unfold badP; rw [QD0.out, QD1.out, QU0.out, QU1.out]; rfl
                        go_wp2
                        go_roundw
                        case rel => exact ⟨k + 1, by go_num, .inr (by omega), HG3, by trivial⟩
                        case measure => simp [intOf]; omega
                  · cases x0
                    · skip
                      have HF : Hid (false = X) := by show _ = _; rw [← HX.out, good_bad (by unfold badP; rw [QD0.out, QD1.out, QU0.out, QU1.out]; rfl) _ HLT.out]; simp
                      go_wp2
                      go_ret
                      exact ⟨ret_bool HF.out, HR.bel⟩
                    · skip
                      cases y0
                      · skip
                        have HG3 : Hid (goodP false dn un (k + 1) = true) := by show _ = _; rw [goodP, HG.out]; unfold badP; rw [QD0.out, QD1.out, QU0.out, QU1.out]; rfl
                        go_wp2
                        go_roundw
                        case rel => exact ⟨k + 1, by go_num, .inr (by omega), HG3, by trivial⟩
                        case measure => simp [intOf]; omega
                      · cases y1
                        · skip
                          have HF : Hid (false = X) := by show _ = _; rw [← HX.out, good_bad (by unfold badP; rw [QD0.out, QD1.out, QU0.out, QU1.out]; rfl) _ HLT.out]; simp
                          go_wp2
                          go_ret
                          exact ⟨ret_bool HF.out, HR.bel⟩
                        · skip
                          have HG3 : Hid (goodP false dn un (k + 1) = true) := by show _ = _; rw [goodP, HG.out]; unfold badP; rw [QD0.out, QD1.out, QU0.out, QU1.out]; rfl
                          go_wp2
                          go_roundw
                          case rel => exact ⟨k + 1, by go_num, .inr (by omega), HG3, by trivial⟩
                          case measure => simp [intOf]; omega
                · have HF : Hid (true = X) := by
                    show _ = _
                    have e : dn.length - 1 = k := by omega
                    have := HG.out
                    rw [← HX.out, e, this]
                    rfl
                  have q1 : ¬ (k : Int) + 1 < (dn.length : Int) := by omega
                  go_wp2
                  go_ret
                  exact ⟨ret_bool HF.out, HR.bel⟩
        · skip
          have HF : Hid (false = X) := by show _ = _; rw [← HX.out]; simp
          go_enter Try.func13, Try.ntmps13
          go_wp2_with (first
            | (go_at_call 21; (with_reducible refine ((C1 _ HR)).mono ?_); rintro e u ⟨rfl, hb⟩; replace HR := HR.on hb; clear hb d0 d1 d2 d3 d4 d5 e0 e1 e2 e3 e4 e5 e6 e7 e8 e9 e10; have HC := HR.cells; dsimp only at HC; obtain ⟨⟨d0, d1, d2, d3, d4, d5⟩, e0, e1, e2, e3, e4, e5, e6, e7, e8, e9, e10⟩ := HC)
            | (go_at_call 26; (with_reducible refine ((C2 _ HR)).mono ?_); rintro e u ⟨rfl, hb⟩; replace HR := HR.on hb; clear hb d0 d1 d2 d3 d4 d5 e0 e1 e2 e3 e4 e5 e6 e7 e8 e9 e10; have HC := HR.cells; dsimp only at HC; obtain ⟨⟨d0, d1, d2, d3, d4, d5⟩, e0, e1, e2, e3, e4, e5, e6, e7, e8, e9, e10⟩ := HC)
            | (go_at_call 27; (with_reducible refine ((C3 _ HR)).mono ?_); rintro e u ⟨rfl, hb⟩; replace HR := HR.on hb; clear hb d0 d1 d2 d3 d4 d5 e0 e1 e2 e3 e4 e5 e6 e7 e8 e9 e10; have HC := HR.cells; dsimp only at HC; obtain ⟨⟨d0, d1, d2, d3, d4, d5⟩, e0, e1, e2, e3, e4, e5, e6, e7, e8, e9, e10⟩ := HC)
            | (go_at_call 27; (with_reducible refine ((C4 _ HR)).mono ?_); rintro e u ⟨rfl, hb⟩; replace HR := HR.on hb; clear hb d0 d1 d2 d3 d4 d5 e0 e1 e2 e3 e4 e5 e6 e7 e8 e9 e10; have HC := HR.cells; dsimp only at HC; obtain ⟨⟨d0, d1, d2, d3, d4, d5⟩, e0, e1, e2, e3, e4, e5, e6, e7, e8, e9, e10⟩ := HC)
            | (go_at_call 27; (with_reducible refine ((C5 _ HR)).mono ?_); rintro e u ⟨rfl, hb⟩; replace HR := HR.on hb; clear hb d0 d1 d2 d3 d4 d5 e0 e1 e2 e3 e4 e5 e6 e7 e8 e9 e10; have HC := HR.cells; dsimp only at HC; obtain ⟨⟨d0, d1, d2, d3, d4, d5⟩, e0, e1, e2, e3, e4, e5, e6, e7, e8, e9, e10⟩ := HC))
          go_ret
          exact ⟨ret_bool HF.out, HR.bel⟩

end Go.Proofs.Ytinbmnefdhkdfaa
