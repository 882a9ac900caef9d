/-
  SagaForms: may they be, how it stands, what it needs: as the page has it.
-/
import Derived.Test.YtinbmnefdhkdfaaSgcD
import Derived.Test.YtinbmnefdhkdfaaSgbY
import Derived.Test.YtinbmnefdhkdfaaSgbV
import Derived.Test.YtinbmnefdhkdfaaSgbE
import Derived.Test.YtinbmnefdhkdfaaSgbD
import Derived.Test.YtinbmnefdhkdfaaSgbO
namespace Go.Proofs.Ytinbmnefdhkdfaa
open Go.ChangeShapes Go.WideShapes Go.ChangeAt Go.RowKit

/-- The order and the facts in their boxes, the page's facts in theirs. -/
structure Dg (w : World) (o : Od) (a : Option Addr) (c : Nat) (f : Fa) (da : Option Addr) (dc : Nat) (ua : Option Addr) (uc : Nat) (G : Nat) (v : World) : Prop where
  rd : Rd w w.heap.size (w.heap.size + 1) 28 o a c f da dc ua uc v
  gb : v.heap[G]? = some (.cells #[.slice da f.dn.length dc, .slice ua f.un.length uc, .bool f.asked, .bool f.yes, .bool f.turned, .bool f.k0, .bool f.k1, .bool f.ship, .bool f.d0, .bool f.d1, .bool f.acc] 31 (0, 0))
section
variable {w : World} {o : Od} {a : Option Addr} {c : Nat} {f : Fa} {da : Option Addr} {dc : Nat} {ua : Option Addr} {uc : Nat} {G : Nat} {v v' : World}
theorem Dg.on (h : Dg w o a c f da dc ua uc G v) (hb : Below v.heap.size v v') : Dg w o a c f da dc ua uc G v' := ⟨h.rd.on hb, keepB h.gb hb⟩
theorem Dg.drew (h : Dg w o a c f da dc ua uc G v) : Dg w o a c f da dc ua uc G v.drew := h.on (Below.refl _ _).drew
end

set_option maxRecDepth 100000 in
set_option maxHeartbeats 8000000 in
theorem sagaForms_walk (o0 : Od) (a0 : Option Addr) (cap0 : Nat) (f1 : Fa) (da1 : Option Addr) (dc1 : Nat) (ua1 : Option Addr) (uc1 : Nat) (w : World) (w0 : OdIn w o0 a0 cap0) (w1c : FaCame w f1 da1 dc1 ua1 uc1) :
    Calls Try.prog 3 #[.agg #[.int .i64 o0.id, .int .i64 o0.item, .int .i64 o0.qty, .int .i64 o0.client, .int .i64 o0.price, .slice a0 o0.steps.length cap0], .agg #[.slice da1 f1.dn.length dc1, .slice ua1 f1.un.length uc1, .bool f1.asked, .bool f1.yes, .bool f1.turned, .bool f1.k0, .bool f1.k1, .bool f1.ship, .bool f1.d0, .bool f1.d1, .bool f1.acc]] w fun e w' => e = .returned (.bool true) ∧ Below w.heap.size w w' := by
  obtain ⟨w1, wn1⟩ := w1c
  have HNL := hide wn1
  clear wn1
  have HR := Rd.new (c := cap0) 28 w0.2.1 w0.1 w1
  have CL : ∀ u, Rd w w.heap.size (w.heap.size + 1) 28 o0 a0 cap0 f1 da1 dc1 ua1 uc1 u → Calls Try.prog 9 #[.agg #[.int .i64 o0.id, .int .i64 o0.item, .int .i64 o0.qty, .int .i64 o0.client, .int .i64 o0.price, .slice a0 o0.steps.length cap0], .agg #[.slice da1 f1.dn.length dc1, .slice ua1 f1.un.length uc1, .bool f1.asked, .bool f1.yes, .bool f1.turned, .bool f1.k0, .bool f1.k1, .bool f1.ship, .bool f1.d0, .bool f1.d1, .bool f1.acc]] u fun e w' => e = .returned (.bool (litB o0 f1)) ∧ Below u.heap.size u w' := fun u h => glight_any o0 a0 cap0 f1 da1 dc1 ua1 uc1 u
  have CM : ∀ u, Rd w w.heap.size (w.heap.size + 1) 28 o0 a0 cap0 f1 da1 dc1 ua1 uc1 u → Calls Try.prog 12 #[.agg #[.int .i64 o0.id, .int .i64 o0.item, .int .i64 o0.qty, .int .i64 o0.client, .int .i64 o0.price, .slice a0 o0.steps.length cap0], .agg #[.slice da1 f1.dn.length dc1, .slice ua1 f1.un.length uc1, .bool f1.asked, .bool f1.yes, .bool f1.turned, .bool f1.k0, .bool f1.k1, .bool f1.ship, .bool f1.d0, .bool f1.d1, .bool f1.acc]] u fun e w' => e = .returned (.bool (mayF o0 f1)) ∧ Below u.heap.size u w' := fun u h => smay_any o0 a0 cap0 f1 da1 dc1 ua1 uc1 u h.st h.hl h.fi
  have CS : ∀ u, Rd w w.heap.size (w.heap.size + 1) 28 o0 a0 cap0 f1 da1 dc1 ua1 uc1 u → Calls Try.prog 14 #[.agg #[.int .i64 o0.id, .int .i64 o0.item, .int .i64 o0.qty, .int .i64 o0.client, .int .i64 o0.price, .slice a0 o0.steps.length cap0], .agg #[.slice da1 f1.dn.length dc1, .slice ua1 f1.un.length uc1, .bool f1.asked, .bool f1.yes, .bool f1.turned, .bool f1.k0, .bool f1.k1, .bool f1.ship, .bool f1.d0, .bool f1.d1, .bool f1.acc]] u fun e w' => e = .returned (.int .i64 (stF o0 f1)) ∧ Below u.heap.size u w' := fun u h => sstate_any o0 a0 cap0 f1 da1 dc1 ua1 uc1 u h.st h.hl h.fi
  have CO : ∀ u, Rd w w.heap.size (w.heap.size + 1) 28 o0 a0 cap0 f1 da1 dc1 ua1 uc1 u → Calls Try.prog 16 #[.agg #[.int .i64 o0.id, .int .i64 o0.item, .int .i64 o0.qty, .int .i64 o0.client, .int .i64 o0.price, .slice a0 o0.steps.length cap0], .agg #[.slice da1 f1.dn.length dc1, .slice ua1 f1.un.length uc1, .bool f1.asked, .bool f1.yes, .bool f1.turned, .bool f1.k0, .bool f1.k1, .bool f1.ship, .bool f1.d0, .bool f1.d1, .bool f1.acc]] u fun e w' => e = .returned (.bool (overF o0 f1)) ∧ Below u.heap.size u w' := fun u h => sover_any o0 a0 cap0 f1 da1 dc1 ua1 uc1 u h.st h.hl h.fi
  have CN : ∀ u, Rd w w.heap.size (w.heap.size + 1) 28 o0 a0 cap0 f1 da1 dc1 ua1 uc1 u → Calls Try.prog 19 #[.agg #[.int .i64 o0.id, .int .i64 o0.item, .int .i64 o0.qty, .int .i64 o0.client, .int .i64 o0.price, .slice a0 o0.steps.length cap0], .agg #[.slice da1 f1.dn.length dc1, .slice ua1 f1.un.length uc1, .bool f1.asked, .bool f1.yes, .bool f1.turned, .bool f1.k0, .bool f1.k1, .bool f1.ship, .bool f1.d0, .bool f1.d1, .bool f1.acc]] u (OwnM u (nextF o0 f1)) := fun u h => snext_any o0 a0 cap0 f1 da1 dc1 ua1 uc1 u h.st h.hl h.fi
  have CA : ∀ u, Rd w w.heap.size (w.heap.size + 1) 28 o0 a0 cap0 f1 da1 dc1 ua1 uc1 u → Calls Try.prog 10 #[] u fun e w' => e = .returned (.bool true) ∧ Below u.heap.size u w' := fun u h => gawake_any u
  cases hl : litB o0 f1
  · rw [hl] at CL
    clear hl
    have HC := HR.cells; (try dsimp only at HC); obtain ⟨⟨d0, d1, d2, d3, d4, d5⟩, e0, e1, e2, e3, e4, e5, e6, e7, e8, e9, e10⟩ := HC
    go_enter Try.func3, Try.ntmps3
    go_wp2_with (first
      | (go_at_call 9; (with_reducible refine ((CL _ HR)).mono ?_); rintro e u ⟨rfl, hb⟩; replace HR := HR.on hb; clear hb d0 d1 d2 d3 d4 d5 e0 e1 e2 e3 e4 e5 e6 e7 e8 e9 e10; have HC := HR.cells; (try dsimp only at HC); obtain ⟨⟨d0, d1, d2, d3, d4, d5⟩, e0, e1, e2, e3, e4, e5, e6, e7, e8, e9, e10⟩ := HC)
      | (go_at_call 10; (with_reducible refine ((CA _ HR)).mono ?_); rintro e u ⟨rfl, hb⟩; replace HR := HR.on hb; clear hb d0 d1 d2 d3 d4 d5 e0 e1 e2 e3 e4 e5 e6 e7 e8 e9 e10; have HC := HR.cells; (try dsimp only at HC); obtain ⟨⟨d0, d1, d2, d3, d4, d5⟩, e0, e1, e2, e3, e4, e5, e6, e7, e8, e9, e10⟩ := HC))
    go_ret
    exact ⟨rfl, HR.bel⟩
  rw [hl] at CL
  have CF : ∀ u, Rd w w.heap.size (w.heap.size + 1) 28 o0 a0 cap0 f1 da1 dc1 ua1 uc1 u → Calls Try.prog 11 #[.agg #[.slice da1 f1.dn.length dc1, .slice ua1 f1.un.length uc1, .bool f1.asked, .bool f1.yes, .bool f1.turned, .bool f1.k0, .bool f1.k1, .bool f1.ship, .bool f1.d0, .bool f1.d1, .bool f1.acc]] u fun e w' => e = .returned (.agg #[.slice da1 f1.dn.length dc1, .slice ua1 f1.un.length uc1, .bool f1.asked, .bool f1.yes, .bool f1.turned, .bool f1.k0, .bool f1.k1, .bool f1.ship, .bool f1.d0, .bool f1.d1, .bool f1.acc]) ∧ Below u.heap.size u w' := fun u h => facts_any f1 da1 dc1 ua1 uc1 u
  clear hl
  have HC := HR.cells; (try dsimp only at HC); obtain ⟨⟨d0, d1, d2, d3, d4, d5⟩, e0, e1, e2, e3, e4, e5, e6, e7, e8, e9, e10⟩ := HC
  go_enter Try.func3, Try.ntmps3
  go_wp2_with (first
    | (go_at_call 9; (with_reducible refine ((CL _ HR)).mono ?_); rintro e u ⟨rfl, hb⟩; replace HR := HR.on hb; clear hb d0 d1 d2 d3 d4 d5 e0 e1 e2 e3 e4 e5 e6 e7 e8 e9 e10; have HC := HR.cells; (try dsimp only at HC); obtain ⟨⟨d0, d1, d2, d3, d4, d5⟩, e0, e1, e2, e3, e4, e5, e6, e7, e8, e9, e10⟩ := HC)
    | (go_at_call 11; (with_reducible refine ((CF _ HR)).mono ?_); rintro e u ⟨rfl, hb⟩; replace HR := HR.on hb; clear hb d0 d1 d2 d3 d4 d5 e0 e1 e2 e3 e4 e5 e6 e7 e8 e9 e10; have HC := HR.cells; (try dsimp only at HC); obtain ⟨⟨d0, d1, d2, d3, d4, d5⟩, e0, e1, e2, e3, e4, e5, e6, e7, e8, e9, e10⟩ := HC))
  have HCP := hide w0.2.2.2
  have HDB : Dg w o0 a0 cap0 f1 da1 dc1 ua1 uc1 u.heap.size (u.alloc (.cells #[.slice da1 f1.dn.length dc1, .slice ua1 f1.un.length uc1, .bool f1.asked, .bool f1.yes, .bool f1.turned, .bool f1.k0, .bool f1.k1, .bool f1.ship, .bool f1.d0, .bool f1.d1, .bool f1.acc] 31)) := ⟨HR.on ((Below.refl _ _).alloc (Nat.le_refl _) _), World.alloc_heap_new u _⟩
  clear d0 d1 d2 d3 d4 d5 e0 e1 e2 e3 e4 e5 e6 e7 e8 e9 e10 HR
  obtain ⟨V, hV⟩ : ∃ V, V = u.alloc (.cells #[.slice da1 f1.dn.length dc1, .slice ua1 f1.un.length uc1, .bool f1.asked, .bool f1.yes, .bool f1.turned, .bool f1.k0, .bool f1.k1, .bool f1.ship, .bool f1.d0, .bool f1.d1, .bool f1.acc] 31) := ⟨_, rfl⟩
  rw [← hV] at HDB ⊢
  obtain ⟨G, hG⟩ : ∃ G, u.heap.size = G := ⟨_, rfl⟩
  rw [hG] at HDB ⊢
  clear hV hG
  have HLen : Hid ((nextF o0 f1).length ≤ 9223372036854775807) := by
    show _ ≤ _
    cases hm : mayF o0 f1
    · rw [next_not hm]; simp
    · rw [next_need hm]; have := need_len o0 f1; omega
  have YM : ∀ v, Dg w o0 a0 cap0 f1 da1 dc1 ua1 uc1 G v → Calls Try.prog 13 #[.agg #[.int .i64 o0.id, .int .i64 o0.item, .int .i64 o0.qty, .int .i64 o0.client, .int .i64 o0.price, .slice a0 o0.steps.length cap0], .agg #[.slice da1 f1.dn.length dc1, .slice ua1 f1.un.length uc1, .bool f1.asked, .bool f1.yes, .bool f1.turned, .bool f1.k0, .bool f1.k1, .bool f1.ship, .bool f1.d0, .bool f1.d1, .bool f1.acc]] v fun e w' => e = .returned (.bool (mayR o0 f1)) ∧ Below v.heap.size v w' := fun v h => (by
    have h1 := rmay_any o0 a0 cap0 f1 da1 dc1 ua1 uc1 v h.rd.st h.rd.hl h.rd.fi HCP.out
    exact h1)
  have YS : ∀ v, Dg w o0 a0 cap0 f1 da1 dc1 ua1 uc1 G v → Calls Try.prog 15 #[.agg #[.int .i64 o0.id, .int .i64 o0.item, .int .i64 o0.qty, .int .i64 o0.client, .int .i64 o0.price, .slice a0 o0.steps.length cap0], .agg #[.slice da1 f1.dn.length dc1, .slice ua1 f1.un.length uc1, .bool f1.asked, .bool f1.yes, .bool f1.turned, .bool f1.k0, .bool f1.k1, .bool f1.ship, .bool f1.d0, .bool f1.d1, .bool f1.acc]] v fun e w' => e = .returned (.int .i64 (stR o0 f1)) ∧ Below v.heap.size v w' := fun v h => (by
    have h1 := rstate_any o0 a0 cap0 f1 da1 dc1 ua1 uc1 v h.rd.st h.rd.hl h.rd.fi HCP.out
    exact h1)
  have YO : ∀ v, Dg w o0 a0 cap0 f1 da1 dc1 ua1 uc1 G v → Calls Try.prog 17 #[.agg #[.int .i64 o0.id, .int .i64 o0.item, .int .i64 o0.qty, .int .i64 o0.client, .int .i64 o0.price, .slice a0 o0.steps.length cap0], .agg #[.slice da1 f1.dn.length dc1, .slice ua1 f1.un.length uc1, .bool f1.asked, .bool f1.yes, .bool f1.turned, .bool f1.k0, .bool f1.k1, .bool f1.ship, .bool f1.d0, .bool f1.d1, .bool f1.acc]] v fun e w' => e = .returned (.bool (ovR o0 f1)) ∧ Below v.heap.size v w' := fun v h => (by
    have h1 := rover_any o0 a0 cap0 f1 da1 dc1 ua1 uc1 v h.rd.st h.rd.hl h.rd.fi HCP.out
    exact h1)
  have XM : ∀ v, Dg w o0 a0 cap0 f1 da1 dc1 ua1 uc1 G v → Calls Try.prog 12 #[.agg #[.int .i64 o0.id, .int .i64 o0.item, .int .i64 o0.qty, .int .i64 o0.client, .int .i64 o0.price, .slice a0 o0.steps.length cap0], .agg #[.slice da1 f1.dn.length dc1, .slice ua1 f1.un.length uc1, .bool f1.asked, .bool f1.yes, .bool f1.turned, .bool f1.k0, .bool f1.k1, .bool f1.ship, .bool f1.d0, .bool f1.d1, .bool f1.acc]] v fun e w' => e = .returned (.bool (mayF o0 f1)) ∧ Below v.heap.size v w' := fun v h => (by
    have h1 := smay_any o0 a0 cap0 f1 da1 dc1 ua1 uc1 v h.rd.st h.rd.hl h.rd.fi
    exact h1)
  have XS : ∀ v, Dg w o0 a0 cap0 f1 da1 dc1 ua1 uc1 G v → Calls Try.prog 14 #[.agg #[.int .i64 o0.id, .int .i64 o0.item, .int .i64 o0.qty, .int .i64 o0.client, .int .i64 o0.price, .slice a0 o0.steps.length cap0], .agg #[.slice da1 f1.dn.length dc1, .slice ua1 f1.un.length uc1, .bool f1.asked, .bool f1.yes, .bool f1.turned, .bool f1.k0, .bool f1.k1, .bool f1.ship, .bool f1.d0, .bool f1.d1, .bool f1.acc]] v fun e w' => e = .returned (.int .i64 (stF o0 f1)) ∧ Below v.heap.size v w' := fun v h => (by
    have h1 := sstate_any o0 a0 cap0 f1 da1 dc1 ua1 uc1 v h.rd.st h.rd.hl h.rd.fi
    exact h1)
  have XO : ∀ v, Dg w o0 a0 cap0 f1 da1 dc1 ua1 uc1 G v → Calls Try.prog 16 #[.agg #[.int .i64 o0.id, .int .i64 o0.item, .int .i64 o0.qty, .int .i64 o0.client, .int .i64 o0.price, .slice a0 o0.steps.length cap0], .agg #[.slice da1 f1.dn.length dc1, .slice ua1 f1.un.length uc1, .bool f1.asked, .bool f1.yes, .bool f1.turned, .bool f1.k0, .bool f1.k1, .bool f1.ship, .bool f1.d0, .bool f1.d1, .bool f1.acc]] v fun e w' => e = .returned (.bool (overF o0 f1)) ∧ Below v.heap.size v w' := fun v h => (by
    have h1 := sover_any o0 a0 cap0 f1 da1 dc1 ua1 uc1 v h.rd.st h.rd.hl h.rd.fi
    exact h1)
  rw [may_ref] at YM
  rw [st_ref] at YS
  rw [ov_ref] at YO
  have XN : ∀ v, Dg w o0 a0 cap0 f1 da1 dc1 ua1 uc1 G v → Calls Try.prog 19 #[.agg #[.int .i64 o0.id, .int .i64 o0.item, .int .i64 o0.qty, .int .i64 o0.client, .int .i64 o0.price, .slice a0 o0.steps.length cap0], .agg #[.slice da1 f1.dn.length dc1, .slice ua1 f1.un.length uc1, .bool f1.asked, .bool f1.yes, .bool f1.turned, .bool f1.k0, .bool f1.k1, .bool f1.ship, .bool f1.d0, .bool f1.d1, .bool f1.acc]] v (OwnM v (nextF o0 f1)) := fun v h => snext_any o0 a0 cap0 f1 da1 dc1 ua1 uc1 v h.rd.st h.rd.hl h.rd.fi
  have YN : ∀ v, Dg w o0 a0 cap0 f1 da1 dc1 ua1 uc1 G v → Calls Try.prog 20 #[.agg #[.int .i64 o0.id, .int .i64 o0.item, .int .i64 o0.qty, .int .i64 o0.client, .int .i64 o0.price, .slice a0 o0.steps.length cap0], .agg #[.slice da1 f1.dn.length dc1, .slice ua1 f1.un.length uc1, .bool f1.asked, .bool f1.yes, .bool f1.turned, .bool f1.k0, .bool f1.k1, .bool f1.ship, .bool f1.d0, .bool f1.d1, .bool f1.acc]] v (OwnM v (nextF o0 f1)) := fun v h => rneeds_any o0 a0 cap0 f1 da1 dc1 ua1 uc1 v h.rd.st h.rd.hl h.rd.fi HCP.out
  obtain ⟨MM, hMM⟩ : ∃ m, mayF o0 f1 = m := ⟨_, rfl⟩
  obtain ⟨SS, hSS⟩ : ∃ m, stF o0 f1 = m := ⟨_, rfl⟩
  obtain ⟨OO, hOO⟩ : ∃ m, overF o0 f1 = m := ⟨_, rfl⟩
  obtain ⟨L, hL⟩ : ∃ m, nextF o0 f1 = m := ⟨_, rfl⟩
  rw [hMM] at XM YM
  rw [hSS] at XS YS
  rw [hOO] at XO YO
  rw [hL] at XN YN HLen
  clear hMM hSS hOO hL w0 w1 CL CM CS CO CN CA CF HNL
  have x1 : (MM == MM) = true := by simp
  have x2 : (SS == SS) = true := by simp
  have x3 : (OO == OO) = true := by simp
  obtain ⟨d0, d1, d2, d3, d4, d5⟩ := six_cells HDB.rd.ob; obtain ⟨p0, p1, p2, p3, p4, p5, p6, p7, p8, p9, p10⟩ := ten_cells HDB.rd.fb; obtain ⟨r0, r1, r2, r3, r4, r5, r6, r7, r8, r9, r10⟩ := ten_cells HDB.gb
  go_region_held3 (fun w' => w'.cell? ⟨w.heap.size, 0, none⟩ = some (.int .i64 o0.id) ∧ w'.cell? ⟨w.heap.size, 1, none⟩ = some (.int .i64 o0.item) ∧ w'.cell? ⟨w.heap.size, 2, none⟩ = some (.int .i64 o0.qty) ∧ w'.cell? ⟨w.heap.size, 3, none⟩ = some (.int .i64 o0.client) ∧ w'.cell? ⟨w.heap.size, 4, none⟩ = some (.int .i64 o0.price) ∧ w'.cell? ⟨w.heap.size, 5, none⟩ = some (.slice a0 o0.steps.length cap0) ∧ w'.cell? ⟨w.heap.size + 1, 0, none⟩ = some (.slice da1 f1.dn.length dc1) ∧ w'.cell? ⟨w.heap.size + 1, 1, none⟩ = some (.slice ua1 f1.un.length uc1) ∧ w'.cell? ⟨w.heap.size + 1, 2, none⟩ = some (.bool f1.asked) ∧ w'.cell? ⟨w.heap.size + 1, 3, none⟩ = some (.bool f1.yes) ∧ w'.cell? ⟨w.heap.size + 1, 4, none⟩ = some (.bool f1.turned) ∧ w'.cell? ⟨w.heap.size + 1, 5, none⟩ = some (.bool f1.k0) ∧ w'.cell? ⟨w.heap.size + 1, 6, none⟩ = some (.bool f1.k1) ∧ w'.cell? ⟨w.heap.size + 1, 7, none⟩ = some (.bool f1.ship) ∧ w'.cell? ⟨w.heap.size + 1, 8, none⟩ = some (.bool f1.d0) ∧ w'.cell? ⟨w.heap.size + 1, 9, none⟩ = some (.bool f1.d1) ∧ w'.cell? ⟨w.heap.size + 1, 10, none⟩ = some (.bool f1.acc) ∧ w'.cell? ⟨G, 0, none⟩ = some (.slice da1 f1.dn.length dc1) ∧ w'.cell? ⟨G, 1, none⟩ = some (.slice ua1 f1.un.length uc1) ∧ w'.cell? ⟨G, 2, none⟩ = some (.bool f1.asked) ∧ w'.cell? ⟨G, 3, none⟩ = some (.bool f1.yes) ∧ w'.cell? ⟨G, 4, none⟩ = some (.bool f1.turned) ∧ w'.cell? ⟨G, 5, none⟩ = some (.bool f1.k0) ∧ w'.cell? ⟨G, 6, none⟩ = some (.bool f1.k1) ∧ w'.cell? ⟨G, 7, none⟩ = some (.bool f1.ship) ∧ w'.cell? ⟨G, 8, none⟩ = some (.bool f1.d0) ∧ w'.cell? ⟨G, 9, none⟩ = some (.bool f1.d1) ∧ w'.cell? ⟨G, 10, none⟩ = some (.bool f1.acc)) (go_keep) (first
    | (go_at_call 12; (with_reducible refine (XM _ (by first | exact HDB | exact HDB.drew)).mono ?_); rintro e v ⟨rfl, hb⟩; have HE : Dg w o0 a0 cap0 f1 da1 dc1 ua1 uc1 G v := (by first | exact HDB.on hb | exact HDB.drew.on hb); clear HDB hb d0 d1 d2 d3 d4 d5 p0 p1 p2 p3 p4 p5 p6 p7 p8 p9 p10 r0 r1 r2 r3 r4 r5 r6 r7 r8 r9 r10; have HDB := HE; clear HE; obtain ⟨d0, d1, d2, d3, d4, d5⟩ := six_cells HDB.rd.ob; obtain ⟨p0, p1, p2, p3, p4, p5, p6, p7, p8, p9, p10⟩ := ten_cells HDB.rd.fb; obtain ⟨r0, r1, r2, r3, r4, r5, r6, r7, r8, r9, r10⟩ := ten_cells HDB.gb)
    | (go_at_call 13; (with_reducible refine (YM _ (by first | exact HDB | exact HDB.drew)).mono ?_); rintro e v ⟨rfl, hb⟩; have HE : Dg w o0 a0 cap0 f1 da1 dc1 ua1 uc1 G v := (by first | exact HDB.on hb | exact HDB.drew.on hb); clear HDB hb d0 d1 d2 d3 d4 d5 p0 p1 p2 p3 p4 p5 p6 p7 p8 p9 p10 r0 r1 r2 r3 r4 r5 r6 r7 r8 r9 r10; have HDB := HE; clear HE; obtain ⟨d0, d1, d2, d3, d4, d5⟩ := six_cells HDB.rd.ob; obtain ⟨p0, p1, p2, p3, p4, p5, p6, p7, p8, p9, p10⟩ := ten_cells HDB.rd.fb; obtain ⟨r0, r1, r2, r3, r4, r5, r6, r7, r8, r9, r10⟩ := ten_cells HDB.gb)
    | (go_at_call 14; (with_reducible refine (XS _ (by first | exact HDB | exact HDB.drew)).mono ?_); rintro e v ⟨rfl, hb⟩; have HE : Dg w o0 a0 cap0 f1 da1 dc1 ua1 uc1 G v := (by first | exact HDB.on hb | exact HDB.drew.on hb); clear HDB hb d0 d1 d2 d3 d4 d5 p0 p1 p2 p3 p4 p5 p6 p7 p8 p9 p10 r0 r1 r2 r3 r4 r5 r6 r7 r8 r9 r10; have HDB := HE; clear HE; obtain ⟨d0, d1, d2, d3, d4, d5⟩ := six_cells HDB.rd.ob; obtain ⟨p0, p1, p2, p3, p4, p5, p6, p7, p8, p9, p10⟩ := ten_cells HDB.rd.fb; obtain ⟨r0, r1, r2, r3, r4, r5, r6, r7, r8, r9, r10⟩ := ten_cells HDB.gb)
    | (go_at_call 15; (with_reducible refine (YS _ (by first | exact HDB | exact HDB.drew)).mono ?_); rintro e v ⟨rfl, hb⟩; have HE : Dg w o0 a0 cap0 f1 da1 dc1 ua1 uc1 G v := (by first | exact HDB.on hb | exact HDB.drew.on hb); clear HDB hb d0 d1 d2 d3 d4 d5 p0 p1 p2 p3 p4 p5 p6 p7 p8 p9 p10 r0 r1 r2 r3 r4 r5 r6 r7 r8 r9 r10; have HDB := HE; clear HE; obtain ⟨d0, d1, d2, d3, d4, d5⟩ := six_cells HDB.rd.ob; obtain ⟨p0, p1, p2, p3, p4, p5, p6, p7, p8, p9, p10⟩ := ten_cells HDB.rd.fb; obtain ⟨r0, r1, r2, r3, r4, r5, r6, r7, r8, r9, r10⟩ := ten_cells HDB.gb)
    | (go_at_call 16; (with_reducible refine (XO _ (by first | exact HDB | exact HDB.drew)).mono ?_); rintro e v ⟨rfl, hb⟩; have HE : Dg w o0 a0 cap0 f1 da1 dc1 ua1 uc1 G v := (by first | exact HDB.on hb | exact HDB.drew.on hb); clear HDB hb d0 d1 d2 d3 d4 d5 p0 p1 p2 p3 p4 p5 p6 p7 p8 p9 p10 r0 r1 r2 r3 r4 r5 r6 r7 r8 r9 r10; have HDB := HE; clear HE; obtain ⟨d0, d1, d2, d3, d4, d5⟩ := six_cells HDB.rd.ob; obtain ⟨p0, p1, p2, p3, p4, p5, p6, p7, p8, p9, p10⟩ := ten_cells HDB.rd.fb; obtain ⟨r0, r1, r2, r3, r4, r5, r6, r7, r8, r9, r10⟩ := ten_cells HDB.gb)
    | (go_at_call 17; (with_reducible refine (YO _ (by first | exact HDB | exact HDB.drew)).mono ?_); rintro e v ⟨rfl, hb⟩; have HE : Dg w o0 a0 cap0 f1 da1 dc1 ua1 uc1 G v := (by first | exact HDB.on hb | exact HDB.drew.on hb); clear HDB hb d0 d1 d2 d3 d4 d5 p0 p1 p2 p3 p4 p5 p6 p7 p8 p9 p10 r0 r1 r2 r3 r4 r5 r6 r7 r8 r9 r10; have HDB := HE; clear HE; obtain ⟨d0, d1, d2, d3, d4, d5⟩ := six_cells HDB.rd.ob; obtain ⟨p0, p1, p2, p3, p4, p5, p6, p7, p8, p9, p10⟩ := ten_cells HDB.rd.fb; obtain ⟨r0, r1, r2, r3, r4, r5, r6, r7, r8, r9, r10⟩ := ten_cells HDB.gb)
    | (go_at_call 19; (with_reducible refine (XN _ (by first | exact HDB | exact HDB.drew)).mono ?_); rintro e v ⟨av, cv, rfl, -, -, hrow, hb⟩; have HE : Dg w o0 a0 cap0 f1 da1 dc1 ua1 uc1 G v := (by first | exact HDB.on hb | exact HDB.drew.on hb); have HM1 := hide (row_mgs hrow); clear hrow; clear HDB hb d0 d1 d2 d3 d4 d5 p0 p1 p2 p3 p4 p5 p6 p7 p8 p9 p10 r0 r1 r2 r3 r4 r5 r6 r7 r8 r9 r10; have HDB := HE; clear HE; obtain ⟨d0, d1, d2, d3, d4, d5⟩ := six_cells HDB.rd.ob; obtain ⟨p0, p1, p2, p3, p4, p5, p6, p7, p8, p9, p10⟩ := ten_cells HDB.rd.fb; obtain ⟨r0, r1, r2, r3, r4, r5, r6, r7, r8, r9, r10⟩ := ten_cells HDB.gb)
    | (go_at_call 20; (with_reducible refine (YN _ (by first | exact HDB | exact HDB.drew)).mono ?_); rintro e v ⟨av2, cv2, rfl, -, -, hrow, hb⟩; have HE : Dg w o0 a0 cap0 f1 da1 dc1 ua1 uc1 G v := (by first | exact HDB.on hb | exact HDB.drew.on hb); replace HM1 := hide (HM1.out.below hb); have HM2 := hide (row_mgs hrow); clear hrow; clear HDB hb d0 d1 d2 d3 d4 d5 p0 p1 p2 p3 p4 p5 p6 p7 p8 p9 p10 r0 r1 r2 r3 r4 r5 r6 r7 r8 r9 r10; have HDB := HE; clear HE; obtain ⟨d0, d1, d2, d3, d4, d5⟩ := six_cells HDB.rd.ob; obtain ⟨p0, p1, p2, p3, p4, p5, p6, p7, p8, p9, p10⟩ := ten_cells HDB.rd.fb; obtain ⟨r0, r1, r2, r3, r4, r5, r6, r7, r8, r9, r10⟩ := ten_cells HDB.gb)
    | (go_at_call 18; (with_reducible refine (same_msgs _ _ L _ _ _ HLen.out HM1.out HM2.out).mono ?_); rintro e v ⟨rfl, hb⟩; have HE : Dg w o0 a0 cap0 f1 da1 dc1 ua1 uc1 G v := (by first | exact HDB.on hb | exact HDB.drew.on hb); clear HDB hb d0 d1 d2 d3 d4 d5 p0 p1 p2 p3 p4 p5 p6 p7 p8 p9 p10 r0 r1 r2 r3 r4 r5 r6 r7 r8 r9 r10; have HDB := HE; clear HE; obtain ⟨d0, d1, d2, d3, d4, d5⟩ := six_cells HDB.rd.ob; obtain ⟨p0, p1, p2, p3, p4, p5, p6, p7, p8, p9, p10⟩ := ten_cells HDB.rd.fb; obtain ⟨r0, r1, r2, r3, r4, r5, r6, r7, r8, r9, r10⟩ := ten_cells HDB.gb)
    | (go_at_call 10; refine (gawake_any _).mono ?_; rintro e v ⟨rfl, hb⟩; have HE : Dg w o0 a0 cap0 f1 da1 dc1 ua1 uc1 G v := (by first | exact HDB.on hb | exact HDB.drew.on hb); clear HDB hb d0 d1 d2 d3 d4 d5 p0 p1 p2 p3 p4 p5 p6 p7 p8 p9 p10 r0 r1 r2 r3 r4 r5 r6 r7 r8 r9 r10; have HDB := HE; clear HE; obtain ⟨d0, d1, d2, d3, d4, d5⟩ := six_cells HDB.rd.ob; obtain ⟨p0, p1, p2, p3, p4, p5, p6, p7, p8, p9, p10⟩ := ten_cells HDB.rd.fb; obtain ⟨r0, r1, r2, r3, r4, r5, r6, r7, r8, r9, r10⟩ := ten_cells HDB.gb))
  all_goals go_wp2_with fail
  all_goals go_ret
  all_goals exact ⟨rfl, HDB.rd.bel⟩
end Go.Proofs.Ytinbmnefdhkdfaa
