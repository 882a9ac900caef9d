/-
  ModelGoes: nothing is sent that is not sold, nothing sold is ever clean; all that was seen is legal, and it stays seen.
-/
import Derived.Test.YtdoejppnifoebaaMdlX
namespace Go.Proofs.Ytdoejppnifoebaa
open Go.ChangeShapes Go.WideShapes Go.ChangeAt Go.RowKit

/-- The law's order in its box, a model beside it. -/
structure MSt (w : World) (o : Od) (a : Option Addr) (c : Nat) (u : World) (p : Nat) (v : Ml) : Prop where
  k : Md w u p v
  bx : u.heap[w.heap.size]? = some (.cells #[.int .i64 o.id, .int .i64 o.item, .int .i64 o.qty, .int .i64 o.client, .int .i64 o.price, .slice a o.steps.length c] 24 (0, 0))
  ne : w.heap.size < p
section
variable {w u u' : World} {o : Od} {a : Option Addr} {c p : Nat} {v v' : Ml}
theorem MSt.on (h : MSt w o a c u p v) (hb : Below u.heap.size u u') : MSt w o a c u' p v := ⟨h.k.on hb, (hb.block _ (Array.getElem?_eq_some_iff.1 h.bx).1).trans h.bx, h.ne⟩
theorem MSt.bel (h : MSt w o a c u p v) : Below w.heap.size w u := h.k.2.2
theorem MSt.see (h : MSt w o a c u p v) (x1 x2 : Int) {b : Bool} (hb : (seeF v.o.steps.length v.s (x1, x2)).isSome = b) (hv : seeM v (x1, x2) = v') : Calls Try.prog 12 #[.pointer (some ⟨p, 0, none⟩), .agg #[.int .i64 x1, .int .i64 x2]] u fun e w' => e = .returned (.bool b) ∧ MSt w o a c w' p v' ∧ Rg.Kept (fun i _ => i = p) u w' := by
  subst hb hv
  exact (h.k.see x1 x2).mono (fun e w' ⟨h1, h2, h3⟩ => ⟨h1, ⟨h2, h3.block _ _ h.bx (fun e => by have := h.ne; omega), h.ne⟩, h3⟩)
theorem MSt.six (h : MSt w o a c u p v) : u.cell? ⟨w.heap.size, 0, none⟩ = some (.int .i64 o.id) ∧ u.cell? ⟨w.heap.size, 1, none⟩ = some (.int .i64 o.item) ∧ u.cell? ⟨w.heap.size, 2, none⟩ = some (.int .i64 o.qty) ∧ u.cell? ⟨w.heap.size, 3, none⟩ = some (.int .i64 o.client) ∧ u.cell? ⟨w.heap.size, 4, none⟩ = some (.int .i64 o.price) ∧ u.cell? ⟨w.heap.size, 5, none⟩ = some (.slice a o.steps.length c) := order_of_six h.bx
end
/-- What never goes back. -/
theorem goes_on {v : Ml} (g : GoodMl v) (x : Int × Int) : (v.s.yes = true → (seeM v x).s.yes = true) ∧ (v.s.ship = true → (seeM v x).s.ship = true) ∧ ((seeM v x).s.ship = true → (seeM v x).s.yes = true) ∧ ((seeM v x).s.yes = true → cleanF (seeM v x) = false) ∧ (cleanF v = true → (seeM v x).s.yes = false) := by
  have g2 := seeM_good g x
  obtain ⟨k1, k2, k3, k4, k5⟩ := g2.ok
  have cy : ∀ {z : Ml}, GoodMl z → z.s.yes = true → cleanF z = false := fun {z} gz h => by
    have := (gz.ok.2.2.2.1 h).1
    unfold cleanF
    rw [this]
    rfl
  refine ⟨fun h => ?_, fun h => ?_, fun h => k5 h, fun h => cy g2 h, fun h => ?_⟩
  · cases hs : seeF v.o.steps.length v.s x with
    | none => rw [seeM_none hs]; exact h
    | some s' =>
      rw [seeM_some hs]
      rcases see_cases hs with ⟨_, _, _, _, rfl⟩ | ⟨_, _, _, rfl⟩ | ⟨_, _, _, _, _, rfl⟩ | ⟨_, _, _, rfl⟩ | ⟨_, _, _, rfl⟩
      · exact h
      · exact h
      · rfl
      · exact h
      · exact h
  · cases hs : seeF v.o.steps.length v.s x with
    | none => rw [seeM_none hs]; exact h
    | some s' =>
      rw [seeM_some hs]
      rcases see_cases hs with ⟨_, _, _, _, rfl⟩ | ⟨_, _, _, rfl⟩ | ⟨_, _, _, _, _, rfl⟩ | ⟨_, _, _, rfl⟩ | ⟨_, _, _, rfl⟩
      · exact h
      · exact h
      · exact h
      · exact h
      · rfl
  · have hn : v.s.no = true := by unfold cleanF at h; simp at h; exact h.1
    cases hs : seeF v.o.steps.length v.s x with
    | none =>
      rw [seeM_none hs]
      cases hy : v.s.yes
      · rfl
      · have := (g.ok.2.2.2.1 hy).1; rw [hn] at this; cases this
    | some s' =>
      have hy : v.s.yes = false := by
        cases hy : v.s.yes
        · rfl
        · have := (g.ok.2.2.2.1 hy).1; rw [hn] at this; cases this
      rw [seeM_some hs]
      rcases see_cases hs with ⟨_, _, _, _, rfl⟩ | ⟨_, _, _, rfl⟩ | ⟨_, _, c, _, _, rfl⟩ | ⟨_, _, _, rfl⟩ | ⟨_, _, _, rfl⟩
      · exact hy
      · exact hy
      · rw [hn] at c; cases c
      · exact hy
      · exact hy
set_option maxRecDepth 100000 in
set_option maxHeartbeats 4000000 in
theorem modelGoes_walk (o0 : Od) (a0 : Option Addr) (cap0 : Nat) (l1 : List (Int × Int)) (a1 : Option Addr) (cap1 : Nat) (w : World) (w0 : OdIn w o0 a0 cap0) (w1 : ActsIn w l1 a1 cap1) :
    Calls Try.prog 5 #[.agg #[.int .i64 o0.id, .int .i64 o0.item, .int .i64 o0.qty, .int .i64 o0.client, .int .i64 o0.price, .slice a0 o0.steps.length cap0], .slice a1 l1.length cap1] w fun e w' => e = .returned (.bool true) ∧ Below w.heap.size w w' := by
  obtain ⟨hl, hst, hsn, hcp⟩ := w0
  obtain ⟨hl1, hs1, -, -⟩ := w1
  obtain ⟨V, hV⟩ : ∃ V, V = w.alloc (.cells #[.int .i64 o0.id, .int .i64 o0.item, .int .i64 o0.qty, .int .i64 o0.client, .int .i64 o0.price, .slice a0 o0.steps.length cap0] 24) := ⟨_, rfl⟩
  have hbV : Below w.heap.size w V := by rw [hV]; exact (Below.refl _ _).alloc (Nat.le_refl _) _
  have hVb : V.heap[w.heap.size]? = some (.cells #[.int .i64 o0.id, .int .i64 o0.item, .int .i64 o0.qty, .int .i64 o0.client, .int .i64 o0.price, .slice a0 o0.steps.length cap0] 24 (0, 0)) := by rw [hV]; exact World.alloc_heap_new w _
  have AWK : Hid (∀ u, Below w.heap.size w u → Calls Try.prog 7 #[] u fun e w' => e = .returned (.bool true) ∧ Below w.heap.size w w') := fun u hu => (mwake_any u).mono (fun e w' ⟨h1, h2⟩ => ⟨h1, bel_on' hu h2⟩)
  obtain ⟨d0, d1, d2, d3, d4, d5⟩ := order_of_six hVb
  have MY := ref_omay_any o0 a0 cap0 V (hst.below hbV) hl hcp
  have HV := hide hV
  have HBV := hide hbV
  rw [hV] at d0 d1 d2 d3 d4 d5 MY HBV
  by_cases h10 : (o0.steps.length : Int) > 10
  · clear hsn hst hVb hbV hV
    go_enter Try.func5, Try.ntmps5
    go_wp2_with (go_at_call 7; refine (AWK.out _ HBV.out).mono ?_; rintro e ua ⟨rfl, hb⟩; have HX := hide hb; clear hb)
    go_ret
    exact ⟨rfl, HX.out⟩
  by_cases h60 : (l1.length : Int) > 60
  · clear hsn hst hVb hbV hV
    go_enter Try.func5, Try.ntmps5
    go_wp2_with (go_at_call 7; refine (AWK.out _ HBV.out).mono ?_; rintro e ua ⟨rfl, hb⟩; have HX := hide hb; clear hb)
    go_ret
    exact ⟨rfl, HX.out⟩
  cases hm : mayO o0
  · rw [hm] at MY
    clear hsn hst hVb hbV hV hm
    go_enter Try.func5, Try.ntmps5
    go_wp2_with (first
      | (go_at_call 9; refine MY.mono ?_; clear MY; rintro e u1 ⟨rfl, hb⟩; rw [← HV.out] at hb; have HB1 := hide (bel_on' (by rw [HV.out]; exact HBV.out) hb); clear hb)
      | (go_at_call 7; refine (AWK.out _ HB1.out).mono ?_; rintro e ua ⟨rfl, hb⟩; have HX := hide hb; clear hb))
    go_ret
    exact ⟨rfl, HX.out⟩
  rw [hm] at MY
  have NW : Hid (∀ u, Below V.heap.size V u → Calls Try.prog 8 #[.agg #[.int .i64 o0.id, .int .i64 o0.item, .int .i64 o0.qty, .int .i64 o0.client, .int .i64 o0.price, .slice a0 o0.steps.length cap0]] u fun e w' => ∃ p, e = .returned (.pointer (some ⟨p, 0, none⟩)) ∧ MSt w o0 a0 cap0 w' p (newM o0)) := fun u hu => by
    have hwu := bel_on' hbV hu
    have hbu := (hu.block _ (Array.getElem?_eq_some_iff.1 hVb).1).trans hVb
    refine (mnew_any hwu o0 (hst.below hwu) hsn hm).mono ?_
    rintro e w' ⟨p, h1, h2, h3, h4⟩
    have := (Array.getElem?_eq_some_iff.1 hbu).1
    exact ⟨p, h1, ⟨h2, (h3.block _ (Array.getElem?_eq_some_iff.1 hbu).1).trans hbu, by omega⟩⟩
  have OC : Hid (∀ u, Below V.heap.size V u → u.cell? ⟨w.heap.size, 0, none⟩ = some (.int .i64 o0.id) ∧ u.cell? ⟨w.heap.size, 1, none⟩ = some (.int .i64 o0.item) ∧ u.cell? ⟨w.heap.size, 2, none⟩ = some (.int .i64 o0.qty) ∧ u.cell? ⟨w.heap.size, 3, none⟩ = some (.int .i64 o0.client) ∧ u.cell? ⟨w.heap.size, 4, none⟩ = some (.int .i64 o0.price) ∧ u.cell? ⟨w.heap.size, 5, none⟩ = some (.slice a0 o0.steps.length cap0)) := fun u hu => order_of_six ((hu.block _ (Array.getElem?_eq_some_iff.1 hVb).1).trans hVb)
  have HST := hide hst
  have HL := hide hl
  have HS1 := hide hs1
  have HN0 : Hid ((newM o0).s.yes = false ∧ (newM o0).s.ship = false ∧ cleanF (newM o0) = false ∧ (newM o0).o = o0) := ⟨rfl, rfl, rfl, rfl⟩
  clear hsn hst hVb hbV hV hm hs1
  go_enter Try.func5, Try.ntmps5
  go_wp2_with (first
    | (go_at_call 9; refine MY.mono ?_; clear MY; rintro e u1 ⟨rfl, hb⟩; rw [← HV.out] at hb; have N1 := NW.out u1 hb; clear d0 d1 d2 d3 d4 d5; obtain ⟨d0, d1, d2, d3, d4, d5⟩ := OC.out u1 hb; clear hb)
    | (go_at_call 8; refine N1.mono ?_; clear N1; rintro e u2 ⟨p, rfl, hm⟩; have M2 := hide hm; clear hm d0 d1 d2 d3 d4 d5))
  go_loopw [6, 7, 8, 31] (fun yv hv cv iv wr => ∃ (k : Nat) (v : Ml), iv = .int .i64 k ∧ k ≤ l1.length ∧ yv = .bool v.s.yes ∧ hv = .bool v.s.ship ∧ cv = .bool (cleanF v) ∧ Hid (MSt w o0 a0 cap0 wr p v ∧ v.o = o0)) (fun _ _ _ iv _ => l1.length - (intOf iv).toNat)
  case atStart => exact ⟨0, newM o0, rfl, Nat.zero_le _, rfl, rfl, rfl, M2.out, rfl⟩
  case round =>
    obtain ⟨k, v, rfl, hk, rfl, rfl, rfl, HM⟩ := hrel
    by_cases hlt : k < l1.length
    rotate_left
    · have hq : ¬ (k : Int) < (l1.length : Int) := by omega
      obtain ⟨hM, hvo⟩ := HM.out
      have SN := hM.k.seen
      have hlen := hM.k.1.len
      have LG : Hid (∀ u a c', Below wr.heap.size wr u → Sts u a v.l → Calls Try.prog 19 #[.agg #[.int .i64 o0.id, .int .i64 o0.item, .int .i64 o0.qty, .int .i64 o0.client, .int .i64 o0.price, .slice a0 o0.steps.length cap0], .slice a v.l.length c'] u fun e w' => e = .returned (.int .i64 (v.l.length : Nat)) ∧ Below u.heap.size u w') := fun u a c' hu hs => by
        have h := legal_any o0 a0 cap0 v.l a c' u (HST.out.below (bel_on' hM.bel hu)) HL.out hs (by omega)
        rw [← hvo, hM.k.1.all] at h
        rw [← hvo]
        exact h
      have SX : Hid (∀ u, Below wr.heap.size wr u → Below w.heap.size w u ∧ u.cell? ⟨w.heap.size, 0, none⟩ = some (.int .i64 o0.id) ∧ u.cell? ⟨w.heap.size, 1, none⟩ = some (.int .i64 o0.item) ∧ u.cell? ⟨w.heap.size, 2, none⟩ = some (.int .i64 o0.qty) ∧ u.cell? ⟨w.heap.size, 3, none⟩ = some (.int .i64 o0.client) ∧ u.cell? ⟨w.heap.size, 4, none⟩ = some (.int .i64 o0.price) ∧ u.cell? ⟨w.heap.size, 5, none⟩ = some (.slice a0 o0.steps.length cap0)) := fun u hu => ⟨bel_on' hM.bel hu, (hM.on hu).six⟩
      unfold OwnA at SN
      generalize v.l.length = n at *
      generalize v.l = L at *
      clear hM hvo HM hlen
      go_wp2_with (first
        | (go_at_call 15; refine SN.mono ?_; clear SN; rintro e u3 ⟨aS, cS, rfl, -, ho, hb⟩; have LG3 := LG.out u3 aS cS hb ho.sts; obtain ⟨hw3, d0, d1, d2, d3, d4, d5⟩ := SX.out u3 hb; have HW3 := hide hw3; clear hw3 ho hb)
        | (go_at_call 19; refine LG3.mono ?_; clear LG3; rintro e u4 ⟨rfl, hb⟩; have HW4 := hide (bel_on' HW3.out hb); clear hb)
        | (go_at_call 7; refine (AWK.out _ HW4.out).mono ?_; rintro e ua ⟨rfl, hb⟩; have HX := hide hb; clear hb))
      go_ret
      exact ⟨rfl, HX.out⟩
    have hq : (k : Int) < (l1.length : Int) := by omega
    obtain ⟨hM, hvo⟩ := HM.out
    obtain ⟨ba, oa, rfl, p1, p2⟩ := (HS1.out.below hM.bel).at hlt
    obtain ⟨⟨x1, x2⟩, hx⟩ : ∃ x, x = stAt l1 k := ⟨_, rfl⟩
    rw [← hx] at p1 p2
    simp only at p1 p2
    have hG := goes_on hM.k.1 (x1, x2)
    have hy0 : v.s.ship = true → v.s.yes = true := hM.k.1.ok.2.2.2.2
    have hb1 : Below wr.heap.size wr (wr.alloc (.cells #[.int .i64 x1, .int .i64 x2] 33)) := (Below.refl _ _).alloc (Nat.le_refl _) _
    have SE := (hM.on hb1).see x1 x2 rfl rfl
    obtain ⟨v', hv'⟩ : ∃ v', seeM v (x1, x2) = v' := ⟨_, rfl⟩
    have hvo' : v'.o = o0 := by rw [← hv', seeM_o]; exact hvo
    rw [hv'] at SE hG
    obtain ⟨y', hy'⟩ : ∃ y', v'.s.yes = y' := ⟨_, rfl⟩
    obtain ⟨h', hh'⟩ : ∃ h', v'.s.ship = h' := ⟨_, rfl⟩
    obtain ⟨c', hc'⟩ : ∃ c', cleanF v' = c' := ⟨_, rfl⟩
    have C3 : Hid (∀ u, MSt w o0 a0 cap0 u p v' → (Calls Try.prog 16 #[.pointer (some ⟨p, 0, none⟩)] u fun e w' => e = .returned (.bool y') ∧ MSt w o0 a0 cap0 w' p v') ∧ (Calls Try.prog 17 #[.pointer (some ⟨p, 0, none⟩)] u fun e w' => e = .returned (.bool h') ∧ MSt w o0 a0 cap0 w' p v') ∧ (Calls Try.prog 18 #[.pointer (some ⟨p, 0, none⟩)] u fun e w' => e = .returned (.bool c') ∧ MSt w o0 a0 cap0 w' p v')) := fun u hu => by
      rw [← hy', ← hh', ← hc']
      exact ⟨hu.k.sold.mono (fun e w' ⟨h1, h2⟩ => ⟨h1, hu.on h2⟩), hu.k.sent.mono (fun e w' ⟨h1, h2⟩ => ⟨h1, hu.on h2⟩), hu.k.clean.mono (fun e w' ⟨h1, h2⟩ => ⟨h1, hu.on h2⟩)⟩
    rw [hy', hh', hc'] at hG
    have HE : Hid (v'.s.yes = y' ∧ v'.s.ship = h' ∧ cleanF v' = c' ∧ v'.o = o0) := ⟨hy', hh', hc', hvo'⟩
    generalize v.s.yes = y at *
    generalize v.s.ship = h at *
    generalize cleanF v = c at *
    generalize (seeF v.o.steps.length v.s (x1, x2)).isSome = b0 at *
    clear hy' hh' hc' hv' hx hM HM hvo hvo' hb1
    obtain ⟨g1, g2, g3, g4, g5⟩ := hG
    cases y <;> cases h <;> cases c <;> cases y' <;> cases h' <;> cases c'
    all_goals first
      | (exfalso; revert g1 g2 g3 g4 g5 hy0; decide)
      | skip
    all_goals clear g1 g2 g3 g4 g5 hy0
    all_goals go_wp2_with (first
      | (go_at_call 12; refine SE.mono ?_; clear SE; rintro e u3 ⟨rfl, hm, -⟩; have HM := hide hm; clear hm)
      | (go_at_call 16; refine (C3.out _ HM.out).1.mono ?_; rintro e u4 ⟨rfl, hm⟩; clear HM; have HM := hide hm; clear hm)
      | (go_at_call 17; refine (C3.out _ HM.out).2.1.mono ?_; rintro e u4 ⟨rfl, hm⟩; clear HM; have HM := hide hm; clear hm)
      | (go_at_call 18; refine (C3.out _ HM.out).2.2.mono ?_; rintro e u4 ⟨rfl, hm⟩; clear HM; have HM := hide hm; clear hm))
    all_goals go_roundw
    all_goals first
      | exact ⟨k + 1, v', by go_num, by omega, by rw [HE.out.1], by rw [HE.out.2.1], by rw [HE.out.2.2.1], HM.out, HE.out.2.2.2⟩
      | (simp [intOf]; omega)
end Go.Proofs.Ytdoejppnifoebaa
