/-
  ModelSees: any order, whatever happens: what is seen, what it comes to.
-/
import Derived.Test.YtdoejppnifoebaaMdlP
import Derived.Test.YtdoejppnifoebaaFRef
namespace Go.Proofs.Ytdoejppnifoebaa
open Go.ChangeShapes Go.WideShapes Go.ChangeAt Go.RowKit

theorem DSt.start {w u u' : World} {o : Od} {a : Option Addr} {c p q bd bu : Nat} (hm : MSt w o a c u p (newM o)) (ht : Tr u.heap.size u' q bd bu o a c o.steps.length fs0) (hb : Below u.heap.size u u') : DSt w o a c p q bd bu u.heap.size u'.heap.size (newM o) fs0 [] (.slice none 0 0) 0 u' := by
  have hp : p < u.heap.size := hm.k.lt.2
  have e1 := (Array.getElem?_eq_some_iff.1 ht.at_).1
  have e2 := (Array.getElem?_eq_some_iff.1 ht.done).1
  have e3 := (Array.getElem?_eq_some_iff.1 ht.undone).1
  obtain ⟨o1, o2, o3, -⟩ := ht.own
  refine ⟨((hm.k.mdx.more (fun i e => ?_)).on hb), (hb.block _ (Array.getElem?_eq_some_iff.1 hm.bx).1).trans hm.bx, ⟨hm.ne, hp⟩, ht, ⟨e1, e2, e3⟩, OwnR.nil _ _, Nat.le_refl _, rfl⟩
  rcases e with e | e | e | e
  · exact .inr (by omega)
  · exact .inr (by omega)
  · exact .inr (by omega)
  · cases e
set_option maxRecDepth 100000 in
set_option maxHeartbeats 8000000 in
theorem modelSees_walk (o0 : Od) (a0 : Option Addr) (cap0 : Nat) (l1 : List (Int × Int)) (a1 : Option Addr) (cap1 : Nat) (w : World) (w0 : OdIn w o0 a0 cap0) (w1 : ActsIn w l1 a1 cap1) :
    Calls Try.prog 3 #[.agg #[.int .i64 o0.id, .int .i64 o0.item, .int .i64 o0.qty, .int .i64 o0.client, .int .i64 o0.price, .slice a0 o0.steps.length cap0], .slice a1 l1.length cap1] w fun e w' => e = .returned (.bool true) ∧ Below w.heap.size w w' := by
  obtain ⟨hl, hst, hsn, hcp⟩ := w0
  obtain ⟨hl1, hs1, -, -⟩ := w1
  obtain ⟨V, hV⟩ : ∃ V, V = w.alloc (.cells #[.int .i64 o0.id, .int .i64 o0.item, .int .i64 o0.qty, .int .i64 o0.client, .int .i64 o0.price, .slice a0 o0.steps.length cap0] 24) := ⟨_, rfl⟩
  have hbV : Below w.heap.size w V := by rw [hV]; exact (Below.refl _ _).alloc (Nat.le_refl _) _
  have hVb : V.heap[w.heap.size]? = some (.cells #[.int .i64 o0.id, .int .i64 o0.item, .int .i64 o0.qty, .int .i64 o0.client, .int .i64 o0.price, .slice a0 o0.steps.length cap0] 24 (0, 0)) := by rw [hV]; exact World.alloc_heap_new w _
  have AWK : Hid (∀ u, Below w.heap.size w u → Calls Try.prog 7 #[] u fun e w' => e = .returned (.bool true) ∧ Below w.heap.size w w') := fun u hu => (mwake_any u).mono (fun e w' ⟨h1, h2⟩ => ⟨h1, bel_on' hu h2⟩)
  obtain ⟨d0, d1, d2, d3, d4, d5⟩ := order_of_six hVb
  have HV := hide hV
  have HBV := hide hbV
  rw [hV] at d0 d1 d2 d3 d4 d5 HBV
  by_cases h10 : (o0.steps.length : Int) > 10
  · clear hsn hst hVb hbV hV
    go_enter Try.func3, Try.ntmps3
    go_wp2_with (go_at_call 7; refine (AWK.out _ HBV.out).mono ?_; rintro e ua ⟨rfl, hb⟩; have HX := hide hb; clear hb)
    go_ret
    exact ⟨rfl, HX.out⟩
  by_cases h60 : (l1.length : Int) > 60
  · clear hsn hst hVb hbV hV
    go_enter Try.func3, Try.ntmps3
    go_wp2_with (go_at_call 7; refine (AWK.out _ HBV.out).mono ?_; rintro e ua ⟨rfl, hb⟩; have HX := hide hb; clear hb)
    go_ret
    exact ⟨rfl, HX.out⟩
  have OC : Hid (∀ u, Below V.heap.size V u → u.cell? ⟨w.heap.size, 0, none⟩ = some (.int .i64 o0.id) ∧ u.cell? ⟨w.heap.size, 1, none⟩ = some (.int .i64 o0.item) ∧ u.cell? ⟨w.heap.size, 2, none⟩ = some (.int .i64 o0.qty) ∧ u.cell? ⟨w.heap.size, 3, none⟩ = some (.int .i64 o0.client) ∧ u.cell? ⟨w.heap.size, 4, none⟩ = some (.int .i64 o0.price) ∧ u.cell? ⟨w.heap.size, 5, none⟩ = some (.slice a0 o0.steps.length cap0)) := fun u hu => order_of_six ((hu.block _ (Array.getElem?_eq_some_iff.1 hVb).1).trans hVb)
  have MY : Hid (∀ u, Below w.heap.size w u → Calls Try.prog 9 #[.agg #[.int .i64 o0.id, .int .i64 o0.item, .int .i64 o0.qty, .int .i64 o0.client, .int .i64 o0.price, .slice a0 o0.steps.length cap0]] u fun e w' => e = .returned (.bool (mayO o0)) ∧ Below u.heap.size u w') := fun u hu => ref_omay_any o0 a0 cap0 u (hst.below hu) hl hcp
  cases hm : mayO o0
  · have NW := mnew_no o0 (sc := cap0) (hst.below hbV) hl hm
    rw [hV] at NW
    rw [hm] at MY
    clear hsn hst hVb hV hm
    have HB0 := hide hbV
    clear hbV
    go_enter Try.func3, Try.ntmps3
    go_wp2_with (first
      | (go_at_call 8; refine NW.mono ?_; clear NW; rintro e u1 ⟨rfl, hb⟩; rw [← HV.out] at hb; have HB1 := hide (bel_on' HB0.out hb); clear d0 d1 d2 d3 d4 d5; obtain ⟨d0, d1, d2, d3, d4, d5⟩ := OC.out u1 hb; clear hb)
      | (go_at_call 9; refine (MY.out _ HB1.out).mono ?_; rintro e u2 ⟨rfl, hb⟩; have HB2 := hide (bel_on' HB1.out hb); clear hb)
      | (go_at_call 7; refine (AWK.out _ HB2.out).mono ?_; rintro e ua ⟨rfl, hb⟩; have HX := hide hb; clear hb))
    go_ret
    exact ⟨rfl, HX.out⟩
  have h3 := may_three hm
  have NW : Hid (∀ u, Below V.heap.size V u → Calls Try.prog 8 #[.agg #[.int .i64 o0.id, .int .i64 o0.item, .int .i64 o0.qty, .int .i64 o0.client, .int .i64 o0.price, .slice a0 o0.steps.length cap0]] u fun e w' => ∃ p, e = .returned (.pointer (some ⟨p, 0, none⟩)) ∧ MSt w o0 a0 cap0 w' p (newM o0)) := fun u hu => by
    have hwu := bel_on' hbV hu
    have hbu := (hu.block _ (Array.getElem?_eq_some_iff.1 hVb).1).trans hVb
    refine (mnew_any hwu o0 (hst.below hwu) hsn hm).mono ?_
    rintro e w' ⟨p, h1, h2, h3, h4⟩
    have := (Array.getElem?_eq_some_iff.1 hbu).1
    exact ⟨p, h1, ⟨h2, (h3.block _ (Array.getElem?_eq_some_iff.1 hbu).1).trans hbu, by omega⟩⟩
  have NT : Hid (∀ u p, MSt w o0 a0 cap0 u p (newM o0) → Calls Try.prog 10 #[.agg #[.int .i64 o0.id, .int .i64 o0.item, .int .i64 o0.qty, .int .i64 o0.client, .int .i64 o0.price, .slice a0 o0.steps.length cap0]] u fun e w' => ∃ q bd bu Bt R, e = .returned (.pointer (some ⟨q, 0, none⟩)) ∧ DSt w o0 a0 cap0 p q bd bu Bt R (newM o0) fs0 [] (.slice none 0 0) 0 w') := fun u p k => by
    refine (newtrace_any o0 a0 cap0 u h3).mono ?_
    rintro e w' ⟨q, bd, bu, h1, h2, h4⟩
    exact ⟨q, bd, bu, _, _, h1, DSt.start k h2 h4⟩
  have HS1 := hide hs1
  have HST := hide hst
  rw [hm] at MY
  have N0 := NW.out V (Below.refl _ _)
  rw [hV] at N0
  clear hsn hst hVb hbV hV hs1 hm
  go_enter Try.func3, Try.ntmps3
  go_wp2_with (first
    | (go_at_call 8; refine N0.mono ?_; clear N0; rintro e u1 ⟨p, rfl, hm⟩; have M1 := hide hm; clear d0 d1 d2 d3 d4 d5; obtain ⟨d0, d1, d2, d3, d4, d5⟩ := hm.six; clear hm)
    | (go_at_call 9; refine (MY.out _ M1.out.bel).mono ?_; rintro e u2 ⟨rfl, hb⟩; have M2 := hide (M1.out.on hb); clear hb d0 d1 d2 d3 d4 d5; obtain ⟨d0, d1, d2, d3, d4, d5⟩ := M2.out.six)
    | (go_at_call 10; refine (NT.out _ _ M2.out).mono ?_; rintro e u3 ⟨q, bd, bu, Bt, R, rfl, hd⟩; have D3 := hide hd; clear hd d0 d1 d2 d3 d4 d5))
  go_loopw [7, 39] (fun sv iv wr => ∃ (k n : Nat) (v : Ml) (av : Option Addr) (cv : Nat), iv = .int .i64 k ∧ k ≤ l1.length ∧ n ≤ k ∧ sv = .slice av n cv ∧ Hid (DSt w o0 a0 cap0 p q bd bu Bt R v v.s v.l (.slice av n cv) n wr)) (fun _ iv _ => l1.length - (intOf iv).toNat)
  case atStart => exact ⟨0, 0, newM o0, none, 0, rfl, Nat.zero_le _, Nat.le_refl _, rfl, D3⟩
  case round =>
    obtain ⟨k, n, v, av, cv, rfl, hk, hnk, rfl, HD⟩ := hrel
    by_cases hlt : k < l1.length
    · have hq : (k : Int) < (l1.length : Int) := by omega
      obtain ⟨ba, oa, rfl, p1, p2⟩ := (HS1.out.below HD.out.m.bel).at hlt
      obtain ⟨⟨x1, x2⟩, hx⟩ : ∃ x, x = stAt l1 k := ⟨_, rfl⟩
      rw [← hx] at p1 p2
      simp only at p1 p2
      clear hx
      have hb1 : Below wr.heap.size wr (wr.alloc (.cells #[.int .i64 x1, .int .i64 x2] 33)) := (Below.refl _ _).alloc (Nat.le_refl _) _
      have hd1 := HD.out.on hb1
      have hoo := hd1.oo
      have hRs := HD.out.rs
      have hac : (wr.alloc (.cells #[.int .i64 x1, .int .i64 x2] 33)).heap[wr.heap.size]? = some (.cells #[.int .i64 x1, .int .i64 x2] 33 (0, 0)) := World.alloc_heap_new wr _
      have TS := hd1.tsee (by rw [← hoo]; exact hd1.k.1.ok) h3 x1 x2
      have hn6 : n ≤ 1000 := by omega
      have hown : ∀ i, (Value.slice av n cv).ownBlock = some i → i < wr.heap.size := fun i e => (HD.out.own i e).2
      have HOWN := hide hown
      have HAC := hide hac
      have HD1 := hide hd1
      have MS : Hid (∀ u s L sv n v', DSt w o0 a0 cap0 p q bd bu Bt R v s L sv n u → seeM v (x1, x2) = v' → Calls Try.prog 12 #[.pointer (some ⟨p, 0, none⟩), .agg #[.int .i64 x1, .int .i64 x2]] u fun e w' => e = .returned (.bool (seeF v.o.steps.length v.s (x1, x2)).isSome) ∧ DSt w o0 a0 cap0 p q bd bu Bt R v' s L sv n w' ∧ ∀ i ob, R ≤ i → u.heap[i]? = some ob → w'.heap[i]? = some ob) := fun u s L sv n v' h hv => h.msee x1 x2 hv
      rw [hoo] at MS
      clear hd1 hb1 hac hown
      cases hs : seeF o0.steps.length v.s (x1, x2) with
      | none =>
        rw [hs] at TS MS
        have hse : seeM v (x1, x2) = v := seeM_none (by rw [hoo]; exact hs)
        have HSE := hide hse
        clear hse hs hoo
        simp only [Option.isSome_none, Option.getD_none] at TS MS
        go_wp2_with (first
          | (go_at_call 11; refine TS.mono ?_; clear TS; rintro e u4 ⟨rfl, hd4, hk4⟩; have hx4 := hk4 _ _ hRs HAC.out; obtain ⟨b0, b1⟩ := two_of hx4; have M4 := MS.out u4 _ _ _ _ _ hd4 HSE.out; clear hd4 hk4 hx4)
          | (go_at_call 12; refine M4.mono ?_; clear M4; rintro e u5 ⟨rfl, hd5, -⟩; have HD5 := hide hd5; clear hd5 b0 b1))
        go_roundw
        case rel => exact ⟨k + 1, n, v, av, cv, by go_num, by omega, by omega, rfl, HD5⟩
        case measure => simp [intOf]; omega
      | some s2 =>
        rw [hs] at TS MS
        have hse : seeM v (x1, x2) = ⟨v.o, v.l ++ [(x1, x2)], s2⟩ := seeM_some (by rw [hoo]; exact hs)
        have HSE := hide hse
        clear hse hs hoo
        simp only [Option.isSome_some, Option.getD_some] at TS MS
        go_wp2_with (first
          | (go_at_call 11; refine TS.mono ?_; clear TS; rintro e u4 ⟨rfl, hd4, hk4⟩; have hx4 := hk4 _ _ hRs HAC.out; have HX4 := hide hx4; obtain ⟨b0, b1⟩ := two_of hx4; have D4 := hide hd4; have hb5 : Below u4.heap.size u4 (u4.alloc (.cells #[.int .i64 x1, .int .i64 x2] 33)) := (Below.refl _ _).alloc (Nat.le_refl _) _; have D5 := hide (hd4.on hb5); have hr5 : R ≤ (u4.alloc (.cells #[.int .i64 x1, .int .i64 x2] 33)).heap.size := (hd4.on hb5).rs; clear hd4 hk4 hx4 hb5)
          | (at_builtin; refine append_G rfl (.tmp 47) (.tmp 49) rfl R (.slice av n cv) n v.l rfl D5.out.r ⟨u4.heap.size, 0, none⟩ [(x1, x2)] 1 1 rfl rfl (acts_one u4 x1 x2) (by omega) hr5 ?_; intro a6 c6 u6 o6 g6 v6; have D6 := hide (D5.out.app o6 g6 v6); have hx6 : u6.heap[wr.heap.size]? = _ := (g6.block _ (by have := (Array.getElem?_eq_some_iff.1 HX4.out).1; simp; omega) (fun e => by have := HOWN.out _ e.symm; omega)).trans ((Below.heap_alloc _ _ _ (Array.getElem?_eq_some_iff.1 HX4.out).1).trans HX4.out); clear b0 b1; obtain ⟨b0, b1⟩ := two_of hx6; have M6 := MS.out u6 _ _ _ _ _ D6.out HSE.out; clear o6 g6 v6 hx6)
          | (go_at_call 12; refine M6.mono ?_; clear M6; rintro e u7 ⟨rfl, hd7, -⟩; have HD7 := hide hd7; clear hd7 b0 b1))
        go_roundw
        case rel => exact ⟨k + 1, n + 1, ⟨v.o, v.l ++ [(x1, x2)], s2⟩, a6, c6, by go_num, by omega, by omega, rfl, HD7⟩
        case measure => simp [intOf]; omega
    have hq : ¬ (k : Int) < (l1.length : Int) := by omega
    have hg := HD.out.k.1
    have hoo := HD.out.oo
    have hud : v.s.u ≤ v.s.d ∧ v.s.d ≤ o0.steps.length := by
      obtain ⟨k1, k2, -⟩ := hg.ok
      rw [hoo] at k2
      exact ⟨k1, k2⟩
    obtain ⟨g6, g7, g8, g9, g10, g11⟩ := HD.out.t.cells
    obtain ⟨d0, d1, d2, d3, d4, d5⟩ := HD.out.m.six
    obtain ⟨N, hN⟩ : ∃ N, o0.steps.length = N := ⟨_, rfl⟩
    have RD : Hid (∀ u, DSt w o0 a0 cap0 p q bd bu Bt R v v.s v.l (.slice av n cv) n u → ∀ j, j < N → (u.cell? ⟨q, 6, none⟩ = some (.slice (some ⟨bd, 0, none⟩) N N) ∧ u.cell? ⟨q, 7, none⟩ = some (.slice (some ⟨bu, 0, none⟩) N N) ∧ u.cell? ⟨bd, j, none⟩ = some (.bool (decide (j < v.s.d))) ∧ u.cell? ⟨bu, j, none⟩ = some (.bool (decide (v.s.u ≤ j ∧ j < v.s.d)))) ∧
        Calls Try.prog 13 #[.pointer (some ⟨p, 0, none⟩), .int .i64 (stAt o0.steps j).1] u fun e w' => e = .returned (.int .i64 (if j < v.s.u then (stAt o0.steps j).2 else 0)) ∧ Below u.heap.size u w') := fun u h j hj => by
      obtain ⟨c6, c7, -⟩ := h.t.cells
      rw [hN] at c6 c7
      refine ⟨⟨c6, c7, h.t.doneAt (by omega), h.t.undoneAt (by omega)⟩, ?_⟩
      have hh := held_step h.k.1 (j := j) (by rw [hoo]; omega)
      rw [hoo] at hh
      exact h.m.k.held _ hh
    have HCF : Hid ((v.s.no && decide (min N v.s.u = 0)) = cleanF v) := by
      show _ = _
      unfold cleanF
      rw [Nat.min_eq_right (by omega)]
    have SN : Hid (∀ u, DSt w o0 a0 cap0 p q bd bu Bt R v v.s v.l (.slice av n cv) n u → Calls Try.prog 15 #[.pointer (some ⟨p, 0, none⟩)] u fun e w' => ∃ aS cS, e = .returned (.slice aS n cS) ∧ (Sts w' aS v.l ∧ DSt w o0 a0 cap0 p q bd bu Bt R v v.s v.l (.slice av n cv) n w')) := fun u h => by
      refine h.m.k.seen.mono ?_
      rintro e w' ⟨aS, cS, h1, -, h2, h3⟩
      exact ⟨aS, cS, by rw [h1, h.r.1], h2.sts, h.on h3⟩
    have SM : Hid (∀ u aS cS, Sts u aS v.l ∧ DSt w o0 a0 cap0 p q bd bu Bt R v v.s v.l (.slice av n cv) n u → Calls Try.prog 14 #[.slice aS n cS, .slice av n cv] u fun e w' => e = .returned (.bool true) ∧ DSt w o0 a0 cap0 p q bd bu Bt R v v.s v.l (.slice av n cv) n w') := fun u aS cS h =>
      (same_acts aS av v.l n cS cv u h.2.r.1 (by have := h.2.k.1.len; have := h.2.r.1; omega) h.1 h.2.r.sts).mono (fun e w' ⟨h1, h2⟩ => ⟨h1, h.2.on h2⟩)
    obtain ⟨y, hy⟩ : ∃ y, v.s.yes = y := ⟨_, rfl⟩
    obtain ⟨z, hz⟩ : ∃ z, v.s.ship = z := ⟨_, rfl⟩
    have CL : Hid (∀ u, DSt w o0 a0 cap0 p q bd bu Bt R v v.s v.l (.slice av n cv) n u → (u.cell? ⟨q, 8, none⟩ = some (.bool y) ∧ u.cell? ⟨q, 10, none⟩ = some (.bool z)) ∧
        (Calls Try.prog 16 #[.pointer (some ⟨p, 0, none⟩)] u fun e w' => e = .returned (.bool y) ∧ DSt w o0 a0 cap0 p q bd bu Bt R v v.s v.l (.slice av n cv) n w') ∧
        (Calls Try.prog 17 #[.pointer (some ⟨p, 0, none⟩)] u fun e w' => e = .returned (.bool z) ∧ DSt w o0 a0 cap0 p q bd bu Bt R v v.s v.l (.slice av n cv) n w') ∧
        (Calls Try.prog 18 #[.pointer (some ⟨p, 0, none⟩)] u fun e w' => e = .returned (.bool (cleanF v)) ∧ DSt w o0 a0 cap0 p q bd bu Bt R v v.s v.l (.slice av n cv) n w') ∧
        (Calls Try.prog 13 #[.pointer (some ⟨p, 0, none⟩), .int .i64 1] u fun e w' => e = .returned (.int .i64 0) ∧ DSt w o0 a0 cap0 p q bd bu Bt R v v.s v.l (.slice av n cv) n w')) := fun u h => by
      obtain ⟨-, -, c8, -, c10, -⟩ := h.t.cells
      rw [← hy, ← hz]
      exact ⟨⟨c8, c10⟩, h.m.k.sold.mono (fun e w' ⟨h1, h2⟩ => ⟨h1, h.on h2⟩), h.m.k.sent.mono (fun e w' ⟨h1, h2⟩ => ⟨h1, h.on h2⟩), h.m.k.clean.mono (fun e w' ⟨h1, h2⟩ => ⟨h1, h.on h2⟩), (h.m.k.held 1 (held_stock h.k.1)).mono (fun e w' ⟨h1, h2⟩ => ⟨h1, h.on h2⟩)⟩
    have BW : Hid (∀ u, DSt w o0 a0 cap0 p q bd bu Bt R v v.s v.l (.slice av n cv) n u → Below w.heap.size w u) := fun u h => h.m.bel
    have ON : Hid (∀ u u', DSt w o0 a0 cap0 p q bd bu Bt R v v.s v.l (.slice av n cv) n u → Below u.heap.size u u' → DSt w o0 a0 cap0 p q bd bu Bt R v v.s v.l (.slice av n cv) n u') := fun u u' h hb => h.on hb
    obtain ⟨f, hf⟩ : ∃ f, v.s.no = f := ⟨_, rfl⟩
    have hN3 : N ≤ 3 := by omega
    have hud2 : v.s.u ≤ v.s.d ∧ v.s.d ≤ N := by omega
    generalize DSt w o0 a0 cap0 p q bd bu Bt R v v.s v.l (.slice av n cv) n = DD at *
    generalize v.l = L at *
    rw [hf] at g9 HCF
    rw [hN] at d5
    generalize cleanF v = cl at *
    generalize v.s.u = su at *
    generalize v.s.d = sd at *
    clear hg hoo hud hy hz hf
    have HNN := hide hN
    clear hN
    go_wp2_with fail
    clear g6 g7 g8 g9 g10 g11 d0 d1 d2 d3 d4
    obtain ⟨w4, hw4⟩ : ∃ w4, w4 = wr := ⟨_, rfl⟩
    rw [← hw4] at HD d5 ⊢
    clear hw4
    go_loopw [11, 64] (fun cv iv wr => ∃ j : Nat, iv = .int .i64 j ∧ j ≤ N ∧ cv = .bool (f && decide (min j su = 0)) ∧ Hid (DD wr)) (fun _ iv _ => N - (intOf iv).toNat)
    case atStart => exact ⟨0, rfl, Nat.zero_le _, by simp, HD⟩
    case round =>
      obtain ⟨j, rfl, hj, rfl, HD2⟩ := hrel
      by_cases hlt2 : j < N
      · have q1 : (j : Int) < (N : Int) := by omega
        obtain ⟨bs, os, rfl, e0, e1⟩ := (HST.out.below (BW.out _ HD2.out)).at (i := j) (by rw [HNN.out]; exact hlt2)
        have hb : Below wr.heap.size wr (wr.alloc (.cells #[.int .i64 (stAt o0.steps j).1, .int .i64 (stAt o0.steps j).2] 39)) := (Below.refl _ _).alloc (Nat.le_refl _) _
        have hD3 := ON.out _ _ HD2.out hb
        obtain ⟨⟨c6, c7, cdj, cuj⟩, HL⟩ := RD.out _ hD3 j hlt2
        have HD3 := hide hD3
        generalize (stAt o0.steps j).1 = y1 at *
        generalize (stAt o0.steps j).2 = y2 at *
        clear hb hD3
        by_cases hsu : j < su
        · rw [show decide (j < sd) = true by simp; omega] at cdj
          rw [show decide (su ≤ j ∧ j < sd) = false by simp; omega] at cuj
          rw [if_pos hsu] at HL
          have HCC : Hid (false = (f && decide (min (j + 1) su = 0))) := by
            show _ = _
            rw [show decide (min (j + 1) su = 0) = false by simp; omega, Bool.and_false]
          go_wp2_with (first
            | (go_at_call 13; refine HL.mono ?_; clear HL; rintro e u5 ⟨rfl, hb⟩; have HD5 := hide (ON.out _ _ HD3.out hb); clear hb c6 c7 cdj cuj e0 e1))
          go_roundw
          case rel => exact ⟨j + 1, by go_num, by omega, by rw [← HCC.out], HD5⟩
          case measure => simp [intOf]; omega
        · rw [show decide (su ≤ j ∧ j < sd) = decide (j < sd) by rw [decide_eq_decide]; omega] at cuj
          rw [if_neg hsu] at HL
          have HCC : Hid ((f && decide (min j su = 0)) = (f && decide (min (j + 1) su = 0))) := by
            show _ = _
            rw [show min j su = min (j + 1) su by omega]
          generalize (f && decide (min j su = 0)) = ff at *
          by_cases hsd : j < sd
          · rw [show decide (j < sd) = true by simpa using hsd] at cdj cuj
            go_wp2_with (first
              | (go_at_call 13; refine HL.mono ?_; clear HL; rintro e u5 ⟨rfl, hb⟩; have HD5 := hide (ON.out _ _ HD3.out hb); clear hb c6 c7 cdj cuj e0 e1))
            go_roundw
            case rel => exact ⟨j + 1, by go_num, by omega, by rw [← HCC.out], HD5⟩
            case measure => simp [intOf]; omega
          · rw [show decide (j < sd) = false by simpa using hsd] at cdj cuj
            go_wp2_with (first
              | (go_at_call 13; refine HL.mono ?_; clear HL; rintro e u5 ⟨rfl, hb⟩; have HD5 := hide (ON.out _ _ HD3.out hb); clear hb c6 c7 cdj cuj e0 e1))
            go_roundw
            case rel => exact ⟨j + 1, by go_num, by omega, by rw [← HCC.out], HD5⟩
            case measure => simp [intOf]; omega
      · have q1 : ¬ (j : Int) < (N : Int) := by omega
        have hcc : (f && decide (min j su = 0)) = cl := by rw [← HCF.out, show j = N by omega]
        rw [hcc]
        clear hcc HCF hlt2 d5
        obtain ⟨⟨k8, k10⟩, -⟩ := CL.out _ HD2.out
        obtain ⟨w5, hw5⟩ : ∃ w5, w5 = wr := ⟨_, rfl⟩
        rw [← hw5] at HD2 k8 k10 ⊢
        clear hw5
        have HD6 := hide (ON.out _ w5.drew HD2.out (Below.refl _ _).drew)
        have yy : (y == y) = true := by cases y <;> rfl
        have zz : (z == z) = true := by cases z <;> rfl
        have cc : (cl == cl) = true := by cases cl <;> rfl
        go_wp2_with fail
        go_region_held3 (fun w' => w'.cell? ⟨q, 8, none⟩ = some (.bool y) ∧ w'.cell? ⟨q, 10, none⟩ = some (.bool z)) (go_keep) (first
          | (go_at_call 15; refine (SN.out _ (by first | exact HD6.out | exact HD2.out)).mono ?_; rintro e u6 ⟨aS, cS, rfl, hs⟩; have HS6 := hide hs; clear k8 k10; obtain ⟨⟨k8, k10⟩, -⟩ := CL.out _ hs.2; clear hs)
          | (go_at_call 14; refine (SM.out _ aS cS HS6.out).mono ?_; rintro e u7 ⟨rfl, hs⟩; have HS7 := hide hs; clear k8 k10; obtain ⟨⟨k8, k10⟩, -⟩ := CL.out _ hs; clear hs)
          | (go_at_call 16; refine (CL.out _ HS7.out).2.1.mono ?_; rintro e u8 ⟨rfl, hs⟩; clear HS7; have HS7 := hide hs; clear k8 k10; obtain ⟨⟨k8, k10⟩, -⟩ := CL.out _ hs; clear hs)
          | (go_at_call 17; refine (CL.out _ HS7.out).2.2.1.mono ?_; rintro e u9 ⟨rfl, hs⟩; clear HS7; have HS7 := hide hs; clear k8 k10; obtain ⟨⟨k8, k10⟩, -⟩ := CL.out _ hs; clear hs)
          | (go_at_call 18; refine (CL.out _ HS7.out).2.2.2.1.mono ?_; rintro e u10 ⟨rfl, hs⟩; clear HS7; have HS7 := hide hs; clear k8 k10; obtain ⟨⟨k8, k10⟩, -⟩ := CL.out _ hs; clear hs)
          | (go_at_call 13; refine (CL.out _ HS7.out).2.2.2.2.mono ?_; rintro e u11 ⟨rfl, hs⟩; clear HS7; have HS7 := hide hs; clear k8 k10; obtain ⟨⟨k8, k10⟩, -⟩ := CL.out _ hs; clear hs)
          | (go_at_call 7; refine (mwake_any _).mono ?_; rintro e u12 ⟨rfl, hb⟩; have hs := ON.out _ _ HS7.out hb; have HX := hide (BW.out _ hs); clear k8 k10; obtain ⟨⟨k8, k10⟩, -⟩ := CL.out _ hs; clear hs hb))
        all_goals go_wp2
        all_goals go_ret
        all_goals exact ⟨rfl, HX.out⟩
end Go.Proofs.Ytdoejppnifoebaa
