/-
  Contract: Legal of package flow.
-/
import Derived.Test.YtdoejppnifoebaaFlwL
import Derived.Test.YtdoejppnifoebaaFlwT
namespace Go.Proofs.Ytdoejppnifoebaa
open Go.ChangeShapes Go.WideShapes Go.ChangeAt Go.RowKit

/-- What the program asks of a state, in its order, and what happens then. -/
theorem may_see {n : Nat} {s : Fs} (hs : Fok n s) (a : Int × Int) :
    (mDone n s.d ((s.d - s.u : Nat) : Int) a.1 a.2 = true ∧ seeF n s a = some ⟨s.d + 1, s.u + 1, s.yes, s.no, s.ship⟩ ∧ s.u = s.d) ∨
    (mDone n s.d ((s.d - s.u : Nat) : Int) a.1 a.2 = false ∧ mUndone s.d ((s.d - s.u : Nat) : Int) s.no a.1 a.2 = true ∧ seeF n s a = some ⟨s.d, s.u - 1, s.yes, s.no, s.ship⟩ ∧ 0 < s.u) ∨
    (mDone n s.d ((s.d - s.u : Nat) : Int) a.1 a.2 = false ∧ mUndone s.d ((s.d - s.u : Nat) : Int) s.no a.1 a.2 = false ∧ mCommit n s.d s.yes s.no a.1 a.2 = true ∧ seeF n s a = some ⟨s.d, s.u, true, s.no, s.ship⟩) ∨
    (mDone n s.d ((s.d - s.u : Nat) : Int) a.1 a.2 = false ∧ mUndone s.d ((s.d - s.u : Nat) : Int) s.no a.1 a.2 = false ∧ mCommit n s.d s.yes s.no a.1 a.2 = false ∧ mAbort s.yes s.no a.1 a.2 = true ∧ seeF n s a = some ⟨s.d, s.u, s.yes, true, s.ship⟩) ∨
    (mDone n s.d ((s.d - s.u : Nat) : Int) a.1 a.2 = false ∧ mUndone s.d ((s.d - s.u : Nat) : Int) s.no a.1 a.2 = false ∧ mCommit n s.d s.yes s.no a.1 a.2 = false ∧ mAbort s.yes s.no a.1 a.2 = false ∧ mShip s.yes s.ship a.1 a.2 = true ∧ seeF n s a = some ⟨s.d, s.u, s.yes, s.no, true⟩) ∨
    (mDone n s.d ((s.d - s.u : Nat) : Int) a.1 a.2 = false ∧ mUndone s.d ((s.d - s.u : Nat) : Int) s.no a.1 a.2 = false ∧ mCommit n s.d s.yes s.no a.1 a.2 = false ∧ mAbort s.yes s.no a.1 a.2 = false ∧ mShip s.yes s.ship a.1 a.2 = false ∧ seeF n s a = none) := by
  obtain ⟨k, x⟩ := a
  obtain ⟨h1, h2, h3, h4, h5⟩ := hs
  simp only
  cases b1 : mDone n s.d ((s.d - s.u : Nat) : Int) k x
  rotate_left
  · unfold mDone at b1
    simp only [Bool.and_eq_true, decide_eq_true_eq] at b1
    obtain ⟨⟨⟨rfl, rfl⟩, c3⟩, c4⟩ := b1
    have hy : s.yes = false := by
      cases e : s.yes
      · rfl
      · have := (h4 e).2.1; omega
    have hu : s.u = s.d := by omega
    refine .inl ⟨rfl, ?_, hu⟩
    unfold seeF
    rw [if_pos rfl, if_pos ⟨rfl, by omega, hy, hu⟩]
  cases b2 : mUndone s.d ((s.d - s.u : Nat) : Int) s.no k x
  rotate_left
  · unfold mUndone at b2
    simp only [Bool.and_eq_true, decide_eq_true_eq] at b2
    obtain ⟨⟨⟨rfl, c2⟩, c3⟩, c4⟩ := b2
    have hu : 0 < s.u := by omega
    refine .inr (.inl ⟨rfl, rfl, ?_, hu⟩)
    unfold seeF
    rw [if_neg (by simp), if_pos rfl, if_pos ⟨c4, hu, by omega⟩]
  cases b3 : mCommit n s.d s.yes s.no k x
  rotate_left
  · unfold mCommit at b3
    simp only [Bool.and_eq_true, decide_eq_true_eq, Bool.not_eq_true'] at b3
    obtain ⟨⟨⟨⟨rfl, rfl⟩, c2⟩, c3⟩, c4⟩ := b3
    have hu : s.u = s.d := by
      by_cases e : s.u < s.d
      · have := h3 e; rw [c4] at this; cases this
      · omega
    refine .inr (.inr (.inl ⟨rfl, rfl, rfl, ?_⟩))
    unfold seeF
    rw [if_neg (by simp), if_neg (by simp), if_pos rfl, if_pos ⟨rfl, c3, c4, by omega, hu⟩]
  cases b4 : mAbort s.yes s.no k x
  rotate_left
  · unfold mAbort at b4
    simp only [Bool.and_eq_true, decide_eq_true_eq, Bool.not_eq_true'] at b4
    obtain ⟨⟨⟨rfl, rfl⟩, c3⟩, c4⟩ := b4
    refine .inr (.inr (.inr (.inl ⟨rfl, rfl, rfl, rfl, ?_⟩)))
    unfold seeF
    rw [if_neg (by simp), if_neg (by simp), if_neg (by simp), if_pos rfl, if_pos ⟨rfl, c3, c4⟩]
  cases b5 : mShip s.yes s.ship k x
  rotate_left
  · unfold mShip at b5
    simp only [Bool.and_eq_true, decide_eq_true_eq, Bool.not_eq_true'] at b5
    obtain ⟨⟨⟨rfl, rfl⟩, c3⟩, c4⟩ := b5
    refine .inr (.inr (.inr (.inr (.inl ⟨rfl, rfl, rfl, rfl, rfl, ?_⟩))))
    unfold seeF
    rw [if_neg (by simp), if_neg (by simp), if_neg (by simp), if_neg (by simp), if_pos rfl, if_pos ⟨rfl, c3, c4⟩]
  refine .inr (.inr (.inr (.inr (.inr ⟨rfl, rfl, rfl, rfl, rfl, ?_⟩))))
  cases hs : seeF n s (k, x) with
  | none => rfl
  | some s' =>
    exfalso
    rcases see_cases hs with ⟨e, c1, c2, c3, -⟩ | ⟨e, c1, c2, -⟩ | ⟨e, c1, c2, c3, c4, -⟩ | ⟨e, c1, c2, -⟩ | ⟨e, c1, c2, -⟩ <;> cases e
    · unfold mDone at b1; simp at b1; omega
    · unfold mUndone at b2; simp [c1] at b2; omega
    · unfold mCommit at b3; simp [c1, c2] at b3; omega
    · unfold mAbort at b4; simp [c1, c2] at b4
    · unfold mShip at b5; simp [c1, c2] at b5

theorem past_of {u : World} {n : Nat} {t : TypeId} {v0 v1 v2 v3 v4 v5 : Value} (h : u.heap[n]? = some (.cells #[v0, v1, v2, v3, v4, v5] t (0, 0))) : (u.cell? ⟨n, 0, none⟩ = some v0 ∧ u.cell? ⟨n, 1, none⟩ = some v1 ∧ u.cell? ⟨n, 2, none⟩ = some v2 ∧ u.cell? ⟨n, 3, none⟩ = some v3 ∧ u.cell? ⟨n, 4, none⟩ = some v4 ∧ u.cell? ⟨n, 5, none⟩ = some v5) ∧ (u.frozen? ⟨n, 0, none⟩ = false ∧ u.frozen? ⟨n, 1, none⟩ = false ∧ u.frozen? ⟨n, 2, none⟩ = false ∧ u.frozen? ⟨n, 3, none⟩ = false ∧ u.frozen? ⟨n, 4, none⟩ = false ∧ u.frozen? ⟨n, 5, none⟩ = false) := by
  refine ⟨⟨?_, ?_, ?_, ?_, ?_, ?_⟩, frozen_of_row _ _ _ _ _ h, frozen_of_row _ _ _ _ _ h, frozen_of_row _ _ _ _ _ h, frozen_of_row _ _ _ _ _ h, frozen_of_row _ _ _ _ _ h, frozen_of_row _ _ _ _ _ h⟩
  all_goals (rw [cell_of h]; rfl)
theorem two_of {u : World} {n : Nat} {t : TypeId} {v0 v1 : Value} (h : u.heap[n]? = some (.cells #[v0, v1] t (0, 0))) : u.cell? ⟨n, 0, none⟩ = some v0 ∧ u.cell? ⟨n, 1, none⟩ = some v1 := by
  refine ⟨?_, ?_⟩
  all_goals (rw [cell_of h]; rfl)
theorem legal_step {n : Nat} {l : List (Int × Int)} {k : Nat} {s s' : Fs} (hk : k < l.length) (h : goF n fs0 (l.take k) = some s) (hs : seeF n s (stAt l k) = some s') : goF n fs0 (l.take (k + 1)) = some s' := by
  rw [goF_next hk h, ← stAt_get hk, hs]
theorem legal_stop {o : Od} {l : List (Int × Int)} {k : Nat} {s : Fs} (hm : mayO o = true) (hk : k < l.length) (h : goF o.steps.length fs0 (l.take k) = some s) (hs : seeF o.steps.length s (stAt l k) = none) : legalO o l = k := by
  unfold legalO
  rw [if_pos hm]
  exact runF_stop hk h (by rw [← stAt_get hk]; exact hs)
theorem legal_all {o : Od} {l : List (Int × Int)} {s : Fs} (hm : mayO o = true) (h : goF o.steps.length fs0 (l.take l.length) = some s) : legalO o l = l.length := by
  rw [List.take_length] at h
  exact legal_go hm h
theorem may_three {o : Od} (h : mayO o = true) : o.steps.length ≤ 3 := (mayO_parts h).2.2.2.2.2.1

set_option maxRecDepth 100000 in
set_option maxHeartbeats 4000000 in
theorem legal_any (o : Od) (a : Option Addr) (c : Nat) (l : List (Int × Int)) (al : Option Addr) (cl : Nat) (w : World) (ha : Sts w a o.steps) (hl : o.steps.length ≤ 9223372036854775807) (hal : Sts w al l) (hll : l.length ≤ 9223372036854775807) :
    Calls Try.prog 19 #[.agg #[.int .i64 o.id, .int .i64 o.item, .int .i64 o.qty, .int .i64 o.client, .int .i64 o.price, .slice a o.steps.length c], .slice al l.length cl] w fun e w' => e = .returned (.int .i64 (legalO o l : Nat)) ∧ Below w.heap.size w w' := by
  obtain ⟨V, hV⟩ : ∃ V, V = w.alloc (.cells #[.int .i64 o.id, .int .i64 o.item, .int .i64 o.qty, .int .i64 o.client, .int .i64 o.price, .slice a o.steps.length c] 24) := ⟨_, rfl⟩
  have hbV : Below w.heap.size w V := by rw [hV]; exact (Below.refl _ _).alloc (Nat.le_refl _) _
  have hVb : V.heap[w.heap.size]? = some (.cells #[.int .i64 o.id, .int .i64 o.item, .int .i64 o.qty, .int .i64 o.client, .int .i64 o.price, .slice a o.steps.length c] 24 (0, 0)) := by rw [hV]; exact World.alloc_heap_new w _
  have MY := omay_any o a c V (ha.below hbV) hl
  rw [hV] at MY
  have HV := hide hV
  have HBV := hide hbV
  have HVB := hide hVb
  have HSL := hide hal
  clear hV hbV hVb ha hal
  cases hm : mayO o
  · have HF : Hid (legalO o l = 0) := legal_not l hm
    rw [hm] at MY
    go_enter Try.func19, Try.ntmps19
    go_wp2_with fail
    go_step3
    go_wp2_with fail
    refine MY.mono ?_
    rintro e w1 ⟨rfl, hb1⟩
    rw [← HV.out] at hb1
    have HB1 := hide (bel_on' HBV.out hb1)
    clear hb1 MY
    go_wp2
    try rw [Exit.noGoto_ret]
    go_ret
    exact ⟨ret_int (by rw [HF.out]; rfl), HB1.out⟩
  have HM := hide hm
  have h3 := may_three hm
  rw [hm] at MY
  clear hm
  go_enter Try.func19, Try.ntmps19
  go_wp2_with fail
  go_step3
  go_wp2_with fail
  refine MY.mono ?_
  rintro e w1 ⟨rfl, hb1⟩
  rw [← HV.out] at hb1
  have HB1 := hide (bel_on' HBV.out hb1)
  have hx := (hb1.block _ (Array.getElem?_eq_some_iff.1 HVB.out).1).trans HVB.out
  have c5 := cell_of (i := 5) hx
  simp at c5
  clear hb1 MY hx
  obtain ⟨U, hU⟩ : ∃ U, U = w1.alloc (.cells #[.int .i64 o.steps.length, .int .i64 0, .int .i64 0, .bool false, .bool false, .bool false] 58) := ⟨_, rfl⟩
  have HBU : Hid (Below w.heap.size w U) := by show Below _ _ _; rw [hU]; exact HB1.out.alloc HB1.out.size _
  have HUB : Hid (U.heap[w1.heap.size]? = some (.cells #[.int .i64 o.steps.length, .int .i64 0, .int .i64 0, .bool false, .bool false, .bool false] 58 (0, 0))) := by show _ = _; rw [hU]; exact World.alloc_heap_new w1 _
  have hw1 : w.heap.size ≤ w1.heap.size := HB1.out.size
  go_wp2
  go_step3
  go_wp2
  rw [← hU]
  clear hU c5
  go_loopw [6, 18] (fun nv iv wr => ∃ (k : Nat) (s : Fs), nv = .int .i64 k ∧ iv = .int .i64 k ∧ k ≤ l.length ∧ Hid (goF o.steps.length fs0 (l.take k) = some s) ∧ Hid (Below w.heap.size w wr) ∧ Hid (wr.heap[w1.heap.size]? = some (.cells #[.int .i64 o.steps.length, .int .i64 s.d, .int .i64 ((s.d - s.u : Nat) : Int), .bool s.yes, .bool s.no, .bool s.ship] 58 (0, 0)))) (fun _ iv _ => l.length - (intOf iv).toNat)
  case atStart => exact ⟨0, fs0, rfl, rfl, Nat.zero_le _, rfl, HBU, HUB⟩
  case round =>
    obtain ⟨k, s, rfl, rfl, hk, HGO, HB, HPB⟩ := hrel
    by_cases hlt : k < l.length
    rotate_left
    · have q1 : ¬ (k : Int) < (l.length : Int) := by omega
      have HF : Hid (legalO o l = k) := by
        show _ = _
        have e : k = l.length := by omega
        have := HGO.out
        rw [e] at this ⊢
        exact legal_all HM.out this
      go_wp2
      try rw [Exit.noGoto_ret]
      go_ret
      exact ⟨ret_int (by rw [HF.out]), HB.out⟩
    have hok := goF_ok _ _ _ _ (fok0 _) HGO.out
    have HOK := hide hok
    obtain ⟨b, off, rfl, e0, e1⟩ := (HSL.out.below HB.out).at hlt
    have q1 : (k : Int) < (l.length : Int) := by omega
    have MS := hide (may_see hok (stAt l k))
    obtain ⟨⟨x1, x2⟩, hx⟩ : ∃ x, x = stAt l k := ⟨_, rfl⟩
    have HX := hide hx
    rw [← hx] at e0 e1 MS
    simp only at e0 e1
    clear hx
    obtain ⟨D, hD⟩ : ∃ D : Int, D = s.d := ⟨_, rfl⟩
    obtain ⟨E, hE⟩ : ∃ E : Int, E = ((s.d - s.u : Nat) : Int) := ⟨_, rfl⟩
    have hD1 : 0 ≤ D ∧ D ≤ 1000 := by have := hok.2.1; omega
    have hE1 : 0 ≤ E ∧ E ≤ 1000 := by have := hok.2.1; omega
    rw [← hD, ← hE] at MS HPB
    obtain ⟨y, hy⟩ : ∃ y, y = s.yes := ⟨_, rfl⟩
    obtain ⟨z, hz⟩ : ∃ z, z = s.no := ⟨_, rfl⟩
    obtain ⟨g, hg⟩ : ∃ g, g = s.ship := ⟨_, rfl⟩
    rw [← hy, ← hz, ← hg] at HPB
    have MS2 := MS
    rw [← hy, ← hz, ← hg] at MS2
    have HE5 : Hid (D = s.d ∧ E = ((s.d - s.u : Nat) : Int) ∧ y = s.yes ∧ z = s.no ∧ g = s.ship) := ⟨hD, hE, hy, hz, hg⟩
    clear hD hE hy hz hg hok MS
    obtain ⟨A, hA⟩ : ∃ A, A = wr.alloc (.cells #[.int .i64 x1, .int .i64 x2] 33) := ⟨_, rfl⟩
    have HBA : Hid (Below w.heap.size w A) := by show Below _ _ _; rw [hA]; exact HB.out.alloc HB.out.size _
    have hlt1 : w1.heap.size < wr.heap.size := (Array.getElem?_eq_some_iff.1 HPB.out).1
    have HAP : Hid (A.heap[w1.heap.size]? = some (.cells #[.int .i64 o.steps.length, .int .i64 D, .int .i64 E, .bool y, .bool z, .bool g] 58 (0, 0))) := by show _ = _; rw [hA, Below.heap_alloc _ _ _ hlt1]; exact HPB.out
    have HAA : Hid (A.heap[wr.heap.size]? = some (.cells #[.int .i64 x1, .int .i64 x2] 33 (0, 0))) := by show _ = _; rw [hA]; exact World.alloc_heap_new wr _
    have HAZ : Hid (A.heap.size = wr.heap.size + 1) := by show _ = _; rw [hA]; simp
    have HAW : Hid (A = wr.alloc (.cells #[.int .i64 x1, .int .i64 x2] 33)) := hA
    obtain ⟨⟨p0, p1, p2, p3, p4, p5⟩, -⟩ := past_of HAP.out
    rw [hA] at p0 p1 p2 p3 p4 p5
    clear hA
    have hn1 : 0 ≤ (o.steps.length : Int) ∧ (o.steps.length : Int) ≤ 1000 := by omega
    rcases MS2.out with ⟨m1, hse, -⟩ | ⟨m1, m2, hse, hu0⟩ | ⟨m1, m2, m3, hse⟩ | ⟨m1, m2, m3, m4, hse⟩ | ⟨m1, m2, m3, m4, m5, hse⟩ | ⟨m1, m2, m3, m4, m5, hse⟩
    · have HSE := hide hse
      clear hse MS2
      have C := mdone_any o.steps.length D E y z g x1 x2 A
      rw [m1] at C
      rw [HAW.out] at C
      go_wp2_with fail
      refine C.mono ?_
      rintro e u1 ⟨rfl, hb⟩
      rw [← HAW.out] at hb
      have HU1 := hide (bel_on' HBA.out hb)
      have HW1 := hide hb
      have HP1 := hide ((HW1.out.block _ (Array.getElem?_eq_some_iff.1 HAP.out).1).trans HAP.out)
      have HQ1 := hide ((HW1.out.block _ (Array.getElem?_eq_some_iff.1 HAA.out).1).trans HAA.out)
      clear hb C p0 p1 p2 p3 p4 p5
      clear e0 e1
      obtain ⟨⟨p0, p1, p2, p3, p4, p5⟩, f0, f1, f2, f3, f4, f5⟩ := past_of HP1.out
      obtain ⟨a0, a1⟩ := two_of HQ1.out
      have HPN : Hid ((u1.setCell ⟨w1.heap.size, 1, none⟩ (.int .i64 (D + 1))).heap[w1.heap.size]? = some (.cells #[.int .i64 o.steps.length, .int .i64 (D + 1), .int .i64 E, .bool y, .bool z, .bool g] 58 (0, 0))) := by show _ = _; rw [heap_setCell_same _ _ _ _ _ _ HP1.out]; simp
      have HBN : Hid (Below w.heap.size w (u1.setCell ⟨w1.heap.size, 1, none⟩ (.int .i64 (D + 1)))) := HU1.out.setCell (p := ⟨w1.heap.size, 1, none⟩) hw1 _
      have HGN : Hid (goF o.steps.length fs0 (l.take (k + 1)) = some ⟨s.d + 1, s.u + 1, y, z, g⟩) := legal_step hlt HGO.out (by rw [← HX.out]; exact HSE.out)
      go_wp2
      go_roundw
      case rel =>
        refine ⟨k + 1, _, by go_num, by go_num, by omega, HGN, HBN, ?_⟩
        obtain ⟨r1, r2, -, -, -⟩ := HE5.out
        have hok := HOK.out.1
        show _ = some (Obj.cells #[.int .i64 o.steps.length, .int .i64 ((s.d + 1 : Nat) : Int), .int .i64 ((s.d + 1 - (s.u + 1) : Nat) : Int), .bool y, .bool z, .bool g] 58 (0, 0))
        rw [HPN.out, show E = ((s.d + 1 - (s.u + 1) : Nat) : Int) by omega, show D + 1 = ((s.d + 1 : Nat) : Int) by omega]
      case measure => simp [intOf]; omega
    · have HSE := hide hse
      have HU0 := hide hu0
      clear hse hu0 MS2
      have C := mdone_any o.steps.length D E y z g x1 x2 A
      rw [m1] at C
      rw [HAW.out] at C
      go_wp2_with fail
      refine C.mono ?_
      rintro e u1 ⟨rfl, hb⟩
      rw [← HAW.out] at hb
      have HU1 := hide (bel_on' HBA.out hb)
      have HW1 := hide hb
      have HP1 := hide ((HW1.out.block _ (Array.getElem?_eq_some_iff.1 HAP.out).1).trans HAP.out)
      have HQ1 := hide ((HW1.out.block _ (Array.getElem?_eq_some_iff.1 HAA.out).1).trans HAA.out)
      clear hb C p0 p1 p2 p3 p4 p5
      clear e0 e1
      obtain ⟨⟨p0, p1, p2, p3, p4, p5⟩, f0, f1, f2, f3, f4, f5⟩ := past_of HP1.out
      obtain ⟨a0, a1⟩ := two_of HQ1.out
      have C := mundone_any o.steps.length D E y z g x1 x2 hD1 hE1 u1
      rw [m2] at C
      go_wp2_with fail
      refine C.mono ?_
      rintro e u2 ⟨rfl, hb⟩
      have HU2 := hide (bel_on' HBA.out (bel_on' HW1.out hb))
      have HW2 := hide (bel_on' HW1.out hb)
      have HP2 := hide ((HW2.out.block _ (Array.getElem?_eq_some_iff.1 HAP.out).1).trans HAP.out)
      have HQ2 := hide ((HW2.out.block _ (Array.getElem?_eq_some_iff.1 HAA.out).1).trans HAA.out)
      clear hb C p0 p1 p2 p3 p4 p5
      clear a0 a1 f0 f1 f2 f3 f4 f5
      obtain ⟨⟨p0, p1, p2, p3, p4, p5⟩, f0, f1, f2, f3, f4, f5⟩ := past_of HP2.out
      obtain ⟨a0, a1⟩ := two_of HQ2.out
      have HPN : Hid ((u2.setCell ⟨w1.heap.size, 2, none⟩ (.int .i64 (E + 1))).heap[w1.heap.size]? = some (.cells #[.int .i64 o.steps.length, .int .i64 D, .int .i64 (E + 1), .bool y, .bool z, .bool g] 58 (0, 0))) := by show _ = _; rw [heap_setCell_same _ _ _ _ _ _ HP2.out]; simp
      have HBN : Hid (Below w.heap.size w (u2.setCell ⟨w1.heap.size, 2, none⟩ (.int .i64 (E + 1)))) := HU2.out.setCell (p := ⟨w1.heap.size, 2, none⟩) hw1 _
      have HGN : Hid (goF o.steps.length fs0 (l.take (k + 1)) = some ⟨s.d, s.u - 1, y, z, g⟩) := legal_step hlt HGO.out (by rw [← HX.out]; exact HSE.out)
      go_wp2
      go_roundw
      case rel =>
        refine ⟨k + 1, _, by go_num, by go_num, by omega, HGN, HBN, ?_⟩
        obtain ⟨r1, r2, -, -, -⟩ := HE5.out
        have hok := HOK.out.1
        show _ = some (Obj.cells #[.int .i64 o.steps.length, .int .i64 (s.d : Int), .int .i64 ((s.d - (s.u - 1) : Nat) : Int), .bool y, .bool z, .bool g] 58 (0, 0))
        rw [HPN.out, show E + 1 = ((s.d - (s.u - 1) : Nat) : Int) by have := HU0.out; omega, show D = (s.d : Int) by omega]
      case measure => simp [intOf]; omega
    · have HSE := hide hse
      clear hse MS2
      have C := mdone_any o.steps.length D E y z g x1 x2 A
      rw [m1] at C
      rw [HAW.out] at C
      go_wp2_with fail
      refine C.mono ?_
      rintro e u1 ⟨rfl, hb⟩
      rw [← HAW.out] at hb
      have HU1 := hide (bel_on' HBA.out hb)
      have HW1 := hide hb
      have HP1 := hide ((HW1.out.block _ (Array.getElem?_eq_some_iff.1 HAP.out).1).trans HAP.out)
      have HQ1 := hide ((HW1.out.block _ (Array.getElem?_eq_some_iff.1 HAA.out).1).trans HAA.out)
      clear hb C p0 p1 p2 p3 p4 p5
      clear e0 e1
      obtain ⟨⟨p0, p1, p2, p3, p4, p5⟩, f0, f1, f2, f3, f4, f5⟩ := past_of HP1.out
      obtain ⟨a0, a1⟩ := two_of HQ1.out
      have C := mundone_any o.steps.length D E y z g x1 x2 hD1 hE1 u1
      rw [m2] at C
      go_wp2_with fail
      refine C.mono ?_
      rintro e u2 ⟨rfl, hb⟩
      have HU2 := hide (bel_on' HBA.out (bel_on' HW1.out hb))
      have HW2 := hide (bel_on' HW1.out hb)
      have HP2 := hide ((HW2.out.block _ (Array.getElem?_eq_some_iff.1 HAP.out).1).trans HAP.out)
      have HQ2 := hide ((HW2.out.block _ (Array.getElem?_eq_some_iff.1 HAA.out).1).trans HAA.out)
      clear hb C p0 p1 p2 p3 p4 p5
      clear a0 a1 f0 f1 f2 f3 f4 f5
      obtain ⟨⟨p0, p1, p2, p3, p4, p5⟩, f0, f1, f2, f3, f4, f5⟩ := past_of HP2.out
      obtain ⟨a0, a1⟩ := two_of HQ2.out
      have C := mcommit_any o.steps.length D E y z g x1 x2 u2
      rw [m3] at C
      go_wp2_with fail
      refine C.mono ?_
      rintro e u3 ⟨rfl, hb⟩
      have HU3 := hide (bel_on' HBA.out (bel_on' HW2.out hb))
      have HW3 := hide (bel_on' HW2.out hb)
      have HP3 := hide ((HW3.out.block _ (Array.getElem?_eq_some_iff.1 HAP.out).1).trans HAP.out)
      have HQ3 := hide ((HW3.out.block _ (Array.getElem?_eq_some_iff.1 HAA.out).1).trans HAA.out)
      clear hb C p0 p1 p2 p3 p4 p5
      clear a0 a1 f0 f1 f2 f3 f4 f5
      obtain ⟨⟨p0, p1, p2, p3, p4, p5⟩, f0, f1, f2, f3, f4, f5⟩ := past_of HP3.out
      obtain ⟨a0, a1⟩ := two_of HQ3.out
      have HPN : Hid ((u3.setCell ⟨w1.heap.size, 3, none⟩ (.bool true)).heap[w1.heap.size]? = some (.cells #[.int .i64 o.steps.length, .int .i64 D, .int .i64 E, .bool true, .bool z, .bool g] 58 (0, 0))) := by show _ = _; rw [heap_setCell_same _ _ _ _ _ _ HP3.out]; simp
      have HBN : Hid (Below w.heap.size w (u3.setCell ⟨w1.heap.size, 3, none⟩ (.bool true))) := HU3.out.setCell (p := ⟨w1.heap.size, 3, none⟩) hw1 _
      have HGN : Hid (goF o.steps.length fs0 (l.take (k + 1)) = some ⟨s.d, s.u, true, z, g⟩) := legal_step hlt HGO.out (by rw [← HX.out]; exact HSE.out)
      go_wp2
      go_roundw
      case rel =>
        refine ⟨k + 1, _, by go_num, by go_num, by omega, HGN, HBN, ?_⟩
        obtain ⟨r1, r2, -, -, -⟩ := HE5.out
        have hok := HOK.out.1
        show _ = some (Obj.cells #[.int .i64 o.steps.length, .int .i64 (s.d : Int), .int .i64 ((s.d - s.u : Nat) : Int), .bool true, .bool z, .bool g] 58 (0, 0))
        rw [HPN.out, show E = ((s.d - s.u : Nat) : Int) by omega, show D = (s.d : Int) by omega]
      case measure => simp [intOf]; omega
    · have HSE := hide hse
      clear hse MS2
      have C := mdone_any o.steps.length D E y z g x1 x2 A
      rw [m1] at C
      rw [HAW.out] at C
      go_wp2_with fail
      refine C.mono ?_
      rintro e u1 ⟨rfl, hb⟩
      rw [← HAW.out] at hb
      have HU1 := hide (bel_on' HBA.out hb)
      have HW1 := hide hb
      have HP1 := hide ((HW1.out.block _ (Array.getElem?_eq_some_iff.1 HAP.out).1).trans HAP.out)
      have HQ1 := hide ((HW1.out.block _ (Array.getElem?_eq_some_iff.1 HAA.out).1).trans HAA.out)
      clear hb C p0 p1 p2 p3 p4 p5
      clear e0 e1
      obtain ⟨⟨p0, p1, p2, p3, p4, p5⟩, f0, f1, f2, f3, f4, f5⟩ := past_of HP1.out
      obtain ⟨a0, a1⟩ := two_of HQ1.out
      have C := mundone_any o.steps.length D E y z g x1 x2 hD1 hE1 u1
      rw [m2] at C
      go_wp2_with fail
      refine C.mono ?_
      rintro e u2 ⟨rfl, hb⟩
      have HU2 := hide (bel_on' HBA.out (bel_on' HW1.out hb))
      have HW2 := hide (bel_on' HW1.out hb)
      have HP2 := hide ((HW2.out.block _ (Array.getElem?_eq_some_iff.1 HAP.out).1).trans HAP.out)
      have HQ2 := hide ((HW2.out.block _ (Array.getElem?_eq_some_iff.1 HAA.out).1).trans HAA.out)
      clear hb C p0 p1 p2 p3 p4 p5
      clear a0 a1 f0 f1 f2 f3 f4 f5
      obtain ⟨⟨p0, p1, p2, p3, p4, p5⟩, f0, f1, f2, f3, f4, f5⟩ := past_of HP2.out
      obtain ⟨a0, a1⟩ := two_of HQ2.out
      have C := mcommit_any o.steps.length D E y z g x1 x2 u2
      rw [m3] at C
      go_wp2_with fail
      refine C.mono ?_
      rintro e u3 ⟨rfl, hb⟩
      have HU3 := hide (bel_on' HBA.out (bel_on' HW2.out hb))
      have HW3 := hide (bel_on' HW2.out hb)
      have HP3 := hide ((HW3.out.block _ (Array.getElem?_eq_some_iff.1 HAP.out).1).trans HAP.out)
      have HQ3 := hide ((HW3.out.block _ (Array.getElem?_eq_some_iff.1 HAA.out).1).trans HAA.out)
      clear hb C p0 p1 p2 p3 p4 p5
      clear a0 a1 f0 f1 f2 f3 f4 f5
      obtain ⟨⟨p0, p1, p2, p3, p4, p5⟩, f0, f1, f2, f3, f4, f5⟩ := past_of HP3.out
      obtain ⟨a0, a1⟩ := two_of HQ3.out
      have C := mabort_any o.steps.length D E y z g x1 x2 u3
      rw [m4] at C
      go_wp2_with fail
      refine C.mono ?_
      rintro e u4 ⟨rfl, hb⟩
      have HU4 := hide (bel_on' HBA.out (bel_on' HW3.out hb))
      have HW4 := hide (bel_on' HW3.out hb)
      have HP4 := hide ((HW4.out.block _ (Array.getElem?_eq_some_iff.1 HAP.out).1).trans HAP.out)
      have HQ4 := hide ((HW4.out.block _ (Array.getElem?_eq_some_iff.1 HAA.out).1).trans HAA.out)
      clear hb C p0 p1 p2 p3 p4 p5
      clear a0 a1 f0 f1 f2 f3 f4 f5
      obtain ⟨⟨p0, p1, p2, p3, p4, p5⟩, f0, f1, f2, f3, f4, f5⟩ := past_of HP4.out
      obtain ⟨a0, a1⟩ := two_of HQ4.out
      have HPN : Hid ((u4.setCell ⟨w1.heap.size, 4, none⟩ (.bool true)).heap[w1.heap.size]? = some (.cells #[.int .i64 o.steps.length, .int .i64 D, .int .i64 E, .bool y, .bool true, .bool g] 58 (0, 0))) := by show _ = _; rw [heap_setCell_same _ _ _ _ _ _ HP4.out]; simp
      have HBN : Hid (Below w.heap.size w (u4.setCell ⟨w1.heap.size, 4, none⟩ (.bool true))) := HU4.out.setCell (p := ⟨w1.heap.size, 4, none⟩) hw1 _
      have HGN : Hid (goF o.steps.length fs0 (l.take (k + 1)) = some ⟨s.d, s.u, y, true, g⟩) := legal_step hlt HGO.out (by rw [← HX.out]; exact HSE.out)
      go_wp2
      go_roundw
      case rel =>
        refine ⟨k + 1, _, by go_num, by go_num, by omega, HGN, HBN, ?_⟩
        obtain ⟨r1, r2, -, -, -⟩ := HE5.out
        have hok := HOK.out.1
        show _ = some (Obj.cells #[.int .i64 o.steps.length, .int .i64 (s.d : Int), .int .i64 ((s.d - s.u : Nat) : Int), .bool y, .bool true, .bool g] 58 (0, 0))
        rw [HPN.out, show E = ((s.d - s.u : Nat) : Int) by omega, show D = (s.d : Int) by omega]
      case measure => simp [intOf]; omega
    · have HSE := hide hse
      clear hse MS2
      have C := mdone_any o.steps.length D E y z g x1 x2 A
      rw [m1] at C
      rw [HAW.out] at C
      go_wp2_with fail
      refine C.mono ?_
      rintro e u1 ⟨rfl, hb⟩
      rw [← HAW.out] at hb
      have HU1 := hide (bel_on' HBA.out hb)
      have HW1 := hide hb
      have HP1 := hide ((HW1.out.block _ (Array.getElem?_eq_some_iff.1 HAP.out).1).trans HAP.out)
      have HQ1 := hide ((HW1.out.block _ (Array.getElem?_eq_some_iff.1 HAA.out).1).trans HAA.out)
      clear hb C p0 p1 p2 p3 p4 p5
      clear e0 e1
      obtain ⟨⟨p0, p1, p2, p3, p4, p5⟩, f0, f1, f2, f3, f4, f5⟩ := past_of HP1.out
      obtain ⟨a0, a1⟩ := two_of HQ1.out
      have C := mundone_any o.steps.length D E y z g x1 x2 hD1 hE1 u1
      rw [m2] at C
      go_wp2_with fail
      refine C.mono ?_
      rintro e u2 ⟨rfl, hb⟩
      have HU2 := hide (bel_on' HBA.out (bel_on' HW1.out hb))
      have HW2 := hide (bel_on' HW1.out hb)
      have HP2 := hide ((HW2.out.block _ (Array.getElem?_eq_some_iff.1 HAP.out).1).trans HAP.out)
      have HQ2 := hide ((HW2.out.block _ (Array.getElem?_eq_some_iff.1 HAA.out).1).trans HAA.out)
      clear hb C p0 p1 p2 p3 p4 p5
      clear a0 a1 f0 f1 f2 f3 f4 f5
      obtain ⟨⟨p0, p1, p2, p3, p4, p5⟩, f0, f1, f2, f3, f4, f5⟩ := past_of HP2.out
      obtain ⟨a0, a1⟩ := two_of HQ2.out
      have C := mcommit_any o.steps.length D E y z g x1 x2 u2
      rw [m3] at C
      go_wp2_with fail
      refine C.mono ?_
      rintro e u3 ⟨rfl, hb⟩
      have HU3 := hide (bel_on' HBA.out (bel_on' HW2.out hb))
      have HW3 := hide (bel_on' HW2.out hb)
      have HP3 := hide ((HW3.out.block _ (Array.getElem?_eq_some_iff.1 HAP.out).1).trans HAP.out)
      have HQ3 := hide ((HW3.out.block _ (Array.getElem?_eq_some_iff.1 HAA.out).1).trans HAA.out)
      clear hb C p0 p1 p2 p3 p4 p5
      clear a0 a1 f0 f1 f2 f3 f4 f5
      obtain ⟨⟨p0, p1, p2, p3, p4, p5⟩, f0, f1, f2, f3, f4, f5⟩ := past_of HP3.out
      obtain ⟨a0, a1⟩ := two_of HQ3.out
      have C := mabort_any o.steps.length D E y z g x1 x2 u3
      rw [m4] at C
      go_wp2_with fail
      refine C.mono ?_
      rintro e u4 ⟨rfl, hb⟩
      have HU4 := hide (bel_on' HBA.out (bel_on' HW3.out hb))
      have HW4 := hide (bel_on' HW3.out hb)
      have HP4 := hide ((HW4.out.block _ (Array.getElem?_eq_some_iff.1 HAP.out).1).trans HAP.out)
      have HQ4 := hide ((HW4.out.block _ (Array.getElem?_eq_some_iff.1 HAA.out).1).trans HAA.out)
      clear hb C p0 p1 p2 p3 p4 p5
      clear a0 a1 f0 f1 f2 f3 f4 f5
      obtain ⟨⟨p0, p1, p2, p3, p4, p5⟩, f0, f1, f2, f3, f4, f5⟩ := past_of HP4.out
      obtain ⟨a0, a1⟩ := two_of HQ4.out
      have C := mship_any o.steps.length D E y z g x1 x2 u4
      rw [m5] at C
      go_wp2_with fail
      refine C.mono ?_
      rintro e u5 ⟨rfl, hb⟩
      have HU5 := hide (bel_on' HBA.out (bel_on' HW4.out hb))
      have HW5 := hide (bel_on' HW4.out hb)
      have HP5 := hide ((HW5.out.block _ (Array.getElem?_eq_some_iff.1 HAP.out).1).trans HAP.out)
      have HQ5 := hide ((HW5.out.block _ (Array.getElem?_eq_some_iff.1 HAA.out).1).trans HAA.out)
      clear hb C p0 p1 p2 p3 p4 p5
      clear a0 a1 f0 f1 f2 f3 f4 f5
      obtain ⟨⟨p0, p1, p2, p3, p4, p5⟩, f0, f1, f2, f3, f4, f5⟩ := past_of HP5.out
      obtain ⟨a0, a1⟩ := two_of HQ5.out
      have HPN : Hid ((u5.setCell ⟨w1.heap.size, 5, none⟩ (.bool true)).heap[w1.heap.size]? = some (.cells #[.int .i64 o.steps.length, .int .i64 D, .int .i64 E, .bool y, .bool z, .bool true] 58 (0, 0))) := by show _ = _; rw [heap_setCell_same _ _ _ _ _ _ HP5.out]; simp
      have HBN : Hid (Below w.heap.size w (u5.setCell ⟨w1.heap.size, 5, none⟩ (.bool true))) := HU5.out.setCell (p := ⟨w1.heap.size, 5, none⟩) hw1 _
      have HGN : Hid (goF o.steps.length fs0 (l.take (k + 1)) = some ⟨s.d, s.u, y, z, true⟩) := legal_step hlt HGO.out (by rw [← HX.out]; exact HSE.out)
      go_wp2
      go_roundw
      case rel =>
        refine ⟨k + 1, _, by go_num, by go_num, by omega, HGN, HBN, ?_⟩
        obtain ⟨r1, r2, -, -, -⟩ := HE5.out
        have hok := HOK.out.1
        show _ = some (Obj.cells #[.int .i64 o.steps.length, .int .i64 (s.d : Int), .int .i64 ((s.d - s.u : Nat) : Int), .bool y, .bool z, .bool true] 58 (0, 0))
        rw [HPN.out, show E = ((s.d - s.u : Nat) : Int) by omega, show D = (s.d : Int) by omega]
      case measure => simp [intOf]; omega
    · have HSE := hide hse
      clear hse MS2
      have C := mdone_any o.steps.length D E y z g x1 x2 A
      rw [m1] at C
      rw [HAW.out] at C
      go_wp2_with fail
      refine C.mono ?_
      rintro e u1 ⟨rfl, hb⟩
      rw [← HAW.out] at hb
      have HU1 := hide (bel_on' HBA.out hb)
      have HW1 := hide hb
      have HP1 := hide ((HW1.out.block _ (Array.getElem?_eq_some_iff.1 HAP.out).1).trans HAP.out)
      have HQ1 := hide ((HW1.out.block _ (Array.getElem?_eq_some_iff.1 HAA.out).1).trans HAA.out)
      clear hb C p0 p1 p2 p3 p4 p5
      clear e0 e1
      obtain ⟨⟨p0, p1, p2, p3, p4, p5⟩, f0, f1, f2, f3, f4, f5⟩ := past_of HP1.out
      obtain ⟨a0, a1⟩ := two_of HQ1.out
      have C := mundone_any o.steps.length D E y z g x1 x2 hD1 hE1 u1
      rw [m2] at C
      go_wp2_with fail
      refine C.mono ?_
      rintro e u2 ⟨rfl, hb⟩
      have HU2 := hide (bel_on' HBA.out (bel_on' HW1.out hb))
      have HW2 := hide (bel_on' HW1.out hb)
      have HP2 := hide ((HW2.out.block _ (Array.getElem?_eq_some_iff.1 HAP.out).1).trans HAP.out)
      have HQ2 := hide ((HW2.out.block _ (Array.getElem?_eq_some_iff.1 HAA.out).1).trans HAA.out)
      clear hb C p0 p1 p2 p3 p4 p5
      clear a0 a1 f0 f1 f2 f3 f4 f5
      obtain ⟨⟨p0, p1, p2, p3, p4, p5⟩, f0, f1, f2, f3, f4, f5⟩ := past_of HP2.out
      obtain ⟨a0, a1⟩ := two_of HQ2.out
      have C := mcommit_any o.steps.length D E y z g x1 x2 u2
      rw [m3] at C
      go_wp2_with fail
      refine C.mono ?_
      rintro e u3 ⟨rfl, hb⟩
      have HU3 := hide (bel_on' HBA.out (bel_on' HW2.out hb))
      have HW3 := hide (bel_on' HW2.out hb)
      have HP3 := hide ((HW3.out.block _ (Array.getElem?_eq_some_iff.1 HAP.out).1).trans HAP.out)
      have HQ3 := hide ((HW3.out.block _ (Array.getElem?_eq_some_iff.1 HAA.out).1).trans HAA.out)
      clear hb C p0 p1 p2 p3 p4 p5
      clear a0 a1 f0 f1 f2 f3 f4 f5
      obtain ⟨⟨p0, p1, p2, p3, p4, p5⟩, f0, f1, f2, f3, f4, f5⟩ := past_of HP3.out
      obtain ⟨a0, a1⟩ := two_of HQ3.out
      have C := mabort_any o.steps.length D E y z g x1 x2 u3
      rw [m4] at C
      go_wp2_with fail
      refine C.mono ?_
      rintro e u4 ⟨rfl, hb⟩
      have HU4 := hide (bel_on' HBA.out (bel_on' HW3.out hb))
      have HW4 := hide (bel_on' HW3.out hb)
      have HP4 := hide ((HW4.out.block _ (Array.getElem?_eq_some_iff.1 HAP.out).1).trans HAP.out)
      have HQ4 := hide ((HW4.out.block _ (Array.getElem?_eq_some_iff.1 HAA.out).1).trans HAA.out)
      clear hb C p0 p1 p2 p3 p4 p5
      clear a0 a1 f0 f1 f2 f3 f4 f5
      obtain ⟨⟨p0, p1, p2, p3, p4, p5⟩, f0, f1, f2, f3, f4, f5⟩ := past_of HP4.out
      obtain ⟨a0, a1⟩ := two_of HQ4.out
      have C := mship_any o.steps.length D E y z g x1 x2 u4
      rw [m5] at C
      go_wp2_with fail
      refine C.mono ?_
      rintro e u5 ⟨rfl, hb⟩
      have HU5 := hide (bel_on' HBA.out (bel_on' HW4.out hb))
      have HW5 := hide (bel_on' HW4.out hb)
      have HP5 := hide ((HW5.out.block _ (Array.getElem?_eq_some_iff.1 HAP.out).1).trans HAP.out)
      have HQ5 := hide ((HW5.out.block _ (Array.getElem?_eq_some_iff.1 HAA.out).1).trans HAA.out)
      clear hb C p0 p1 p2 p3 p4 p5
      clear a0 a1 f0 f1 f2 f3 f4 f5
      obtain ⟨⟨p0, p1, p2, p3, p4, p5⟩, f0, f1, f2, f3, f4, f5⟩ := past_of HP5.out
      obtain ⟨a0, a1⟩ := two_of HQ5.out
      have HF : Hid (legalO o l = k) := legal_stop HM.out hlt HGO.out (by rw [← HX.out]; exact HSE.out)
      go_wp2
      try rw [Exit.noGoto_ret]
      go_ret
      exact ⟨ret_int (by rw [HF.out]), HU5.out⟩
end Go.Proofs.Ytdoejppnifoebaa
