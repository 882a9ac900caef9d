/-
  ModelHolds: what is held is what was done and not undone; committed it stays held.
-/
import Derived.Test.YtdoejppnifoebaaMdlG
import Derived.Test.YtdoejppnifoebaaNum
namespace Go.Proofs.Ytdoejppnifoebaa
open Go.ChangeShapes Go.WideShapes Go.ChangeAt Go.RowKit

/-- A model, told by its state, beside the law's order. -/
def MQ (w : World) (o : Od) (a : Option Addr) (c p : Nat) (s : Fs) (u : World) : Prop := ∃ v, MSt w o a c u p v ∧ v.s = s ∧ v.o = o
section
variable {w u u' : World} {o : Od} {a : Option Addr} {c p : Nat} {s : Fs}
theorem MQ.on (h : MQ w o a c p s u) (hb : Below u.heap.size u u') : MQ w o a c p s u' := by
  obtain ⟨v, h1, h2⟩ := h
  exact ⟨v, h1.on hb, h2⟩
theorem MQ.bel (h : MQ w o a c p s u) : Below w.heap.size w u := by
  obtain ⟨v, h1, h2⟩ := h
  exact h1.bel
theorem MQ.d5 (h : MQ w o a c p s u) : u.cell? ⟨w.heap.size, 5, none⟩ = some (.slice a o.steps.length c) := by
  obtain ⟨v, h1, h2⟩ := h
  exact h1.six.2.2.2.2.2
theorem MQ.see (h : MQ w o a c p s u) (x1 x2 : Int) {b : Bool} {s' : Fs} (hs : ((seeF o.steps.length s (x1, x2)).isSome, (seeF o.steps.length s (x1, x2)).getD s) = (b, s')) :
    Calls Try.prog 12 #[.pointer (some ⟨p, 0, none⟩), .agg #[.int .i64 x1, .int .i64 x2]] u fun e w' => e = .returned (.bool b) ∧ MQ w o a c p s' w' := by
  obtain ⟨v, h1, h2, h3⟩ := h
  cases hs
  subst h2
  refine (h1.see x1 x2 rfl rfl).mono ?_
  rintro e w' ⟨e1, e2, -⟩
  rw [h3] at e1
  refine ⟨e1, _, e2, ?_, (seeM_o _ _).trans h3⟩
  cases hx : seeF v.o.steps.length v.s (x1, x2) with
  | none => rw [seeM_none hx, ← h3, hx]; rfl
  | some s2 => rw [seeM_some hx, ← h3, hx]; rfl
theorem MQ.held (h : MQ w o a c p s u) {j : Nat} (hj : j < o.steps.length) {n : Int} (hn : (if j < s.u then (stAt o.steps j).2 else 0) = n) :
    Calls Try.prog 13 #[.pointer (some ⟨p, 0, none⟩), .int .i64 (stAt o.steps j).1] u fun e w' => e = .returned (.int .i64 n) ∧ MQ w o a c p s w' := by
  obtain ⟨v, h1, h2, h3⟩ := h
  have hh := held_step h1.k.1 (j := j) (by rw [h3]; exact hj)
  rw [h3, h2, hn] at hh
  exact (h1.k.held _ hh).mono (fun e w' ⟨e1, e2⟩ => ⟨e1, v, h1.on e2, h2, h3⟩)
theorem MQ.tell (h : MQ w o a c p s u) : (Calls Try.prog 16 #[.pointer (some ⟨p, 0, none⟩)] u fun e w' => e = .returned (.bool s.yes) ∧ MQ w o a c p s w') ∧
    (Calls Try.prog 17 #[.pointer (some ⟨p, 0, none⟩)] u fun e w' => e = .returned (.bool s.ship) ∧ MQ w o a c p s w') ∧
    (Calls Try.prog 18 #[.pointer (some ⟨p, 0, none⟩)] u fun e w' => e = .returned (.bool (s.no && decide (s.u = 0))) ∧ MQ w o a c p s w') ∧
    (Calls Try.prog 15 #[.pointer (some ⟨p, 0, none⟩)] u fun e w' => ∃ aS cS, e = .returned (.slice aS (s.d + (s.d - s.u) + s.yes.toNat + s.no.toNat + s.ship.toNat) cS) ∧ MQ w o a c p s w') := by
  obtain ⟨v, h1, h2, h3⟩ := h
  subst h2
  refine ⟨h1.k.sold.mono (fun e w' ⟨e1, e2⟩ => ⟨e1, v, h1.on e2, rfl, h3⟩), h1.k.sent.mono (fun e w' ⟨e1, e2⟩ => ⟨e1, v, h1.on e2, rfl, h3⟩), h1.k.clean.mono (fun e w' ⟨e1, e2⟩ => ⟨e1, v, h1.on e2, rfl, h3⟩), h1.k.seen.mono ?_⟩
  rintro e w' ⟨aS, cS, e1, -, -, e2⟩
  exact ⟨aS, cS, by rw [e1, h1.k.1.says.len], v, h1.on e2, rfl, h3⟩
end
theorem see_do {n j : Nat} (h : j < n) : ((seeF n ⟨j, j, false, false, false⟩ (2, (j : Int))).isSome, (seeF n ⟨j, j, false, false, false⟩ (2, (j : Int))).getD ⟨j, j, false, false, false⟩) = (true, ⟨j + 1, j + 1, false, false, false⟩) := by
  have e : seeF n ⟨j, j, false, false, false⟩ (2, (j : Int)) = some ⟨j + 1, j + 1, false, false, false⟩ := by unfold seeF; simp; omega
  rw [e]; rfl
theorem see_co (n : Nat) : ((seeF n ⟨n, n, false, false, false⟩ (13, 0)).isSome, (seeF n ⟨n, n, false, false, false⟩ (13, 0)).getD ⟨n, n, false, false, false⟩) = (true, ⟨n, n, true, false, false⟩) := by
  have e : seeF n ⟨n, n, false, false, false⟩ (13, 0) = some ⟨n, n, true, false, false⟩ := by unfold seeF; simp
  rw [e]; rfl
theorem see_ab0 (n : Nat) : ((seeF n ⟨n, n, true, false, false⟩ (14, 0)).isSome, (seeF n ⟨n, n, true, false, false⟩ (14, 0)).getD ⟨n, n, true, false, false⟩) = (false, ⟨n, n, true, false, false⟩) := by
  have e : seeF n ⟨n, n, true, false, false⟩ (14, 0) = none := by unfold seeF; simp
  rw [e]; rfl
theorem see_sh (n : Nat) : ((seeF n ⟨n, n, true, false, false⟩ (16, 0)).isSome, (seeF n ⟨n, n, true, false, false⟩ (16, 0)).getD ⟨n, n, true, false, false⟩) = (true, ⟨n, n, true, false, true⟩) := by
  have e : seeF n ⟨n, n, true, false, false⟩ (16, 0) = some ⟨n, n, true, false, true⟩ := by unfold seeF; simp
  rw [e]; rfl
theorem see_ab (n : Nat) : ((seeF n ⟨n, n, false, false, false⟩ (14, 0)).isSome, (seeF n ⟨n, n, false, false, false⟩ (14, 0)).getD ⟨n, n, false, false, false⟩) = (true, ⟨n, n, false, true, false⟩) := by
  have e : seeF n ⟨n, n, false, false, false⟩ (14, 0) = some ⟨n, n, false, true, false⟩ := by unfold seeF; simp
  rw [e]; rfl
theorem see_un (n j : Nat) : ((seeF n ⟨n, j + 1, false, true, false⟩ (5, (j : Int))).isSome, (seeF n ⟨n, j + 1, false, true, false⟩ (5, (j : Int))).getD ⟨n, j + 1, false, true, false⟩) = (true, ⟨n, j, false, true, false⟩) := by
  have e : seeF n ⟨n, j + 1, false, true, false⟩ (5, (j : Int)) = some ⟨n, j, false, true, false⟩ := by unfold seeF; simp
  rw [e]; rfl
set_option maxRecDepth 100000 in
set_option maxHeartbeats 8000000 in
theorem modelHolds_walk (o0 : Od) (a0 : Option Addr) (cap0 : Nat) (a1 : Int) (a2 : Bool) (w : World) (w0 : OdIn w o0 a0 cap0) (_w1 : (Lit.int .i64 a1).wf = true) :
    Calls Try.prog 6 #[.agg #[.int .i64 o0.id, .int .i64 o0.item, .int .i64 o0.qty, .int .i64 o0.client, .int .i64 o0.price, .slice a0 o0.steps.length cap0], .int .i64 a1, .bool a2] w fun e w' => e = .returned (.bool true) ∧ Below w.heap.size w w' := by
  obtain ⟨hl, hst, hsn, hcp⟩ := w0
  obtain ⟨V, hV⟩ : ∃ V, V = w.alloc (.cells #[.int .i64 o0.id, .int .i64 o0.item, .int .i64 o0.qty, .int .i64 o0.client, .int .i64 o0.price, .slice a0 o0.steps.length cap0] 24) := ⟨_, rfl⟩
  have hbV : Below w.heap.size w V := by rw [hV]; exact (Below.refl _ _).alloc (Nat.le_refl _) _
  have hVb : V.heap[w.heap.size]? = some (.cells #[.int .i64 o0.id, .int .i64 o0.item, .int .i64 o0.qty, .int .i64 o0.client, .int .i64 o0.price, .slice a0 o0.steps.length cap0] 24 (0, 0)) := by rw [hV]; exact World.alloc_heap_new w _
  have AWK : Hid (∀ u, Below w.heap.size w u → Calls Try.prog 7 #[] u fun e w' => e = .returned (.bool true) ∧ Below w.heap.size w w') := fun u hu => (mwake_any u).mono (fun e w' ⟨h1, h2⟩ => ⟨h1, bel_on' hu h2⟩)
  obtain ⟨d0, d1, d2, d3, d4, d5⟩ := order_of_six hVb
  have MY := ref_omay_any o0 a0 cap0 V (hst.below hbV) hl hcp
  have HV := hide hV
  have HBV := hide hbV
  rw [hV] at d0 d1 d2 d3 d4 d5 MY HBV
  by_cases h10 : (o0.steps.length : Int) > 10
  · clear hsn hst hVb hbV hV
    go_enter Try.func6, Try.ntmps6
    go_wp2_with (go_at_call 7; refine (AWK.out _ HBV.out).mono ?_; rintro e ua ⟨rfl, hb⟩; have HX := hide hb; clear hb)
    go_ret
    exact ⟨rfl, HX.out⟩
  cases hm : mayO o0
  · rw [hm] at MY
    clear hsn hst hVb hbV hV hm
    go_enter Try.func6, Try.ntmps6
    go_wp2_with (first
      | (go_at_call 9; refine MY.mono ?_; clear MY; rintro e u1 ⟨rfl, hb⟩; rw [← HV.out] at hb; have HB1 := hide (bel_on' (by rw [HV.out]; exact HBV.out) hb); clear hb)
      | (go_at_call 7; refine (AWK.out _ HB1.out).mono ?_; rintro e ua ⟨rfl, hb⟩; have HX := hide hb; clear hb))
    go_ret
    exact ⟨rfl, HX.out⟩
  rw [hm] at MY
  have h3 := may_three hm
  have NW : Hid (∀ u, Below V.heap.size V u → Calls Try.prog 8 #[.agg #[.int .i64 o0.id, .int .i64 o0.item, .int .i64 o0.qty, .int .i64 o0.client, .int .i64 o0.price, .slice a0 o0.steps.length cap0]] u fun e w' => ∃ p, e = .returned (.pointer (some ⟨p, 0, none⟩)) ∧ MQ w o0 a0 cap0 p fs0 w') := fun u hu => by
    have hwu := bel_on' hbV hu
    have hbu := (hu.block _ (Array.getElem?_eq_some_iff.1 hVb).1).trans hVb
    refine (mnew_any hwu o0 (hst.below hwu) hsn hm).mono ?_
    rintro e w' ⟨p, h1, h2, h3, h4⟩
    have := (Array.getElem?_eq_some_iff.1 hbu).1
    exact ⟨p, h1, newM o0, ⟨h2, (h3.block _ (Array.getElem?_eq_some_iff.1 hbu).1).trans hbu, by omega⟩, rfl, rfl⟩
  have OC : Hid (∀ u, Below V.heap.size V u → u.cell? ⟨w.heap.size, 0, none⟩ = some (.int .i64 o0.id) ∧ u.cell? ⟨w.heap.size, 1, none⟩ = some (.int .i64 o0.item) ∧ u.cell? ⟨w.heap.size, 2, none⟩ = some (.int .i64 o0.qty) ∧ u.cell? ⟨w.heap.size, 3, none⟩ = some (.int .i64 o0.client) ∧ u.cell? ⟨w.heap.size, 4, none⟩ = some (.int .i64 o0.price) ∧ u.cell? ⟨w.heap.size, 5, none⟩ = some (.slice a0 o0.steps.length cap0)) := fun u hu => order_of_six ((hu.block _ (Array.getElem?_eq_some_iff.1 hVb).1).trans hVb)
  have HST := hide hst
  obtain ⟨N, hN⟩ : ∃ N, o0.steps.length = N := ⟨_, rfl⟩
  have HNN := hide hN
  have ST : Hid (∀ p s u, MQ w o0 a0 cap0 p s u → ∀ j, j < N → ∃ bs os, a0 = some ⟨bs, os, none⟩ ∧ u.cell? ⟨w.heap.size, 5, none⟩ = some (.slice (some ⟨bs, os, none⟩) N cap0) ∧ u.cell? ⟨bs, os + j * 2, none⟩ = some (.int .i64 (stAt o0.steps j).1) ∧ u.cell? ⟨bs, os + j * 2 + 1, none⟩ = some (.int .i64 (stAt o0.steps j).2)) := fun p s u h j hj => by
    obtain ⟨bs, os, e1, e2, e3⟩ := (hst.below h.bel).at (i := j) (by omega)
    have h5 := h.d5
    rw [hN] at h5
    exact ⟨bs, os, e1, by rw [← e1]; exact h5, e2, e3⟩
  have SE : Hid (∀ p s u x1 x2 b s', MQ w o0 a0 cap0 p s u → ((seeF N s (x1, x2)).isSome, (seeF N s (x1, x2)).getD s) = (b, s') → Calls Try.prog 12 #[.pointer (some ⟨p, 0, none⟩), .agg #[.int .i64 x1, .int .i64 x2]] u fun e w' => e = .returned (.bool b) ∧ MQ w o0 a0 cap0 p s' w') := fun p s u x1 x2 b s' h hs => h.see x1 x2 (by rw [hN]; exact hs)
  have HE : Hid (∀ p s u j n, MQ w o0 a0 cap0 p s u → j < N → (if j < s.u then (stAt o0.steps j).2 else 0) = n → Calls Try.prog 13 #[.pointer (some ⟨p, 0, none⟩), .int .i64 (stAt o0.steps j).1] u fun e w' => e = .returned (.int .i64 n) ∧ MQ w o0 a0 cap0 p s w') := fun p s u j n h hj hn => h.held (by rw [hN]; exact hj) hn
  obtain ⟨c0, c1⟩ := um_bd a1 ((N : Int) + 1) (by omega) (by omega)
  obtain ⟨K, hK⟩ : ∃ K : Nat, um a1 ((N : Int) + 1) = K := ⟨(um a1 ((N : Int) + 1)).toNat, by omega⟩
  have hKN : K ≤ N := by omega
  unfold um at hK
  have HK := hide hK
  clear c0 c1 hK
  clear hsn hst hVb hbV hV hm
  rw [hN] at MY NW OC HV d5 h10 h3 ⊢
  clear hN
  go_enter Try.func6, Try.ntmps6
  go_wp2_with (first
    | (go_at_call 9; refine MY.mono ?_; clear MY; rintro e u1 ⟨rfl, hb⟩; rw [← HV.out] at hb; have N1 := NW.out u1 hb; clear d0 d1 d2 d3 d4 d5; obtain ⟨d0, d1, d2, d3, d4, d5⟩ := OC.out u1 hb; clear hb)
    | (go_at_call 8; refine N1.mono ?_; clear N1; rintro e u2 ⟨p, rfl, hm⟩; have M2 := hide hm; clear hm d0 d1 d2 d3 d4 d5))
  go_loopw [29] (fun iv wr => ∃ j : Nat, iv = .int .i64 j ∧ j ≤ N ∧ Hid (MQ w o0 a0 cap0 p ⟨j, j, false, false, false⟩ wr)) (fun iv _ => N - (intOf iv).toNat)
  case atStart => exact ⟨0, rfl, Nat.zero_le _, M2.out⟩
  case round =>
    obtain ⟨j, rfl, hj, HM⟩ := hrel
    by_cases hlt : j < N
    · have hq : (j : Int) < (N : Int) := by omega
      have hmd := HM.out.on (u' := wr.drew) (Below.refl _ _).drew
      obtain ⟨bs, os, rfl, k5, e0, e1⟩ := ST.out _ _ _ HM.out j hlt
      have S1 := SE.out p _ _ 2 (j : Int) _ _ hmd (see_do hlt)
      have HH : Hid (∀ u, MQ w o0 (some ⟨bs, os, none⟩) cap0 p ⟨j + 1, j + 1, false, false, false⟩ u → (u.cell? ⟨w.heap.size, 5, none⟩ = some (.slice (some ⟨bs, os, none⟩) N cap0) ∧ u.cell? ⟨bs, os + j * 2, none⟩ = some (.int .i64 (stAt o0.steps j).1) ∧ u.cell? ⟨bs, os + j * 2 + 1, none⟩ = some (.int .i64 (stAt o0.steps j).2)) ∧ Calls Try.prog 13 #[.pointer (some ⟨p, 0, none⟩), .int .i64 (stAt o0.steps j).1] u fun e w' => e = .returned (.int .i64 (stAt o0.steps j).2) ∧ MQ w o0 (some ⟨bs, os, none⟩) cap0 p ⟨j + 1, j + 1, false, false, false⟩ w') := fun u h => by
        obtain ⟨bs', os', e, x1, x2, x3⟩ := ST.out _ _ _ h j hlt
        cases e
        exact ⟨⟨x1, x2, x3⟩, HE.out p _ _ j _ h hlt (if_pos (Nat.lt_succ_self j))⟩
      generalize (stAt o0.steps j).1 = y1 at *
      generalize (stAt o0.steps j).2 = y2 at *
      have yy : (y2 != y2) = false := by simp
      clear hmd
      go_wp2_with fail
      go_region_held3 (fun w' => w'.cell? ⟨w.heap.size, 5, none⟩ = some (.slice (some ⟨bs, os, none⟩) N cap0) ∧ w'.cell? ⟨bs, os + j * 2, none⟩ = some (.int .i64 y1) ∧ w'.cell? ⟨bs, os + j * 2 + 1, none⟩ = some (.int .i64 y2)) (go_keep) (first
        | (go_at_call 12; refine S1.mono ?_; clear S1; rintro e u3 ⟨rfl, hs⟩; have HS3 := hide hs; clear k5 e0 e1; obtain ⟨⟨k5, e0, e1⟩, H3⟩ := HH.out _ hs; clear hs)
        | (go_at_call 13; refine H3.mono ?_; clear H3; rintro e u4 ⟨rfl, hs⟩; have HS4 := hide hs; clear k5 e0 e1; obtain ⟨⟨k5, e0, e1⟩, -⟩ := HH.out _ hs; clear hs))
      all_goals go_wp2
      all_goals go_roundw
      case rel => exact ⟨j + 1, by go_num, by omega, HS4⟩
      case measure => simp [intOf]; omega
    · have hq : ¬ (j : Int) < (N : Int) := by omega
      have HMN : Hid (MQ w o0 a0 cap0 p ⟨N, N, false, false, false⟩ wr) := by
        show MQ w o0 a0 cap0 p ⟨N, N, false, false, false⟩ wr
        have e : j = N := by omega
        exact e ▸ HM.out
      obtain ⟨w4, hw4⟩ : ∃ w4, w4 = wr := ⟨_, rfl⟩
      rw [← hw4] at HMN ⊢
      clear hw4 HM hlt
      cases a2
      · have hK := HK.out
        have S1 := SE.out p _ _ 14 0 _ _ HMN.out (see_ab N)
        go_wp2_with (first
          | (go_at_call 12; refine S1.mono ?_; clear S1; rintro e u5 ⟨rfl, hs⟩; have HS5 := hide hs; clear hs))
        clear hK
        go_loopw [12] (fun iv wr => ∃ (i : Nat) (z : Int), iv = .int .i64 z ∧ z = (i : Int) - 1 ∧ K ≤ i ∧ i ≤ N ∧ Hid (MQ w o0 a0 cap0 p ⟨N, i, false, true, false⟩ wr)) (fun iv _ => (intOf iv + 1).toNat)
        case atStart => exact ⟨N, (N : Int) - 1, by go_num, rfl, by omega, Nat.le_refl _, HS5⟩
        case round =>
          obtain ⟨i, z, rfl, hz, hKi, hiN, HM6⟩ := hrel
          by_cases hge : K < i
          · obtain ⟨i, rfl⟩ : ∃ i', i = i' + 1 := ⟨i - 1, by omega⟩
            obtain rfl : z = (i : Int) := by omega
            clear hz
            have hq2 : (i : Int) ≥ (K : Int) := by omega
            have q0 : (0 : Int) ≤ (i : Int) := by omega
            have q1 : (i : Int) < (N : Int) := by omega
            obtain ⟨bs, os, rfl, -, -, -⟩ := ST.out _ _ _ HM6.out i (by omega)
            have S6 := SE.out p _ _ 5 (i : Int) _ _ HM6.out (see_un N i)
            have HH : Hid (∀ u, MQ w o0 (some ⟨bs, os, none⟩) cap0 p ⟨N, i, false, true, false⟩ u → u.cell? ⟨w.heap.size, 5, none⟩ = some (.slice (some ⟨bs, os, none⟩) N cap0) ∧ u.cell? ⟨bs, os + i * 2, none⟩ = some (.int .i64 (stAt o0.steps i).1) ∧ Calls Try.prog 13 #[.pointer (some ⟨p, 0, none⟩), .int .i64 (stAt o0.steps i).1] u fun e w' => e = .returned (.int .i64 0) ∧ MQ w o0 (some ⟨bs, os, none⟩) cap0 p ⟨N, i, false, true, false⟩ w') := fun u h => by
              obtain ⟨bs', os', e, x1, x2, x3⟩ := ST.out _ _ _ h i (by omega)
              cases e
              exact ⟨x1, x2, HE.out p _ _ i _ h (by omega) (if_neg (Nat.lt_irrefl i))⟩
            generalize (stAt o0.steps i).1 = y1 at *
            go_wp2_with (first
              | (go_at_call 12; refine S6.mono ?_; clear S6; rintro e u7 ⟨rfl, hs⟩; have HS7 := hide hs; obtain ⟨k5, k6, H7⟩ := HH.out _ hs; clear hs)
              | (go_at_call 13; refine H7.mono ?_; clear H7; rintro e u8 ⟨rfl, hs⟩; have HS8 := hide hs; clear hs k5 k6))
            go_roundw
            case rel => exact ⟨i, (i : Int) - 1, by go_num, rfl, by omega, by omega, HS8⟩
            case measure => simp [intOf]
          · have hq2 : ¬ (z ≥ (K : Int)) := by omega
            have HM7 : Hid (MQ w o0 a0 cap0 p ⟨N, K, false, true, false⟩ wr) := by
              show MQ w o0 a0 cap0 p ⟨N, K, false, true, false⟩ wr
              have e : i = K := by omega
              exact e ▸ HM6.out
            obtain ⟨kb, hkb⟩ : ∃ kb, ((K : Int) == 0) = kb := ⟨_, rfl⟩
            have TE : Hid (∀ u, MQ w o0 a0 cap0 p ⟨N, K, false, true, false⟩ u → (Calls Try.prog 16 #[.pointer (some ⟨p, 0, none⟩)] u fun e w' => e = .returned (.bool false) ∧ MQ w o0 a0 cap0 p ⟨N, K, false, true, false⟩ w') ∧
                (Calls Try.prog 18 #[.pointer (some ⟨p, 0, none⟩)] u fun e w' => e = .returned (.bool kb) ∧ MQ w o0 a0 cap0 p ⟨N, K, false, true, false⟩ w') ∧
                (Calls Try.prog 15 #[.pointer (some ⟨p, 0, none⟩)] u fun e w' => ∃ aS cS, e = .returned (.slice aS (1 + 2 * N - K) cS) ∧ MQ w o0 a0 cap0 p ⟨N, K, false, true, false⟩ w')) := fun u h => by
              obtain ⟨h1, -, h2, h4⟩ := h.tell
              refine ⟨h1, ?_, ?_⟩
              · have e : kb = (true && decide (K = 0)) := by rw [← hkb, Bool.true_and, Bool.eq_iff_iff]; simp
                rw [e]
                exact h2
              · refine h4.mono ?_
                rintro e w' ⟨aS, cS, e1, e2⟩
                refine ⟨aS, cS, ?_, e2⟩
                rw [e1]
                congr 3
                simp
                omega
            have BW : Hid (∀ s u, MQ w o0 a0 cap0 p s u → Below w.heap.size w u) := fun s u h => h.bel
            have qb : (kb == kb) = true := by simp
            have ql : (((1 + 2 * N - K : Nat) : Int) == 1 + 2 * (N : Int) - (K : Int)) = true := by
              have : ((1 + 2 * N - K : Nat) : Int) = 1 + 2 * (N : Int) - (K : Int) := by omega
              simp [this]
            have hl1 : 1 + 2 * N - K ≤ 7 := by omega
            clear hge hq hz
            generalize hLL : 1 + 2 * N - K = LL at *
            go_wp2_with (first
              | (go_at_call 18; refine (TE.out _ HM7.out).2.1.mono ?_; rintro e u9 ⟨rfl, hs⟩; have HS9 := hide hs; clear hs)
              | (go_at_call 16; refine (TE.out _ HS9.out).1.mono ?_; rintro e u10 ⟨rfl, hs⟩; have HS10 := hide hs; clear hs)
              | (go_at_call 15; refine (TE.out _ HS10.out).2.2.mono ?_; rintro e u11 ⟨aS, cS, rfl, hs⟩; have HB11 := hide (BW.out _ _ hs); clear hs)
              | (go_at_call 7; refine (AWK.out _ HB11.out).mono ?_; rintro e ua ⟨rfl, hb⟩; have HX := hide hb; clear hb))
            go_ret
            exact ⟨rfl, HX.out⟩
      · have S1 := SE.out p _ _ 13 0 _ _ HMN.out (see_co N)
        have T5 : Hid (∀ u, MQ w o0 a0 cap0 p ⟨N, N, true, false, false⟩ u → u.cell? ⟨w.heap.size, 5, none⟩ = some (.slice a0 N cap0) ∧ (Calls Try.prog 12 #[.pointer (some ⟨p, 0, none⟩), .agg #[.int .i64 14, .int .i64 0]] u fun e w' => e = .returned (.bool false) ∧ MQ w o0 a0 cap0 p ⟨N, N, true, false, false⟩ w') ∧
            (Calls Try.prog 12 #[.pointer (some ⟨p, 0, none⟩), .agg #[.int .i64 16, .int .i64 0]] u fun e w' => e = .returned (.bool true) ∧ MQ w o0 a0 cap0 p ⟨N, N, true, false, true⟩ w') ∧
            (Calls Try.prog 16 #[.pointer (some ⟨p, 0, none⟩)] u fun e w' => e = .returned (.bool true) ∧ MQ w o0 a0 cap0 p ⟨N, N, true, false, false⟩ w') ∧
            (Calls Try.prog 18 #[.pointer (some ⟨p, 0, none⟩)] u fun e w' => e = .returned (.bool false) ∧ MQ w o0 a0 cap0 p ⟨N, N, true, false, false⟩ w')) := fun u h => by
          obtain ⟨h1, -, h2, -⟩ := h.tell
          have h5 := h.d5
          rw [HNN.out] at h5
          exact ⟨h5, SE.out p _ _ 14 0 _ _ h (see_ab0 N), SE.out p _ _ 16 0 _ _ h (see_sh N), h1, h2⟩
        go_wp2_with (first
          | (go_at_call 12; refine S1.mono ?_; clear S1; rintro e u5 ⟨rfl, hs⟩; have HS5 := hide hs; have S2 := (T5.out _ hs).2.1; clear hs)
          | (go_at_call 12; refine S2.mono ?_; clear S2; rintro e u6 ⟨rfl, hs⟩; have HS6 := hide hs; have S3 := (T5.out _ hs).2.2.2.1; clear hs)
          | (go_at_call 16; refine S3.mono ?_; clear S3; rintro e u7 ⟨rfl, hs⟩; have HS7 := hide hs; have S4 := (T5.out _ hs).2.2.2.2; clear hs)
          | (go_at_call 18; refine S4.mono ?_; clear S4; rintro e u8 ⟨rfl, hs⟩; have HS8 := hide hs; have k5 := (T5.out _ hs).1; clear hs))
        clear k5
        go_loopw [77] (fun iv wr => ∃ i : Nat, iv = .int .i64 i ∧ i ≤ N ∧ Hid (MQ w o0 a0 cap0 p ⟨N, N, true, false, false⟩ wr)) (fun iv _ => N - (intOf iv).toNat)
        case atStart => exact ⟨0, rfl, Nat.zero_le _, HS8⟩
        case round =>
          obtain ⟨i, rfl, hiN, HM6⟩ := hrel
          by_cases hlt : i < N
          · have q1 : (i : Int) < (N : Int) := by omega
            obtain ⟨bs, os, rfl, -, e0, e1⟩ := ST.out _ _ _ HM6.out i hlt
            obtain ⟨W, hW⟩ : ∃ W, W = wr.alloc (.cells #[.int .i64 (stAt o0.steps i).1, .int .i64 (stAt o0.steps i).2] 39) := ⟨_, rfl⟩
            have hb : Below wr.heap.size wr W := by rw [hW]; exact (Below.refl _ _).alloc (Nat.le_refl _) _
            obtain ⟨b0, b1⟩ := two_of (u := W) (n := wr.heap.size) (t := 39) (v0 := .int .i64 (stAt o0.steps i).1) (v1 := .int .i64 (stAt o0.steps i).2) (by rw [hW]; exact World.alloc_heap_new wr _)
            have HH : Hid (∀ u, Below W.heap.size W u → Calls Try.prog 13 #[.pointer (some ⟨p, 0, none⟩), .int .i64 (stAt o0.steps i).1] u fun e w' => e = .returned (.int .i64 (stAt o0.steps i).2) ∧ (MQ w o0 (some ⟨bs, os, none⟩) cap0 p ⟨N, N, true, false, false⟩ w' ∧ w'.cell? ⟨wr.heap.size, 0, none⟩ = some (.int .i64 (stAt o0.steps i).1) ∧ w'.cell? ⟨wr.heap.size, 1, none⟩ = some (.int .i64 (stAt o0.steps i).2))) := fun u hu => by
              obtain ⟨v, h1, h2, h3⟩ := HM6.out.on (bel_on' hb hu)
              have hh := held_step h1.k.1 (j := i) (by rw [h3, HNN.out]; exact hlt)
              rw [h3, h2, if_pos hlt] at hh
              refine (h1.k.held _ hh).mono (fun e w' ⟨e1, e2⟩ => ⟨e1, ⟨v, h1.on e2, h2, h3⟩, cellL b0 (bel_on' hu e2), cellL b1 (bel_on' hu e2)⟩)
            have HWW := hide hW
            rw [hW] at b0 b1
            generalize (stAt o0.steps i).1 = y1 at *
            generalize (stAt o0.steps i).2 = y2 at *
            have yy : (y2 != y2) = false := by simp
            clear hb hW
            go_wp2_with fail
            rw [← HWW.out] at b0 b1 ⊢
            go_region_held3 (fun w' => w'.cell? ⟨wr.heap.size, 0, none⟩ = some (.int .i64 y1) ∧ w'.cell? ⟨wr.heap.size, 1, none⟩ = some (.int .i64 y2)) (go_keep) (first
              | (go_at_call 13; refine (HH.out _ (by first | exact Below.refl _ _ | exact (Below.refl _ _).drew)).mono ?_; clear HH; rintro e u9 ⟨rfl, hs, k0, k1⟩; have HS9 := hide hs; clear hs b0 b1; have b0 := k0; have b1 := k1; clear k0 k1))
            all_goals go_wp2
            all_goals go_roundw
            case rel => exact ⟨i + 1, by go_num, by omega, HS9⟩
            case measure => simp [intOf]; omega
          · have q1 : ¬ (i : Int) < (N : Int) := by omega
            have S9 := (T5.out _ HM6.out).2.2.1
            have T9 : Hid (∀ u, MQ w o0 a0 cap0 p ⟨N, N, true, false, true⟩ u → (Calls Try.prog 17 #[.pointer (some ⟨p, 0, none⟩)] u fun e w' => e = .returned (.bool true) ∧ Below w.heap.size w w')) := fun u h => h.tell.2.1.mono (fun e w' ⟨e1, e2⟩ => ⟨e1, e2.bel⟩)
            go_wp2_with (first
              | (go_at_call 12; refine S9.mono ?_; clear S9; rintro e u9 ⟨rfl, hs⟩; have S10 := T9.out _ hs; clear hs)
              | (go_at_call 17; refine S10.mono ?_; clear S10; rintro e u10 ⟨rfl, hs⟩; have HB10 := hide hs; clear hs)
              | (go_at_call 7; refine (AWK.out _ HB10.out).mono ?_; rintro e ua ⟨rfl, hb⟩; have HX := hide hb; clear hb))
            go_ret
            exact ⟨rfl, HX.out⟩
end Go.Proofs.Ytdoejppnifoebaa
