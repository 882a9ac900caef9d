/-
  Contracts of the model: New, See, Seen.
-/
import Derived.Test.YtdoejppnifoebaaMdlS
import Derived.Test.YtdoejppnifoebaaOrdC3
namespace Go.Proofs.Ytdoejppnifoebaa
open Go.ChangeShapes Go.WideShapes Go.ChangeAt Go.RowKit

set_option maxRecDepth 100000 in
set_option maxHeartbeats 2000000 in
theorem mnew_no {w : World} (o : Od) {sa : Option Addr} {sc : Nat} (hs : Sts w sa o.steps) (hl : o.steps.length ≤ 9223372036854775807) (hm : mayO o = false) :
    Calls Try.prog 8 #[.agg #[.int .i64 o.id, .int .i64 o.item, .int .i64 o.qty, .int .i64 o.client, .int .i64 o.price, .slice sa o.steps.length sc]] w fun e w' => e = .returned (.pointer none) ∧ Below w.heap.size w w' := by
  obtain ⟨V, hV⟩ : ∃ V, V = w.alloc (.cells #[.int .i64 o.id, .int .i64 o.item, .int .i64 o.qty, .int .i64 o.client, .int .i64 o.price, .slice sa o.steps.length sc] 24) := ⟨_, rfl⟩
  have hbV : Below w.heap.size w V := by rw [hV]; exact (Below.refl _ _).alloc (Nat.le_refl _) _
  have MY := omay_any o sa sc V (hs.below hbV) hl
  rw [hm, hV] at MY
  have HB := hide hbV
  rw [hV] at HB
  clear hV hbV hs hm
  go_enter Try.func8, Try.ntmps8
  go_wp2_with (go_at_call 20; refine MY.mono ?_; clear MY; rintro e w1 ⟨rfl, hb⟩; have HX := hide (bel_on' HB.out hb); clear hb)
  go_ret
  exact ⟨rfl, HX.out⟩
set_option maxRecDepth 100000 in
set_option maxHeartbeats 4000000 in
theorem mnew_any {w0 w : World} (h0 : Below w0.heap.size w0 w) (o : Od) {sa : Option Addr} {sc : Nat} (hs : Sts w sa o.steps) (hsn : sa = none → o.steps = [] ∧ sc = 0) (hm : mayO o = true) :
    Calls Try.prog 8 #[.agg #[.int .i64 o.id, .int .i64 o.item, .int .i64 o.qty, .int .i64 o.client, .int .i64 o.price, .slice sa o.steps.length sc]] w fun e w' => ∃ p, e = .returned (.pointer (some ⟨p, 0, none⟩)) ∧ Md w0 w' p (newM o) ∧ Below w.heap.size w w' ∧ w.heap.size ≤ p := by
  have h3 := may_three hm
  obtain ⟨V, hV⟩ : ∃ V, V = w.alloc (.cells #[.int .i64 o.id, .int .i64 o.item, .int .i64 o.qty, .int .i64 o.client, .int .i64 o.price, .slice sa o.steps.length sc] 24) := ⟨_, rfl⟩
  have hbV : Below w.heap.size w V := by rw [hV]; exact (Below.refl _ _).alloc (Nat.le_refl _) _
  have hVb : V.heap[w.heap.size]? = some (.cells #[.int .i64 o.id, .int .i64 o.item, .int .i64 o.qty, .int .i64 o.client, .int .i64 o.price, .slice sa o.steps.length sc] 24 (0, 0)) := by rw [hV]; exact World.alloc_heap_new w _
  have MY := omay_any o sa sc V (hs.below hbV) (by omega)
  rw [hm, hV] at MY
  have CL : Hid (∀ u, Below V.heap.size V u → Calls Try.prog 21 #[.slice sa o.steps.length sc] u (OwnT u o.steps)) := fun u hu => clone_steps (by omega) (hs.below (bel_on' hbV hu)) hsn
  have HG := hide (newM_good hm)
  have H0 := hide h0
  have HBV := hide hbV
  have HVB := hide hVb
  have HV := hide hV
  clear hs hsn hm hV hbV hVb h0
  go_enter Try.func8, Try.ntmps8
  go_wp2_with fail
  refine MY.mono ?_
  clear MY
  rintro e w1 ⟨rfl, hb⟩
  rw [← HV.out] at hb
  have HB1 := hide hb
  have hx1 := (hb.block _ (Array.getElem?_eq_some_iff.1 HVB.out).1).trans HVB.out
  have HX1 := hide hx1
  have d5 := (order_of_six hx1).2.2.2.2.2
  have C1 := CL.out w1 hb
  clear hb hx1
  go_wp2_with fail
  refine C1.mono ?_
  rintro e w2 ⟨a', c', rfl, hn', hc', hr', hb2⟩
  have hx2 := (hb2.block _ (Array.getElem?_eq_some_iff.1 HX1.out).1).trans HX1.out
  have f5 : w2.frozen? ⟨w.heap.size, 5, none⟩ = false := frozen_of_row _ _ _ _ _ hx2
  obtain ⟨W, hW⟩ : ∃ W, W = w2.setCell ⟨w.heap.size, 5, none⟩ (.slice a' o.steps.length c') := ⟨_, rfl⟩
  have hWb : W.heap[w.heap.size]? = some (.cells #[.int .i64 o.id, .int .i64 o.item, .int .i64 o.qty, .int .i64 o.client, .int .i64 o.price, .slice a' o.steps.length c'] 24 (0, 0)) := by rw [hW, heap_setCell_same _ _ _ _ _ _ hx2]; rfl
  obtain ⟨g0, g1, g2, g3, g4, g5⟩ := order_of_six hx2
  have hww : w.heap.size < w2.heap.size := (Array.getElem?_eq_some_iff.1 hx2).1
  have hb02 : Below w.heap.size w w2 := bel_on' HBV.out (bel_on' HB1.out hb2)
  have hb0W : Below w.heap.size w W := by rw [hW]; exact hb02.setCell (p := ⟨w.heap.size, 5, none⟩) (Nat.le_refl _) _
  have hst : Sts W a' o.steps := by
    have h1 : Sts w2 a' o.steps := row_sts hr'
    have hk : Rg.Kept (fun i _ => i = w.heap.size) w2 W := by
      rw [hW]
      exact ⟨rfl, rfl, rfl, by simp, fun k o hk hx => (Below.heap_setCell _ _ _ _ (show k ≠ (⟨w.heap.size, 5, none⟩ : Addr).block from hx)).trans hk⟩
    refine sts_kept h1 hk (fun x _ e e2 => ?_)
    have h2 := (hr'.lt x.block (by rw [e]; rfl)).1
    have h3 := (Array.getElem?_eq_some_iff.1 HX1.out).1
    omega
  have FIN : Hid (∀ X, X = W.alloc (.cells #[.int .i64 o.id, .int .i64 o.item, .int .i64 o.qty, .int .i64 o.client, .int .i64 o.price, .slice a' o.steps.length c', .slice none 0 0] 49) → Md w0 X w2.heap.size (newM o) ∧ Below w.heap.size w X) := fun X hX => by
    have h3 : W.heap.size = w2.heap.size := by rw [hW]; simp
    rw [← h3]
    have hbX : Below W.heap.size W X := by rw [hX]; exact (Below.refl _ _).alloc (Nat.le_refl _) _
    have hw0 := H0.out.size
    have hw := hb0W.size
    refine ⟨⟨HG.out, ⟨a', c', none, 0, by omega, by rw [hX]; exact World.alloc_heap_new W _, hst.below hbX, hc', fun x e => ?_, .inl rfl, fun _ => ⟨rfl, rfl⟩, fun x e => by cases e⟩, bel_on' (bel_on' H0.out hb0W) hbX⟩, bel_on' hb0W hbX⟩
    have h2 := (hr'.lt x.block (by rw [e]; rfl)).2
    have h4 := hbX.size
    have h5 : X.heap.size = W.heap.size + 1 := by rw [hX]; simp
    omega
  have HWW := hide hW
  have hpw : w.heap.size ≤ w2.heap.size := hb02.size
  clear hr' hb2 hx2 hW hWb hb02 hb0W hst hww hc' hn'
  go_wp2
  rw [← HWW.out]
  go_ret
  exact ⟨_, rfl, (FIN.out _ rfl).1, (FIN.out _ rfl).2, hpw⟩
section
variable {B : Nat} {w0 w w' : World} {p : Nat} {v : Ml}
set_option maxRecDepth 100000 in
set_option maxHeartbeats 2000000 in
theorem Md.seen (k : Md w0 w p v) : Calls Try.prog 15 #[.pointer (some ⟨p, 0, none⟩)] w (OwnA w v.l) := by
  obtain ⟨g, ⟨a, c, ra, rc, h⟩, -⟩ := k
  have CL := clone_acts (by have := g.len; omega) h.ro h.rn
  obtain ⟨-, c6⟩ := h.cells
  clear h g
  go_enter Try.func15, Try.ntmps15
  go_wp2_with (go_at_call 30; refine CL.mono ?_; clear CL; rintro e w1 ⟨a1, c1, rfl, h1, h2, h3⟩; have H1 := hide h1; have H2 := hide h2; have H3 := hide h3; clear h1 h2 h3)
  go_ret
  exact ⟨a1, c1, rfl, H1.out, H2.out, H3.out⟩
end
end Go.Proofs.Ytdoejppnifoebaa
