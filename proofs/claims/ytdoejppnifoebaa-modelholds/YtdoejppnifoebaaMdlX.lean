/-
  The law's awake; the law's order and a model beside it; ModelNil.
-/
import Derived.Test.YtdoejppnifoebaaMdlW
import Derived.Test.YtdoejppnifoebaaOrdF
import Derived.Test.YtdoejppnifoebaaFlwD
namespace Go.Proofs.Ytdoejppnifoebaa
open Go.ChangeShapes Go.WideShapes Go.ChangeAt Go.RowKit

def odM : Od := ⟨1, 0, 1, 0, 1, [(5, 9)]⟩
theorem odM_facts : mayO odM = true ∧ (seeF 1 fs0 (2, 0)).isSome = true ∧ heldF (seeM (newM odM) (2, 0)) 5 = 9 ∧ (seeF 1 (seeM (newM odM) (2, 0)).s (16, 0)).isSome = false ∧ (seeM (seeM (newM odM) (2, 0)) (16, 0)).s.yes = false := by decide
set_option maxRecDepth 100000 in
set_option maxHeartbeats 2000000 in
theorem mwake_any (w : World) : Calls Try.prog 7 #[] w fun e w' => e = .returned (.bool true) ∧ Below w.heap.size w w' := by
  obtain ⟨f1, f2, f3, f4, f5⟩ := odM_facts
  obtain ⟨V, hV⟩ : ∃ V, V = w.alloc (.cells #[.int .i64 5, .int .i64 9] 39) := ⟨_, rfl⟩
  have hbV : Below w.heap.size w V := by rw [hV]; exact (Below.refl _ _).alloc (Nat.le_refl _) _
  have hst : Sts V (some ⟨w.heap.size, 0, none⟩) odM.steps := by
    obtain ⟨h1, h2⟩ := two_of (u := V) (n := w.heap.size) (t := 39) (v0 := .int .i64 5) (v1 := .int .i64 9) (by rw [hV]; exact World.alloc_heap_new w _)
    exact .inr ⟨_, 0, rfl, fun i hi => by
      obtain rfl : i = 0 := by simp [odM] at hi; exact hi
      exact ⟨h1, h2⟩⟩
  have N := mnew_any hbV odM (sa := some ⟨w.heap.size, 0, none⟩) (sc := 1) hst (fun e => by cases e) f1
  rw [hV] at N
  have S1 : Hid (∀ u p, Md w u p (newM odM) → Calls Try.prog 12 #[.pointer (some ⟨p, 0, none⟩), .agg #[.int .i64 2, .int .i64 0]] u fun e w' => e = .returned (.bool true) ∧ Md w w' p (seeM (newM odM) (2, 0))) := fun u p k => (k.see 2 0).mono (fun e w' ⟨h1, h2, _⟩ => ⟨by rw [h1]; exact congrArg _ (congrArg _ f2), h2⟩)
  have S2 : Hid (∀ u p, Md w u p (seeM (newM odM) (2, 0)) → Calls Try.prog 12 #[.pointer (some ⟨p, 0, none⟩), .agg #[.int .i64 16, .int .i64 0]] u fun e w' => e = .returned (.bool false) ∧ Md w w' p (seeM (seeM (newM odM) (2, 0)) (16, 0))) := fun u p k => (k.see 16 0).mono (fun e w' ⟨h1, h2, _⟩ => ⟨by rw [h1]; exact congrArg _ (congrArg _ f4), h2⟩)
  have H1 : Hid (∀ u p, Md w u p (seeM (newM odM) (2, 0)) → Calls Try.prog 13 #[.pointer (some ⟨p, 0, none⟩), .int .i64 5] u fun e w' => e = .returned (.int .i64 9) ∧ Below u.heap.size u w') := fun u p k => k.held 5 f3
  have D1 : Hid (∀ u p, Md w u p (seeM (seeM (newM odM) (2, 0)) (16, 0)) → Calls Try.prog 16 #[.pointer (some ⟨p, 0, none⟩)] u fun e w' => e = .returned (.bool false) ∧ Below u.heap.size u w') := fun u p k => by
    have h := k.sold
    rw [f5] at h
    exact h
  generalize seeM (seeM (newM odM) (2, 0)) (16, 0) = v2 at *
  generalize seeM (newM odM) (2, 0) = v1 at *
  generalize newM odM = v0 at *
  clear hV hbV hst f1 f2 f3 f4 f5
  go_enter Try.func7, Try.ntmps7
  go_wp2_with (first
    | (go_at_call 8; refine N.mono ?_; clear N; rintro e u1 ⟨p, rfl, hm, -, -⟩; have M1 := hide hm; have C1 := S1.out u1 p hm; clear hm)
    | (go_at_call 12; refine C1.mono ?_; clear C1; rintro e u2 ⟨rfl, hm⟩; have M2 := hide hm; have C2 := H1.out u2 p hm; clear hm)
    | (go_at_call 13; refine C2.mono ?_; clear C2; rintro e u3 ⟨rfl, hb⟩; have M3 := hide (M2.out.on hb); have C3 := S2.out u3 p M3.out; clear hb)
    | (go_at_call 12; refine C3.mono ?_; clear C3; rintro e u4 ⟨rfl, hm⟩; have M4 := hide hm; have C4 := D1.out u4 p hm; clear hm)
    | (go_at_call 16; refine C4.mono ?_; clear C4; rintro e u5 ⟨rfl, hb⟩; have HX := hide (bel_on' M4.out.2.2 hb); clear hb))
  go_ret
  exact ⟨rfl, HX.out⟩
set_option maxRecDepth 100000 in
set_option maxHeartbeats 2000000 in
theorem modelNil_walk (x0 y0 : Int) (w : World) : Calls Try.prog 4 #[.agg #[.int .i64 x0, .int .i64 y0]] w fun e w' => e = .returned (.bool true) ∧ Below w.heap.size w w' := by
  obtain ⟨V, hV⟩ : ∃ V, V = w.alloc (.cells #[.int .i64 x0, .int .i64 y0] 33) := ⟨_, rfl⟩
  have hbV : Below w.heap.size w V := by rw [hV]; exact (Below.refl _ _).alloc (Nat.le_refl _) _
  have CEL : Hid (∀ u, Below V.heap.size V u → u.cell? ⟨w.heap.size, 0, none⟩ = some (.int .i64 x0) ∧ u.cell? ⟨w.heap.size, 1, none⟩ = some (.int .i64 y0)) := fun u hu => by
    obtain ⟨h1, h2⟩ := two_of (u := V) (n := w.heap.size) (t := 33) (v0 := .int .i64 x0) (v1 := .int .i64 y0) (by rw [hV]; exact World.alloc_heap_new w _)
    exact ⟨cellL h1 hu, cellL h2 hu⟩
  have HBV := hide hbV
  obtain ⟨b0, b1⟩ := CEL.out V (Below.refl _ _)
  have HV := hide hV
  have H0 : Hid (Below V.heap.size V V) := Below.refl _ _
  have C1 := nilm_see x0 y0 V
  rw [hV] at b0 b1 C1
  clear hV hbV
  go_enter Try.func4, Try.ntmps4
  go_wp2_with (first
    | (go_at_call 12; refine C1.mono ?_; clear C1; rintro e u1 ⟨rfl, hb⟩; rw [← HV.out] at hb; have H1 := hide hb; clear hb)
    | (go_at_call 15; refine (nilm_seen _).mono ?_; rintro e u2 ⟨rfl, hb⟩; have H2 := hide (bel_on' H1.out hb); clear hb b0 b1; obtain ⟨b0, b1⟩ := CEL.out u2 H2.out)
    | (go_at_call 13; refine (nilm_held _ _).mono ?_; rintro e u3 ⟨rfl, hb⟩; have H3 := hide (bel_on' H2.out hb); clear hb)
    | (go_at_call 16; refine (nilm_sold _).mono ?_; rintro e u4 ⟨rfl, hb⟩; have H4 := hide (bel_on' H3.out hb); clear hb)
    | (go_at_call 17; refine (nilm_sent _).mono ?_; rintro e u5 ⟨rfl, hb⟩; have H5 := hide (bel_on' H4.out hb); clear hb)
    | (go_at_call 18; refine (nilm_clean _).mono ?_; rintro e u6 ⟨rfl, hb⟩; have H6 := hide (bel_on' H5.out hb); clear hb)
    | (go_at_call 7; refine (mwake_any _).mono ?_; rintro e u7 ⟨rfl, hb⟩; have H7 := hide (bel_on' H6.out hb); clear hb))
  go_ret
  exact ⟨rfl, bel_on' HBV.out H7.out⟩
end Go.Proofs.Ytdoejppnifoebaa
