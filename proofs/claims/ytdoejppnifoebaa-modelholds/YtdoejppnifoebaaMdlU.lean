/-
  Contract of the model's See.
-/
import Derived.Test.YtdoejppnifoebaaMdlT
namespace Go.Proofs.Ytdoejppnifoebaa
open Go.ChangeShapes Go.WideShapes Go.ChangeAt Go.RowKit

theorem acts_of {w : World} {b : Nat} {x1 x2 : Int} (h : w.heap[b]? = some (.cells #[.int .i64 x1, .int .i64 x2] 33 (0, 0))) : Sts w (some ⟨b, 0, none⟩) [(x1, x2)] :=
  .inr ⟨b, 0, rfl, fun i hi => by
    obtain rfl : i = 0 := by simp at hi; exact hi
    obtain ⟨h1, h2⟩ := two_of h
    exact ⟨h1, h2⟩⟩
theorem two_new (u : World) (A B : Obj) : ((u.alloc A).alloc B).heap[u.heap.size]? = some A ∧ ((u.alloc A).alloc B).heap[u.heap.size + 1]? = some B ∧ Below u.heap.size u ((u.alloc A).alloc B) := by
  have h := allocs_at [A, B] u
  have h0 := h 0 _ rfl
  have h1 := h 1 _ rfl
  refine ⟨by simpa [allocs] using h0, by simpa [allocs] using h1, ?_⟩
  have b1 : Below u.heap.size u (u.alloc A) := (Below.refl _ _).alloc (Nat.le_refl _) _
  exact b1.alloc b1.size _
section
variable {B : Nat} {w0 w w' : World} {p : Nat} {v : Ml}
/-- .. of a model whose rows are in none of the blocks X. -/
def SeeX (w0 : World) (X : Nat → Prop) (w : World) (p : Nat) (v : Ml) (x : Int × Int) (e : Ending) (w' : World) : Prop := e = .returned (.bool (seeF v.o.steps.length v.s x).isSome) ∧ MdX w0 X w' p (seeM v x) ∧ Rg.Kept (fun i _ => i = p) w w'
/-- What See leaves. -/
def SeeM (w0 w : World) (p : Nat) (v : Ml) (x : Int × Int) (e : Ending) (w' : World) : Prop := e = .returned (.bool (seeF v.o.steps.length v.s x).isSome) ∧ Md w0 w' p (seeM v x) ∧ Rg.Kept (fun i _ => i = p) w w'
set_option maxRecDepth 100000 in
set_option maxHeartbeats 4000000 in
theorem MdX.see {X : Nat → Prop} (k : MdX w0 X w p v) (hX : ∀ i, X i → i < w.heap.size) (x1 x2 : Int) : Calls Try.prog 12 #[.pointer (some ⟨p, 0, none⟩), .agg #[.int .i64 x1, .int .i64 x2]] w (SeeX w0 X w p v (x1, x2)) := by
  obtain ⟨g, ⟨a, c, ra, rc, h, hxa, hxr⟩, hB⟩ := id k
  have hlen := g.len
  have h3 := may_three g.m
  obtain ⟨n, hn⟩ : ∃ n, v.l.length = n := ⟨_, rfl⟩
  have hn9 : n ≤ 9 := by omega
  obtain ⟨V, hV⟩ : ∃ V, V = w.alloc (.cells #[.int .i64 x1, .int .i64 x2] 33) := ⟨_, rfl⟩
  have hbV : Below w.heap.size w V := by rw [hV]; exact (Below.refl _ _).alloc (Nat.le_refl _) _
  obtain ⟨b0, b1⟩ := two_of (u := V) (n := w.heap.size) (t := 33) (v0 := .int .i64 x1) (v1 := .int .i64 x2) (by rw [hV]; exact World.alloc_heap_new w _)
  have hV2 := h.on hbV
  obtain ⟨-, c6⟩ := hV2.cells
  rw [hn] at c6
  have CC : Hid (∀ Y, Below V.heap.size V Y → Y.heap[V.heap.size]? = some (.cells #[.int .i64 x1, .int .i64 x2] 33 (0, 0)) → Y.heap[V.heap.size + 1]? = some (.cells #[.slice ra n rc, .slice (some ⟨V.heap.size, 0, none⟩) 1 1] 25 (0, 0)) →
      Calls Try.prog 27 #[.slice (some ⟨V.heap.size + 1, 0, none⟩) 2 2] Y fun e w' => ∃ ad c', e = .returned (.slice (some ad) (n + 1) c') ∧ Sts w' (some ad) (v.l ++ [(x1, x2)]) ∧ (ad.block ≠ p ∧ ad.block < w'.heap.size ∧ ¬ X ad.block) ∧ Below V.heap.size V w' ∧
        Calls Try.prog 19 #[.agg #[.int .i64 v.o.id, .int .i64 v.o.item, .int .i64 v.o.qty, .int .i64 v.o.client, .int .i64 v.o.price, .slice a v.o.steps.length c], .slice (some ad) (n + 1) c'] w' fun e w'' => e = .returned (.int .i64 ((n + (if (seeF v.o.steps.length v.s (x1, x2)).isSome = true then 1 else 0) : Nat) : Int)) ∧ Below w'.heap.size w' w'') := fun Y hXb e1 e2 => by
    rw [← hn] at e2
    have hbX := bel_on' hbV hXb
    refine (concat_act e2 (by omega) (h.ro.below hbX) h.rn (acts_of e1)).mono ?_
    rintro e w' ⟨a', c', rfl, hne, ho, hb⟩
    have hb2 := bel_on' hbX hb
    have ho2 := ho.sts
    cases a' with
    | none => have := (hne rfl).1; simp at this
    | some ad =>
      have hlo := own_new ho ad rfl
      have hp := h.lt
      have hXs := hbX.size
      have LG := legal_any v.o a c (v.l ++ [(x1, x2)]) (some ad) c' w' (h.st.below hb2) (by omega) ho2 (by simp; omega)
      rw [g.legal, List.length_append, List.length_singleton, hn] at LG
      refine ⟨ad, c', by rw [List.length_append, hn]; rfl, ho2, ⟨by omega, (ho.2.lt ad.block rfl).2, fun e => by have := hX _ e; omega⟩, bel_on' hXb hb, LG⟩
  have FIN0 : Hid (∀ u, Below w.heap.size w u → Rg.Kept (fun i _ => i = p) w u ∧ MdX w0 X u p v) := fun u hu => ⟨Rg.Kept.of_below hu, k.on hu⟩
  have FIN1 : Hid (∀ s', seeF v.o.steps.length v.s (x1, x2) = some s' → ∀ u ad c', Below w.heap.size w u → Sts u (some ad) (v.l ++ [(x1, x2)]) → (ad.block ≠ p ∧ ad.block < u.heap.size ∧ ¬ X ad.block) → MdX w0 X (u.setCell ⟨p, 6, none⟩ (.slice (some ad) (n + 1) c')) p (seeM v (x1, x2)) ∧ Rg.Kept (fun i _ => i = p) w (u.setCell ⟨p, 6, none⟩ (.slice (some ad) (n + 1) c'))) := fun s' hs u ad c' hu hr hp => by
    have hP := (h.on hu).put (v2 := seeM v (x1, x2)) (seeM_o v _) (ra2 := some ad) (rc2 := c') (by rw [seeM_some hs]; exact hr) (fun e => by cases e) (fun x e => by cases e; exact ⟨hp.1, hp.2.1⟩)
    have hl2 : (seeM v (x1, x2)).l.length = n + 1 := by rw [seeM_some hs]; simp [hn]
    rw [hl2] at hP
    have hkk := (Rg.Kept.of_below (E := fun i _ => i = p) hu).trans hP.2
    exact ⟨⟨seeM_good g _, ⟨a, c, some ad, c', hP.1, hxa, fun x e => by cases e; exact hp.2.2⟩, hB.trans (hkk.bel hB.size (fun i _ e => by rw [e]; exact h.low))⟩, hkk⟩
  have CEL : Hid (∀ u, Below w.heap.size w u → ((u.cell? ⟨p, 0, none⟩ = some (.int .i64 v.o.id) ∧ u.cell? ⟨p, 1, none⟩ = some (.int .i64 v.o.item) ∧ u.cell? ⟨p, 2, none⟩ = some (.int .i64 v.o.qty) ∧ u.cell? ⟨p, 3, none⟩ = some (.int .i64 v.o.client) ∧ u.cell? ⟨p, 4, none⟩ = some (.int .i64 v.o.price) ∧ u.cell? ⟨p, 5, none⟩ = some (.slice a v.o.steps.length c)) ∧ u.cell? ⟨p, 6, none⟩ = some (.slice ra n rc)) ∧ u.frozen? ⟨p, 6, none⟩ = false) := fun u hu => by
    have h1 := (h.on hu).cells
    rw [hn] at h1
    exact ⟨h1, (h.on hu).frz 6⟩
  have HV := hide hV
  have HBV := hide hbV
  unfold SeeX
  rw [HV.out] at b0 b1 c6
  clear h g hB k hX hxa hxr hV hbV hV2 hn hlen
  generalize hsf : seeF v.o.steps.length v.s (x1, x2) = sf at *
  go_enter Try.func12, Try.ntmps12
  go_wp2_with fail
  rw [← HV.out] at b0 b1 c6 ⊢
  go_region_held3 (fun w' => w'.cell? ⟨p, 6, none⟩ = some (.slice ra n rc) ∧ w'.cell? ⟨w.heap.size, 0, none⟩ = some (.int .i64 x1) ∧ w'.cell? ⟨w.heap.size, 1, none⟩ = some (.int .i64 x2)) (go_keep) (first
    | (go_at_call 27; refine (CC.out _ (by first | exact (two_new _ _ _).2.2 | exact (two_new _ _ _).2.2.drew) (by first | exact (two_new _ _ _).1) (by first | exact (two_new _ _ _).2.1)).mono ?_; clear CC; rintro e w1 ⟨ad, c', rfl, hs1, hp1, hb1, LG⟩; have HS1 := hide hs1; have HP1 := hide hp1; have HB1 := hide (bel_on' HBV.out hb1); have b0' := cellL b0 hb1; have b1' := cellL b1 hb1; clear hs1 hp1 hb1 b0 b1 c6; obtain ⟨⟨⟨d0, d1, d2, d3, d4, d5⟩, c6⟩, -⟩ := CEL.out w1 HB1.out; have b0 := b0'; have b1 := b1'; clear b0' b1'))
  cases sf with
  | none =>
    rw [show ((n + (if (Option.isSome (none : Option Fs)) = true then 1 else 0) : Nat) : Int) = (n : Int) from rfl] at LG
    have q : (n : Int) < (n : Int) + 1 := by omega
    go_wp2_with (go_at_call 19; refine LG.mono ?_; clear LG; rintro e w2 ⟨rfl, hb2⟩; have HB2 := hide (bel_on' HB1.out hb2); clear hb2)
    go_ret
    have h1 := FIN0.out _ HB2.out
    refine ⟨rfl, ?_, h1.1⟩
    rw [seeM_none hsf]
    exact h1.2
  | some s' =>
    rw [show ((n + (if (Option.isSome (some s')) = true then 1 else 0) : Nat) : Int) = (n : Int) + 1 from rfl] at LG
    have q : ¬ ((n : Int) + 1 < (n : Int) + 1) := by omega
    go_wp2_with (go_at_call 19; refine LG.mono ?_; clear LG; rintro e w2 ⟨rfl, hb2⟩; have HB2 := hide (bel_on' HB1.out hb2); have HS2 := hide (HS1.out.below hb2); have HP2 := hide (show ad.block ≠ p ∧ ad.block < w2.heap.size ∧ ¬ X ad.block from ⟨HP1.out.1, Nat.lt_of_lt_of_le HP1.out.2.1 hb2.size, HP1.out.2.2⟩); clear hb2 c6 d0 d1 d2 d3 d4 d5; obtain ⟨⟨-, c6⟩, f6⟩ := CEL.out w2 HB2.out)
    go_ret
    have h1 := FIN1.out s' rfl _ ad c' HB2.out HS2.out HP2.out
    exact ⟨rfl, h1⟩
theorem Md.see (k : Md w0 w p v) (x1 x2 : Int) : Calls Try.prog 12 #[.pointer (some ⟨p, 0, none⟩), .agg #[.int .i64 x1, .int .i64 x2]] w (SeeM w0 w p v (x1, x2)) :=
  (k.mdx.see (fun _ e => e.elim) x1 x2).mono (fun _ _ ⟨h1, h2, h3⟩ => ⟨h1, h2.md, h3⟩)
end
end Go.Proofs.Ytdoejppnifoebaa
