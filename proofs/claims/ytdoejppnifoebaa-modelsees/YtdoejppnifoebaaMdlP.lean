/-
  A model and the reference's trace beside each other, and a row of the law's own.
-/
import Derived.Test.YtdoejppnifoebaaMdlG
import Derived.Test.YtdoejppnifoebaaFTrd
import Derived.Test.YtdoejppnifoebaaFWhM
namespace Go.Proofs.Ytdoejppnifoebaa
open Go.ChangeShapes Go.WideShapes Go.ChangeAt Go.RowKit

/-- The blocks of the trace and of the law's row. -/
def XX (q bd bu : Nat) (sv : Value) : Nat → Prop := fun i => i = q ∨ i = bd ∨ i = bu ∨ sv.ownBlock = some i
/-- A model (v), a trace (s), a row (L) of n acts, beside the law's order. -/
structure DSt (w : World) (o : Od) (a : Option Addr) (c : Nat) (p q bd bu Bt R : Nat) (v : Ml) (s : Fs) (L : List (Int × Int)) (sv : Value) (n : Nat) (u : World) : Prop where
  k : MdX w (XX q bd bu sv) u p v
  bx : u.heap[w.heap.size]? = some (.cells #[.int .i64 o.id, .int .i64 o.item, .int .i64 o.qty, .int .i64 o.client, .int .i64 o.price, .slice a o.steps.length c] 24 (0, 0))
  ne : w.heap.size < p ∧ p < Bt
  t : Tr Bt u q bd bu o a c o.steps.length s
  lt : q < R ∧ bd < R ∧ bu < R
  r : OwnR u R sv n L
  rs : R ≤ u.heap.size
  oo : v.o = o
section
variable {w u u' : World} {o : Od} {a : Option Addr} {c p q bd bu Bt R n : Nat} {v v' : Ml} {s s' : Fs} {L : List (Int × Int)} {sv : Value}
theorem DSt.on (h : DSt w o a c p q bd bu Bt R v s L sv n u) (hb : Below u.heap.size u u') : DSt w o a c p q bd bu Bt R v s L sv n u' :=
  ⟨h.k.on hb, (hb.block _ (Array.getElem?_eq_some_iff.1 h.bx).1).trans h.bx, h.ne, h.t.below hb, h.lt, h.r.below hb, Nat.le_trans h.rs hb.size, h.oo⟩
theorem DSt.m (h : DSt w o a c p q bd bu Bt R v s L sv n u) : MSt w o a c u p v := ⟨h.k.md, h.bx, h.ne.1⟩
theorem DSt.own (h : DSt w o a c p q bd bu Bt R v s L sv n u) : ∀ i, sv.ownBlock = some i → R ≤ i ∧ i < u.heap.size := fun i e => h.r.2.lt i e
theorem DSt.np (h : DSt w o a c p q bd bu Bt R v s L sv n u) : ¬ XX q bd bu sv p := by
  have h1 := h.ne
  obtain ⟨o1, o2, o3, o4, o5, o6⟩ := h.t.own
  have h2 := h.lt
  rintro (e | e | e | e)
  · omega
  · omega
  · omega
  · have := h.own p e; omega
/-- The trace sees it. -/
theorem DSt.tsee (h : DSt w o a c p q bd bu Bt R v s L sv n u) (hok : Fok o.steps.length s) (h3 : o.steps.length ≤ 3) (x1 x2 : Int) :
    Calls Try.prog 11 #[.pointer (some ⟨q, 0, none⟩), .agg #[.int .i64 x1, .int .i64 x2]] u fun e w' => e = .returned (.bool (seeF o.steps.length s (x1, x2)).isSome) ∧ DSt w o a c p q bd bu Bt R v ((seeF o.steps.length s (x1, x2)).getD s) L sv n w' ∧ ∀ i ob, R ≤ i → u.heap[i]? = some ob → w'.heap[i]? = some ob := by
  obtain ⟨o1, o2, o3, o4, o5, o6⟩ := h.t.own
  have hq : q < u.heap.size := (Array.getElem?_eq_some_iff.1 h.t.at_).1
  refine (see_any h.t hok h3 (by omega) x1 x2).mono ?_
  rintro e w' ⟨h1, h2, ht, hn, hk⟩
  refine ⟨h1, ?_, fun i ob hi hb => hk.block _ _ hb (fun e => by have := h.lt; omega)⟩
  cases hs : seeF o.steps.length s (x1, x2) with
  | none => exact h.on (hn hs)
  | some s2 =>
    have hlt := h.lt
    have hne := h.ne
    refine ⟨h.k.kept hk (fun i _ e => ?_) h.np, hk.block _ _ h.bx (fun e => by omega), hne, ht _ hs, hlt, ⟨h.r.1, row_stays h.r.2 (fun i cs hi hc => ?_)⟩, Nat.le_trans h.rs hk.size, h.oo⟩
    · refine ⟨?_, by omega⟩
      rcases e with e | e | e
      · exact .inl e
      · exact .inr (.inl e)
      · exact .inr (.inr (.inl e))
    · rw [hc]
      exact hk.block _ _ hc (fun e => by omega)
/-- A row that was appended to. -/
theorem DSt.app {sv' : Value} {n' : Nat} {L' : List (Int × Int)} (h : DSt w o a c p q bd bu Bt R v s L sv n u) (ho : OwnR u' R sv' n' L') (hg : u.grownBy u' sv.ownBlock) (hv : sv'.ownBlock = sv.ownBlock ∨ sv'.ownBlock = some u.heap.size) : DSt w o a c p q bd bu Bt R v s L' sv' n' u' := by
  have hk : Rg.Kept (fun i _ => sv.ownBlock = some i) u u' := Rg.Kept.grown hg (fun _ _ e => e)
  obtain ⟨o1, o2, o3, o4, o5, o6⟩ := h.t.own
  have hlt := h.lt
  have hne := h.ne
  have hX : ∀ i, i < R → ¬ sv.ownBlock = some i := fun i hi e => by have := h.own i e; omega
  have hk2 := h.k.kept hk (fun i _ e => ⟨.inr (.inr (.inr e)), by have := h.own i e; omega⟩) h.np
  have hk3 : MdX w (XX q bd bu sv') u' p v := by
    rcases hv with e | e
    · exact hk2.more (fun i hi => by unfold XX at hi; rw [e] at hi; exact .inl hi)
    · -- the new block lies behind all that lay
      have h4 := (h.k.more (X' := XX q bd bu sv') (fun i hi => by
        rcases hi with hi | hi | hi | hi
        · exact .inl (.inl hi)
        · exact .inl (.inr (.inl hi))
        · exact .inl (.inr (.inr (.inl hi)))
        · rw [e] at hi; cases hi; exact .inr (Nat.le_refl _)))
      obtain ⟨g, ⟨a2, c2, ra, rc, h5, h6, h7⟩, h8⟩ := h4
      obtain ⟨_, ⟨a3, c3, ra3, rc3, h9, h10, h11⟩, h12⟩ := h.k
      have e1 := h5.blk
      rw [h9.blk] at e1
      simp at e1
      obtain ⟨⟨rfl, rfl⟩, rfl, rfl⟩ := e1
      refine ⟨g, ⟨a3, c3, ra3, rc3, h9.kept hk (fun _ e => h.np (.inr (.inr (.inr e)))) (fun x _ e e2 => h10 x e (.inr (.inr (.inr e2)))) (fun x _ e e2 => h11 x e (.inr (.inr (.inr e2)))), h6, h7⟩, hk2.2.2⟩
  refine ⟨hk3, hk.block _ _ h.bx (hX _ (by omega)), hne, ⟨h.t.own, hk.block _ _ h.t.at_ (hX _ (by omega)), hk.block _ _ h.t.done (hX _ (by omega)), hk.block _ _ h.t.undone (hX _ (by omega))⟩, hlt, ho, Nat.le_trans h.rs hk.size, h.oo⟩
/-- The model sees it. -/
theorem DSt.msee (h : DSt w o a c p q bd bu Bt R v s L sv n u) (x1 x2 : Int) (hv : seeM v (x1, x2) = v') :
    Calls Try.prog 12 #[.pointer (some ⟨p, 0, none⟩), .agg #[.int .i64 x1, .int .i64 x2]] u fun e w' => e = .returned (.bool (seeF v.o.steps.length v.s (x1, x2)).isSome) ∧ DSt w o a c p q bd bu Bt R v' s L sv n w' ∧ ∀ i ob, R ≤ i → u.heap[i]? = some ob → w'.heap[i]? = some ob := by
  subst hv
  obtain ⟨o1, o2, o3, o4, o5, o6⟩ := h.t.own
  have hlt := h.lt
  have hne := h.ne
  have hrs := h.rs
  refine (h.k.see (fun i e => ?_) x1 x2).mono ?_
  · rcases e with e | e | e | e
    · omega
    · omega
    · omega
    · exact (h.own i e).2
  · rintro e w' ⟨h1, h2, hk⟩
    refine ⟨h1, ⟨h2, hk.block _ _ h.bx (fun e => by omega), hne, ⟨h.t.own, hk.block _ _ h.t.at_ (fun e => by omega), hk.block _ _ h.t.done (fun e => by omega), hk.block _ _ h.t.undone (fun e => by omega)⟩, hlt, ⟨h.r.1, row_stays h.r.2 (fun i cs hi hc => ?_)⟩, Nat.le_trans h.rs hk.size, (seeM_o _ _).trans h.oo⟩, fun i ob hi hb => hk.block _ _ hb (fun e => by omega)⟩
    rw [hc]
    exact hk.block _ _ hc (fun e => by omega)
end
end Go.Proofs.Ytdoejppnifoebaa
