/-
  A model in memory; contracts of New, See, Seen.
-/
import Derived.Test.YtdoejppnifoebaaMdlM
import Derived.Test.YtdoejppnifoebaaMdlD
import Derived.Test.YtdoejppnifoebaaRg
import Derived.Test.YtdoejppnifoebaaRowS
import Derived.Deep.RegionHeld3
namespace Go.Proofs.Ytdoejppnifoebaa
open Go.ChangeShapes Go.WideShapes Go.ChangeAt Go.RowKit

/-- A model at p, its rows apart from its block. -/
structure MdV (B : Nat) (w : World) (p : Nat) (v : Ml) (a : Option Addr) (c : Nat) (ra : Option Addr) (rc : Nat) : Prop where
  low : B ≤ p
  blk : w.heap[p]? = some (.cells #[.int .i64 v.o.id, .int .i64 v.o.item, .int .i64 v.o.qty, .int .i64 v.o.client, .int .i64 v.o.price, .slice a v.o.steps.length c, .slice ra v.l.length rc] 49 (0, 0))
  st : Sts w a v.o.steps
  sc : v.o.steps.length ≤ c
  sp : ∀ x, a = some x → x.block ≠ p ∧ x.block < w.heap.size
  ro : Sts w ra v.l
  rn : ra = none → v.l = [] ∧ rc = 0
  rp : ∀ x, ra = some x → x.block ≠ p ∧ x.block < w.heap.size
/-- A model that keeps to it, above w0. -/
def Md (w0 w : World) (p : Nat) (v : Ml) : Prop := GoodMl v ∧ (∃ a c ra rc, MdV w0.heap.size w p v a c ra rc) ∧ Below w0.heap.size w0 w
section
variable {B : Nat} {w0 w w' : World} {p : Nat} {v : Ml} {a : Option Addr} {c : Nat} {ra : Option Addr} {rc : Nat}
theorem MdV.on (h : MdV B w p v a c ra rc) (hb : Below w.heap.size w w') : MdV B w' p v a c ra rc :=
  ⟨h.low, (hb.block _ (Array.getElem?_eq_some_iff.1 h.blk).1).trans h.blk, h.st.below hb, h.sc, fun x e => ⟨(h.sp x e).1, Nat.lt_of_lt_of_le (h.sp x e).2 hb.size⟩, h.ro.below hb, h.rn, fun x e => ⟨(h.rp x e).1, Nat.lt_of_lt_of_le (h.rp x e).2 hb.size⟩⟩
theorem Md.on (h : Md w0 w p v) (hb : Below w.heap.size w w') : Md w0 w' p v := by
  obtain ⟨g, ⟨a, c, ra, rc, h1⟩, h2⟩ := h
  exact ⟨g, ⟨a, c, ra, rc, h1.on hb⟩, bel_on' h2 hb⟩
theorem MdV.lt (h : MdV B w p v a c ra rc) : p < w.heap.size := (Array.getElem?_eq_some_iff.1 h.blk).1
theorem Md.lt (h : Md w0 w p v) : w0.heap.size ≤ p ∧ p < w.heap.size := by
  obtain ⟨_, ⟨a, c, ra, rc, h1⟩, _⟩ := h
  exact ⟨h1.low, h1.lt⟩
theorem MdV.cells (h : MdV B w p v a c ra rc) : (w.cell? ⟨p, 0, none⟩ = some (.int .i64 v.o.id) ∧ w.cell? ⟨p, 1, none⟩ = some (.int .i64 v.o.item) ∧ w.cell? ⟨p, 2, none⟩ = some (.int .i64 v.o.qty) ∧ w.cell? ⟨p, 3, none⟩ = some (.int .i64 v.o.client) ∧ w.cell? ⟨p, 4, none⟩ = some (.int .i64 v.o.price) ∧ w.cell? ⟨p, 5, none⟩ = some (.slice a v.o.steps.length c)) ∧ w.cell? ⟨p, 6, none⟩ = some (.slice ra v.l.length rc) := by
  refine ⟨⟨?_, ?_, ?_, ?_, ?_, ?_⟩, ?_⟩
  all_goals (rw [cell_of h.blk]; rfl)
theorem MdV.frz (h : MdV B w p v a c ra rc) (i : Nat) : w.frozen? ⟨p, i, none⟩ = false := frozen_of_row _ _ _ _ _ h.blk
/-- Rows stay where their blocks do. -/
theorem sts_kept {F : Nat → Obj → Prop} {l : List (Int × Int)} (h : Sts w a l) (hk : Rg.Kept F w w') (hF : ∀ x o, a = some x → ¬ F x.block o) : Sts w' a l := by
  rcases h with h | ⟨b, off, rfl, hc⟩
  · exact .inl h
  · by_cases h0 : l = []
    · exact .inl h0
    · have hlt : b < w.heap.size := World.block_lt_of_cell? w ⟨b, off + 0 * 2, none⟩ (hc 0 (List.length_pos_iff.2 h0)).1
      have hb : w'.heap[b]? = w.heap[b]? := (hk.block b _ (Array.getElem?_eq_getElem hlt) (hF _ _ rfl)).trans (Array.getElem?_eq_getElem hlt).symm
      refine .inr ⟨b, off, rfl, fun i hi => ⟨(World.cell?_of_block hb).trans (hc i hi).1, (World.cell?_of_block hb).trans (hc i hi).2⟩⟩
theorem MdV.kept {F : Nat → Obj → Prop} (h : MdV B w p v a c ra rc) (hk : Rg.Kept F w w') (hp : ∀ o, ¬ F p o) (ha : ∀ x o, a = some x → ¬ F x.block o) (hr : ∀ x o, ra = some x → ¬ F x.block o) : MdV B w' p v a c ra rc :=
  ⟨h.low, hk.block _ _ h.blk (hp _), sts_kept h.st hk ha, h.sc, fun x e => ⟨(h.sp x e).1, Nat.lt_of_lt_of_le (h.sp x e).2 hk.size⟩, sts_kept h.ro hk hr, h.rn, fun x e => ⟨(h.rp x e).1, Nat.lt_of_lt_of_le (h.rp x e).2 hk.size⟩⟩
/-- .. its rows in none of the blocks X. -/
def MdX (w0 : World) (X : Nat → Prop) (w : World) (p : Nat) (v : Ml) : Prop := GoodMl v ∧ (∃ a c ra rc, MdV w0.heap.size w p v a c ra rc ∧ (∀ x, a = some x → ¬ X x.block) ∧ ∀ x, ra = some x → ¬ X x.block) ∧ Below w0.heap.size w0 w
theorem MdX.md {X : Nat → Prop} (h : MdX w0 X w p v) : Md w0 w p v := by
  obtain ⟨g, ⟨a, c, ra, rc, h1, -, -⟩, h2⟩ := h
  exact ⟨g, ⟨a, c, ra, rc, h1⟩, h2⟩
theorem Md.mdx (h : Md w0 w p v) : MdX w0 (fun _ => False) w p v := by
  obtain ⟨g, ⟨a, c, ra, rc, h1⟩, h2⟩ := h
  exact ⟨g, ⟨a, c, ra, rc, h1, fun _ _ => id, fun _ _ => id⟩, h2⟩
theorem MdX.on {X : Nat → Prop} (h : MdX w0 X w p v) (hb : Below w.heap.size w w') : MdX w0 X w' p v := by
  obtain ⟨g, ⟨a, c, ra, rc, h1, h3, h4⟩, h2⟩ := h
  exact ⟨g, ⟨a, c, ra, rc, h1.on hb, h3, h4⟩, bel_on' h2 hb⟩
theorem MdX.more {X X' : Nat → Prop} (h : MdX w0 X w p v) (hX : ∀ i, X' i → X i ∨ w.heap.size ≤ i) : MdX w0 X' w p v := by
  obtain ⟨g, ⟨a, c, ra, rc, h1, h3, h4⟩, h2⟩ := h
  refine ⟨g, ⟨a, c, ra, rc, h1, fun x e e2 => ?_, fun x e e2 => ?_⟩, h2⟩
  · rcases hX _ e2 with e3 | e3
    · exact h3 x e e3
    · have := (h1.sp x e).2; omega
  · rcases hX _ e2 with e3 | e3
    · exact h4 x e e3
    · have := (h1.rp x e).2; omega
theorem MdX.kept {X : Nat → Prop} {F : Nat → Obj → Prop} (h : MdX w0 X w p v) (hk : Rg.Kept F w w') (hF : ∀ i o, F i o → X i ∧ w0.heap.size ≤ i) (hp : ¬ X p) : MdX w0 X w' p v := by
  obtain ⟨g, ⟨a, c, ra, rc, h1, h3, h4⟩, h2⟩ := h
  exact ⟨g, ⟨a, c, ra, rc, h1.kept hk (fun o e => hp (hF _ o e).1) (fun x o e e2 => h3 x e (hF _ o e2).1) (fun x o e e2 => h4 x e (hF _ o e2).1), h3, h4⟩, h2.trans (hk.bel h2.size (fun i o e => (hF i o e).2))⟩
/-- Another row is stored into it. -/
theorem MdV.put (h : MdV B w p v a c ra rc) {v2 : Ml} (ho : v2.o = v.o) {ra2 : Option Addr} {rc2 : Nat} (hr : Sts w ra2 v2.l) (hn : ra2 = none → v2.l = [] ∧ rc2 = 0) (hp : ∀ x, ra2 = some x → x.block ≠ p ∧ x.block < w.heap.size) :
    MdV B (w.setCell ⟨p, 6, none⟩ (.slice ra2 v2.l.length rc2)) p v2 a c ra2 rc2 ∧ Rg.Kept (fun i _ => i = p) w (w.setCell ⟨p, 6, none⟩ (.slice ra2 v2.l.length rc2)) := by
  have hk : Rg.Kept (fun i _ => i = p) w (w.setCell ⟨p, 6, none⟩ (.slice ra2 v2.l.length rc2)) := ⟨rfl, rfl, rfl, by simp, fun k o hk hx => (Below.heap_setCell _ _ _ _ (show k ≠ (⟨p, 6, none⟩ : Addr).block from hx)).trans hk⟩
  refine ⟨⟨h.low, ?_, ?_, by rw [ho]; exact h.sc, fun x e => by simpa using h.sp x e, sts_kept hr hk (fun x _ e => (hp x e).1), hn, fun x e => by simpa using hp x e⟩, hk⟩
  · rw [heap_setCell_same _ _ _ _ _ _ h.blk, ho]
    rfl
  · rw [ho]
    exact sts_kept h.st hk (fun x _ e => (h.sp x e).1)
end
/-- A row of steps handed back, in memory of the call's own. -/
def OwnT (w : World) (l : List (Int × Int)) (e : Ending) (w' : World) : Prop := ∃ a' c', e = .returned (.slice a' l.length c') ∧ (a' = none → l = [] ∧ c' = 0) ∧ l.length ≤ c' ∧ w'.ownsRow w.heap.size 39 2 (.slice a' l.length c') l.length (stCells l) ∧ Below w.heap.size w w'
set_option maxHeartbeats 1000000 in
theorem clone_steps {w : World} {a : Option Addr} {c : Nat} {l : List (Int × Int)} (hl : l.length ≤ 1000000) (ha : Sts w a l) (hn : a = none → l = [] ∧ c = 0) :
    Calls Try.prog 21 #[.slice a l.length c] w (OwnT w l) := by
  have q : ∀ (w : World) (a : Option Addr) (n c n' c' : Nat), (binOp .eql 22 (.slice a n c) (.slice none n' c')).run Try.prog w = .ok (.bool a.isNone) w := fun w a n c n' c' => Lib.run_eql_slice_nil w _ _ a n c n' c' Try.underlying22
  cases a with
  | none =>
    obtain ⟨rfl, rfl⟩ := hn rfl
    have HX : Hid (w.ownsRow w.heap.size 39 2 (.slice none 0 0) 0 []) := row_nil _ _ _ _
    clear ha hn hl
    go_enter Try.func21, Try.ntmps21
    go_wp2
    go_ret
    exact ⟨none, 0, rfl, fun _ => ⟨rfl, rfl⟩, Nat.le_refl _, HX.out, Below.refl _ _⟩
  | some ad =>
    have hb0 : Below w.heap.size w (w.alloc (.cells #[] 39)) := bel_al (Below.refl _ _) _
    have hrow : (w.alloc (.cells #[] 39)).ownsRow w.heap.size 39 2 (.slice (some ⟨w.heap.size, 0, none⟩) 0 0) 0 (stCells []) := World.ownsRow_made w #[] 0 (Nat.le_refl _) (Nat.zero_le _) (by simp)
    have HA := hide (ha.below hb0)
    clear ha hn
    have HL := hide hl
    obtain ⟨n, hn⟩ : ∃ n, l.length = n := ⟨_, rfl⟩
    have HN := hide hn
    rw [hn] at hl ⊢
    clear hn
    unfold OwnT
    rw [HN.out]
    go_enter Try.func21, Try.ntmps21
    go_wp2_with (at_builtin; refine append_sts rfl (.tmp 5) (.tmp 6) rfl w.heap.size (.slice (some ⟨w.heap.size, 0, none⟩) 0 0) [] rfl hrow ad l c (by rw [HN.out]; rfl) HA.out (by simpa using HL.out) (by simp) ?_; intro a' c' w' o1 g1; have O1 := hide o1; have B1 := hide (hb0.grown g1 (by simp) (fun k e => by simp [Value.ownBlock] at e; omega)); clear o1 g1)
    go_ret
    have o1 := O1.out
    simp only [List.nil_append, List.length_nil, Nat.zero_add] at o1 ⊢
    obtain ⟨a2, c2, e2, hc2⟩ := row_slice o1
    cases e2
    rw [HN.out] at o1 hc2 ⊢
    refine ⟨a', c', rfl, fun e => ?_, hc2, o1, B1.out⟩
    subst e
    obtain ⟨h1, h2⟩ := row_none o1
    exact ⟨List.eq_nil_of_length_eq_zero (HN.out.trans h1), h2⟩
end Go.Proofs.Ytdoejppnifoebaa
