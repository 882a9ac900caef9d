/-
  A book of parcels in memory: its block, its row of ids, its map of what went. Contracts of parcel's New, isId, isItem, isQty, Has; those of a nil book.
-/
import Derived.Test.YtkaniplkobnpjaaPclM
import Derived.Test.YtkaniplkobnpjaaMapX
import Derived.Test.YtkaniplkobnpjaaStrs
import Derived.Test.YtkaniplkobnpjaaRw8
import Derived.Test.YtkaniplkobnpjaaRg2
namespace Go.Proofs.Ytkaniplkobnpjaa
open Go.ChangeShapes Go.WideShapes Go.ChangeAt Go.RowKit Go.Maps

/-- A set of blocks, and what has come behind all that lay there. -/
def growE (E : Nat → Prop) (w w' : World) : Nat → Prop := fun k => E k ∨ (w.heap.size ≤ k ∧ k < w'.heap.size)
/-- The book's block, its row v, its map mv. -/
def PcV (B : Nat) (E : Nat → Prop) (w : World) (p : Nat) (l : List (Int × Int × Int)) (v mv : Value) : Prop :=
  w.heap[p]? = some (.cells #[v, mv] 51 (0, 0)) ∧
  w.ownsRow B 3 1 v l.length ((idsP l).map (Value.int .i64)) ∧ (∀ k, v.ownBlock = some k → E k) ∧
  ((mv = .map none ∧ l = []) ∨ ∃ b, mv = .map (some b) ∧ E b ∧ Mx pairOf Try.prog 3 w b l.length (findP l))
/-- The book at p; all its blocks are of E. -/
def Pc (B : Nat) (E : Nat → Prop) (w : World) (p : Nat) (l : List (Int × Int × Int)) : Prop :=
  (∀ k, E k → B ≤ k ∧ k < w.heap.size) ∧ E p ∧ GoodC l ∧ ∃ v mv, PcV B E w p l v mv
section
variable {B : Nat} {E E' : Nat → Prop} {w w' : World} {p : Nat} {l : List (Int × Int × Int)} {v mv : Value}
theorem PcV.kept {F : Nat → Obj → Prop} (k : PcV B E w p l v mv) (hp : E p) (hk : Rg.Kept F w w') (hE : ∀ k o, E k → ¬ F k o) : PcV B E w' p l v mv := by
  obtain ⟨h1, h2, h3, h4⟩ := k
  refine ⟨hk.block _ _ h1 (hE _ _ hp), ⟨h2.1, ?_⟩, h3, ?_⟩
  · rcases h2.2 with h | ⟨g, cap, cur, rfl, hg, hc, rest⟩
    · exact .inl h
    · exact .inr ⟨g, cap, cur, rfl, hg, hk.block _ _ hc (hE _ _ (h3 g rfl)), rest⟩
  · rcases h4 with h | ⟨b, e1, e2, e3⟩
    · exact .inl h
    · exact .inr ⟨b, e1, e2, e3.kept hk (fun o => hE _ _ e2)⟩
theorem PcV.mono (k : PcV B E w p l v mv) (hE : ∀ k, E k → E' k) : PcV B E' w p l v mv := by
  obtain ⟨h1, h2, h3, h4⟩ := k
  exact ⟨h1, h2, fun k e => hE _ (h3 k e), h4.imp id (fun ⟨b, e1, e2, e3⟩ => ⟨b, e1, hE _ e2, e3⟩)⟩
theorem Pc.good (k : Pc B E w p l) : GoodC l := k.2.2.1
theorem Pc.low (k : Pc B E w p l) : B ≤ w.heap.size := by have := k.1 p k.2.1; omega
theorem Pc.kept {F : Nat → Obj → Prop} (k : Pc B E w p l) (hk : Rg.Kept F w w') (hE : ∀ k o, E k → ¬ F k o) : Pc B E w' p l := by
  obtain ⟨h1, h2, h3, v, mv, h4⟩ := k
  exact ⟨fun k e => ⟨(h1 k e).1, Nat.lt_of_lt_of_le (h1 k e).2 hk.size⟩, h2, h3, v, mv, h4.kept h2 hk hE⟩
theorem Pc.on (k : Pc B E w p l) (hb : Below w.heap.size w w') : Pc B E w' p l := k.kept (F := fun _ _ => False) (Rg.Kept.of_below hb) (fun _ _ _ h => h)
theorem Pc.grow {W : World} (k : Pc B E w p l) (hB : B ≤ W.heap.size) : Pc B (growE E W w) w p l := by
  obtain ⟨h1, h2, h3, v, mv, h4⟩ := k
  exact ⟨fun k e => e.elim (h1 k) (fun e => ⟨by omega, e.2⟩), .inl h2, h3, v, mv, h4.mono (fun _ e => .inl e)⟩
theorem Pc.bel (k : Pc B E w p l) (hk : Rg.Kept (fun i _ => E i) w w') : Below B w w' := hk.bel k.low (fun i _ e => (k.1 i e).1)
theorem PcV.cellI (k : PcV B E w p l v mv) : w.cell? ⟨p, 0, none⟩ = some v := by rw [cell_of k.1]; rfl
theorem PcV.cellM (k : PcV B E w p l v mv) : w.cell? ⟨p, 1, none⟩ = some mv := by rw [cell_of k.1]; rfl
theorem PcV.frozen (k : PcV B E w p l v mv) (i : Nat) : w.frozen? ⟨p, i, none⟩ = false := frozen_of_row _ _ _ _ _ k.1
theorem PcV.lt (k : PcV B E w p l v mv) : p < w.heap.size := (Array.getElem?_eq_some_iff.1 k.1).1
end
theorem zeroL (w : World) : (zeroValue 54).run Try.prog w = .ok (pairV (0, 0)) w := by kernel_rfl
/-- A look-up in the book's map. -/
theorem PcV.look {B : Nat} {E : Nat → Prop} {w : World} {p : Nat} {l : List (Int × Int × Int)} {v mv : Value} (k : PcV B E w p l v mv) {id : Int} (hw : (Lit.int .i64 id).wf = true) :
    (Instr.lookup 49 mv (.int .i64 id) true).run Try.prog w = .ok (.tuple #[pairV ((findP l id).getD (0, 0)), .bool (findP l id).isSome]) w := by
  rcases k.2.2.2 with ⟨rfl, rfl⟩ | ⟨b, rfl, _, h⟩
  · show _ = Result.ok (Value.tuple #[pairV (0, 0), .bool false]) w
    kernel_rfl
  · exact h.look_ok Try.underlying3 Try.underlying49 (zeroL _) hw

theorem pnew_any (w : World) : Calls Try.prog 7 #[] w fun e w' => ∃ p, e = .returned (.pointer (some ⟨p, 0, none⟩)) ∧ p = w.heap.size ∧ Pc w.heap.size (fun k => k = p) w' p [] ∧ Below w.heap.size w w' := by
  go_enter Try.func7, Try.ntmps7
  go_wp2
  go_ret
  refine ⟨_, rfl, rfl, ⟨fun k e => ?_, rfl, GoodC.new, .slice none 0 0, .map none, World.alloc_heap_new _ _, World.ownsRow_nil _ _ _ _, fun k e => by simp [Value.ownBlock] at e, .inl ⟨rfl, rfl⟩⟩, bel_al (Below.refl _ _) _⟩
  subst e
  exact ⟨Nat.le_refl _, by simp⟩
theorem pisid_any (id : Int) (w : World) : Calls Try.prog 18 #[.int .i64 id] w fun e w' => e = .returned (.bool (isI id)) ∧ w = w' := by
  by_cases h0 : 1 ≤ id
  · by_cases h1 : id ≤ 999
    · have hm : true = isI id := (isI_iff.2 ⟨h0, h1⟩).symm
      rw [← hm]
      clear hm
      go_enter Try.func18, Try.ntmps18
      go_wp2
      go_ret
      exact ⟨rfl, rfl⟩
    · have hm : false = isI id := by unfold isI; simp; omega
      rw [← hm]
      clear hm
      go_enter Try.func18, Try.ntmps18
      go_wp2
      go_ret
      exact ⟨rfl, rfl⟩
  · have hm : false = isI id := by unfold isI; simp; omega
    rw [← hm]
    clear hm
    go_enter Try.func18, Try.ntmps18
    go_wp2
    go_ret
    exact ⟨rfl, rfl⟩
theorem pisitem_any (id : Int) (w : World) : Calls Try.prog 19 #[.int .i64 id] w fun e w' => e = .returned (.bool (isIt id)) ∧ w = w' := by
  by_cases h0 : 0 ≤ id
  · by_cases h1 : id < 8
    · have hm : true = isIt id := (isIt_iff.2 ⟨h0, h1⟩).symm
      rw [← hm]
      clear hm
      go_enter Try.func19, Try.ntmps19
      go_wp2
      go_ret
      exact ⟨rfl, rfl⟩
    · have hm : false = isIt id := by unfold isIt; simp; omega
      rw [← hm]
      clear hm
      go_enter Try.func19, Try.ntmps19
      go_wp2
      go_ret
      exact ⟨rfl, rfl⟩
  · have hm : false = isIt id := by unfold isIt; simp; omega
    rw [← hm]
    clear hm
    go_enter Try.func19, Try.ntmps19
    go_wp2
    go_ret
    exact ⟨rfl, rfl⟩
theorem pisqty_any (q : Int) (w : World) : Calls Try.prog 20 #[.int .i64 q] w fun e w' => e = .returned (.bool (decide (1 ≤ q ∧ q ≤ 1000000000))) ∧ w = w' := by
  by_cases h0 : 1 ≤ q
  · by_cases h1 : q ≤ 1000000000
    · have hm : true = decide (1 ≤ q ∧ q ≤ 1000000000) := by simp; omega
      rw [← hm]
      clear hm
      go_enter Try.func20, Try.ntmps20
      go_wp2
      go_ret
      exact ⟨rfl, rfl⟩
    · have hm : false = decide (1 ≤ q ∧ q ≤ 1000000000) := by simp; omega
      rw [← hm]
      clear hm
      go_enter Try.func20, Try.ntmps20
      go_wp2
      go_ret
      exact ⟨rfl, rfl⟩
  · have hm : false = decide (1 ≤ q ∧ q ≤ 1000000000) := by simp; omega
    rw [← hm]
    clear hm
    go_enter Try.func20, Try.ntmps20
    go_wp2
    go_ret
    exact ⟨rfl, rfl⟩

set_option maxHeartbeats 400000 in
theorem phas_any {B : Nat} {E : Nat → Prop} {w : World} {p : Nat} {l : List (Int × Int × Int)} (k : Pc B E w p l) {id : Int} (hw : (Lit.int .i64 id).wf = true) :
    Calls Try.prog 10 #[.pointer (some ⟨p, 0, none⟩), .int .i64 id] w fun e w' => e = .returned (.tuple #[.int .i64 ((findP l id).getD (0, 0)).1, .int .i64 ((findP l id).getD (0, 0)).2, .bool (findP l id).isSome]) ∧ Below w.heap.size w w' := by
  obtain ⟨-, -, -, v, mv, hv⟩ := k
  have c1 := hv.cellM
  have hl := hv.look hw
  obtain ⟨o, ho⟩ : ∃ o, (findP l id).isSome = o := ⟨_, rfl⟩
  obtain ⟨⟨x, y⟩, hc⟩ : ∃ c, (findP l id).getD (0, 0) = c := ⟨_, rfl⟩
  rw [ho, hc] at hl ⊢
  unfold pairV at hl
  clear hv hc ho
  dsimp only at hl ⊢
  go_enter Try.func10, Try.ntmps10
  go_wp2
  go_region
  go_wp2
  go_ret3
  exact ⟨rfl, by first | exact Below.refl _ _ | exact bel_al (Below.refl _ _) _ | exact (bel_al (Below.refl _ _) _).drew⟩
theorem phasnil_any (id : Int) (w : World) :
    Calls Try.prog 10 #[.pointer none, .int .i64 id] w fun e w' => e = .returned (.tuple #[.int .i64 0, .int .i64 0, .bool false]) ∧ w = w' := by
  go_enter Try.func10, Try.ntmps10
  go_wp2
  go_ret3
  exact ⟨rfl, rfl⟩
theorem pshipnil_any (id item qty : Int) (w : World) :
    Calls Try.prog 8 #[.pointer none, .int .i64 id, .int .i64 item, .int .i64 qty] w fun e w' => e = .returned (.int .i64 1) ∧ w = w' := by
  go_enter Try.func8, Try.ntmps8
  go_wp2
  go_ret
  exact ⟨rfl, rfl⟩
end Go.Proofs.Ytkaniplkobnpjaa
