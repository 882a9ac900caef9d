/-
  Maps of ints keyed by int: what one holds, as a function of the key (none: 0); a step of a range over one.
-/
import Derived.Test.YtpahgoehpkohiaaMapG
import Derived.Test.YtpahgoehpkohiaaRw8
namespace Go.Proofs.Ytpahgoehpkohiaa
open Go.ChangeShapes Go.WideShapes Go.ChangeAt Go.RowKit Go.Maps

theorem zeroI (w : World) : (zeroValue 3).run Try.prog w = .ok (.int .i64 0) w := by kernel_rfl
/-- The map reads as h. -/
def Fits (D : DataW Unit) (h : Int → Int) : Prop := IsMap D ∧ ∀ x : Int, D.atKey (.int .i64 x) (.lit (.int .i64 0)) = .lit (.int .i64 (h x)) ∧ Maps.has D (.int .i64 x) = decide (h x ≠ 0)
theorem Fits.new : Fits (.map []) (fun _ => 0) := ⟨isMap_empty, fun _ => ⟨rfl, rfl⟩⟩
theorem Fits.put {D : DataW Unit} {h : Int → Int} (f : Fits D h) (id n : Int) (hn : n ≠ 0) : Fits (D.put (.int .i64 id) (.lit (.int .i64 n))) (upd h id n) := by
  refine ⟨f.1.put _ _, fun x => ?_⟩
  by_cases e : x = id
  · subst e
    have hk : WideAt.IsKeyLit (Lit.int .i64 x) := trivial
    rw [upd_same, atKey_put_same f.1 hk, has_put_same f.1 hk]
    exact ⟨rfl, by simp [hn]⟩
  · rw [upd_other h n e, atKey_put_other (by simpa using e), has_put_other (by simpa using e)]
    exact f.2 x
/-- The map at b reads as h. -/
def Mi (w : World) (b n : Nat) (h : Int → Int) : Prop := ∃ D : DataW Unit, w.ownsMap Try.prog 3 (plainElem Try.prog 3) b n D ∧ Fits D h
section
variable {w w' : World} {b n : Nat} {h : Int → Int}
theorem Mi.lt (k : Mi w b n h) : b < w.heap.size := by obtain ⟨D, hD, _⟩ := k; exact hD.lt
theorem Mi.mono {n' : Nat} (k : Mi w b n h) (hn : n ≤ n') : Mi w b n' h := by obtain ⟨D, hD, hf⟩ := k; exact ⟨D, hD.mono hn, hf⟩
theorem Mi.kept {E : Nat → Obj → Prop} (k : Mi w b n h) (hk : Rg.Kept E w w') (hb : ∀ o, ¬ E b o) : Mi w' b n h := by obtain ⟨D, hD, hf⟩ := k; exact ⟨D, own_keptG hD hk (fun _ _ => hb _), hf⟩
theorem Mi.on (k : Mi w b n h) (hb : Below w.heap.size w w') : Mi w' b n h := k.kept (E := fun _ _ => False) (Rg.Kept.of_below hb) (fun _ h => h)
theorem Mi.ne {p : Nat} {cs : Array Value} {t : TypeId} {z : Nat × Nat} (k : Mi w b n h) (hp : w.heap[p]? = some (.cells cs t z)) : b ≠ p := by
  rintro rfl
  obtain ⟨D, ⟨es, c, hb, _⟩, _⟩ := k
  rw [hp] at hb
  cases hb
theorem Mi.new (w : World) : Mi (w.alloc (.map #[] 0)) w.heap.size 0 (fun _ => 0) := ⟨.map [], World.ownsMap_made _ _ _ _, Fits.new⟩
/-- m[id] -/
theorem Mi.look (k : Mi w b n h) {id : Int} (hw : (Lit.int .i64 id).wf = true) :
    (Instr.lookup 38 (.map (some b)) (.int .i64 id) false).run Try.prog w = .ok (.int .i64 (h id)) w := by
  obtain ⟨D, h5, h6⟩ := k
  obtain ⟨v, ps, hrun, hv⟩ := h5.lookup lawI Try.underlying38 (zeroI _) (plainElem_int Try.underlying3 (by decide)) (keyOf_int_mk Try.underlying3 hw)
  obtain ⟨c, rfl, hc, _⟩ := plainElem_int_inv Try.underlying3 hv
  have e1 := (h6.2 id).1
  have e2 : D.atKey (.int .i64 id) (.lit (.int .i64 0)) = .lit (.int .i64 c) := congrArg Prod.fst hc
  rw [e1] at e2
  rw [hrun]
  cases e2
  rfl
/-- m[id] = v -/
theorem Mi.put (k : Mi w b n h) {id v : Int} (hw : (Lit.int .i64 id).wf = true) (hv : (Lit.int .i64 v).wf = true) (hv0 : v ≠ 0) (hn : n < 1000000) :
    ∃ w1, (Instr.mapUpdate 38 (.map (some b)) (.int .i64 id) (.int .i64 v)).run Try.prog w = .ok () w1 ∧ Mi w1 b (n + 1) (upd h id v) ∧ Rg.Kept (fun i _ => i = b) w w1 := by
  obtain ⟨D, h5, h6⟩ := k
  obtain ⟨w1, hrun, o1, t1⟩ := h5.store lawI Try.underlying38 (by unfold maxLen; omega) (keyOf_int_mk Try.underlying3 hw) (plainElem_int Try.underlying3 hv)
  exact ⟨w1, hrun, ⟨_, o1, h6.put id v hv0⟩, Rg.Kept.grown t1.grown (fun i _ e => (by cases e; rfl))⟩
end
/-- What is summed behind some rounds. -/
def IRel (w : World) (D : DataW Unit) (b n : Nat) (v : Int → Int) (nv : Value) (wr : World) : Prop :=
  ∃ (left : Lit → Bool) (cnt : Nat) (ss : List Int), nv = .int .i64 ((ss.map v).sum) ∧ wr.ranges Try.prog 3 (plainElem Try.prog 3) b w.heap.size n D left cnt ∧ CollectedI D left ss ∧ Hid (Below w.heap.size w wr)
section
variable {P : Program} {k : TypeId} {w : World} {b r n : Nat} {D : DataW Unit} {g : Int → Int} {left : Lit → Bool} {cnt : Nat} {ss : List Int}
  {ops : Array Oper} {rest : List Oper} {o : Oper} {a : Act} {Q : Exit → Act → World → Prop}
/-- A step of a range over such a map; ss: the keys that have come. -/
theorem next_int (hg : o.guard = none) (it : Operand) (hop : o.op = Op.next it false) (hk : P.underlying k = some (.int .i64)) (hit : a.eval it = .pointer (some ⟨r, 0, none⟩)) (h : w.ranges P k (plainElem P k) b r n D left cnt) (f : Fits D g) (hC : CollectedI D left ss)
    (hDone : (∀ x, x ∈ ss ↔ g x ≠ 0) → wpList P ops Q rest (a.put o.dst (.tuple #[.bool false])) w)
    (hMore : ∀ (x : Int) (w' : World) (left' : Lit → Bool) (cnt' : Nat), g x ≠ 0 → x ∉ ss → w'.ranges P k (plainElem P k) b r n D left' cnt' → CollectedI D left' (ss ++ [x]) → w'.rangeLeft b r < w.rangeLeft b r → w.grownBy w' (some r) → w'.heap.size = w.heap.size →
      (Instr.entry (.pointer (some ⟨r, 0, none⟩))).run P w' = .ok (.tuple #[.int .i64 x, .int .i64 (g x)]) w' → wpList P ops Q rest (a.put o.dst (.tuple #[.bool true, .int .i64 x, .int .i64 (g x)])) w') :
    wpList P ops Q (o :: rest) a w := by
  refine wpList_next_ranges_ii w hg it hop k k .i64 .i64 (int_keyed hk) hk hk b r n D left cnt hit h ?_ ?_
  · intro _ hl
    exact hDone (fun x => by rw [hC.2 x, (f.2 x).2, hl]; simp)
  · intro x c w' cnt' _ _ hlk hat hrg hlt hgr hsz hen
    have hgx : g x = c := by
      have h1 := hat (.lit (.int .i64 0))
      rw [(f.2 x).1] at h1
      simpa using h1
    subst hgx
    have hnx : x ∉ ss := fun hx => by have := ((hC.2 x).1 hx).2; rw [hlk] at this; cases this
    have hCn := hC.step hlk hat
    have hg0 : g x ≠ 0 := by
      have := ((hCn.2 x).1 (by simp)).1
      rw [(f.2 x).2] at this
      simpa using this
    exact hMore x w' _ cnt' hg0 hnx hrg hCn (by rw [hrg.left_eq, h.left_eq]; exact hlt) hgr hsz hen
end
end Go.Proofs.Ytpahgoehpkohiaa
