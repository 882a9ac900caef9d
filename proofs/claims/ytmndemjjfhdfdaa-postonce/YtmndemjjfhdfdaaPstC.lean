/-
  Messages, rows of them, calls that hold such a row, that came in.
-/
import Derived.Test.YtmndemjjfhdfdaaMsgV
import Derived.ProofKit
import Derived.OpenShut
import Derived.Lib.SmallJoins
namespace Go.Proofs.Ytmndemjjfhdfdaa
open Go.ChangeShapes Go.WideShapes Go.ChangeAt Go.RowKit Go.Joins

/-- A message's numbers are such as there are. -/
def okM (m : Mg) : Prop := (Lit.int .i64 m.k).wf = true ∧ (Lit.int .i64 m.fr).wf = true ∧ (Lit.int .i64 m.to).wf = true ∧ (Lit.int .i64 m.id).wf = true ∧ (Lit.int .i64 m.st).wf = true ∧ (Lit.int .i64 m.a).wf = true ∧ (Lit.int .i64 m.b).wf = true
/-- How a row of messages that came in lies. -/
def MsIn (w : World) (l : List Mg) (a : Option Addr) (cap : Nat) : Prop := l.length ≤ 9223372036854775807 ∧ Mgs w a l ∧ (a = none → l = [] ∧ cap = 0) ∧ l.length ≤ cap ∧ ∀ m ∈ l, okM m
theorem MsIn.below {w w' : World} {l : List Mg} {a : Option Addr} {cap : Nat} (h : MsIn w l a cap) (hb : Below w.heap.size w w') : MsIn w' l a cap := ⟨h.1, h.2.1.below hb, h.2.2⟩
theorem Mgs.lt {w : World} {l : List Mg} {a : Option Addr} (h : Mgs w a l) (hl : l ≠ []) : ∀ ad, a = some ad → ad.block < w.heap.size := by
  intro ad e
  rcases h with h | ⟨b, off, ha, hc⟩
  · exact (hl h).elim
  · rw [ha] at e
    cases e
    obtain ⟨x, r, rfl⟩ := List.exists_cons_of_ne_nil hl
    exact World.block_lt_of_cell? _ _ (hc 0 (.int .i64 x.k) (by simp [mgCells, mgC]))
theorem trod_struct7 {H : Type} {enc : TypeId × Value → H} {P : Program} {w : World} {base : Nat} {spare : Nat → Bool} {held : Bool} {t : TypeId} {f0 f1 f2 f3 f4 f5 f6 : Field} {fuel : Nat} {cs : List Value} {x : DataW H × List MemPlace} (ht : P.underlying t = some (.struct #[f0, f1, f2, f3, f4, f5, f6])) (h : DataW.trod enc P w base spare held fuel t cs = some x) :
    ∃ y0 y1 y2 y3 y4 y5 y6 n, DataW.trod enc P w base spare held n f0.type ((cs.drop f0.offset).take (P.cellsOf f0.type)) = some y0 ∧ DataW.trod enc P w base spare held n f1.type ((cs.drop f1.offset).take (P.cellsOf f1.type)) = some y1 ∧ DataW.trod enc P w base spare held n f2.type ((cs.drop f2.offset).take (P.cellsOf f2.type)) = some y2 ∧ DataW.trod enc P w base spare held n f3.type ((cs.drop f3.offset).take (P.cellsOf f3.type)) = some y3 ∧ DataW.trod enc P w base spare held n f4.type ((cs.drop f4.offset).take (P.cellsOf f4.type)) = some y4 ∧ DataW.trod enc P w base spare held n f5.type ((cs.drop f5.offset).take (P.cellsOf f5.type)) = some y5 ∧ DataW.trod enc P w base spare held n f6.type ((cs.drop f6.offset).take (P.cellsOf f6.type)) = some y6 := by
  obtain ⟨xs, n, _, rfl, hl, hlen, hf⟩ := DataW.trod_struct ht h
  match xs, hlen with
  | [y0, y1, y2, y3, y4, y5, y6], _ => exact ⟨y0, y1, y2, y3, y4, y5, y6, n, by simpa using hf 0 f0 rfl, by simpa using hf 1 f1 rfl, by simpa using hf 2 f2 rfl, by simpa using hf 3 f3 rfl, by simpa using hf 4 f4 rfl, by simpa using hf 5 f5 rfl, by simpa using hf 6 f6 rfl⟩
theorem msg_of {H : Type} {enc : TypeId × Value → H} {W : World} {fuel : Nat} {c0 c1 c2 c3 c4 c5 c6 : Value} {x : DataW H × List MemPlace} (h : DataW.trod enc Try.prog W 0 (fun _ => true) true fuel 35 [c0, c1, c2, c3, c4, c5, c6]  = some x) :
    ∃ m : Mg, c0 = .int .i64 m.k ∧ c1 = .int .i64 m.fr ∧ c2 = .int .i64 m.to ∧ c3 = .int .i64 m.id ∧ c4 = .int .i64 m.st ∧ c5 = .int .i64 m.a ∧ c6 = .int .i64 m.b ∧ okM m := by
  have e1 : Try.prog.cellsOf 3 = 1 := by kernel_rfl
  obtain ⟨y0, y1, y2, y3, y4, y5, y6, n, g0, g1, g2, g3, g4, g5, g6⟩ := trod_struct7 Try.underlying35 h
  dsimp only at g0 g1 g2 g3 g4 g5 g6
  simp only [e1, List.drop_zero, List.drop_succ_cons, List.take_succ_cons, List.take_zero] at g0 g1 g2 g3 g4 g5 g6
  obtain ⟨z0, h0, -, v0⟩ := DataW.trod_int Try.underlying3 g0
  obtain ⟨z1, h1, -, v1⟩ := DataW.trod_int Try.underlying3 g1
  obtain ⟨z2, h2, -, v2⟩ := DataW.trod_int Try.underlying3 g2
  obtain ⟨z3, h3, -, v3⟩ := DataW.trod_int Try.underlying3 g3
  obtain ⟨z4, h4, -, v4⟩ := DataW.trod_int Try.underlying3 g4
  obtain ⟨z5, h5, -, v5⟩ := DataW.trod_int Try.underlying3 g5
  obtain ⟨z6, h6, -, v6⟩ := DataW.trod_int Try.underlying3 g6
  simp only [List.cons.injEq, and_true] at h0 h1 h2 h3 h4 h5 h6
  exact ⟨⟨z0, z1, z2, z3, z4, z5, z6⟩, h0, h1, h2, h3, h4, h5, h6, v0, v1, v2, v3, v4, v5, v6⟩
theorem ms_of_trod {H : Type} {enc : TypeId × Value → H} {W : World} {fuel : Nat} {c5 : Value} {x : DataW H × List MemPlace} (h : DataW.trod enc Try.prog W 0 (fun _ => true) true fuel 30 [c5] = some x) :
    ∃ (a : Option Addr) (l : List Mg) (cap : Nat), c5 = .slice a l.length cap ∧ l.length ≤ 9223372036854775807 ∧ Mgs W a l ∧ (a = none → l = [] ∧ cap = 0) ∧ l.length ≤ cap ∧ ∀ m ∈ l, okM m := by
  have e2 : Try.prog.cellsOf 35 = 7 := by kernel_rfl
  rcases Go.Deep.open_slice Try.underlying30 h with ⟨hcs, _⟩ | ⟨y, len, cap, m, n, D, Pl, hcs, _, hlc, hcm, hm, _, hall⟩
  · simp only [List.cons.injEq, and_true] at hcs
    exact ⟨none, [], 0, hcs, by simp, .inl rfl, fun _ => ⟨rfl, rfl⟩, Nat.le_refl _, by simp⟩
  · simp only [List.cons.injEq, and_true] at hcs
    rw [e2] at hall
    have hm' : m = cap := by simpa using hm
    have each : ∀ i, i < len → ∃ p : Mg, (W.cell? ((y.add (i * 7)).add 0) = some (.int .i64 p.k) ∧ W.cell? ((y.add (i * 7)).add 1) = some (.int .i64 p.fr) ∧ W.cell? ((y.add (i * 7)).add 2) = some (.int .i64 p.to) ∧ W.cell? ((y.add (i * 7)).add 3) = some (.int .i64 p.id) ∧ W.cell? ((y.add (i * 7)).add 4) = some (.int .i64 p.st) ∧ W.cell? ((y.add (i * 7)).add 5) = some (.int .i64 p.a) ∧ W.cell? ((y.add (i * 7)).add 6) = some (.int .i64 p.b)) ∧ okM p := fun i hi => by
      obtain ⟨cs, h1, h2⟩ := hall i (by omega)
      obtain ⟨_, h3, h4⟩ := World.cells?_some h1
      match cs, h3 with
      | [c0, c1, c2, c3, c4, c5, c6], _ =>
        obtain ⟨p, rfl, rfl, rfl, rfl, rfl, rfl, rfl, ok⟩ := msg_of h2
        exact ⟨p, ⟨h4 0 (by omega), h4 1 (by omega), h4 2 (by omega), h4 3 (by omega), h4 4 (by omega), h4 5 (by omega), h4 6 (by omega)⟩, ok⟩
    obtain ⟨f, hf'⟩ : ∃ f : Nat → Mg, ∀ i, i < len → (W.cell? ((y.add (i * 7)).add 0) = some (.int .i64 (f i).k) ∧ W.cell? ((y.add (i * 7)).add 1) = some (.int .i64 (f i).fr) ∧ W.cell? ((y.add (i * 7)).add 2) = some (.int .i64 (f i).to) ∧ W.cell? ((y.add (i * 7)).add 3) = some (.int .i64 (f i).id) ∧ W.cell? ((y.add (i * 7)).add 4) = some (.int .i64 (f i).st) ∧ W.cell? ((y.add (i * 7)).add 5) = some (.int .i64 (f i).a) ∧ W.cell? ((y.add (i * 7)).add 6) = some (.int .i64 (f i).b)) ∧ okM (f i) :=
      ⟨fun i => if h : i < len then Classical.choose (each i h) else ⟨0, 0, 0, 0, 0, 0, 0⟩, fun i hi => by simp only [dif_pos hi]; exact Classical.choose_spec (each i hi)⟩
    refine ⟨some y, (List.range len).map f, cap, by simpa using hcs, by unfold maxLen at hcm; simp; omega, ?_, (fun h => by cases h), by simpa using hlc, fun m hm => ?_⟩
    · by_cases h0 : len = 0
      · exact .inl (by simp [h0])
      · obtain ⟨b, off, rfl⟩ : ∃ b off, y = ⟨b, off, none⟩ := by
          have h1 := (hf' 0 (by omega)).1.1
          obtain ⟨b, off, rfl, _⟩ := ints_at (w := W) (a := y) (k := .i64) (zs := [(f 0).k]) (fun i hi => by
            have e : i = 0 := by simp at hi; omega
            subst e
            simpa [Addr.add] using h1) (by simp)
          exact ⟨b, off, rfl⟩
        refine .inr ⟨b, off, rfl, fun j u hu => ?_⟩
        have hjl : j < len * 7 := by
          have := (List.getElem?_eq_some_iff.1 hu).1
          rw [mgCells_len] at this
          simpa using this
        have hi : j / 7 < len := by omega
        have hx : ((List.range len).map f)[j / 7]? = some (f (j / 7)) := by simp [hi]
        have hc := mgCells_at _ (j / 7) (j % 7) _ hx (Nat.mod_lt _ (by omega))
        rw [show j / 7 * 7 + j % 7 = j by omega, hu] at hc
        obtain ⟨⟨h0, h1, h2, h3, h4, h5, h6⟩, -⟩ := hf' (j / 7) hi
        simp only [st_add'] at h0 h1 h2 h3 h4 h5 h6
        have hlt : j % 7 < 7 := Nat.mod_lt _ (by omega)
        have hj : j = j / 7 * 7 + j % 7 := by omega
        obtain ⟨q, hq⟩ : ∃ q, j / 7 = q := ⟨_, rfl⟩
        obtain ⟨r, hr⟩ : ∃ r, j % 7 = r := ⟨_, rfl⟩
        rw [hq] at h0 h1 h2 h3 h4 h5 h6 hj hc
        rw [hr] at hlt hj hc
        subst hj
        rw [← Nat.add_assoc]
        match r, hlt with
        | 0, _ => rw [h0]; exact hc.symm
        | 1, _ => rw [h1]; exact hc.symm
        | 2, _ => rw [h2]; exact hc.symm
        | 3, _ => rw [h3]; exact hc.symm
        | 4, _ => rw [h4]; exact hc.symm
        | 5, _ => rw [h5]; exact hc.symm
        | 6, _ => rw [h6]; exact hc.symm
    · obtain ⟨i, hi⟩ := List.getElem?_of_mem hm
      have hlt : i < len := by
        have := (List.getElem?_eq_some_iff.1 hi).1
        simpa using this
      simp [hlt] at hi
      subst hi
      exact (hf' i hlt).2
theorem ms_opens {H : Type} {enc : TypeId × Value → H} {W : World} {a : Option Addr} {len cap : Nat} {dd : DataW H} {p : List MemPlace} (h : DataW.Trod enc Try.prog W 0 (fun _ => true) true 30 (.slice a len cap) dd p) :
    ∃ l : List Mg, len = l.length ∧ MsIn W l a cap := by
  obtain ⟨fuel, hf⟩ := h
  obtain ⟨a', l, cap', e, h1⟩ := ms_of_trod (c5 := .slice a len cap) (by simpa [Value.cells] using hf)
  cases e
  exact ⟨l, rfl, h1⟩
/-- A call. -/
structure Cm where
  d : Int
  i : Int
  l : List Mg
  av : Option Addr
  cv : Nat
def CmIn (w : World) (c : Cm) : Prop := MsIn w c.l c.av c.cv
theorem cm_three {α : Type} {cs : Array α} (h : cs.size = 3) : ∃ c0 c1 c2, cs = #[c0, c1, c2] := by
  obtain ⟨l⟩ := cs
  match l, h with
  | [c0, c1, c2], _ => exact ⟨c0, c1, c2, rfl⟩
theorem cm_of {H : Type} {enc : TypeId × Value → H} {W : World} {fuel : Nat} {c0 c1 c2 : Value} {x : DataW H × List MemPlace} (h : DataW.trod enc Try.prog W 0 (fun _ => true) true fuel 32 [c0, c1, c2] = some x) :
    ∃ c : Cm, c0 = .int .i64 c.d ∧ c1 = .int .i64 c.i ∧ c2 = .slice c.av c.l.length c.cv ∧ CmIn W c := by
  have e1 : Try.prog.cellsOf 3 = 1 := by kernel_rfl
  have en : Try.prog.cellsOf 30 = 1 := by kernel_rfl
  obtain ⟨y0, y1, y2, n, -, -, g0, g1, g2⟩ := Go.Deep.trod_struct3 Try.underlying32 h
  dsimp only at g0 g1 g2
  simp only [e1, en, List.drop_zero, List.drop_succ_cons, List.take_succ_cons, List.take_zero] at g0 g1 g2
  obtain ⟨d, h0, -, -⟩ := DataW.trod_int Try.underlying3 g0
  obtain ⟨i, h1, -, -⟩ := DataW.trod_int Try.underlying3 g1
  simp only [List.cons.injEq, and_true] at h0 h1
  obtain ⟨a, l, cap, h2, hin⟩ := ms_of_trod g2
  exact ⟨⟨d, i, l, a, cap⟩, h0, h1, h2, hin⟩
theorem cm_opens {H : Type} {enc : TypeId × Value → H} {W : World} {c0 c1 c2 : Value} {dd : DataW H} {p : List MemPlace} (h : DataW.Trod enc Try.prog W 0 (fun _ => true) true 32 (.agg #[c0, c1, c2]) dd p) :
    ∃ c : Cm, c0 = .int .i64 c.d ∧ c1 = .int .i64 c.i ∧ c2 = .slice c.av c.l.length c.cv ∧ CmIn W c := by
  obtain ⟨fuel, hf⟩ := h
  exact cm_of (by simpa [Value.cells] using hf)
/-- A row of calls that came in. -/
def CmsAt (w : World) (a : Option Addr) (cl : List Cm) : Prop :=
  cl = [] ∨ ∃ b off, a = some ⟨b, off, none⟩ ∧ ∀ (i : Nat) (c : Cm), cl[i]? = some c → (w.cell? ⟨b, off + i * 3, none⟩ = some (.int .i64 c.d) ∧ w.cell? ⟨b, off + i * 3 + 1, none⟩ = some (.int .i64 c.i) ∧ w.cell? ⟨b, off + i * 3 + 2, none⟩ = some (.slice c.av c.l.length c.cv)) ∧ CmIn w c
def CmsIn (w : World) (cl : List Cm) (a : Option Addr) : Prop := cl.length ≤ 9223372036854775807 ∧ CmsAt w a cl
theorem CmsAt.below {w w' : World} {a : Option Addr} {cl : List Cm} (h : CmsAt w a cl) (hb : Below w.heap.size w w') : CmsAt w' a cl := by
  rcases h with h | ⟨b, off, ha, hc⟩
  · exact .inl h
  · refine .inr ⟨b, off, ha, fun i c hx => ?_⟩
    obtain ⟨⟨h0, h1, h2⟩, h6⟩ := hc i c hx
    exact ⟨⟨cellL h0 hb, cellL h1 hb, cellL h2 hb⟩, MsIn.below h6 hb⟩
theorem cms_opens {H : Type} {enc : TypeId × Value → H} {W : World} {a : Option Addr} {len cap : Nat} {dd : DataW H} {p : List MemPlace} (h : DataW.Trod enc Try.prog W 0 (fun _ => true) true 22 (.slice a len cap) dd p) :
    ∃ cl : List Cm, len = cl.length ∧ CmsIn W cl a := by
  obtain ⟨fuel, hf⟩ := h
  have e6 : Try.prog.cellsOf 32 = 3 := by kernel_rfl
  rcases Go.Deep.open_slice Try.underlying22 hf with ⟨hcs, _⟩ | ⟨x, l, c, m, n, D, Pl, hcs, _, hlc, hcm, hm, _, hall⟩
  · simp [Value.cells] at hcs
    obtain ⟨rfl, rfl, rfl⟩ := hcs
    exact ⟨[], rfl, by simp, .inl rfl⟩
  · simp [Value.cells] at hcs
    obtain ⟨rfl, rfl, rfl⟩ := hcs
    rw [e6] at hall
    have hm' : m = cap := by simpa using hm
    have each : ∀ i, i < len → ∃ c : Cm, (W.cell? ((x.add (i * 3)).add 0) = some (.int .i64 c.d) ∧ W.cell? ((x.add (i * 3)).add 1) = some (.int .i64 c.i) ∧ W.cell? ((x.add (i * 3)).add 2) = some (.slice c.av c.l.length c.cv)) ∧ CmIn W c := fun i hi => by
      obtain ⟨cs, h1, h2⟩ := hall i (by omega)
      obtain ⟨_, h3, h4⟩ := World.cells?_some h1
      match cs, h3 with
      | [c0, c1, c2], _ =>
        obtain ⟨c, rfl, rfl, rfl, hin⟩ := cm_of h2
        exact ⟨c, ⟨h4 0 (by omega), h4 1 (by omega), h4 2 (by omega)⟩, hin⟩
    obtain ⟨f, hf'⟩ : ∃ f : Nat → Cm, ∀ i, i < len → (W.cell? ((x.add (i * 3)).add 0) = some (.int .i64 (f i).d) ∧ W.cell? ((x.add (i * 3)).add 1) = some (.int .i64 (f i).i) ∧ W.cell? ((x.add (i * 3)).add 2) = some (.slice (f i).av (f i).l.length (f i).cv)) ∧ CmIn W (f i) :=
      ⟨fun i => if h : i < len then Classical.choose (each i h) else ⟨0, 0, [], none, 0⟩, fun i hi => by simp only [dif_pos hi]; exact Classical.choose_spec (each i hi)⟩
    refine ⟨(List.range len).map f, by simp, by unfold maxLen at hcm; simp; omega, ?_⟩
    by_cases h0 : len = 0
    · exact .inl (by simp [h0])
    · obtain ⟨b, off, rfl⟩ : ∃ b off, x = ⟨b, off, none⟩ := by
        have h1 := (hf' 0 (by omega)).1.1
        obtain ⟨b, off, rfl, _⟩ := ints_at (w := W) (a := x) (k := .i64) (zs := [(f 0).d]) (fun i hi => by
          have e : i = 0 := by simp at hi; omega
          subst e
          simpa [Addr.add] using h1) (by simp)
        exact ⟨b, off, rfl⟩
      refine .inr ⟨b, off, rfl, fun i c hx => ?_⟩
      have hi : i < len := by
        have := (List.getElem?_eq_some_iff.1 hx).1
        simpa using this
      simp [hi] at hx
      subst hx
      obtain ⟨h1, h2⟩ := hf' i hi
      refine ⟨?_, h2⟩
      simpa [st_add'] using h1
end Go.Proofs.Ytmndemjjfhdfdaa
