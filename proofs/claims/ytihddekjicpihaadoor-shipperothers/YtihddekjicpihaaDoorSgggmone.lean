/-
  A struct of api.Msg, a row of them, that came in (drafts/gen_rows.py).
-/
import Derived.Test.YtihddekjicpihaaDoorSglkokel
import Derived.WalkKit
import Derived.ProofKit
import Derived.OpenShut
import Derived.Lib.SmallJoins
import Derived.Deep.OwnRows
namespace Go.Proofs.YtihddekjicpihaaDoor.M19
open Go.ChangeShapes Go.WideShapes Go.ChangeAt Go.RowKit Go.Joins

theorem hc_add (b o i : Nat) : (⟨b, o, none⟩ : Addr).add i = ⟨b, o + i, none⟩ := by cases i <;> simp [Addr.add]
theorem trod_s7 {H : Type} {enc : TypeId × Value → H} {P : Program} {w : World} {base : Nat} {spare : Nat → Bool} {held : Bool} {t : TypeId} {f0 f1 f2 f3 f4 f5 f6 : Field} {fuel : Nat} {cs : List Value} {x : DataW H × List MemPlace} (ht : P.underlying t = some (.struct #[f0, f1, f2, f3, f4, f5, f6])) (h : DataW.trod enc P w base spare held fuel t cs = some x) :
    ∃ y0 y1 y2 y3 y4 y5 y6 n, DataW.trod enc P w base spare held n f0.type ((cs.drop f0.offset).take (P.cellsOf f0.type)) = some y0 ∧ DataW.trod enc P w base spare held n f1.type ((cs.drop f1.offset).take (P.cellsOf f1.type)) = some y1 ∧ DataW.trod enc P w base spare held n f2.type ((cs.drop f2.offset).take (P.cellsOf f2.type)) = some y2 ∧ DataW.trod enc P w base spare held n f3.type ((cs.drop f3.offset).take (P.cellsOf f3.type)) = some y3 ∧ DataW.trod enc P w base spare held n f4.type ((cs.drop f4.offset).take (P.cellsOf f4.type)) = some y4 ∧ DataW.trod enc P w base spare held n f5.type ((cs.drop f5.offset).take (P.cellsOf f5.type)) = some y5 ∧ DataW.trod enc P w base spare held n f6.type ((cs.drop f6.offset).take (P.cellsOf f6.type)) = some y6 := by
  obtain ⟨xs, n, _, rfl, hl, hlen, hf⟩ := DataW.trod_struct ht h
  match xs, hlen with
  | [y0, y1, y2, y3, y4, y5, y6], _ => exact ⟨y0, y1, y2, y3, y4, y5, y6, n, by simpa using hf 0 f0 rfl, by simpa using hf 1 f1 rfl, by simpa using hf 2 f2 rfl, by simpa using hf 3 f3 rfl, by simpa using hf 4 f4 rfl, by simpa using hf 5 f5 rfl, by simpa using hf 6 f6 rfl⟩
def one_ok (c : Ms.Mg) : Prop := (Lit.int .i64 c.k).wf = true ∧ (Lit.int .i64 c.fr).wf = true ∧ (Lit.int .i64 c.to).wf = true ∧ (Lit.int .i64 c.id).wf = true ∧ (Lit.int .i64 c.st).wf = true ∧ (Lit.int .i64 c.a).wf = true ∧ (Lit.int .i64 c.b).wf = true
theorem one {H : Type} {enc : TypeId × Value → H} {W : World} {fuel : Nat} {c0 c1 c2 c3 c4 c5 c6 : Value} {x : DataW H × List MemPlace} (h : DataW.trod enc Tryd.prog W 0 (fun _ => true) true fuel 23 [c0, c1, c2, c3, c4, c5, c6] = some x) :
    ∃ c : Ms.Mg, c0 = .int .i64 c.k ∧ c1 = .int .i64 c.fr ∧ c2 = .int .i64 c.to ∧ c3 = .int .i64 c.id ∧ c4 = .int .i64 c.st ∧ c5 = .int .i64 c.a ∧ c6 = .int .i64 c.b ∧ one_ok c := by
  have e1 : Tryd.prog.cellsOf 3 = 1 := by kernel_rfl
  obtain ⟨y0, y1, y2, y3, y4, y5, y6, n, g0, g1, g2, g3, g4, g5, g6⟩ := trod_s7 Tryd.underlying23 h
  dsimp only at g0 g1 g2 g3 g4 g5 g6
  simp only [e1, List.drop_zero, List.drop_succ_cons, List.take_succ_cons, List.take_zero] at g0 g1 g2 g3 g4 g5 g6
  obtain ⟨z0, h0, -, v0⟩ := DataW.trod_int Tryd.underlying3 g0
  obtain ⟨z1, h1, -, v1⟩ := DataW.trod_int Tryd.underlying3 g1
  obtain ⟨z2, h2, -, v2⟩ := DataW.trod_int Tryd.underlying3 g2
  obtain ⟨z3, h3, -, v3⟩ := DataW.trod_int Tryd.underlying3 g3
  obtain ⟨z4, h4, -, v4⟩ := DataW.trod_int Tryd.underlying3 g4
  obtain ⟨z5, h5, -, v5⟩ := DataW.trod_int Tryd.underlying3 g5
  obtain ⟨z6, h6, -, v6⟩ := DataW.trod_int Tryd.underlying3 g6
  simp only [List.cons.injEq, and_true] at h0 h1 h2 h3 h4 h5 h6
  exact ⟨⟨z0, z1, z2, z3, z4, z5, z6⟩, h0, h1, h2, h3, h4, h5, h6, v0, v1, v2, v3, v4, v5, v6⟩
theorem many {α : Type} {cs : Array α} (h : cs.size = 7) : ∃ c0 c1 c2 c3 c4 c5 c6, cs = #[c0, c1, c2, c3, c4, c5, c6] := by
  obtain ⟨l⟩ := cs
  match l, h with
  | [c0, c1, c2, c3, c4, c5, c6], _ => exact ⟨c0, c1, c2, c3, c4, c5, c6, rfl⟩
theorem opens {H : Type} {enc : TypeId × Value → H} {W : World} {c0 c1 c2 c3 c4 c5 c6 : Value} {dd : DataW H} {p : List MemPlace} (h : DataW.Trod enc Tryd.prog W 0 (fun _ => true) true 23 (.agg #[c0, c1, c2, c3, c4, c5, c6]) dd p) :
    ∃ c : Ms.Mg, c0 = .int .i64 c.k ∧ c1 = .int .i64 c.fr ∧ c2 = .int .i64 c.to ∧ c3 = .int .i64 c.id ∧ c4 = .int .i64 c.st ∧ c5 = .int .i64 c.a ∧ c6 = .int .i64 c.b ∧ one_ok c := by
  obtain ⟨fuel, hf⟩ := h
  exact one (by simpa [Value.cells] using hf)
/-- The slice at a reads as l. -/
def Cls (w : World) (a : Option Addr) (l : List Ms.Mg) : Prop :=
  l = [] ∨ ∃ b off, a = some ⟨b, off, none⟩ ∧ ∀ (i : Nat) (c : Ms.Mg), l[i]? = some c → (w.cell? ⟨b, off + i * 7, none⟩ = some (.int .i64 c.k) ∧ w.cell? ⟨b, off + i * 7 + 1, none⟩ = some (.int .i64 c.fr) ∧ w.cell? ⟨b, off + i * 7 + 2, none⟩ = some (.int .i64 c.to) ∧ w.cell? ⟨b, off + i * 7 + 3, none⟩ = some (.int .i64 c.id) ∧ w.cell? ⟨b, off + i * 7 + 4, none⟩ = some (.int .i64 c.st) ∧ w.cell? ⟨b, off + i * 7 + 5, none⟩ = some (.int .i64 c.a) ∧ w.cell? ⟨b, off + i * 7 + 6, none⟩ = some (.int .i64 c.b)) ∧ one_ok c
theorem Cls.below {w w' : World} {a : Option Addr} {l : List Ms.Mg} (h : Cls w a l) (hb : Below w.heap.size w w') : Cls w' a l := by
  rcases h with h | ⟨b, off, ha, hc⟩
  · exact .inl h
  · refine .inr ⟨b, off, ha, fun i c hx => ?_⟩
    have cc : ∀ {p : Addr} {v : Value}, w.cell? p = some v → w'.cell? p = some v := fun h => (hb.cell (World.block_lt_of_cell? _ _ h)).trans h
    obtain ⟨⟨h0, h1, h2, h3, h4, h5, h6⟩, hk⟩ := hc i c hx
    exact ⟨⟨cc h0, cc h1, cc h2, cc h3, cc h4, cc h5, cc h6⟩, hk⟩
def ClsIn (w : World) (l : List Ms.Mg) (a : Option Addr) : Prop := l.length ≤ 9223372036854775807 ∧ Cls w a l
theorem cls_opens {H : Type} {enc : TypeId × Value → H} {W : World} {a : Option Addr} {len cap : Nat} {dd : DataW H} {p : List MemPlace} (h : DataW.Trod enc Tryd.prog W 0 (fun _ => true) true 26 (.slice a len cap) dd p) :
    ∃ l : List Ms.Mg, len = l.length ∧ ClsIn W l a := by
  obtain ⟨fuel, hf⟩ := h
  have e3 : Tryd.prog.cellsOf 23 = 7 := by kernel_rfl
  rcases Go.Deep.open_slice Tryd.underlying26 hf with ⟨hcs, _⟩ | ⟨x, l, c, m, n, D, Pl, hcs, _, hlc, hcm, hm, _, hall⟩
  · simp [Value.cells] at hcs
    obtain ⟨rfl, rfl, rfl⟩ := hcs
    exact ⟨[], rfl, by simp, .inl rfl⟩
  · simp [Value.cells] at hcs
    obtain ⟨rfl, rfl, rfl⟩ := hcs
    rw [e3] at hall
    have hm' : m = cap := by simpa using hm
    have each : ∀ i, i < len → ∃ c : Ms.Mg, (W.cell? ((x.add (i * 7)).add 0) = some (.int .i64 c.k) ∧ W.cell? ((x.add (i * 7)).add 1) = some (.int .i64 c.fr) ∧ W.cell? ((x.add (i * 7)).add 2) = some (.int .i64 c.to) ∧ W.cell? ((x.add (i * 7)).add 3) = some (.int .i64 c.id) ∧ W.cell? ((x.add (i * 7)).add 4) = some (.int .i64 c.st) ∧ W.cell? ((x.add (i * 7)).add 5) = some (.int .i64 c.a) ∧ W.cell? ((x.add (i * 7)).add 6) = some (.int .i64 c.b)) ∧ one_ok c := fun i hi => by
      obtain ⟨cs, h1, h2⟩ := hall i (by omega)
      obtain ⟨_, h3, h4⟩ := World.cells?_some h1
      match cs, h3 with
      | [c0, c1, c2, c3, c4, c5, c6], _ =>
        obtain ⟨c, rfl, rfl, rfl, rfl, rfl, rfl, rfl, ho⟩ := one h2
        exact ⟨c, ⟨h4 0 (by omega), h4 1 (by omega), h4 2 (by omega), h4 3 (by omega), h4 4 (by omega), h4 5 (by omega), h4 6 (by omega)⟩, ho⟩
    obtain ⟨f, hf'⟩ : ∃ f : Nat → Ms.Mg, ∀ i, i < len → (W.cell? ((x.add (i * 7)).add 0) = some (.int .i64 (f i).k) ∧ W.cell? ((x.add (i * 7)).add 1) = some (.int .i64 (f i).fr) ∧ W.cell? ((x.add (i * 7)).add 2) = some (.int .i64 (f i).to) ∧ W.cell? ((x.add (i * 7)).add 3) = some (.int .i64 (f i).id) ∧ W.cell? ((x.add (i * 7)).add 4) = some (.int .i64 (f i).st) ∧ W.cell? ((x.add (i * 7)).add 5) = some (.int .i64 (f i).a) ∧ W.cell? ((x.add (i * 7)).add 6) = some (.int .i64 (f i).b)) ∧ one_ok (f i) :=
      ⟨fun i => if h : i < len then Classical.choose (each i h) else ⟨0, 0, 0, 0, 0, 0, 0⟩, fun i hi => by simp only [dif_pos hi]; exact Classical.choose_spec (each i hi)⟩
    refine ⟨(List.range len).map f, by simp, by unfold maxLen at hcm; simp; omega, ?_⟩
    by_cases h0 : len = 0
    · exact .inl (by simp [h0])
    · obtain ⟨b, off, rfl⟩ : ∃ b off, x = ⟨b, off, none⟩ := by
        have h1 := (hf' 0 (by omega)).1.1
        cases x with
        | mk b off pth =>
          cases pth with
          | none => exact ⟨b, off, rfl⟩
          | some q =>
            exfalso
            unfold World.cell? at h1
            split at h1
            · simp [Addr.add] at h1
            · cases h1
      refine .inr ⟨b, off, rfl, fun i c hx => ?_⟩
      have hi : i < len := by
        have := (List.getElem?_eq_some_iff.1 hx).1
        simpa using this
      simp [hi] at hx
      subst hx
      obtain ⟨h1, h2⟩ := hf' i hi
      refine ⟨?_, h2⟩
      simpa [hc_add] using h1
end Go.Proofs.YtihddekjicpihaaDoor.M19
