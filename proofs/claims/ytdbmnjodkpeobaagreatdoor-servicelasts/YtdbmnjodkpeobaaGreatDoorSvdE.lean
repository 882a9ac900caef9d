/-
  A struct of wharfingerlaw19.Deed, a row of them, that came in (drafts/gen_rows.py).
-/
import Derived.Test.YtdbmnjodkpeobaaGreatDoorOrdB
import Derived.WalkKit
import Derived.ProofKit
import Derived.OpenShut
import Derived.Lib.SmallJoins
import Derived.Deep.OwnRows
namespace Go.Proofs.YtdbmnjodkpeobaaGreatDoor.D19
open Go.ChangeShapes Go.WideShapes Go.ChangeAt Go.RowKit Go.Joins

theorem hc_add (b o i : Nat) : (⟨b, o, none⟩ : Addr).add i = ⟨b, o + i, none⟩ := by cases i <;> simp [Addr.add]
theorem trod_s5 {H : Type} {enc : TypeId × Value → H} {P : Program} {w : World} {base : Nat} {spare : Nat → Bool} {held : Bool} {t : TypeId} {f0 f1 f2 f3 f4 : Field} {fuel : Nat} {cs : List Value} {x : DataW H × List MemPlace} (ht : P.underlying t = some (.struct #[f0, f1, f2, f3, f4])) (h : DataW.trod enc P w base spare held fuel t cs = some x) :
    ∃ y0 y1 y2 y3 y4 n, DataW.trod enc P w base spare held n f0.type ((cs.drop f0.offset).take (P.cellsOf f0.type)) = some y0 ∧ DataW.trod enc P w base spare held n f1.type ((cs.drop f1.offset).take (P.cellsOf f1.type)) = some y1 ∧ DataW.trod enc P w base spare held n f2.type ((cs.drop f2.offset).take (P.cellsOf f2.type)) = some y2 ∧ DataW.trod enc P w base spare held n f3.type ((cs.drop f3.offset).take (P.cellsOf f3.type)) = some y3 ∧ DataW.trod enc P w base spare held n f4.type ((cs.drop f4.offset).take (P.cellsOf f4.type)) = some y4 := by
  obtain ⟨xs, n, _, rfl, hl, hlen, hf⟩ := DataW.trod_struct ht h
  match xs, hlen with
  | [y0, y1, y2, y3, y4], _ => exact ⟨y0, y1, y2, y3, y4, n, by simpa using hf 0 f0 rfl, by simpa using hf 1 f1 rfl, by simpa using hf 2 f2 rfl, by simpa using hf 3 f3 rfl, by simpa using hf 4 f4 rfl⟩
structure De where
  cr : Bool
  un : Bool
  id : Int
  a : Int
  tn : Int
def one_ok (c : De) : Prop := (Lit.int .i64 c.id).wf = true ∧ (Lit.int .i64 c.a).wf = true ∧ (Lit.int .i64 c.tn).wf = true
theorem one {H : Type} {enc : TypeId × Value → H} {W : World} {fuel : Nat} {c0 c1 c2 c3 c4 : Value} {x : DataW H × List MemPlace} (h : DataW.trod enc Tryz.prog W 0 (fun _ => true) true fuel 54 [c0, c1, c2, c3, c4] = some x) :
    ∃ c : De, c0 = .bool c.cr ∧ c1 = .bool c.un ∧ c2 = .int .i64 c.id ∧ c3 = .int .i64 c.a ∧ c4 = .int .i64 c.tn ∧ one_ok c := by
  have e1 : Tryz.prog.cellsOf 3 = 1 := by kernel_rfl
  have eb : Tryz.prog.cellsOf 4 = 1 := by kernel_rfl
  obtain ⟨y0, y1, y2, y3, y4, n, g0, g1, g2, g3, g4⟩ := trod_s5 Tryz.underlying54 h
  dsimp only at g0 g1 g2 g3 g4
  simp only [e1, eb, List.drop_zero, List.drop_succ_cons, List.take_succ_cons, List.take_zero] at g0 g1 g2 g3 g4
  obtain ⟨z0, h0, -⟩ := DataW.trod_bool Tryz.underlying4 g0
  obtain ⟨z1, h1, -⟩ := DataW.trod_bool Tryz.underlying4 g1
  obtain ⟨z2, h2, -, v2⟩ := DataW.trod_int Tryz.underlying3 g2
  obtain ⟨z3, h3, -, v3⟩ := DataW.trod_int Tryz.underlying3 g3
  obtain ⟨z4, h4, -, v4⟩ := DataW.trod_int Tryz.underlying3 g4
  simp only [List.cons.injEq, and_true] at h0 h1 h2 h3 h4
  exact ⟨⟨z0, z1, z2, z3, z4⟩, h0, h1, h2, h3, h4, v2, v3, v4⟩
theorem many {α : Type} {cs : Array α} (h : cs.size = 5) : ∃ c0 c1 c2 c3 c4, cs = #[c0, c1, c2, c3, c4] := by
  obtain ⟨l⟩ := cs
  match l, h with
  | [c0, c1, c2, c3, c4], _ => exact ⟨c0, c1, c2, c3, c4, rfl⟩
theorem opens {H : Type} {enc : TypeId × Value → H} {W : World} {c0 c1 c2 c3 c4 : Value} {dd : DataW H} {p : List MemPlace} (h : DataW.Trod enc Tryz.prog W 0 (fun _ => true) true 54 (.agg #[c0, c1, c2, c3, c4]) dd p) :
    ∃ c : De, c0 = .bool c.cr ∧ c1 = .bool c.un ∧ c2 = .int .i64 c.id ∧ c3 = .int .i64 c.a ∧ c4 = .int .i64 c.tn ∧ one_ok c := by
  obtain ⟨fuel, hf⟩ := h
  exact one (by simpa [Value.cells] using hf)
/-- The slice at a reads as l. -/
def Cls (w : World) (a : Option Addr) (l : List De) : Prop :=
  l = [] ∨ ∃ b off, a = some ⟨b, off, none⟩ ∧ ∀ (i : Nat) (c : De), l[i]? = some c → (w.cell? ⟨b, off + i * 5, none⟩ = some (.bool c.cr) ∧ w.cell? ⟨b, off + i * 5 + 1, none⟩ = some (.bool c.un) ∧ w.cell? ⟨b, off + i * 5 + 2, none⟩ = some (.int .i64 c.id) ∧ w.cell? ⟨b, off + i * 5 + 3, none⟩ = some (.int .i64 c.a) ∧ w.cell? ⟨b, off + i * 5 + 4, none⟩ = some (.int .i64 c.tn)) ∧ one_ok c
theorem Cls.below {w w' : World} {a : Option Addr} {l : List De} (h : Cls w a l) (hb : Below w.heap.size w w') : Cls w' a l := by
  rcases h with h | ⟨b, off, ha, hc⟩
  · exact .inl h
  · refine .inr ⟨b, off, ha, fun i c hx => ?_⟩
    have cc : ∀ {p : Addr} {v : Value}, w.cell? p = some v → w'.cell? p = some v := fun h => (hb.cell (World.block_lt_of_cell? _ _ h)).trans h
    obtain ⟨⟨h0, h1, h2, h3, h4⟩, hk⟩ := hc i c hx
    exact ⟨⟨cc h0, cc h1, cc h2, cc h3, cc h4⟩, hk⟩
def ClsIn (w : World) (l : List De) (a : Option Addr) : Prop := l.length ≤ 9223372036854775807 ∧ Cls w a l
theorem cls_opens {H : Type} {enc : TypeId × Value → H} {W : World} {a : Option Addr} {len cap : Nat} {dd : DataW H} {p : List MemPlace} (h : DataW.Trod enc Tryz.prog W 0 (fun _ => true) true 50 (.slice a len cap) dd p) :
    ∃ l : List De, len = l.length ∧ ClsIn W l a := by
  obtain ⟨fuel, hf⟩ := h
  have e3 : Tryz.prog.cellsOf 54 = 5 := by kernel_rfl
  rcases Go.Deep.open_slice Tryz.underlying50 hf with ⟨hcs, _⟩ | ⟨x, l, c, m, n, D, Pl, hcs, _, hlc, hcm, hm, _, hall⟩
  · simp [Value.cells] at hcs
    obtain ⟨rfl, rfl, rfl⟩ := hcs
    exact ⟨[], rfl, by simp, .inl rfl⟩
  · simp [Value.cells] at hcs
    obtain ⟨rfl, rfl, rfl⟩ := hcs
    rw [e3] at hall
    have hm' : m = cap := by simpa using hm
    have each : ∀ i, i < len → ∃ c : De, (W.cell? ((x.add (i * 5)).add 0) = some (.bool c.cr) ∧ W.cell? ((x.add (i * 5)).add 1) = some (.bool c.un) ∧ W.cell? ((x.add (i * 5)).add 2) = some (.int .i64 c.id) ∧ W.cell? ((x.add (i * 5)).add 3) = some (.int .i64 c.a) ∧ W.cell? ((x.add (i * 5)).add 4) = some (.int .i64 c.tn)) ∧ one_ok c := fun i hi => by
      obtain ⟨cs, h1, h2⟩ := hall i (by omega)
      obtain ⟨_, h3, h4⟩ := World.cells?_some h1
      match cs, h3 with
      | [c0, c1, c2, c3, c4], _ =>
        obtain ⟨c, rfl, rfl, rfl, rfl, rfl, ho⟩ := one h2
        exact ⟨c, ⟨h4 0 (by omega), h4 1 (by omega), h4 2 (by omega), h4 3 (by omega), h4 4 (by omega)⟩, ho⟩
    obtain ⟨f, hf'⟩ : ∃ f : Nat → De, ∀ i, i < len → (W.cell? ((x.add (i * 5)).add 0) = some (.bool (f i).cr) ∧ W.cell? ((x.add (i * 5)).add 1) = some (.bool (f i).un) ∧ W.cell? ((x.add (i * 5)).add 2) = some (.int .i64 (f i).id) ∧ W.cell? ((x.add (i * 5)).add 3) = some (.int .i64 (f i).a) ∧ W.cell? ((x.add (i * 5)).add 4) = some (.int .i64 (f i).tn)) ∧ one_ok (f i) :=
      ⟨fun i => if h : i < len then Classical.choose (each i h) else ⟨false, false, 0, 0, 0⟩, fun i hi => by simp only [dif_pos hi]; exact Classical.choose_spec (each i hi)⟩
    refine ⟨(List.range len).map f, by simp, by unfold maxLen at hcm; simp; omega, ?_⟩
    by_cases h0 : len = 0
    · exact .inl (by simp [h0])
    · obtain ⟨b, off, rfl⟩ : ∃ b off, x = ⟨b, off, none⟩ := by
        have h1 := (hf' 0 (by omega)).1.1
        cases x with
        | mk b off pth =>
          cases pth with
          | none => exact ⟨b, off, rfl⟩
          | some q =>
            exfalso
            unfold World.cell? at h1
            split at h1
            · simp [Addr.add] at h1
            · cases h1
      refine .inr ⟨b, off, rfl, fun i c hx => ?_⟩
      have hi : i < len := by
        have := (List.getElem?_eq_some_iff.1 hx).1
        simpa using this
      simp [hi] at hx
      subst hx
      obtain ⟨h1, h2⟩ := hf' i hi
      refine ⟨?_, h2⟩
      simpa [hc_add] using h1
end Go.Proofs.YtdbmnjodkpeobaaGreatDoor.D19
