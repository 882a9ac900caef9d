/-
  A Call, a row of Calls, that came in.
-/
import Derived.Test.YtlnmjoolbifgjaaOrdB
import Derived.WalkKit
import Derived.ProofKit
import Derived.OpenShut
import Derived.Lib.SmallJoins
import Derived.Deep.OwnRows
namespace Go.Proofs.Ytlnmjoolbifgjaa
open Go.ChangeShapes Go.WideShapes Go.ChangeAt Go.RowKit Go.Joins

theorem hc_add (b o i : Nat) : (⟨b, o, none⟩ : Addr).add i = ⟨b, o + i, none⟩ := by cases i <;> simp [Addr.add]
/-- A Call: Close or Say, who, what. -/
structure Cl where
  cl : Bool
  i : Int
  yes : Bool
def Cl.ok (c : Cl) : Prop := (Lit.int .i64 c.i).wf = true
theorem cl_three {α : Type} {cs : Array α} (h : cs.size = 3) : ∃ c0 c1 c2, cs = #[c0, c1, c2] := by
  obtain ⟨l⟩ := cs
  match l, h with
  | [c0, c1, c2], _ => exact ⟨c0, c1, c2, rfl⟩
theorem cl_of {H : Type} {enc : TypeId × Value → H} {W : World} {fuel : Nat} {c0 c1 c2 : Value} {x : DataW H × List MemPlace} (h : DataW.trod enc Try.prog W 0 (fun _ => true) true fuel 28 [c0, c1, c2] = some x) :
    ∃ c : Cl, c0 = .bool c.cl ∧ c1 = .int .i64 c.i ∧ c2 = .bool c.yes ∧ c.ok := by
  have e1 : Try.prog.cellsOf 3 = 1 := by kernel_rfl
  have eb : Try.prog.cellsOf 4 = 1 := by kernel_rfl
  obtain ⟨y0, y1, y2, n, -, -, g0, g1, g2⟩ := Go.Deep.trod_struct3 Try.underlying28 h
  dsimp only at g0 g1 g2
  simp only [e1, eb, List.drop_zero, List.drop_succ_cons, List.take_succ_cons, List.take_zero] at g0 g1 g2
  obtain ⟨bk, h0, -⟩ := DataW.trod_bool Try.underlying4 g0
  obtain ⟨id, h1, -, w1⟩ := DataW.trod_int Try.underlying3 g1
  obtain ⟨m, h2, -⟩ := DataW.trod_bool Try.underlying4 g2
  simp only [List.cons.injEq, and_true] at h0 h1 h2
  exact ⟨⟨bk, id, m⟩, h0, h1, h2, w1⟩
theorem cl_opens {H : Type} {enc : TypeId × Value → H} {W : World} {c0 c1 c2 : Value} {dd : DataW H} {p : List MemPlace} (h : DataW.Trod enc Try.prog W 0 (fun _ => true) true 28 (.agg #[c0, c1, c2]) dd p) :
    ∃ c : Cl, c0 = .bool c.cl ∧ c1 = .int .i64 c.i ∧ c2 = .bool c.yes ∧ c.ok := by
  obtain ⟨fuel, hf⟩ := h
  exact cl_of (by simpa [Value.cells] using hf)

/-- The slice at a reads as the Calls l. -/
def Cls (w : World) (a : Option Addr) (l : List Cl) : Prop :=
  l = [] ∨ ∃ b off, a = some ⟨b, off, none⟩ ∧ ∀ (i : Nat) (c : Cl), l[i]? = some c → (w.cell? ⟨b, off + i * 3, none⟩ = some (.bool c.cl) ∧ w.cell? ⟨b, off + i * 3 + 1, none⟩ = some (.int .i64 c.i) ∧ w.cell? ⟨b, off + i * 3 + 2, none⟩ = some (.bool c.yes)) ∧ c.ok
theorem Cls.below {w w' : World} {a : Option Addr} {l : List Cl} (h : Cls w a l) (hb : Below w.heap.size w w') : Cls w' a l := by
  rcases h with h | ⟨b, off, ha, hc⟩
  · exact .inl h
  · refine .inr ⟨b, off, ha, fun i c hx => ?_⟩
    have cc : ∀ {p : Addr} {v : Value}, w.cell? p = some v → w'.cell? p = some v := fun h => (hb.cell (World.block_lt_of_cell? _ _ h)).trans h
    obtain ⟨⟨h0, h1, h2⟩, h6⟩ := hc i c hx
    exact ⟨⟨cc h0, cc h1, cc h2⟩, h6⟩
def ClsIn (w : World) (l : List Cl) (a : Option Addr) : Prop := l.length ≤ 9223372036854775807 ∧ Cls w a l
theorem cls_opens {H : Type} {enc : TypeId × Value → H} {W : World} {a : Option Addr} {len cap : Nat} {dd : DataW H} {p : List MemPlace} (h : DataW.Trod enc Try.prog W 0 (fun _ => true) true 22 (.slice a len cap) dd p) :
    ∃ l : List Cl, len = l.length ∧ ClsIn W l a := by
  obtain ⟨fuel, hf⟩ := h
  have e3 : Try.prog.cellsOf 28 = 3 := by kernel_rfl
  rcases Go.Deep.open_slice Try.underlying22 hf with ⟨hcs, _⟩ | ⟨x, l, c, m, n, D, Pl, hcs, _, hlc, hcm, hm, _, hall⟩
  · simp [Value.cells] at hcs
    obtain ⟨rfl, rfl, rfl⟩ := hcs
    exact ⟨[], rfl, by simp, .inl rfl⟩
  · simp [Value.cells] at hcs
    obtain ⟨rfl, rfl, rfl⟩ := hcs
    rw [e3] at hall
    have hm' : m = cap := by simpa using hm
    have each : ∀ i, i < len → ∃ c : Cl, (W.cell? ((x.add (i * 3)).add 0) = some (.bool c.cl) ∧ W.cell? ((x.add (i * 3)).add 1) = some (.int .i64 c.i) ∧ W.cell? ((x.add (i * 3)).add 2) = some (.bool c.yes)) ∧ c.ok := fun i hi => by
      obtain ⟨cs, h1, h2⟩ := hall i (by omega)
      obtain ⟨_, h3, h4⟩ := World.cells?_some h1
      match cs, h3 with
      | [c0, c1, c2], _ =>
        obtain ⟨c, rfl, rfl, rfl, ho⟩ := cl_of h2
        exact ⟨c, ⟨h4 0 (by omega), h4 1 (by omega), h4 2 (by omega)⟩, ho⟩
    obtain ⟨f, hf'⟩ : ∃ f : Nat → Cl, ∀ i, i < len → (W.cell? ((x.add (i * 3)).add 0) = some (.bool (f i).cl) ∧ W.cell? ((x.add (i * 3)).add 1) = some (.int .i64 (f i).i) ∧ W.cell? ((x.add (i * 3)).add 2) = some (.bool (f i).yes)) ∧ (f i).ok :=
      ⟨fun i => if h : i < len then Classical.choose (each i h) else ⟨false, 0, false⟩, fun i hi => by simp only [dif_pos hi]; exact Classical.choose_spec (each i hi)⟩
    refine ⟨(List.range len).map f, by simp, by unfold maxLen at hcm; simp; omega, ?_⟩
    by_cases h0 : len = 0
    · exact .inl (by simp [h0])
    · obtain ⟨b, off, rfl⟩ : ∃ b off, x = ⟨b, off, none⟩ := by
        have h1 := (hf' 0 (by omega)).1.1
        cases x with
        | mk b off pth =>
          cases pth with
          | none => exact ⟨b, off, rfl⟩
          | some q =>
            exfalso
            unfold World.cell? at h1
            split at h1
            · simp [Addr.add] at h1
            · cases h1
      refine .inr ⟨b, off, rfl, fun i c hx => ?_⟩
      have hi : i < len := by
        have := (List.getElem?_eq_some_iff.1 hx).1
        simpa using this
      simp [hi] at hx
      subst hx
      obtain ⟨h1, h2⟩ := hf' i hi
      refine ⟨?_, h2⟩
      simpa [hc_add] using h1
end Go.Proofs.Ytlnmjoolbifgjaa
