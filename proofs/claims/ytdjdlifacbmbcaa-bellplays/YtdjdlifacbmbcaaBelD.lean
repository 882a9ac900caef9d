/-
  A Call, a row of Calls, that came in.
-/
import Derived.Test.YtdjdlifacbmbcaaOrdB
import Derived.WalkKit
import Derived.ProofKit
import Derived.OpenShut
import Derived.Lib.SmallJoins
import Derived.Deep.OwnRows
import Derived.ChangeSame
namespace Go.Proofs.Ytdjdlifacbmbcaa
open Go.ChangeShapes Go.WideShapes Go.ChangeAt Go.RowKit Go.Joins

theorem hc_add (b o i : Nat) : (⟨b, o, none⟩ : Addr).add i = ⟨b, o + i, none⟩ := by cases i <;> simp [Addr.add]
/-- A Call: what is done, the id. -/
structure Cl where
  d : Int
  id : Int
def Cl.ok (c : Cl) : Prop := (Lit.int .i64 c.d).wf = true ∧ (Lit.int .i64 c.id).wf = true
theorem cl_of {H : Type} {enc : TypeId × Value → H} {W : World} {fuel : Nat} {c0 c1 : Value} {x : DataW H × List MemPlace} (h : DataW.trod enc Try.prog W 0 (fun _ => true) true fuel 29 [c0, c1] = some x) :
    ∃ c : Cl, c0 = .int .i64 c.d ∧ c1 = .int .i64 c.id ∧ c.ok := by
  have e1 : Try.prog.cellsOf 3 = 1 := by kernel_rfl
  obtain ⟨y0, y1, n, -, -, g0, g1⟩ := Go.ChangeShapes.trod_struct2 Try.underlying29 h
  dsimp only at g0 g1
  simp only [e1, List.drop_zero, List.drop_succ_cons, List.take_succ_cons, List.take_zero] at g0 g1
  obtain ⟨k, h0, -, w0⟩ := DataW.trod_int Try.underlying3 g0
  obtain ⟨id, h1, -, w1⟩ := DataW.trod_int Try.underlying3 g1
  simp only [List.cons.injEq, and_true] at h0 h1
  exact ⟨⟨k, id⟩, h0, h1, w0, w1⟩
theorem cl_opens {H : Type} {enc : TypeId × Value → H} {W : World} {c0 c1 : Value} {dd : DataW H} {p : List MemPlace} (h : DataW.Trod enc Try.prog W 0 (fun _ => true) true 29 (.agg #[c0, c1]) dd p) :
    ∃ c : Cl, c0 = .int .i64 c.d ∧ c1 = .int .i64 c.id ∧ c.ok := by
  obtain ⟨fuel, hf⟩ := h
  exact cl_of (by simpa [Value.cells] using hf)

/-- The slice at a reads as the Calls l. -/
def Cls (w : World) (a : Option Addr) (l : List Cl) : Prop :=
  l = [] ∨ ∃ b off, a = some ⟨b, off, none⟩ ∧ ∀ (i : Nat) (c : Cl), l[i]? = some c → (w.cell? ⟨b, off + i * 2, none⟩ = some (.int .i64 c.d) ∧ w.cell? ⟨b, off + i * 2 + 1, none⟩ = some (.int .i64 c.id)) ∧ c.ok
theorem Cls.below {w w' : World} {a : Option Addr} {l : List Cl} (h : Cls w a l) (hb : Below w.heap.size w w') : Cls w' a l := by
  rcases h with h | ⟨b, off, ha, hc⟩
  · exact .inl h
  · refine .inr ⟨b, off, ha, fun i c hx => ?_⟩
    have cc : ∀ {p : Addr} {v : Value}, w.cell? p = some v → w'.cell? p = some v := fun h => (hb.cell (World.block_lt_of_cell? _ _ h)).trans h
    obtain ⟨⟨h0, h1⟩, h6⟩ := hc i c hx
    exact ⟨⟨cc h0, cc h1⟩, h6⟩
def ClsIn (w : World) (l : List Cl) (a : Option Addr) : Prop := l.length ≤ 9223372036854775807 ∧ Cls w a l
theorem cls_opens {H : Type} {enc : TypeId × Value → H} {W : World} {a : Option Addr} {len cap : Nat} {dd : DataW H} {p : List MemPlace} (h : DataW.Trod enc Try.prog W 0 (fun _ => true) true 22 (.slice a len cap) dd p) :
    ∃ l : List Cl, len = l.length ∧ ClsIn W l a := by
  obtain ⟨fuel, hf⟩ := h
  have e3 : Try.prog.cellsOf 29 = 2 := by kernel_rfl
  rcases Go.Deep.open_slice Try.underlying22 hf with ⟨hcs, _⟩ | ⟨x, l, c, m, n, D, Pl, hcs, _, hlc, hcm, hm, _, hall⟩
  · simp [Value.cells] at hcs
    obtain ⟨rfl, rfl, rfl⟩ := hcs
    exact ⟨[], rfl, by simp, .inl rfl⟩
  · simp [Value.cells] at hcs
    obtain ⟨rfl, rfl, rfl⟩ := hcs
    rw [e3] at hall
    have hm' : m = cap := by simpa using hm
    have each : ∀ i, i < len → ∃ c : Cl, (W.cell? ((x.add (i * 2)).add 0) = some (.int .i64 c.d) ∧ W.cell? ((x.add (i * 2)).add 1) = some (.int .i64 c.id)) ∧ c.ok := fun i hi => by
      obtain ⟨cs, h1, h2⟩ := hall i (by omega)
      obtain ⟨_, h3, h4⟩ := World.cells?_some h1
      match cs, h3 with
      | [c0, c1], _ =>
        obtain ⟨c, rfl, rfl, ho⟩ := cl_of h2
        exact ⟨c, ⟨h4 0 (by omega), h4 1 (by omega)⟩, ho⟩
    obtain ⟨f, hf'⟩ : ∃ f : Nat → Cl, ∀ i, i < len → (W.cell? ((x.add (i * 2)).add 0) = some (.int .i64 (f i).d) ∧ W.cell? ((x.add (i * 2)).add 1) = some (.int .i64 (f i).id)) ∧ (f i).ok :=
      ⟨fun i => if h : i < len then Classical.choose (each i h) else ⟨0, 0⟩, fun i hi => by simp only [dif_pos hi]; exact Classical.choose_spec (each i hi)⟩
    refine ⟨(List.range len).map f, by simp, by unfold maxLen at hcm; simp; omega, ?_⟩
    by_cases h0 : len = 0
    · exact .inl (by simp [h0])
    · obtain ⟨b, off, rfl⟩ : ∃ b off, x = ⟨b, off, none⟩ := by
        have h1 := (hf' 0 (by omega)).1.1
        cases x with
        | mk b off pth =>
          cases pth with
          | none => exact ⟨b, off, rfl⟩
          | some q =>
            exfalso
            unfold World.cell? at h1
            split at h1
            · simp [Addr.add] at h1
            · cases h1
      refine .inr ⟨b, off, rfl, fun i c hx => ?_⟩
      have hi : i < len := by
        have := (List.getElem?_eq_some_iff.1 hx).1
        simpa using this
      simp [hi] at hx
      subst hx
      obtain ⟨h1, h2⟩ := hf' i hi
      refine ⟨?_, h2⟩
      simpa [hc_add] using h1
end Go.Proofs.Ytdjdlifacbmbcaa
