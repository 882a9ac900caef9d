/-
  A row of acts, an act, that came in.
-/
import Derived.Test.YtdoejppnifoebaaOrdD
namespace Go.Proofs.Ytdoejppnifoebaa
open Go.ChangeShapes Go.WideShapes Go.ChangeAt Go.RowKit Go.Joins

/-- How a row of acts lies. -/
def ActsIn (w : World) (l : List (Int × Int)) (a : Option Addr) (cap : Nat) : Prop := l.length ≤ 9223372036854775807 ∧ Sts w a l ∧ (a = none → l = [] ∧ cap = 0) ∧ l.length ≤ cap
theorem ActsIn.below {w w' : World} {l : List (Int × Int)} {a : Option Addr} {cap : Nat} (h : ActsIn w l a cap) (hb : Below w.heap.size w w') : ActsIn w' l a cap := ⟨h.1, h.2.1.below hb, h.2.2⟩

theorem acts_open {H : Type} {enc : TypeId × Value → H} {W : World} {fuel : Nat} {c5 : Value} {x : DataW H × List MemPlace} (h : DataW.trod enc Try.prog W 0 (fun _ => true) true fuel 25 [c5] = some x) :
    ∃ (a : Option Addr) (l : List (Int × Int)) (cap : Nat), c5 = .slice a l.length cap ∧ l.length ≤ 9223372036854775807 ∧ Sts W a l ∧ (a = none → l = [] ∧ cap = 0) ∧ l.length ≤ cap := by
  have e2 : Try.prog.cellsOf 33 = 2 := by kernel_rfl
  have e1 : Try.prog.cellsOf 3 = 1 := by kernel_rfl
  rcases Go.Deep.open_slice Try.underlying25 h with ⟨hcs, _⟩ | ⟨y, len, cap, m, n, D, Pl, hcs, _, hlc, hcm, hm, _, hall⟩
  · simp only [List.cons.injEq, and_true] at hcs
    exact ⟨none, [], 0, hcs, by simp, .inl rfl, fun _ => ⟨rfl, rfl⟩, Nat.le_refl _⟩
  · simp only [List.cons.injEq, and_true] at hcs
    rw [e2] at hall
    have hm' : m = cap := by simpa using hm
    have each : ∀ i, i < len → ∃ p : Int × Int, W.cell? ((y.add (i * 2)).add 0) = some (.int .i64 p.1) ∧ W.cell? ((y.add (i * 2)).add 1) = some (.int .i64 p.2) := fun i hi => by
      obtain ⟨cs, h1, h2⟩ := hall i (by omega)
      obtain ⟨_, h3, h4⟩ := World.cells?_some h1
      match cs, h3 with
      | [c0, c1], _ =>
        obtain ⟨y0, y1, k, -, -, g0, g1⟩ := trod_struct2 Try.underlying33 h2
        dsimp only at g0 g1
        simp only [e1, List.drop_zero, List.drop_succ_cons, List.take_succ_cons, List.take_zero] at g0 g1
        obtain ⟨d, r0, -, -⟩ := DataW.trod_int Try.underlying3 g0
        obtain ⟨s, r1, -, -⟩ := DataW.trod_int Try.underlying3 g1
        simp only [List.cons.injEq, and_true] at r0 r1
        subst r0 r1
        exact ⟨(d, s), h4 0 (by omega), h4 1 (by omega)⟩
    obtain ⟨f, hf'⟩ : ∃ f : Nat → Int × Int, ∀ i, i < len → W.cell? ((y.add (i * 2)).add 0) = some (.int .i64 (f i).1) ∧ W.cell? ((y.add (i * 2)).add 1) = some (.int .i64 (f i).2) :=
      ⟨fun i => if h : i < len then Classical.choose (each i h) else (0, 0), fun i hi => by simp only [dif_pos hi]; exact Classical.choose_spec (each i hi)⟩
    refine ⟨some y, (List.range len).map f, cap, by simpa using hcs, by unfold maxLen at hcm; simp; omega, ?_, (fun h => by cases h), by simpa using hlc⟩
    by_cases h0 : len = 0
    · exact .inl (by simp [h0])
    · obtain ⟨b, off, rfl⟩ : ∃ b off, y = ⟨b, off, none⟩ := by
        have h1 := (hf' 0 (by omega)).1
        obtain ⟨b, off, rfl, _⟩ := ints_at (w := W) (a := y) (k := .i64) (zs := [(f 0).1]) (fun i hi => by
          have e : i = 0 := by simp at hi; omega
          subst e
          simpa [Addr.add] using h1) (by simp)
        exact ⟨b, off, rfl⟩
      refine .inr ⟨b, off, rfl, fun i hi => ?_⟩
      have hi' : i < len := by simpa using hi
      have e : stAt ((List.range len).map f) i = f i := by
        unfold stAt
        simp [List.getD, hi']
      rw [e]
      simpa [ord_add] using hf' i hi'


theorem acts_opens {H : Type} {enc : TypeId × Value → H} {W : World} {a : Option Addr} {len cap : Nat} {dd : DataW H} {p : List MemPlace} (h : DataW.Trod enc Try.prog W 0 (fun _ => true) true 25 (.slice a len cap) dd p) :
    ∃ l : List (Int × Int), len = l.length ∧ ActsIn W l a cap := by
  obtain ⟨fuel, hf⟩ := h
  obtain ⟨a', l, cap', e, h1⟩ := acts_open (c5 := .slice a len cap) (by simpa [Value.cells] using hf)
  cases e
  exact ⟨l, rfl, h1⟩
theorem act_opens {H : Type} {enc : TypeId × Value → H} {W : World} {c0 c1 : Value} {dd : DataW H} {p : List MemPlace} (h : DataW.Trod enc Try.prog W 0 (fun _ => true) true 33 (.agg #[c0, c1]) dd p) :
    ∃ x y : Int, c0 = .int .i64 x ∧ c1 = .int .i64 y := by
  have e1 : Try.prog.cellsOf 3 = 1 := by kernel_rfl
  obtain ⟨fuel, hf⟩ := h
  obtain ⟨y0, y1, k, -, -, g0, g1⟩ := trod_struct2 Try.underlying33 (show DataW.trod enc Try.prog W 0 (fun _ => true) true fuel 33 [c0, c1] = some _ by simpa [Value.cells] using hf)
  dsimp only at g0 g1
  simp only [e1, List.drop_zero, List.drop_succ_cons, List.take_succ_cons, List.take_zero] at g0 g1
  obtain ⟨d, r0, -, -⟩ := DataW.trod_int Try.underlying3 g0
  obtain ⟨s, r1, -, -⟩ := DataW.trod_int Try.underlying3 g1
  simp only [List.cons.injEq, and_true] at r0 r1
  exact ⟨d, s, r0, r1⟩
theorem act_two {α : Type} {cs : Array α} (h : cs.size = 2) : ∃ c0 c1, cs = #[c0, c1] := by
  obtain ⟨l⟩ := cs
  match l, h with
  | [c0, c1], _ => exact ⟨c0, c1, rfl⟩
end Go.Proofs.Ytdoejppnifoebaa
