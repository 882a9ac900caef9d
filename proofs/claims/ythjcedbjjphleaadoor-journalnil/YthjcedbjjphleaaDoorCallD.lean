/-
  A Call that came in: its cells.
-/
import Derived.Test.YthjcedbjjphleaaDoorRow
import Derived.Test.YthjcedbjjphleaaDoorInts
import Derived.WalkKit
import Derived.ProofKit
import Derived.OpenShut
import Derived.Lib.SmallJoins
namespace Go.Proofs.YthjcedbjjphleaaDoor
open Go.ChangeShapes Go.WideShapes Go.ChangeAt Go.RowKit Go.Joins

theorem call_six {α : Type} {cs : Array α} (h : cs.size = 6) : ∃ c0 c1 c2 c3 c4 c5, cs = #[c0, c1, c2, c3, c4, c5] := by
  obtain ⟨l⟩ := cs
  match l, h with
  | [c0, c1, c2, c3, c4, c5], _ => exact ⟨c0, c1, c2, c3, c4, c5, rfl⟩

theorem call_of {H : Type} {enc : TypeId × Value → H} {W : World} {fuel : Nat} {c0 c1 c2 c3 c4 c5 : Value} {x : DataW H × List MemPlace} (h : DataW.trod enc Tryd.prog W 0 (fun _ => true) true fuel 26 [c0, c1, c2, c3, c4, c5] = some x) :
    ∃ (d s t : Int) (k : ByteArray) (id : Int) (a : Option Addr) (len cap : Nat) (z : List Int), c0 = .int .i64 d ∧ c1 = .int .i64 s ∧ c2 = .int .i64 t ∧ c3 = .string k ∧ c4 = .int .i64 id ∧ c5 = .slice a len cap ∧ k.size ≤ maxLen ∧ IsRow .i64 W a len cap z := by
  have e1 : Tryd.prog.cellsOf 3 = 1 := by kernel_rfl
  have e3 : Tryd.prog.cellsOf 24 = 3 := by kernel_rfl
  have es : Tryd.prog.cellsOf 9 = 1 := by kernel_rfl
  have en : Tryd.prog.cellsOf 22 = 1 := by kernel_rfl
  obtain ⟨y0, y1, y2, y3, n, -, -, g0, g1, g2, g3⟩ := trod_struct4 Tryd.underlying26 h
  dsimp only at g0 g1 g2 g3
  simp only [e1, e3, List.drop_zero, List.drop_succ_cons, List.take_succ_cons, List.take_zero] at g0 g1 g2 g3
  obtain ⟨z0, z1, z2, m, -, -, r0, r1, r2⟩ := Go.Deep.trod_struct3 Tryd.underlying24 g3
  dsimp only at r0 r1 r2
  simp only [e1, es, en, List.drop_zero, List.drop_succ_cons, List.take_succ_cons, List.take_zero] at r0 r1 r2
  obtain ⟨d, h0, -, -⟩ := DataW.trod_int Tryd.underlying3 g0
  obtain ⟨s, h1, -, -⟩ := DataW.trod_int Tryd.underlying3 g1
  obtain ⟨t, h2, -, -⟩ := DataW.trod_int Tryd.underlying3 g2
  obtain ⟨k, h3, -, wk⟩ := DataW.trod_string Tryd.underlying9 r0
  obtain ⟨id, h4, -, -⟩ := DataW.trod_int Tryd.underlying3 r1
  simp only [List.cons.injEq, and_true] at h0 h1 h2 h3 h4
  rcases open_ints Tryd.underlying22 Tryd.underlying3 (by kernel_rfl) r2 with ⟨hcs, _⟩ | ⟨a, l, c, zs, hcs, _, hl, hm, hz, _, hcell, hwz⟩
  · simp only [List.cons.injEq, and_true] at hcs
    exact ⟨d, s, t, k, id, none, 0, 0, [], h0, h1, h2, h3, h4, hcs, wk, .inl ⟨rfl, rfl, rfl, rfl⟩⟩
  · simp only [List.cons.injEq, and_true] at hcs
    exact ⟨d, s, t, k, id, _, _, _, zs, h0, h1, h2, h3, h4, hcs, wk, .inr ⟨_, rfl, hl, hm, by simpa using hz, hcell, hwz⟩⟩

theorem call_opens {H : Type} {enc : TypeId × Value → H} {W : World} {c0 c1 c2 c3 c4 c5 : Value} {dd : DataW H} {p : List MemPlace} (h : DataW.Trod enc Tryd.prog W 0 (fun _ => true) true 26 (.agg #[c0, c1, c2, c3, c4, c5]) dd p) :
    ∃ (d s t : Int) (k : ByteArray) (id : Int) (a : Option Addr) (len cap : Nat) (z : List Int), c0 = .int .i64 d ∧ c1 = .int .i64 s ∧ c2 = .int .i64 t ∧ c3 = .string k ∧ c4 = .int .i64 id ∧ c5 = .slice a len cap ∧ k.size ≤ maxLen ∧ IsRow .i64 W a len cap z := by
  obtain ⟨fuel, hf⟩ := h
  exact call_of (by simpa [Value.cells] using hf)
end Go.Proofs.YthjcedbjjphleaaDoor
