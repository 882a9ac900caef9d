/-
  A Call that came in: its cells.
-/
import Derived.Test.YthjcedbjjphleaaGreatDoorRow
import Derived.Test.YthjcedbjjphleaaGreatDoorInts
import Derived.WalkKit
import Derived.ProofKit
import Derived.OpenShut
import Derived.Lib.SmallJoins
namespace Go.Proofs.YthjcedbjjphleaaGreatDoor
open Go.ChangeShapes Go.WideShapes Go.ChangeAt Go.RowKit Go.Joins

theorem call_add (b o i : Nat) : (⟨b, o, none⟩ : Addr).add i = ⟨b, o + i, none⟩ := by cases i <;> simp [Addr.add]

theorem call_six {α : Type} {cs : Array α} (h : cs.size = 6) : ∃ c0 c1 c2 c3 c4 c5, cs = #[c0, c1, c2, c3, c4, c5] := by
  obtain ⟨l⟩ := cs
  match l, h with
  | [c0, c1, c2, c3, c4, c5], _ => exact ⟨c0, c1, c2, c3, c4, c5, rfl⟩

theorem call_of {H : Type} {enc : TypeId × Value → H} {W : World} {fuel : Nat} {c0 c1 c2 c3 c4 c5 : Value} {x : DataW H × List MemPlace} (h : DataW.trod enc Tryz.prog W 0 (fun _ => true) true fuel 34 [c0, c1, c2, c3, c4, c5] = some x) :
    ∃ (d s t : Int) (k : ByteArray) (id : Int) (a : Option Addr) (len cap : Nat) (z : List Int), c0 = .int .i64 d ∧ c1 = .int .i64 s ∧ c2 = .int .i64 t ∧ c3 = .string k ∧ c4 = .int .i64 id ∧ c5 = .slice a len cap ∧ k.size ≤ maxLen ∧ IsRow .i64 W a len cap z := by
  have e1 : Tryz.prog.cellsOf 3 = 1 := by kernel_rfl
  have e3 : Tryz.prog.cellsOf 32 = 3 := by kernel_rfl
  have es : Tryz.prog.cellsOf 9 = 1 := by kernel_rfl
  have en : Tryz.prog.cellsOf 30 = 1 := by kernel_rfl
  obtain ⟨y0, y1, y2, y3, n, -, -, g0, g1, g2, g3⟩ := trod_struct4 Tryz.underlying34 h
  dsimp only at g0 g1 g2 g3
  simp only [e1, e3, List.drop_zero, List.drop_succ_cons, List.take_succ_cons, List.take_zero] at g0 g1 g2 g3
  obtain ⟨z0, z1, z2, m, -, -, r0, r1, r2⟩ := Go.Deep.trod_struct3 Tryz.underlying32 g3
  dsimp only at r0 r1 r2
  simp only [e1, es, en, List.drop_zero, List.drop_succ_cons, List.take_succ_cons, List.take_zero] at r0 r1 r2
  obtain ⟨d, h0, -, -⟩ := DataW.trod_int Tryz.underlying3 g0
  obtain ⟨s, h1, -, -⟩ := DataW.trod_int Tryz.underlying3 g1
  obtain ⟨t, h2, -, -⟩ := DataW.trod_int Tryz.underlying3 g2
  obtain ⟨k, h3, -, wk⟩ := DataW.trod_string Tryz.underlying9 r0
  obtain ⟨id, h4, -, -⟩ := DataW.trod_int Tryz.underlying3 r1
  simp only [List.cons.injEq, and_true] at h0 h1 h2 h3 h4
  rcases open_ints Tryz.underlying30 Tryz.underlying3 (by kernel_rfl) r2 with ⟨hcs, _⟩ | ⟨a, l, c, zs, hcs, _, hl, hm, hz, _, hcell, hwz⟩
  · simp only [List.cons.injEq, and_true] at hcs
    exact ⟨d, s, t, k, id, none, 0, 0, [], h0, h1, h2, h3, h4, hcs, wk, .inl ⟨rfl, rfl, rfl, rfl⟩⟩
  · simp only [List.cons.injEq, and_true] at hcs
    exact ⟨d, s, t, k, id, _, _, _, zs, h0, h1, h2, h3, h4, hcs, wk, .inr ⟨_, rfl, hl, hm, by simpa using hz, hcell, hwz⟩⟩

theorem call_opens {H : Type} {enc : TypeId × Value → H} {W : World} {c0 c1 c2 c3 c4 c5 : Value} {dd : DataW H} {p : List MemPlace} (h : DataW.Trod enc Tryz.prog W 0 (fun _ => true) true 34 (.agg #[c0, c1, c2, c3, c4, c5]) dd p) :
    ∃ (d s t : Int) (k : ByteArray) (id : Int) (a : Option Addr) (len cap : Nat) (z : List Int), c0 = .int .i64 d ∧ c1 = .int .i64 s ∧ c2 = .int .i64 t ∧ c3 = .string k ∧ c4 = .int .i64 id ∧ c5 = .slice a len cap ∧ k.size ≤ maxLen ∧ IsRow .i64 W a len cap z := by
  obtain ⟨fuel, hf⟩ := h
  exact call_of (by simpa [Value.cells] using hf)

/-- A Call as a value. -/
structure Cv where
  d : Int
  s : Int
  t : Int
  k : ByteArray
  id : Int
  l : List Int
  av : Option Addr
  cv : Nat
def CvIn (w : World) (c : Cv) : Prop := c.k.size ≤ maxLen ∧ Ints w c.av c.l ∧ c.l.length ≤ 9223372036854775807
/-- A row of Calls that came in. -/
def CallsAt (w : World) (a : Option Addr) (cl : List Cv) : Prop :=
  cl = [] ∨ ∃ b off, a = some ⟨b, off, none⟩ ∧ ∀ (i : Nat) (c : Cv), cl[i]? = some c → (w.cell? ⟨b, off + i * 6, none⟩ = some (.int .i64 c.d) ∧ w.cell? ⟨b, off + i * 6 + 1, none⟩ = some (.int .i64 c.s) ∧ w.cell? ⟨b, off + i * 6 + 2, none⟩ = some (.int .i64 c.t) ∧
    w.cell? ⟨b, off + i * 6 + 3, none⟩ = some (.string c.k) ∧ w.cell? ⟨b, off + i * 6 + 4, none⟩ = some (.int .i64 c.id) ∧ w.cell? ⟨b, off + i * 6 + 5, none⟩ = some (.slice c.av c.l.length c.cv)) ∧ CvIn w c
theorem CallsAt.below {w w' : World} {a : Option Addr} {cl : List Cv} (h : CallsAt w a cl) (hb : Below w.heap.size w w') : CallsAt w' a cl := by
  rcases h with h | ⟨b, off, ha, hc⟩
  · exact .inl h
  · refine .inr ⟨b, off, ha, fun i c hx => ?_⟩
    have cc : ∀ {p : Addr} {v : Value}, w.cell? p = some v → w'.cell? p = some v := fun h => (hb.cell (World.block_lt_of_cell? _ _ h)).trans h
    obtain ⟨⟨h0, h1, h2, h3, h4, h5⟩, h6, h7, h8⟩ := hc i c hx
    exact ⟨⟨cc h0, cc h1, cc h2, cc h3, cc h4, cc h5⟩, h6, h7.below hb, h8⟩

theorem calls_open {H : Type} {enc : TypeId × Value → H} {W : World} {a : Option Addr} {len cap : Nat} {dd : DataW H} {p : List MemPlace} (h : DataW.Trod enc Tryz.prog W 0 (fun _ => true) true 22 (.slice a len cap) dd p) :
    ∃ cl : List Cv, cl.length = len ∧ len ≤ 9223372036854775807 ∧ CallsAt W a cl := by
  obtain ⟨fuel, hf⟩ := h
  have e6 : Tryz.prog.cellsOf 34 = 6 := by kernel_rfl
  rcases Go.Deep.open_slice Tryz.underlying22 hf with ⟨hcs, _⟩ | ⟨x, l, c, m, n, D, Pl, hcs, _, hlc, hcm, hm, _, hall⟩
  · simp [Value.cells] at hcs
    obtain ⟨rfl, rfl, rfl⟩ := hcs
    exact ⟨[], rfl, by omega, .inl rfl⟩
  · simp [Value.cells] at hcs
    obtain ⟨rfl, rfl, rfl⟩ := hcs
    rw [e6] at hall
    have hm' : m = cap := by simpa using hm
    have each : ∀ i, i < len → ∃ cv : Cv, (W.cell? ((x.add (i * 6)).add 0) = some (.int .i64 cv.d) ∧ W.cell? ((x.add (i * 6)).add 1) = some (.int .i64 cv.s) ∧ W.cell? ((x.add (i * 6)).add 2) = some (.int .i64 cv.t) ∧ W.cell? ((x.add (i * 6)).add 3) = some (.string cv.k) ∧ W.cell? ((x.add (i * 6)).add 4) = some (.int .i64 cv.id) ∧ W.cell? ((x.add (i * 6)).add 5) = some (.slice cv.av cv.l.length cv.cv)) ∧ CvIn W cv := fun i hi => by
      obtain ⟨cs, h1, h2⟩ := hall i (by omega)
      obtain ⟨_, h3, h4⟩ := World.cells?_some h1
      match cs, h3 with
      | [c0, c1, c2, c3, c4, c5], _ =>
        obtain ⟨d, s, t, k, id, a, ln, cp, z, rfl, rfl, rfl, rfl, rfl, rfl, wk, wr⟩ := call_of h2
        obtain ⟨l, rfl, hl, hin⟩ := wr.ints
        exact ⟨⟨d, s, t, k, id, l, a, cp⟩, ⟨h4 0 (by omega), h4 1 (by omega), h4 2 (by omega), h4 3 (by omega), h4 4 (by omega), h4 5 (by omega)⟩, wk, hin, hl⟩
    obtain ⟨f, hf'⟩ : ∃ f : Nat → Cv, ∀ i, i < len → (W.cell? ((x.add (i * 6)).add 0) = some (.int .i64 (f i).d) ∧ W.cell? ((x.add (i * 6)).add 1) = some (.int .i64 (f i).s) ∧ W.cell? ((x.add (i * 6)).add 2) = some (.int .i64 (f i).t) ∧ W.cell? ((x.add (i * 6)).add 3) = some (.string (f i).k) ∧ W.cell? ((x.add (i * 6)).add 4) = some (.int .i64 (f i).id) ∧ W.cell? ((x.add (i * 6)).add 5) = some (.slice (f i).av (f i).l.length (f i).cv)) ∧ CvIn W (f i) :=
      ⟨fun i => if h : i < len then Classical.choose (each i h) else ⟨0, 0, 0, ⟨#[]⟩, 0, [], none, 0⟩, fun i hi => by simp only [dif_pos hi]; exact Classical.choose_spec (each i hi)⟩
    refine ⟨(List.range len).map f, by simp, by unfold maxLen at hcm; omega, ?_⟩
    by_cases h0 : len = 0
    · exact .inl (by simp [h0])
    · obtain ⟨b, off, rfl⟩ : ∃ b off, x = ⟨b, off, none⟩ := by
        have h1 := (hf' 0 (by omega)).1.1
        obtain ⟨b, off, rfl, _⟩ := ints_at (w := W) (a := x) (k := .i64) (zs := [(f 0).d]) (fun i hi => by
          have e : i = 0 := by simp at hi; omega
          subst e
          simpa [Addr.add] using h1) (by simp)
        exact ⟨b, off, rfl⟩
      refine .inr ⟨b, off, rfl, fun i c hx => ?_⟩
      have hi : i < len := by
        have := (List.getElem?_eq_some_iff.1 hx).1
        simpa using this
      simp [hi] at hx
      subst hx
      obtain ⟨h1, h2⟩ := hf' i hi
      refine ⟨?_, h2⟩
      simpa [call_add] using h1
end Go.Proofs.YthjcedbjjphleaaGreatDoor
