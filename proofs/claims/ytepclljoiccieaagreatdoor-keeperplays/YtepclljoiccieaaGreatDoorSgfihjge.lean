/-
  A struct of wharfingerlaw20.Call, a row of them, that came in (drafts/gen_rows.py).
-/
import Derived.Test.YtepclljoiccieaaGreatDoorSgfcaaoo
import Derived.WalkKit
import Derived.ProofKit
import Derived.OpenShut
import Derived.Lib.SmallJoins
import Derived.Deep.OwnRows
namespace Go.Proofs.YtepclljoiccieaaGreatDoor.C20
open Go.ChangeShapes Go.WideShapes Go.ChangeAt Go.RowKit Go.Joins

theorem hc_add (b o i : Nat) : (⟨b, o, none⟩ : Addr).add i = ⟨b, o + i, none⟩ := by cases i <;> simp [Addr.add]
theorem trod_s5 {H : Type} {enc : TypeId × Value → H} {P : Program} {w : World} {base : Nat} {spare : Nat → Bool} {held : Bool} {t : TypeId} {f0 f1 f2 f3 f4 : Field} {fuel : Nat} {cs : List Value} {x : DataW H × List MemPlace} (ht : P.underlying t = some (.struct #[f0, f1, f2, f3, f4])) (h : DataW.trod enc P w base spare held fuel t cs = some x) :
    ∃ y0 y1 y2 y3 y4 n, DataW.trod enc P w base spare held n f0.type ((cs.drop f0.offset).take (P.cellsOf f0.type)) = some y0 ∧ DataW.trod enc P w base spare held n f1.type ((cs.drop f1.offset).take (P.cellsOf f1.type)) = some y1 ∧ DataW.trod enc P w base spare held n f2.type ((cs.drop f2.offset).take (P.cellsOf f2.type)) = some y2 ∧ DataW.trod enc P w base spare held n f3.type ((cs.drop f3.offset).take (P.cellsOf f3.type)) = some y3 ∧ DataW.trod enc P w base spare held n f4.type ((cs.drop f4.offset).take (P.cellsOf f4.type)) = some y4 := by
  obtain ⟨xs, n, _, rfl, hl, hlen, hf⟩ := DataW.trod_struct ht h
  match xs, hlen with
  | [y0, y1, y2, y3, y4], _ => exact ⟨y0, y1, y2, y3, y4, n, by simpa using hf 0 f0 rfl, by simpa using hf 1 f1 rfl, by simpa using hf 2 f2 rfl, by simpa using hf 3 f3 rfl, by simpa using hf 4 f4 rfl⟩
theorem trod_s7 {H : Type} {enc : TypeId × Value → H} {P : Program} {w : World} {base : Nat} {spare : Nat → Bool} {held : Bool} {t : TypeId} {f0 f1 f2 f3 f4 f5 f6 : Field} {fuel : Nat} {cs : List Value} {x : DataW H × List MemPlace} (ht : P.underlying t = some (.struct #[f0, f1, f2, f3, f4, f5, f6])) (h : DataW.trod enc P w base spare held fuel t cs = some x) :
    ∃ y0 y1 y2 y3 y4 y5 y6 n, DataW.trod enc P w base spare held n f0.type ((cs.drop f0.offset).take (P.cellsOf f0.type)) = some y0 ∧ DataW.trod enc P w base spare held n f1.type ((cs.drop f1.offset).take (P.cellsOf f1.type)) = some y1 ∧ DataW.trod enc P w base spare held n f2.type ((cs.drop f2.offset).take (P.cellsOf f2.type)) = some y2 ∧ DataW.trod enc P w base spare held n f3.type ((cs.drop f3.offset).take (P.cellsOf f3.type)) = some y3 ∧ DataW.trod enc P w base spare held n f4.type ((cs.drop f4.offset).take (P.cellsOf f4.type)) = some y4 ∧ DataW.trod enc P w base spare held n f5.type ((cs.drop f5.offset).take (P.cellsOf f5.type)) = some y5 ∧ DataW.trod enc P w base spare held n f6.type ((cs.drop f6.offset).take (P.cellsOf f6.type)) = some y6 := by
  obtain ⟨xs, n, _, rfl, hl, hlen, hf⟩ := DataW.trod_struct ht h
  match xs, hlen with
  | [y0, y1, y2, y3, y4, y5, y6], _ => exact ⟨y0, y1, y2, y3, y4, y5, y6, n, by simpa using hf 0 f0 rfl, by simpa using hf 1 f1 rfl, by simpa using hf 2 f2 rfl, by simpa using hf 3 f3 rfl, by simpa using hf 4 f4 rfl, by simpa using hf 5 f5 rfl, by simpa using hf 6 f6 rfl⟩
def msg_ok (c : Ms.Mg) : Prop := (Lit.int .i64 c.k).wf = true ∧ (Lit.int .i64 c.fr).wf = true ∧ (Lit.int .i64 c.to).wf = true ∧ (Lit.int .i64 c.id).wf = true ∧ (Lit.int .i64 c.st).wf = true ∧ (Lit.int .i64 c.a).wf = true ∧ (Lit.int .i64 c.b).wf = true
theorem msg {H : Type} {enc : TypeId × Value → H} {W : World} {fuel : Nat} {c0 c1 c2 c3 c4 c5 c6 : Value} {x : DataW H × List MemPlace} (h : DataW.trod enc Tryz.prog W 0 (fun _ => true) true fuel 31 [c0, c1, c2, c3, c4, c5, c6] = some x) :
    ∃ c : Ms.Mg, c0 = .int .i64 c.k ∧ c1 = .int .i64 c.fr ∧ c2 = .int .i64 c.to ∧ c3 = .int .i64 c.id ∧ c4 = .int .i64 c.st ∧ c5 = .int .i64 c.a ∧ c6 = .int .i64 c.b ∧ msg_ok c := by
  have e1 : Tryz.prog.cellsOf 3 = 1 := by kernel_rfl
  obtain ⟨y0, y1, y2, y3, y4, y5, y6, n, g0, g1, g2, g3, g4, g5, g6⟩ := trod_s7 Tryz.underlying31 h
  dsimp only at g0 g1 g2 g3 g4 g5 g6
  simp only [e1, List.drop_zero, List.drop_succ_cons, List.take_succ_cons, List.take_zero] at g0 g1 g2 g3 g4 g5 g6
  obtain ⟨z0, h0, -, v0⟩ := DataW.trod_int Tryz.underlying3 g0
  obtain ⟨z1, h1, -, v1⟩ := DataW.trod_int Tryz.underlying3 g1
  obtain ⟨z2, h2, -, v2⟩ := DataW.trod_int Tryz.underlying3 g2
  obtain ⟨z3, h3, -, v3⟩ := DataW.trod_int Tryz.underlying3 g3
  obtain ⟨z4, h4, -, v4⟩ := DataW.trod_int Tryz.underlying3 g4
  obtain ⟨z5, h5, -, v5⟩ := DataW.trod_int Tryz.underlying3 g5
  obtain ⟨z6, h6, -, v6⟩ := DataW.trod_int Tryz.underlying3 g6
  simp only [List.cons.injEq, and_true] at h0 h1 h2 h3 h4 h5 h6
  exact ⟨⟨z0, z1, z2, z3, z4, z5, z6⟩, h0, h1, h2, h3, h4, h5, h6, v0, v1, v2, v3, v4, v5, v6⟩
structure Cl where
  d : Int
  sy : Int
  tn : Int
  y : Bool
  m : Ms.Mg
def one_ok (c : Cl) : Prop := (Lit.int .i64 c.d).wf = true ∧ (Lit.int .i64 c.sy).wf = true ∧ (Lit.int .i64 c.tn).wf = true ∧ msg_ok c.m
theorem one {H : Type} {enc : TypeId × Value → H} {W : World} {fuel : Nat} {c0 c1 c2 c3 c4 c5 c6 c7 c8 c9 c10 : Value} {x : DataW H × List MemPlace} (h : DataW.trod enc Tryz.prog W 0 (fun _ => true) true fuel 33 [c0, c1, c2, c3, c4, c5, c6, c7, c8, c9, c10] = some x) :
    ∃ c : Cl, c0 = .int .i64 c.d ∧ c1 = .int .i64 c.sy ∧ c2 = .int .i64 c.tn ∧ c3 = .bool c.y ∧ c4 = .int .i64 c.m.k ∧ c5 = .int .i64 c.m.fr ∧ c6 = .int .i64 c.m.to ∧ c7 = .int .i64 c.m.id ∧ c8 = .int .i64 c.m.st ∧ c9 = .int .i64 c.m.a ∧ c10 = .int .i64 c.m.b ∧ one_ok c := by
  have e1 : Tryz.prog.cellsOf 3 = 1 := by kernel_rfl
  have eb : Tryz.prog.cellsOf 4 = 1 := by kernel_rfl
  have e_m : Tryz.prog.cellsOf 31 = 7 := by kernel_rfl
  obtain ⟨y0, y1, y2, y3, y4, n, g0, g1, g2, g3, g4⟩ := trod_s5 Tryz.underlying33 h
  dsimp only at g0 g1 g2 g3 g4
  simp only [e1, eb, e_m, List.drop_zero, List.drop_succ_cons, List.take_succ_cons, List.take_zero] at g0 g1 g2 g3 g4
  obtain ⟨z0, h0, -, v0⟩ := DataW.trod_int Tryz.underlying3 g0
  obtain ⟨z1, h1, -, v1⟩ := DataW.trod_int Tryz.underlying3 g1
  obtain ⟨z2, h2, -, v2⟩ := DataW.trod_int Tryz.underlying3 g2
  obtain ⟨z3, h3, -⟩ := DataW.trod_bool Tryz.underlying4 g3
  obtain ⟨z4, h4_0, h4_1, h4_2, h4_3, h4_4, h4_5, h4_6, v4⟩ := msg g4
  simp only [List.cons.injEq, and_true] at h0 h1 h2 h3
  exact ⟨⟨z0, z1, z2, z3, z4⟩, h0, h1, h2, h3, h4_0, h4_1, h4_2, h4_3, h4_4, h4_5, h4_6, v0, v1, v2, v4⟩
theorem many {α : Type} {cs : Array α} (h : cs.size = 11) : ∃ c0 c1 c2 c3 c4 c5 c6 c7 c8 c9 c10, cs = #[c0, c1, c2, c3, c4, c5, c6, c7, c8, c9, c10] := by
  obtain ⟨l⟩ := cs
  match l, h with
  | [c0, c1, c2, c3, c4, c5, c6, c7, c8, c9, c10], _ => exact ⟨c0, c1, c2, c3, c4, c5, c6, c7, c8, c9, c10, rfl⟩
theorem opens {H : Type} {enc : TypeId × Value → H} {W : World} {c0 c1 c2 c3 c4 c5 c6 c7 c8 c9 c10 : Value} {dd : DataW H} {p : List MemPlace} (h : DataW.Trod enc Tryz.prog W 0 (fun _ => true) true 33 (.agg #[c0, c1, c2, c3, c4, c5, c6, c7, c8, c9, c10]) dd p) :
    ∃ c : Cl, c0 = .int .i64 c.d ∧ c1 = .int .i64 c.sy ∧ c2 = .int .i64 c.tn ∧ c3 = .bool c.y ∧ c4 = .int .i64 c.m.k ∧ c5 = .int .i64 c.m.fr ∧ c6 = .int .i64 c.m.to ∧ c7 = .int .i64 c.m.id ∧ c8 = .int .i64 c.m.st ∧ c9 = .int .i64 c.m.a ∧ c10 = .int .i64 c.m.b ∧ one_ok c := by
  obtain ⟨fuel, hf⟩ := h
  exact one (by simpa [Value.cells] using hf)
/-- The slice at a reads as l. -/
def Cls (w : World) (a : Option Addr) (l : List Cl) : Prop :=
  l = [] ∨ ∃ b off, a = some ⟨b, off, none⟩ ∧ ∀ (i : Nat) (c : Cl), l[i]? = some c → (w.cell? ⟨b, off + i * 11, none⟩ = some (.int .i64 c.d) ∧ w.cell? ⟨b, off + i * 11 + 1, none⟩ = some (.int .i64 c.sy) ∧ w.cell? ⟨b, off + i * 11 + 2, none⟩ = some (.int .i64 c.tn) ∧ w.cell? ⟨b, off + i * 11 + 3, none⟩ = some (.bool c.y) ∧ w.cell? ⟨b, off + i * 11 + 4, none⟩ = some (.int .i64 c.m.k) ∧ w.cell? ⟨b, off + i * 11 + 5, none⟩ = some (.int .i64 c.m.fr) ∧ w.cell? ⟨b, off + i * 11 + 6, none⟩ = some (.int .i64 c.m.to) ∧ w.cell? ⟨b, off + i * 11 + 7, none⟩ = some (.int .i64 c.m.id) ∧ w.cell? ⟨b, off + i * 11 + 8, none⟩ = some (.int .i64 c.m.st) ∧ w.cell? ⟨b, off + i * 11 + 9, none⟩ = some (.int .i64 c.m.a) ∧ w.cell? ⟨b, off + i * 11 + 10, none⟩ = some (.int .i64 c.m.b)) ∧ one_ok c
theorem Cls.below {w w' : World} {a : Option Addr} {l : List Cl} (h : Cls w a l) (hb : Below w.heap.size w w') : Cls w' a l := by
  rcases h with h | ⟨b, off, ha, hc⟩
  · exact .inl h
  · refine .inr ⟨b, off, ha, fun i c hx => ?_⟩
    have cc : ∀ {p : Addr} {v : Value}, w.cell? p = some v → w'.cell? p = some v := fun h => (hb.cell (World.block_lt_of_cell? _ _ h)).trans h
    obtain ⟨⟨h0, h1, h2, h3, h4, h5, h6, h7, h8, h9, h10⟩, hk⟩ := hc i c hx
    exact ⟨⟨cc h0, cc h1, cc h2, cc h3, cc h4, cc h5, cc h6, cc h7, cc h8, cc h9, cc h10⟩, hk⟩
def ClsIn (w : World) (l : List Cl) (a : Option Addr) : Prop := l.length ≤ 9223372036854775807 ∧ Cls w a l
theorem cls_opens {H : Type} {enc : TypeId × Value → H} {W : World} {a : Option Addr} {len cap : Nat} {dd : DataW H} {p : List MemPlace} (h : DataW.Trod enc Tryz.prog W 0 (fun _ => true) true 23 (.slice a len cap) dd p) :
    ∃ l : List Cl, len = l.length ∧ ClsIn W l a := by
  obtain ⟨fuel, hf⟩ := h
  have e3 : Tryz.prog.cellsOf 33 = 11 := by kernel_rfl
  rcases Go.Deep.open_slice Tryz.underlying23 hf with ⟨hcs, _⟩ | ⟨x, l, c, m, n, D, Pl, hcs, _, hlc, hcm, hm, _, hall⟩
  · simp [Value.cells] at hcs
    obtain ⟨rfl, rfl, rfl⟩ := hcs
    exact ⟨[], rfl, by simp, .inl rfl⟩
  · simp [Value.cells] at hcs
    obtain ⟨rfl, rfl, rfl⟩ := hcs
    rw [e3] at hall
    have hm' : m = cap := by simpa using hm
    have each : ∀ i, i < len → ∃ c : Cl, (W.cell? ((x.add (i * 11)).add 0) = some (.int .i64 c.d) ∧ W.cell? ((x.add (i * 11)).add 1) = some (.int .i64 c.sy) ∧ W.cell? ((x.add (i * 11)).add 2) = some (.int .i64 c.tn) ∧ W.cell? ((x.add (i * 11)).add 3) = some (.bool c.y) ∧ W.cell? ((x.add (i * 11)).add 4) = some (.int .i64 c.m.k) ∧ W.cell? ((x.add (i * 11)).add 5) = some (.int .i64 c.m.fr) ∧ W.cell? ((x.add (i * 11)).add 6) = some (.int .i64 c.m.to) ∧ W.cell? ((x.add (i * 11)).add 7) = some (.int .i64 c.m.id) ∧ W.cell? ((x.add (i * 11)).add 8) = some (.int .i64 c.m.st) ∧ W.cell? ((x.add (i * 11)).add 9) = some (.int .i64 c.m.a) ∧ W.cell? ((x.add (i * 11)).add 10) = some (.int .i64 c.m.b)) ∧ one_ok c := fun i hi => by
      obtain ⟨cs, h1, h2⟩ := hall i (by omega)
      obtain ⟨_, h3, h4⟩ := World.cells?_some h1
      match cs, h3 with
      | [c0, c1, c2, c3, c4, c5, c6, c7, c8, c9, c10], _ =>
        obtain ⟨c, rfl, rfl, rfl, rfl, rfl, rfl, rfl, rfl, rfl, rfl, rfl, ho⟩ := one h2
        exact ⟨c, ⟨h4 0 (by omega), h4 1 (by omega), h4 2 (by omega), h4 3 (by omega), h4 4 (by omega), h4 5 (by omega), h4 6 (by omega), h4 7 (by omega), h4 8 (by omega), h4 9 (by omega), h4 10 (by omega)⟩, ho⟩
    obtain ⟨f, hf'⟩ : ∃ f : Nat → Cl, ∀ i, i < len → (W.cell? ((x.add (i * 11)).add 0) = some (.int .i64 (f i).d) ∧ W.cell? ((x.add (i * 11)).add 1) = some (.int .i64 (f i).sy) ∧ W.cell? ((x.add (i * 11)).add 2) = some (.int .i64 (f i).tn) ∧ W.cell? ((x.add (i * 11)).add 3) = some (.bool (f i).y) ∧ W.cell? ((x.add (i * 11)).add 4) = some (.int .i64 (f i).m.k) ∧ W.cell? ((x.add (i * 11)).add 5) = some (.int .i64 (f i).m.fr) ∧ W.cell? ((x.add (i * 11)).add 6) = some (.int .i64 (f i).m.to) ∧ W.cell? ((x.add (i * 11)).add 7) = some (.int .i64 (f i).m.id) ∧ W.cell? ((x.add (i * 11)).add 8) = some (.int .i64 (f i).m.st) ∧ W.cell? ((x.add (i * 11)).add 9) = some (.int .i64 (f i).m.a) ∧ W.cell? ((x.add (i * 11)).add 10) = some (.int .i64 (f i).m.b)) ∧ one_ok (f i) :=
      ⟨fun i => if h : i < len then Classical.choose (each i h) else ⟨0, 0, 0, false, ⟨0, 0, 0, 0, 0, 0, 0⟩⟩, fun i hi => by simp only [dif_pos hi]; exact Classical.choose_spec (each i hi)⟩
    refine ⟨(List.range len).map f, by simp, by unfold maxLen at hcm; simp; omega, ?_⟩
    by_cases h0 : len = 0
    · exact .inl (by simp [h0])
    · obtain ⟨b, off, rfl⟩ : ∃ b off, x = ⟨b, off, none⟩ := by
        have h1 := (hf' 0 (by omega)).1.1
        cases x with
        | mk b off pth =>
          cases pth with
          | none => exact ⟨b, off, rfl⟩
          | some q =>
            exfalso
            unfold World.cell? at h1
            split at h1
            · simp [Addr.add] at h1
            · cases h1
      refine .inr ⟨b, off, rfl, fun i c hx => ?_⟩
      have hi : i < len := by
        have := (List.getElem?_eq_some_iff.1 hx).1
        simpa using this
      simp [hi] at hx
      subst hx
      obtain ⟨h1, h2⟩ := hf' i hi
      refine ⟨?_, h2⟩
      simpa [hc_add] using h1
end Go.Proofs.YtepclljoiccieaaGreatDoor.C20
