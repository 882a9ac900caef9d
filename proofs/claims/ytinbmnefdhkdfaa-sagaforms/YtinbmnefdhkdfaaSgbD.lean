/-
  What is known of an order, a pair of bools, that came in.
-/
import Derived.Test.YtinbmnefdhkdfaaSgaS
import Derived.Test.YtinbmnefdhkdfaaOrdD
namespace Go.Proofs.Ytinbmnefdhkdfaa
open Go.ChangeShapes Go.WideShapes Go.ChangeAt Go.RowKit Go.Joins

theorem bools_open {H : Type} {enc : TypeId × Value → H} {W : World} {fuel : Nat} {c5 : Value} {x : DataW H × List MemPlace} (h : DataW.trod enc Try.prog W 0 (fun _ => true) true fuel 25 [c5] = some x) :
    ∃ (a : Option Addr) (l : List Bool) (cap : Nat), c5 = .slice a l.length cap ∧ Bls W a l ∧ l.length ≤ cap ∧ cap ≤ 9223372036854775807 ∧ (a = none → l = [] ∧ cap = 0) := by
  have e1 : Try.prog.cellsOf 4 = 1 := by kernel_rfl
  rcases Go.Deep.open_slice Try.underlying25 h with ⟨hcs, _⟩ | ⟨x, len, cap, m, n, D, Pl, hcs, _, hlc, hcm, hm, _, hall⟩
  · simp only [List.cons.injEq, and_true] at hcs
    exact ⟨none, [], 0, hcs, .inl rfl, Nat.le_refl _, by omega, fun _ => ⟨rfl, rfl⟩⟩
  · simp only [List.cons.injEq, and_true] at hcs
    rw [e1] at hall
    have hm' : m = cap := by simpa using hm
    have each : ∀ i, i < len → ∃ c : Bool, W.cell? ((x.add (i * 1)).add 0) = some (.bool c) := fun i hi => by
      obtain ⟨cs, h1, h2⟩ := hall i (by omega)
      obtain ⟨_, h3, h4⟩ := World.cells?_some h1
      obtain ⟨b, rfl, -⟩ := DataW.trod_bool Try.underlying4 h2
      exact ⟨b, h4 0 (by omega)⟩
    obtain ⟨f, hf'⟩ : ∃ f : Nat → Bool, ∀ i, i < len → W.cell? ((x.add (i * 1)).add 0) = some (.bool (f i)) :=
      ⟨fun i => if h : i < len then Classical.choose (each i h) else false, fun i hi => by simp only [dif_pos hi]; exact Classical.choose_spec (each i hi)⟩
    refine ⟨some x, (List.range len).map f, cap, by simpa using hcs, ?_, by simpa using hlc, by unfold maxLen at hcm; omega, (fun h => by cases h)⟩
    by_cases h0 : len = 0
    · exact .inl (by simp [h0])
    · obtain ⟨b, off, rfl⟩ : ∃ b off, x = ⟨b, off, none⟩ := by
        have h1 := hf' 0 (by omega)
        cases x with
        | mk b off pth =>
          cases pth with
          | none => exact ⟨b, off, rfl⟩
          | some q =>
            exfalso
            unfold World.cell? at h1
            split at h1
            · simp [Addr.add] at h1
            · cases h1
      refine .inr ⟨b, off, rfl, fun i c hx => ?_⟩
      have hi : i < len := by
        have := (List.getElem?_eq_some_iff.1 hx).1
        simpa using this
      simp [hi] at hx
      subst hx
      have h1 := hf' i hi
      simpa [hc_add] using h1
/-- How facts that came in lie. -/
def FaCame (w : World) (f : Fa) (da : Option Addr) (dc : Nat) (ua : Option Addr) (uc : Nat) : Prop := FaIn w f da dc ua uc ∧ (da = none → f.dn = [] ∧ dc = 0)
theorem two_open {H : Type} {enc : TypeId × Value → H} {W : World} {fuel : Nat} {c0 c1 : Value} {x : DataW H × List MemPlace} (h : DataW.trod enc Try.prog W 0 (fun _ => true) true fuel 26 [c0, c1] = some x) : ∃ y z : Bool, c0 = .bool y ∧ c1 = .bool z := by
  have e1 : Try.prog.cellsOf 4 = 1 := by kernel_rfl
  obtain ⟨xs, m, -, -, -, hl, hf⟩ := DataW.trod_array Try.underlying26 h
  rw [e1] at hf
  match xs, hl with
  | [y0, y1], _ =>
    have g0 := hf 0 (by omega)
    have g1 := hf 1 (by omega)
    simp only [Nat.zero_mul, Nat.one_mul, List.drop_zero, List.drop_succ_cons, List.take_succ_cons, List.take_zero, List.getElem?_cons_zero, List.getElem?_cons_succ] at g0 g1
    obtain ⟨b0, h0, -⟩ := DataW.trod_bool Try.underlying4 g0
    obtain ⟨b1, h1, -⟩ := DataW.trod_bool Try.underlying4 g1
    simp only [List.cons.injEq, and_true] at h0 h1
    exact ⟨b0, b1, h0, h1⟩
theorem two_opens {H : Type} {enc : TypeId × Value → H} {W : World} {c0 c1 : Value} {dd : DataW H} {p : List MemPlace} (h : DataW.Trod enc Try.prog W 0 (fun _ => true) true 26 (.agg #[c0, c1]) dd p) : ∃ y z : Bool, c0 = .bool y ∧ c1 = .bool z := by
  obtain ⟨fuel, hf⟩ := h
  exact two_open (by simpa [Value.cells] using hf)
theorem okWide_arr {P : Program} {w : World} {r : Reach} {base : Nat} {t : TypeId} {v : Value} {n : Nat} {e : TypeId} (ht : P.underlying t = some (.array n e)) (h : Value.okWide P w r base t v) : ∃ cs, v = .agg cs ∧ cs.size = P.cellsOf t := by
  simp only [Value.okWide, ht] at h
  obtain ⟨cs, h1, h2, _⟩ := h
  exact ⟨cs, h1, h2⟩
theorem arr_two {α : Type} {cs : Array α} (h : cs.size = 2) : ∃ c0 c1, cs = #[c0, c1] := by
  obtain ⟨l⟩ := cs
  match l, h with
  | [c0, c1], _ => exact ⟨c0, c1, rfl⟩
theorem arr_eleven {α : Type} {cs : Array α} (h : cs.size = 11) : ∃ c0 c1 c2 c3 c4 c5 c6 c7 c8 c9 c10, cs = #[c0, c1, c2, c3, c4, c5, c6, c7, c8, c9, c10] := by
  obtain ⟨l⟩ := cs
  match l, h with
  | [c0, c1, c2, c3, c4, c5, c6, c7, c8, c9, c10], _ => exact ⟨c0, c1, c2, c3, c4, c5, c6, c7, c8, c9, c10, rfl⟩
theorem trod_struct9 {H : Type} {enc : TypeId × Value → H} {P : Program} {w : World} {base : Nat} {spare : Nat → Bool} {held : Bool} {t : TypeId} {f0 f1 f2 f3 f4 f5 f6 f7 f8 : Field} {fuel : Nat} {cs : List Value} {x : DataW H × List MemPlace} (ht : P.underlying t = some (.struct #[f0, f1, f2, f3, f4, f5, f6, f7, f8])) (h : DataW.trod enc P w base spare held fuel t cs = some x) :
    ∃ y0 y1 y2 y3 y4 y5 y6 y7 y8 n, DataW.trod enc P w base spare held n f0.type ((cs.drop f0.offset).take (P.cellsOf f0.type)) = some y0 ∧ DataW.trod enc P w base spare held n f1.type ((cs.drop f1.offset).take (P.cellsOf f1.type)) = some y1 ∧ DataW.trod enc P w base spare held n f2.type ((cs.drop f2.offset).take (P.cellsOf f2.type)) = some y2 ∧ DataW.trod enc P w base spare held n f3.type ((cs.drop f3.offset).take (P.cellsOf f3.type)) = some y3 ∧ DataW.trod enc P w base spare held n f4.type ((cs.drop f4.offset).take (P.cellsOf f4.type)) = some y4 ∧ DataW.trod enc P w base spare held n f5.type ((cs.drop f5.offset).take (P.cellsOf f5.type)) = some y5 ∧ DataW.trod enc P w base spare held n f6.type ((cs.drop f6.offset).take (P.cellsOf f6.type)) = some y6 ∧ DataW.trod enc P w base spare held n f7.type ((cs.drop f7.offset).take (P.cellsOf f7.type)) = some y7 ∧ DataW.trod enc P w base spare held n f8.type ((cs.drop f8.offset).take (P.cellsOf f8.type)) = some y8 := by
  obtain ⟨xs, n, _, rfl, hl, hlen, hf⟩ := DataW.trod_struct ht h
  match xs, hlen with
  | [y0, y1, y2, y3, y4, y5, y6, y7, y8], _ => exact ⟨y0, y1, y2, y3, y4, y5, y6, y7, y8, n, by simpa using hf 0 f0 rfl, by simpa using hf 1 f1 rfl, by simpa using hf 2 f2 rfl, by simpa using hf 3 f3 rfl, by simpa using hf 4 f4 rfl, by simpa using hf 5 f5 rfl, by simpa using hf 6 f6 rfl, by simpa using hf 7 f7 rfl, by simpa using hf 8 f8 rfl⟩
theorem fa_opens {H : Type} {enc : TypeId × Value → H} {W : World} {c0 c1 c2 c3 c4 c5 c6 c7 c8 c9 c10 : Value} {dd : DataW H} {p : List MemPlace} (h : DataW.Trod enc Try.prog W 0 (fun _ => true) true 28 (.agg #[c0, c1, c2, c3, c4, c5, c6, c7, c8, c9, c10]) dd p) :
    ∃ (f : Fa) (da : Option Addr) (dc : Nat) (ua : Option Addr) (uc : Nat), c0 = .slice da f.dn.length dc ∧ c1 = .slice ua f.un.length uc ∧ c2 = .bool f.asked ∧ c3 = .bool f.yes ∧ c4 = .bool f.turned ∧ c5 = .bool f.k0 ∧ c6 = .bool f.k1 ∧ c7 = .bool f.ship ∧ c8 = .bool f.d0 ∧ c9 = .bool f.d1 ∧ c10 = .bool f.acc ∧ FaCame W f da dc ua uc := by
  have e1 : Try.prog.cellsOf 4 = 1 := by kernel_rfl
  have e2 : Try.prog.cellsOf 26 = 2 := by kernel_rfl
  have en : Try.prog.cellsOf 25 = 1 := by kernel_rfl
  obtain ⟨fuel, hf⟩ := h
  have hf' : DataW.trod enc Try.prog W 0 (fun _ => true) true fuel 28 [c0, c1, c2, c3, c4, c5, c6, c7, c8, c9, c10] = some (dd, p) := by simpa [Value.cells] using hf
  obtain ⟨y0, y1, y2, y3, y4, y5, y6, y7, y8, n, g0, g1, g2, g3, g4, g5, g6, g7, g8⟩ := trod_struct9 Try.underlying28 hf'
  dsimp only at g0 g1 g2 g3 g4 g5 g6 g7 g8
  simp only [e1, e2, en, List.drop_zero, List.drop_succ_cons, List.take_succ_cons, List.take_zero] at g0 g1 g2 g3 g4 g5 g6 g7 g8
  obtain ⟨da, dn, dc, r0, p1, p2, p3, p7⟩ := bools_open g0
  obtain ⟨ua, un, uc, r1, p4, p5, p6, -⟩ := bools_open g1
  obtain ⟨b2, r2, -⟩ := DataW.trod_bool Try.underlying4 g2
  obtain ⟨b3, r3, -⟩ := DataW.trod_bool Try.underlying4 g3
  obtain ⟨b4, r4, -⟩ := DataW.trod_bool Try.underlying4 g4
  obtain ⟨b5, b6, r5, r6⟩ := two_open g5
  obtain ⟨b7, r7, -⟩ := DataW.trod_bool Try.underlying4 g6
  obtain ⟨b8, b9, r8, r9⟩ := two_open g7
  obtain ⟨b10, r10, -⟩ := DataW.trod_bool Try.underlying4 g8
  simp only [List.cons.injEq, and_true] at r2 r3 r4 r7 r10
  exact ⟨⟨dn, un, b2, b3, b4, b5, b6, b7, b8, b9, b10⟩, da, dc, ua, uc, r0, r1, r2, r3, r4, r5, r6, r7, r8, r9, r10, ⟨p1, p4, p2, p5, p3, p6⟩, p7⟩
end Go.Proofs.Ytinbmnefdhkdfaa
