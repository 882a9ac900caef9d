/-
  A row of bools that came in.
-/
import Derived.Test.YtnffgamekhedkaaGreatDoorSgjhkmgp
import Derived.WalkKit
import Derived.ProofKit
import Derived.OpenShut
import Derived.Lib.SmallJoins
import Derived.Deep.OwnRows
namespace Go.Proofs.YtnffgamekhedkaaGreatDoor.Sg
open Go.ChangeShapes Go.WideShapes Go.ChangeAt Go.RowKit Go.Joins

theorem hc_add (b o i : Nat) : (⟨b, o, none⟩ : Addr).add i = ⟨b, o + i, none⟩ := by cases i <;> simp [Addr.add]
/-- The slice at a reads as the bools l. -/
def Bls (w : World) (a : Option Addr) (l : List Bool) : Prop :=
  l = [] ∨ ∃ b off, a = some ⟨b, off, none⟩ ∧ ∀ (i : Nat) (c : Bool), l[i]? = some c → w.cell? ⟨b, off + i, none⟩ = some (.bool c)
theorem Bls.below {w w' : World} {a : Option Addr} {l : List Bool} (h : Bls w a l) (hb : Below w.heap.size w w') : Bls w' a l := by
  rcases h with h | ⟨b, off, ha, hc⟩
  · exact .inl h
  · refine .inr ⟨b, off, ha, fun i c hx => ?_⟩
    have := hc i c hx
    exact (hb.cell (World.block_lt_of_cell? _ _ this)).trans this
def BlsIn (w : World) (l : List Bool) (a : Option Addr) : Prop := l.length ≤ 9223372036854775807 ∧ Bls w a l
theorem bls_opens {H : Type} {enc : TypeId × Value → H} {W : World} {a : Option Addr} {len cap : Nat} {dd : DataW H} {p : List MemPlace} (h : DataW.Trod enc Tryz.prog W 0 (fun _ => true) true 59 (.slice a len cap) dd p) :
    ∃ l : List Bool, len = l.length ∧ BlsIn W l a := by
  obtain ⟨fuel, hf⟩ := h
  have e1 : Tryz.prog.cellsOf 4 = 1 := by kernel_rfl
  rcases Go.Deep.open_slice Tryz.underlying59 hf with ⟨hcs, _⟩ | ⟨x, l, c, m, n, D, Pl, hcs, _, hlc, hcm, hm, _, hall⟩
  · simp [Value.cells] at hcs
    obtain ⟨rfl, rfl, rfl⟩ := hcs
    exact ⟨[], rfl, by simp, .inl rfl⟩
  · simp [Value.cells] at hcs
    obtain ⟨rfl, rfl, rfl⟩ := hcs
    rw [e1] at hall
    have hm' : m = cap := by simpa using hm
    have each : ∀ i, i < len → ∃ c : Bool, W.cell? ((x.add (i * 1)).add 0) = some (.bool c) := fun i hi => by
      obtain ⟨cs, h1, h2⟩ := hall i (by omega)
      obtain ⟨_, h3, h4⟩ := World.cells?_some h1
      obtain ⟨b, rfl, -⟩ := DataW.trod_bool Tryz.underlying4 h2
      exact ⟨b, h4 0 (by omega)⟩
    obtain ⟨f, hf'⟩ : ∃ f : Nat → Bool, ∀ i, i < len → W.cell? ((x.add (i * 1)).add 0) = some (.bool (f i)) :=
      ⟨fun i => if h : i < len then Classical.choose (each i h) else false, fun i hi => by simp only [dif_pos hi]; exact Classical.choose_spec (each i hi)⟩
    refine ⟨(List.range len).map f, by simp, by unfold maxLen at hcm; simp; omega, ?_⟩
    by_cases h0 : len = 0
    · exact .inl (by simp [h0])
    · obtain ⟨b, off, rfl⟩ : ∃ b off, x = ⟨b, off, none⟩ := by
        have h1 := hf' 0 (by omega)
        cases x with
        | mk b off pth =>
          cases pth with
          | none => exact ⟨b, off, rfl⟩
          | some q =>
            exfalso
            unfold World.cell? at h1
            split at h1
            · simp [Addr.add] at h1
            · cases h1
      refine .inr ⟨b, off, rfl, fun i c hx => ?_⟩
      have hi : i < len := by
        have := (List.getElem?_eq_some_iff.1 hx).1
        simpa using this
      simp [hi] at hx
      subst hx
      have h1 := hf' i hi
      simpa [hc_add] using h1
end Go.Proofs.YtnffgamekhedkaaGreatDoor.Sg
