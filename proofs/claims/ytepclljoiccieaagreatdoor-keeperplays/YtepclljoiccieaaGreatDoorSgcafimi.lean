/-
  A Call that came in: its cells.
-/
import Derived.Test.YtepclljoiccieaaGreatDoorSgmbjnld
import Derived.Test.YtepclljoiccieaaGreatDoorSgihhnle
import Derived.WalkKit
import Derived.ProofKit
import Derived.OpenShut
import Derived.Lib.SmallJoins
namespace Go.Proofs.YtepclljoiccieaaGreatDoor
open Go.ChangeShapes Go.WideShapes Go.ChangeAt Go.RowKit Go.Joins

theorem call_add (b o i : Nat) : (⟨b, o, none⟩ : Addr).add i = ⟨b, o + i, none⟩ := by cases i <;> simp [Addr.add]

theorem call_six {α : Type} {cs : Array α} (h : cs.size = 6) : ∃ c0 c1 c2 c3 c4 c5, cs = #[c0, c1, c2, c3, c4, c5] := by
  obtain ⟨l⟩ := cs
  match l, h with
  | [c0, c1, c2, c3, c4, c5], _ => exact ⟨c0, c1, c2, c3, c4, c5, rfl⟩

/-- A Call as a value. -/
structure Cv where
  d : Int
  s : Int
  t : Int
  k : ByteArray
  id : Int
  l : List Int
  av : Option Addr
  cv : Nat
def CvIn (w : World) (c : Cv) : Prop := c.k.size ≤ maxLen ∧ Ints w c.av c.l ∧ c.l.length ≤ 9223372036854775807
/-- A row of Calls that came in. -/
def CallsAt (w : World) (a : Option Addr) (cl : List Cv) : Prop :=
  cl = [] ∨ ∃ b off, a = some ⟨b, off, none⟩ ∧ ∀ (i : Nat) (c : Cv), cl[i]? = some c → (w.cell? ⟨b, off + i * 6, none⟩ = some (.int .i64 c.d) ∧ w.cell? ⟨b, off + i * 6 + 1, none⟩ = some (.int .i64 c.s) ∧ w.cell? ⟨b, off + i * 6 + 2, none⟩ = some (.int .i64 c.t) ∧
    w.cell? ⟨b, off + i * 6 + 3, none⟩ = some (.string c.k) ∧ w.cell? ⟨b, off + i * 6 + 4, none⟩ = some (.int .i64 c.id) ∧ w.cell? ⟨b, off + i * 6 + 5, none⟩ = some (.slice c.av c.l.length c.cv)) ∧ CvIn w c
theorem CallsAt.below {w w' : World} {a : Option Addr} {cl : List Cv} (h : CallsAt w a cl) (hb : Below w.heap.size w w') : CallsAt w' a cl := by
  rcases h with h | ⟨b, off, ha, hc⟩
  · exact .inl h
  · refine .inr ⟨b, off, ha, fun i c hx => ?_⟩
    have cc : ∀ {p : Addr} {v : Value}, w.cell? p = some v → w'.cell? p = some v := fun h => (hb.cell (World.block_lt_of_cell? _ _ h)).trans h
    obtain ⟨⟨h0, h1, h2, h3, h4, h5⟩, h6, h7, h8⟩ := hc i c hx
    exact ⟨⟨cc h0, cc h1, cc h2, cc h3, cc h4, cc h5⟩, h6, h7.below hb, h8⟩

end Go.Proofs.YtepclljoiccieaaGreatDoor
