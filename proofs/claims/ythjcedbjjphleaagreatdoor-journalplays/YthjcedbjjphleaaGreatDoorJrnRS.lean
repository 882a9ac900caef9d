/-
  The reference's journal in memory (drafts/gen_jrnr.py writes this text out of JrnS).
-/
import Derived.Test.YthjcedbjjphleaaGreatDoorJrnH
namespace Go.Proofs.YthjcedbjjphleaaGreatDoor.R
open Go.ChangeShapes Go.WideShapes Go.ChangeAt Go.RowKit

/-- The journal at p: its room, its lines, how many are sure, whether it is down; v is the value of its row. -/
def Jr (B : Nat) (w : World) (p : Nat) (v : Value) (room : Int) (L : List ByteArray) (sure : Nat) (down : Bool) : Prop :=
  w.heap[p]? = some (.cells #[.int .i64 room, v, .int .i64 sure, .bool down] 46 (0, 0)) ∧ B ≤ p ∧
  w.ownsRow B 9 1 v L.length (L.map Value.string) ∧
  (1 ≤ room ∧ room ≤ 4096) ∧ L.length ≤ 4096 ∧ ∀ x ∈ L, 1 ≤ x.size ∧ x.size ≤ 63


theorem Jr.lt {B : Nat} {w : World} {p : Nat} {v : Value} {room : Int} {L : List ByteArray} {sure : Nat} {down : Bool} (h : Jr B w p v room L sure down) : p < w.heap.size := by
  by_cases hlt : p < w.heap.size
  · exact hlt
  · have := h.1; rw [Array.getElem?_eq_none (by omega)] at this; cases this
theorem Jr.low {B : Nat} {w : World} {p : Nat} {v : Value} {room : Int} {L : List ByteArray} {sure : Nat} {down : Bool} (h : Jr B w p v room L sure down) : B ≤ w.heap.size := by
  have := h.lt; have := h.2.1; omega
theorem Jr.bel {B : Nat} {w w' : World} {p : Nat} {v v' : Value} {room : Int} {L : List ByteArray} {sure : Nat} {down : Bool} (h : Jr B w p v room L sure down) (ho : Off p v v' w w') : Below B w w' :=
  ho.bel h.low h.2.1 (fun k hk => (h.2.2.1.lt k hk).1)

theorem typ_ne : 9 ≠ 46 := by decide

/-- The row is not the journal's own block. -/
theorem Jr.apart {B : Nat} {w : World} {p : Nat} {v : Value} {room : Int} {L : List ByteArray} {sure : Nat} {down : Bool} (h : Jr B w p v room L sure down) : v.ownBlock ≠ some p := by
  intro e
  obtain ⟨h1, _, ⟨_, h3⟩, _⟩ := h
  rcases h3 with ⟨rfl, _⟩ | ⟨g, cap, cur, rfl, _, hg, _⟩
  · simp [Value.ownBlock] at e
  · simp [Value.ownBlock] at e
    subst e
    rw [h1] at hg
    simp only [Option.some.injEq, Obj.cells.injEq] at hg
    exact typ_ne hg.2.1.symm
theorem Jr.on {B : Nat} {w w' : World} {p : Nat} {v : Value} {room : Int} {L : List ByteArray} {sure : Nat} {down : Bool} (h : Jr B w p v room L sure down) (hb : Below w.heap.size w w') : Jr B w' p v room L sure down :=
  ⟨(hb.block p h.lt).trans h.1, h.2.1, owned_on h.2.2.1 hb, h.2.2.2⟩
theorem Jr.cells {B : Nat} {w : World} {p : Nat} {v : Value} {room : Int} {L : List ByteArray} {sure : Nat} {down : Bool} (h : Jr B w p v room L sure down) :
    (w.cell? ⟨p, 0, none⟩ = some (.int .i64 room) ∧ w.cell? ⟨p, 1, none⟩ = some v ∧ w.cell? ⟨p, 2, none⟩ = some (.int .i64 sure) ∧ w.cell? ⟨p, 3, none⟩ = some (.bool down)) ∧
    w.frozen? ⟨p, 1, none⟩ = false ∧ w.frozen? ⟨p, 2, none⟩ = false ∧ w.frozen? ⟨p, 3, none⟩ = false := by
  obtain ⟨h1, _⟩ := h
  refine ⟨⟨?_, ?_, ?_, ?_⟩, frozen_of_row _ _ _ _ _ h1, frozen_of_row _ _ _ _ _ h1, frozen_of_row _ _ _ _ _ h1⟩
  all_goals (rw [cell_of h1]; rfl)
theorem Jr.row {B : Nat} {w : World} {p : Nat} {v : Value} {room : Int} {L : List ByteArray} {sure : Nat} {down : Bool} (h : Jr B w p v room L sure down) : ∃ a c, v = .slice a L.length c ∧ L.length ≤ c ∧ Strs w a L := by
  obtain ⟨a, c, h1, _, h3, h4⟩ := owned_strs h.2.2.1
  exact ⟨a, c, h1, h3, h4⟩

theorem Jr.new (w : World) (B : Nat) (hB : B ≤ w.heap.size) (room : Int) (h1 : 1 ≤ room) (h2 : room ≤ 4096) :
    Jr B (w.alloc (.cells #[.int .i64 room, .slice none 0 0, .int .i64 0, .bool false] 46)) w.heap.size (.slice none 0 0) room [] 0 false := by
  refine ⟨?_, hB, ⟨rfl, .inl ⟨rfl, rfl⟩⟩, ⟨h1, h2⟩, Nat.zero_le _, (fun x hx => by cases hx)⟩
  show (w.heap.push _)[w.heap.size]? = _
  simp

theorem owned_set' {w : World} {base : Nat} {e : TypeId} {v : Value} {n : Nat} {xs : List Value} (h : w.ownsRow base e 1 v n xs) (a : Addr) (u : Value) (ha : v.ownBlock ≠ some a.block) : (w.setCell a u).ownsRow base e 1 v n xs := by
  obtain ⟨hlen, h⟩ := h
  refine ⟨hlen, ?_⟩
  rcases h with h | ⟨g, cap, cur, rfl, hg, hc, h1, h2, h3, h4⟩
  · exact .inl h
  · exact .inr ⟨g, cap, cur, rfl, hg, by rw [Below.heap_setCell _ _ _ _ (fun e => ha (by simp [Value.ownBlock, e]))]; exact hc, h1, h2, h3, h4⟩

theorem Jr.setSure {B : Nat} {w : World} {p : Nat} {v : Value} {room : Int} {L : List ByteArray} {sure : Nat} {down : Bool} (h : Jr B w p v room L sure down) (s : Nat) : Jr B (w.setCell ⟨p, 2, none⟩ (.int .i64 s)) p v room L s down := by
  have ha := h.apart
  obtain ⟨h1, h2, h3, h4, h5, h7⟩ := h
  exact ⟨by rw [heap_setCell_same _ _ _ _ _ _ h1]; simp, h2, owned_set' h3 _ _ ha, h4, h5, h7⟩
theorem Jr.setDown {B : Nat} {w : World} {p : Nat} {v : Value} {room : Int} {L : List ByteArray} {sure : Nat} {down : Bool} (h : Jr B w p v room L sure down) (d : Bool) : Jr B (w.setCell ⟨p, 3, none⟩ (.bool d)) p v room L sure d := by
  have ha := h.apart
  obtain ⟨h1, h2, h3, h4, h5, h7⟩ := h
  exact ⟨by rw [heap_setCell_same _ _ _ _ _ _ h1]; simp, h2, owned_set' h3 _ _ ha, h4, h5, h7⟩
/-- The row's value behind a step that has turned the row alone, stored. -/
theorem Jr.setRow {B : Nat} {w w' : World} {p : Nat} {v v' : Value} {room : Int} {L L' : List ByteArray} {sure : Nat} {down : Bool} (h : Jr B w p v room L sure down) (hp : w'.heap[p]? = w.heap[p]?) (o : w'.ownsRow B 9 1 v' L'.length (L'.map Value.string))
    (hl : L'.length ≤ 4096) (hx : ∀ x ∈ L', 1 ≤ x.size ∧ x.size ≤ 63) : Jr B (w'.setCell ⟨p, 1, none⟩ v') p v' room L' sure down := by
  obtain ⟨h1, h2, h3, h4, h5, h7⟩ := h
  rw [← hp] at h1
  have ha : v'.ownBlock ≠ some p := by
    intro e
    rcases o.2 with ⟨rfl, _⟩ | ⟨g, cap, cur, rfl, _, hg, _⟩
    · simp [Value.ownBlock] at e
    · simp [Value.ownBlock] at e
      subst e
      rw [h1] at hg
      simp only [Option.some.injEq, Obj.cells.injEq] at hg
      exact typ_ne hg.2.1.symm
  exact ⟨by rw [heap_setCell_same _ _ _ _ _ _ h1]; simp, h2, owned_set' o _ _ ha, h4, hl, hx⟩
end Go.Proofs.YthjcedbjjphleaaGreatDoor.R
