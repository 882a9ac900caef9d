/-
  Own texts put together: CBack, JrnS.
-/
import Derived.Test.YtdbmnjodkpeobaaGreatDoorChkR
import Derived.Deep.RegionWith
import Derived.Test.YtdbmnjodkpeobaaGreatDoorEntQ
import Derived.Maps.AppendAt
/-
  The walk of CheckBack: what is signed is read and nothing else.
-/
namespace Go.Proofs.YtdbmnjodkpeobaaGreatDoor
open Go.ChangeShapes Go.WideShapes Go.ChangeAt Go.RowKit

theorem bel_on {w w1 w2 : World} (h1 : Below w.heap.size w w1) (h2 : Below w1.heap.size w1 w2) : Below w.heap.size w w2 := h1.trans (h2.mono h1.size)

theorem bel_drewN (w : World) (n : Nat) : Below w.heap.size w (w.drewN n) := by
  induction n with
  | zero => exact Below.refl _ _
  | succ n ih => exact bel_on ih ((Below.refl _ _).drew)

theorem sign_size' (s : ByteArray) : ((sign s).size : Int) = s.size + 3 := by rw [sign_size]; rfl

theorem head_sign (s : ByteArray) : head (sign s) = s := by
  apply ByteArray.ext
  apply Array.toList_inj.1
  rw [head_list, sign_size, ← ByteArray.toList_eq (sign s), sign_list]
  have e : s.size + 3 - 3 = s.data.toList.length := by rw [← Lib.size_eq]; omega
  rw [e, List.take_left]

theorem read_sign (s : ByteArray) : readB (sign s) = true ∧ readV (sign s) = s := by
  have e : readB (sign s) = true := by unfold readB; rw [head_sign, sign_size]; simp
  exact ⟨e, by unfold readV; rw [if_pos e, head_sign]⟩

theorem sign_read (t : ByteArray) (h : readB t = true) : ((sign (readV t)).toList == t.toList) = true := by
  unfold readV
  rw [if_pos h]
  unfold readB at h
  rw [Bool.and_eq_true] at h
  exact h.2

theorem readV_le (t : ByteArray) (h : t.size ≤ 140737488355328) : (readV t).size ≤ 140737488355328 := by
  unfold readV
  split
  · unfold head; simp; omega
  · exact Nat.zero_le _

end Go.Proofs.YtdbmnjodkpeobaaGreatDoor
/-
  A journal in memory: its block, its row of lines; what a step on it leaves alone.
-/
namespace Go.Proofs.YtdbmnjodkpeobaaGreatDoor
open Go.ChangeShapes Go.WideShapes Go.ChangeAt Go.RowKit

/-- The journal at p: its room, its lines, how many are sure, whether it is down; v is the value of its row. -/
def Jr (B : Nat) (w : World) (p : Nat) (v : Value) (room : Int) (L : List ByteArray) (sure : Nat) (down : Bool) : Prop :=
  w.heap[p]? = some (.cells #[.int .i64 room, v, .int .i64 sure, .bool down] 83 (0, 0)) ∧ B ≤ p ∧
  w.ownsRow B 9 1 v L.length (L.map Value.string) ∧
  (1 ≤ room ∧ room ≤ 4096) ∧ L.length ≤ 4096 ∧ ∀ x ∈ L, 1 ≤ x.size ∧ x.size ≤ 63

/-- All but the journal's own blocks lies as it lay; v' is the row's value behind. -/
def Off (p : Nat) (v v' : Value) (w w' : World) : Prop :=
  (w'.os = w.os ∧ w'.tape = w.tape ∧ w'.output = w.output ∧ w.heap.size ≤ w'.heap.size) ∧
  ∀ k, k < w.heap.size → k ≠ p → v.ownBlock ≠ some k → w'.heap[k]? = w.heap[k]? ∧ v'.ownBlock ≠ some k

theorem Off.refl (p : Nat) (v : Value) (w : World) : Off p v v w w := ⟨⟨rfl, rfl, rfl, Nat.le_refl _⟩, fun _ _ _ h => ⟨rfl, h⟩⟩
theorem Off.trans {p : Nat} {v v' v'' : Value} {w w' w'' : World} (h : Off p v v' w w') (h' : Off p v' v'' w' w'') : Off p v v'' w w'' := by
  obtain ⟨⟨a1, a2, a3, a4⟩, a5⟩ := h
  obtain ⟨⟨b1, b2, b3, b4⟩, b5⟩ := h'
  refine ⟨⟨b1.trans a1, b2.trans a2, b3.trans a3, Nat.le_trans a4 b4⟩, fun k hk hp hv => ?_⟩
  obtain ⟨c1, c2⟩ := a5 k hk hp hv
  obtain ⟨d1, d2⟩ := b5 k (by omega) hp c2
  exact ⟨d1.trans c1, d2⟩
theorem Off.of_below {p : Nat} {v : Value} {w w' : World} (h : Below w.heap.size w w') : Off p v v w w' :=
  ⟨⟨h.os, h.tape, h.output, h.size⟩, fun k hk _ hv => ⟨h.block k hk, hv⟩⟩
theorem Off.size {p : Nat} {v v' : Value} {w w' : World} (h : Off p v v' w w') : w.heap.size ≤ w'.heap.size := h.1.2.2.2
theorem Off.heap {p : Nat} {v v' : Value} {w w' : World} (h : Off p v v' w w') {k : Nat} (hk : k < w.heap.size) (hp : k ≠ p) (hv : v.ownBlock ≠ some k) : w'.heap[k]? = w.heap[k]? := (h.2 k hk hp hv).1
theorem Off.cell {p : Nat} {v v' : Value} {w w' : World} (h : Off p v v' w w') {a : Addr} {x : Value} (hc : w.cell? a = some x) (hp : a.block ≠ p) (hv : v.ownBlock ≠ some a.block) : w'.cell? a = some x := by
  rw [World.cell?_of_block (h.heap (World.block_lt_of_cell? _ _ hc) hp hv)]
  exact hc
theorem Off.bel {p : Nat} {v v' : Value} {w w' : World} (h : Off p v v' w w') {B : Nat} (hs : B ≤ w.heap.size) (hp : B ≤ p) (hv : ∀ k, v.ownBlock = some k → B ≤ k) : Below B w w' :=
  ⟨h.1.1, h.1.2.1, h.1.2.2.1, h.size, fun k hk => h.heap (by omega) (by omega) (fun e => by have := hv k e; omega)⟩

theorem Jr.lt {B : Nat} {w : World} {p : Nat} {v : Value} {room : Int} {L : List ByteArray} {sure : Nat} {down : Bool} (h : Jr B w p v room L sure down) : p < w.heap.size := by
  by_cases hlt : p < w.heap.size
  · exact hlt
  · have := h.1; rw [Array.getElem?_eq_none (by omega)] at this; cases this
theorem Jr.low {B : Nat} {w : World} {p : Nat} {v : Value} {room : Int} {L : List ByteArray} {sure : Nat} {down : Bool} (h : Jr B w p v room L sure down) : B ≤ w.heap.size := by
  have := h.lt; have := h.2.1; omega
theorem Jr.bel {B : Nat} {w w' : World} {p : Nat} {v v' : Value} {room : Int} {L : List ByteArray} {sure : Nat} {down : Bool} (h : Jr B w p v room L sure down) (ho : Off p v v' w w') : Below B w w' :=
  ho.bel h.low h.2.1 (fun k hk => (h.2.2.1.lt k hk).1)

theorem typ_ne : 9 ≠ 83 := by decide

/-- The row is not the journal's own block. -/
theorem Jr.apart {B : Nat} {w : World} {p : Nat} {v : Value} {room : Int} {L : List ByteArray} {sure : Nat} {down : Bool} (h : Jr B w p v room L sure down) : v.ownBlock ≠ some p := by
  intro e
  obtain ⟨h1, _, ⟨_, h3⟩, _⟩ := h
  rcases h3 with ⟨rfl, _⟩ | ⟨g, cap, cur, rfl, _, hg, _⟩
  · simp [Value.ownBlock] at e
  · simp [Value.ownBlock] at e
    subst e
    rw [h1] at hg
    simp only [Option.some.injEq, Obj.cells.injEq] at hg
    exact typ_ne hg.2.1.symm
theorem Jr.on {B : Nat} {w w' : World} {p : Nat} {v : Value} {room : Int} {L : List ByteArray} {sure : Nat} {down : Bool} (h : Jr B w p v room L sure down) (hb : Below w.heap.size w w') : Jr B w' p v room L sure down :=
  ⟨(hb.block p h.lt).trans h.1, h.2.1, owned_on h.2.2.1 hb, h.2.2.2⟩
theorem Jr.cells {B : Nat} {w : World} {p : Nat} {v : Value} {room : Int} {L : List ByteArray} {sure : Nat} {down : Bool} (h : Jr B w p v room L sure down) :
    (w.cell? ⟨p, 0, none⟩ = some (.int .i64 room) ∧ w.cell? ⟨p, 1, none⟩ = some v ∧ w.cell? ⟨p, 2, none⟩ = some (.int .i64 sure) ∧ w.cell? ⟨p, 3, none⟩ = some (.bool down)) ∧
    w.frozen? ⟨p, 1, none⟩ = false ∧ w.frozen? ⟨p, 2, none⟩ = false ∧ w.frozen? ⟨p, 3, none⟩ = false := by
  obtain ⟨h1, _⟩ := h
  refine ⟨⟨?_, ?_, ?_, ?_⟩, frozen_of_row _ _ _ _ _ h1, frozen_of_row _ _ _ _ _ h1, frozen_of_row _ _ _ _ _ h1⟩
  all_goals (rw [cell_of h1]; rfl)
theorem Jr.row {B : Nat} {w : World} {p : Nat} {v : Value} {room : Int} {L : List ByteArray} {sure : Nat} {down : Bool} (h : Jr B w p v room L sure down) : ∃ a c, v = .slice a L.length c ∧ L.length ≤ c ∧ Strs w a L := by
  obtain ⟨a, c, h1, _, h3, h4⟩ := owned_strs h.2.2.1
  exact ⟨a, c, h1, h3, h4⟩

theorem Jr.new (w : World) (B : Nat) (hB : B ≤ w.heap.size) (room : Int) (h1 : 1 ≤ room) (h2 : room ≤ 4096) :
    Jr B (w.alloc (.cells #[.int .i64 room, .slice none 0 0, .int .i64 0, .bool false] 83)) w.heap.size (.slice none 0 0) room [] 0 false := by
  refine ⟨?_, hB, ⟨rfl, .inl ⟨rfl, rfl⟩⟩, ⟨h1, h2⟩, Nat.zero_le _, (fun x hx => by cases hx)⟩
  show (w.heap.push _)[w.heap.size]? = _
  simp

theorem Off.setCell {p : Nat} {v v' : Value} {w w' : World} (h : Off p v v' w w') (i : Nat) (u : Value) : Off p v v' w (w'.setCell ⟨p, i, none⟩ u) := by
  obtain ⟨⟨a1, a2, a3, a4⟩, a5⟩ := h
  refine ⟨⟨a1, a2, a3, by simpa using a4⟩, fun k hk hp hv => ?_⟩
  obtain ⟨c1, c2⟩ := a5 k hk hp hv
  refine ⟨?_, c2⟩
  rw [Below.heap_setCell _ _ _ _ (show k ≠ (⟨p, i, none⟩ : Addr).block from hp)]
  exact c1
theorem owned_set' {w : World} {base : Nat} {e : TypeId} {v : Value} {n : Nat} {xs : List Value} (h : w.ownsRow base e 1 v n xs) (a : Addr) (u : Value) (ha : v.ownBlock ≠ some a.block) : (w.setCell a u).ownsRow base e 1 v n xs := by
  obtain ⟨hlen, h⟩ := h
  refine ⟨hlen, ?_⟩
  rcases h with h | ⟨g, cap, cur, rfl, hg, hc, h1, h2, h3, h4⟩
  · exact .inl h
  · exact .inr ⟨g, cap, cur, rfl, hg, by rw [Below.heap_setCell _ _ _ _ (fun e => ha (by simp [Value.ownBlock, e]))]; exact hc, h1, h2, h3, h4⟩

theorem Jr.setSure {B : Nat} {w : World} {p : Nat} {v : Value} {room : Int} {L : List ByteArray} {sure : Nat} {down : Bool} (h : Jr B w p v room L sure down) (s : Nat) : Jr B (w.setCell ⟨p, 2, none⟩ (.int .i64 s)) p v room L s down := by
  have ha := h.apart
  obtain ⟨h1, h2, h3, h4, h5, h7⟩ := h
  exact ⟨by rw [heap_setCell_same _ _ _ _ _ _ h1]; simp, h2, owned_set' h3 _ _ ha, h4, h5, h7⟩
theorem Jr.setDown {B : Nat} {w : World} {p : Nat} {v : Value} {room : Int} {L : List ByteArray} {sure : Nat} {down : Bool} (h : Jr B w p v room L sure down) (d : Bool) : Jr B (w.setCell ⟨p, 3, none⟩ (.bool d)) p v room L sure d := by
  have ha := h.apart
  obtain ⟨h1, h2, h3, h4, h5, h7⟩ := h
  exact ⟨by rw [heap_setCell_same _ _ _ _ _ _ h1]; simp, h2, owned_set' h3 _ _ ha, h4, h5, h7⟩
/-- The row's value behind a step that has turned the row alone, stored. -/
theorem Jr.setRow {B : Nat} {w w' : World} {p : Nat} {v v' : Value} {room : Int} {L L' : List ByteArray} {sure : Nat} {down : Bool} (h : Jr B w p v room L sure down) (hp : w'.heap[p]? = w.heap[p]?) (o : w'.ownsRow B 9 1 v' L'.length (L'.map Value.string))
    (hl : L'.length ≤ 4096) (hx : ∀ x ∈ L', 1 ≤ x.size ∧ x.size ≤ 63) : Jr B (w'.setCell ⟨p, 1, none⟩ v') p v' room L' sure down := by
  obtain ⟨h1, h2, h3, h4, h5, h7⟩ := h
  rw [← hp] at h1
  have ha : v'.ownBlock ≠ some p := by
    intro e
    rcases o.2 with ⟨rfl, _⟩ | ⟨g, cap, cur, rfl, _, hg, _⟩
    · simp [Value.ownBlock] at e
    · simp [Value.ownBlock] at e
      subst e
      rw [h1] at hg
      simp only [Option.some.injEq, Obj.cells.injEq] at hg
      exact typ_ne hg.2.1.symm
  exact ⟨by rw [heap_setCell_same _ _ _ _ _ _ h1]; simp, h2, owned_set' o _ _ ha, h4, hl, hx⟩
theorem Off.grown {p : Nat} {v v' : Value} {w w' : World} (g : w.grownBy w' v.ownBlock) (hat : v'.ownBlock = v.ownBlock ∨ v'.ownBlock = some w.heap.size) : Off p v v' w w' :=
  ⟨⟨g.os, g.tape, g.output, g.size⟩, fun k hk _ hv => ⟨g.block k hk (fun e => hv e.symm), fun e => by
    rcases hat with h | h
    · exact hv (h.symm.trans e)
    · rw [h] at e; simp at e; omega⟩⟩
end Go.Proofs.YtdbmnjodkpeobaaGreatDoor
