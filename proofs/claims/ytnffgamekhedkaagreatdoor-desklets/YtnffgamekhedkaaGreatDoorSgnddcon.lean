/-
  Own texts put together: JrnE, JrnF, JrnG.
-/
import Derived.Test.YtnffgamekhedkaaGreatDoorSglihalf
import Derived.RangeFuncNested
import Derived.RangeFuncBound
import Derived.RangeFuncCalls
import Derived.RangeFuncLeaves
import Derived.RangeFuncBox
import Derived.Shelf.Abstract
import Derived.Shelf.AbstractIn
import Derived.Shelf.RegionOpen
import Derived.OwnWalkIn
import Derived.TacticsInMore
import Derived.LoopNIn
import Derived.LoopIn
/-
  Contracts: journal.entries, its iterator.
-/
namespace Go.Proofs.YtnffgamekhedkaaGreatDoor
open Go.ChangeShapes Go.WideShapes Go.ChangeAt Go.RowKit Go.Shelf

attribute [local go_sem] Oper.semAt_some

/-- A text that is some entry's line. -/
def Ok (s : ByteArray) : Prop := ∃ k id l, ParseR s k id l 0
/-- So many lines, from the first one on, are entries. -/
def wholeD (d : ∀ s, Decidable (Ok s)) : List ByteArray → Nat
  | [] => 0
  | s :: r => @ite Nat (Ok s) (d s) (wholeD d r + 1) 0

theorem whole_le : ∀ L : List ByteArray, (wholeD fun s => Classical.propDecidable (Ok s)) L ≤ L.length
  | [] => Nat.le_refl _
  | s :: r => by
    unfold wholeD
    have := whole_le r
    split <;> simp <;> omega
theorem whole_ge : ∀ (L : List ByteArray) (n : Nat), n ≤ L.length → (∀ i, i < n → Ok (L.getD i ByteArray.empty)) → n ≤ (wholeD fun s => Classical.propDecidable (Ok s)) L
  | [], n, h, _ => by simp at h; omega
  | s :: r, 0, _, _ => Nat.zero_le _
  | s :: r, n + 1, h, ho => by
    have h0 := ho 0 (by omega)
    simp at h0
    unfold wholeD
    rw [if_pos h0]
    have := whole_ge r n (by simpa using h) (fun i hi => by have := ho (i + 1) (by omega); simpa using this)
    omega
theorem whole_stop : ∀ (L : List ByteArray) (n : Nat), n < L.length → ¬ Ok (L.getD n ByteArray.empty) → (wholeD fun s => Classical.propDecidable (Ok s)) L ≤ n
  | [], n, h, _ => by simp at h
  | s :: r, 0, _, hn => by
    simp at hn
    unfold wholeD
    rw [if_neg hn]
    omega
  | s :: r, n + 1, h, hn => by
    unfold wholeD
    have := whole_stop r n (by simpa using h) (by simpa using hn)
    split <;> omega

/-- An entry as a value: what it says, and where its numbers lie. -/
structure Ev where
  k : ByteArray
  id : Int
  l : List Int
  av : Option Addr
  cv : Nat
def Ev.enc (x : Ev) : Value := .agg #[.string x.k, .int .i64 x.id, .slice x.av x.l.length x.cv]
def Good (B : Nat) (x : Ev) (W : World) : Prop := IntsF B W x.av x.l ∧ x.l.length ≤ 1000 ∧ x.l.length ≤ x.cv
/-- The entries xs stand in the lines L, from the first one on. -/
def Rd (xs : List Ev) (L : List ByteArray) : Prop := ∀ i x, xs[i]? = some x → ParseR (L.getD i ByteArray.empty) x.k x.id x.l 0
theorem Rd.nil (L : List ByteArray) : Rd [] L := fun i x h => by simp at h
theorem Rd.snoc {xs : List Ev} {L : List ByteArray} (h : Rd xs L) {x : Ev} (hx : ParseR (L.getD xs.length ByteArray.empty) x.k x.id x.l 0) : Rd (xs ++ [x]) L := by
  intro i y hy
  by_cases hi : i < xs.length
  · rw [List.getElem?_append_left hi] at hy
    exact h i y hy
  · rw [List.getElem?_append_right (by omega)] at hy
    have : i - xs.length = 0 := by
      by_cases h0 : i - xs.length = 0
      · exact h0
      · rw [List.getElem?_eq_none (by simp; omega)] at hy; cases hy
    rw [this] at hy
    simp at hy
    subst hy
    rw [show i = xs.length by omega]
    exact hx
theorem Rd.ok {xs : List Ev} {L : List ByteArray} (h : Rd xs L) : ∀ i, i < xs.length → Ok (L.getD i ByteArray.empty) := fun i hi => ⟨_, _, _, h i xs[i] (by simp [hi])⟩

/-- The lines lie in a block between n₀ and n₁. -/
def LinesAt (n₀ n₁ : Nat) (W : World) (a : Option Addr) (L : List ByteArray) : Prop :=
  L = [] ∨ ∃ b off, a = some ⟨b, off, none⟩ ∧ (n₀ ≤ b ∧ b < n₁) ∧ ∀ i, i < L.length → W.cell? ⟨b, off + i, none⟩ = some (.string (L.getD i ByteArray.empty))
/-- What a round must keep: what lay below B, and what lies between n₀ and n₁. -/
def Keep (B n₀ n₁ : Nat) (W W' : World) : Prop := Below B W W' ∧ ∀ k, n₀ ≤ k → k < n₁ → W'.heap[k]? = W.heap[k]?
theorem Keep.refl (B n₀ n₁ : Nat) (W : World) : Keep B n₀ n₁ W W := ⟨Below.refl _ _, fun _ _ _ => rfl⟩
theorem Keep.trans {B n₀ n₁ : Nat} {X Y Z : World} (h : Keep B n₀ n₁ X Y) (k : Keep B n₀ n₁ Y Z) : Keep B n₀ n₁ X Z := ⟨h.1.trans k.1, fun i h0 h1 => (k.2 i h0 h1).trans (h.2 i h0 h1)⟩
theorem Keep.of_below {B n₀ n₁ : Nat} {W W' : World} (h : Below W.heap.size W W') (hB : B ≤ W.heap.size) (h1 : n₁ ≤ W.heap.size) : Keep B n₀ n₁ W W' := ⟨h.mono hB, fun k _ hk => h.block k (by omega)⟩
theorem LinesAt.keep {B n₀ n₁ : Nat} {W W' : World} {a : Option Addr} {L : List ByteArray} (h : LinesAt n₀ n₁ W a L) (hk : Keep B n₀ n₁ W W') : LinesAt n₀ n₁ W' a L := by
  rcases h with h | ⟨b, off, ha, hb, hc⟩
  · exact .inl h
  · refine .inr ⟨b, off, ha, hb, fun i hi => ?_⟩
    rw [World.cell?_of_block (hk.2 b hb.1 hb.2)]
    exact hc i hi

theorem ok_parse {s k : ByteArray} {id : Int} {l : List Int} {er : Int} (h : ParseR s k id l er) (he : er ≠ 0) : ¬ Ok s := by
  rintro ⟨k', id', l', h'⟩
  obtain ⟨_, _, _, e⟩ := h.uniq h'
  exact he e

end Go.Proofs.YtnffgamekhedkaaGreatDoor
/-
  Contracts: journal.entries, All: what it hands back goes over the entries.
-/
namespace Go.Proofs.YtnffgamekhedkaaGreatDoor
open Go.ChangeShapes Go.WideShapes Go.ChangeAt Go.RowKit Go.Shelf

attribute [local go_sem] Oper.semAt_some

theorem linesAt_of {w w1 : World} {a : Option Addr} {c : Nat} {L : List ByteArray} (h : w1.ownsRow w.heap.size 9 1 (.slice a L.length c) L.length (L.map Value.string)) : LinesAt w.heap.size w1.heap.size w1 a L := by
  obtain ⟨a', c', e, h1, h2, h3⟩ := owned_strs h
  cases e
  rcases h3 with h3 | ⟨b, off, rfl, hc⟩
  · exact .inl h3
  · have := h.lt b (by simp [Value.ownBlock])
    exact .inr ⟨b, off, rfl, this, hc⟩

theorem abides {J : List Ev → World → Prop} {X : Nat} (h : AbidesFrom X J) : ∀ s W W', J s W → Below W.heap.size W W' → J s W' :=
  fun s W W' hs hb => h s W W' none hs ⟨hb.os, hb.tape, hb.output, hb.size, fun k hk _ => hb.block k hk⟩ (fun r e => by cases e)

end Go.Proofs.YtnffgamekhedkaaGreatDoor
/-
  Contract: journal.Recover.
-/
namespace Go.Proofs.YtnffgamekhedkaaGreatDoor
open Go.ChangeShapes Go.WideShapes Go.ChangeAt Go.RowKit Go.Shelf

attribute [local go_sem] Oper.semAt_some

theorem Jr.putObj {B : Nat} {w : World} {p : Nat} {v : Value} {room : Int} {L : List ByteArray} {sure : Nat} {down : Bool} (h : Jr B w p v room L sure down) {D : Nat} {o : Obj} (ho : w.heap[D]? = some o) (hc : o.isCells = false) (o' : Obj) : Jr B (w.putObj D o') p v room L sure down := by
  obtain ⟨h1, h2, h3, h4⟩ := h
  refine ⟨?_, h2, ownsRow_putObj h3 _ ho hc, h4⟩
  rw [World.putObj_heap_other (fun e => by subst e; rw [h1] at ho; cases ho; cases hc)]
  exact h1
theorem Off.putObj {p : Nat} {v v' : Value} {w W : World} (h : Off p v v' w W) {D : Nat} (hD : w.heap.size ≤ D) (o' : Obj) : Off p v v' w (W.putObj D o') :=
  ⟨⟨h.1.1, h.1.2.1, h.1.2.2.1, by simpa using h.size⟩, fun k hk hp hv => ⟨(World.putObj_heap_other (by omega)).trans (h.2 k hk hp hv).1, (h.2 k hk hp hv).2⟩⟩
theorem keep_putObj {B n₀ n₁ X : Nat} {W : World} {l : Nat} {o o' : Obj} (hB : B ≤ X) (hX : X ≤ n₁) (hl : n₁ ≤ l) (_ho : W.heap[l]? = some o) (_hc : o.isCells = false) (_hw : o.isWalk = false) : Keep B n₀ n₁ W (W.putObj l o') :=
  ⟨⟨rfl, rfl, rfl, by simp, fun k hk => World.putObj_heap_other (by omega)⟩, fun k _ hk => World.putObj_heap_other (by omega)⟩
theorem keep_setCell {B X n₀ n₁ : Nat} {W : World} (hB : B ≤ X) (h0 : n₀ = X + 1) (v : Value) : Keep B n₀ n₁ W (W.setCell ⟨X, 0, none⟩ v) :=
  ⟨(Below.refl B W).setCell (p := ⟨X, 0, none⟩) hB _, fun k hk _ => Below.heap_setCell _ _ _ _ (show k ≠ (⟨X, 0, none⟩ : Addr).block from by show k ≠ X; omega)⟩

end Go.Proofs.YtnffgamekhedkaaGreatDoor
