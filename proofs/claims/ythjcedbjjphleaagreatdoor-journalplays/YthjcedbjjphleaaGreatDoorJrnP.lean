/-
  The journal and the reference's beside each other: one step of both.
-/
import Derived.Test.YthjcedbjjphleaaGreatDoorJrnRC
import Derived.Test.YthjcedbjjphleaaGreatDoorNum
namespace Go.Proofs.YthjcedbjjphleaaGreatDoor
open Go.ChangeShapes Go.WideShapes Go.ChangeAt Go.RowKit

def syE (d : Bool) : Int := if d then 10 else 0
def syS (L : List ByteArray) (s : Nat) (d : Bool) : Nat := if d then s else L.length
def reE (n : Nat) (L : List ByteArray) (d : Bool) : Int := if d then (L.length : Int) - (n : Int) else 0
def reL (n : Nat) (L : List ByteArray) (d : Bool) : List ByteArray := if d then L.take n else L
def reS (n : Nat) (s : Nat) (d : Bool) : Nat := if d then n else s
def crL (L : List ByteArray) (s : Nat) (d : Bool) (stay torn : Int) : List ByteArray := if d then L else crashL L s stay torn

theorem sync_all {B : Nat} {w : World} {p : Nat} {v : Value} {room : Int} {L : List ByteArray} {sure : Nat} {down : Bool} (h : Jr B w p v room L sure down) :
    Calls Tryz.prog 10 #[.pointer (some ⟨p, 0, none⟩)] w fun e w' => ∃ v', e = .returned (.int .i64 (syE down)) ∧ Jr B w' p v' room L (syS L sure down) down ∧ Off p v v' w w' := by
  cases down
  · exact (sync_up h).mono fun _ _ ⟨h1, h2, h3⟩ => ⟨v, h1, h2, h3⟩
  · exact (sync_down h).mono fun _ _ ⟨h1, h2⟩ => ⟨v, h1, h.on h2, Off.of_below h2⟩
theorem R.sync_all {B : Nat} {w : World} {p : Nat} {v : Value} {room : Int} {L : List ByteArray} {sure : Nat} {down : Bool} (h : R.Jr B w p v room L sure down) :
    Calls Tryz.prog 11 #[.pointer (some ⟨p, 0, none⟩)] w fun e w' => ∃ v', e = .returned (.int .i64 (syE down)) ∧ R.Jr B w' p v' room L (syS L sure down) down ∧ Off p v v' w w' := by
  cases down
  · exact (R.sync_up h).mono fun _ _ ⟨h1, h2, h3⟩ => ⟨v, h1, h2, h3⟩
  · exact (R.sync_down h).mono fun _ _ ⟨h1, h2⟩ => ⟨v, h1, h.on h2, Off.of_below h2⟩
theorem recover_all {w0 : World} (hg0 : Gl w0) {w : World} (hw : Below w0.heap.size w0 w) {p : Nat} {v : Value} {room : Int} {L : List ByteArray} {sure : Nat} {down : Bool} (h : Jr w0.heap.size w p v room L sure down) :
    Calls Tryz.prog 14 #[.pointer (some ⟨p, 0, none⟩)] w fun e w' => ∃ v', e = .returned (.int .i64 (reE ((wholeD fun s => Classical.propDecidable (Ok s)) L) L down)) ∧ Jr w0.heap.size w' p v' room (reL ((wholeD fun s => Classical.propDecidable (Ok s)) L) L down) (reS ((wholeD fun s => Classical.propDecidable (Ok s)) L) sure down) false ∧ Off p v v' w w' := by
  cases down
  · exact (recover_up h).mono fun _ _ ⟨h1, h2⟩ => ⟨v, h1, h.on h2, Off.of_below h2⟩
  · exact (recover_down hg0 hw h).mono fun _ _ ⟨h1, v', h2, h3⟩ => ⟨v', h1, h2, h3⟩
theorem R.recover_all {w0 : World} (hg0 : Gl w0) {w : World} (hw : Below w0.heap.size w0 w) {B p : Nat} {v : Value} {room : Int} {L : List ByteArray} {sure : Nat} {down : Bool} (h : R.Jr B w p v room L sure down) :
    Calls Tryz.prog 15 #[.pointer (some ⟨p, 0, none⟩)] w fun e w' => ∃ v', e = .returned (.int .i64 (reE ((wholeD fun s => Classical.propDecidable (Ok s)) L) L down)) ∧ R.Jr B w' p v' room (reL ((wholeD fun s => Classical.propDecidable (Ok s)) L) L down) (reS ((wholeD fun s => Classical.propDecidable (Ok s)) L) sure down) false ∧ Off p v v' w w' := by
  cases down
  · exact (R.recover_up h).mono fun _ _ ⟨h1, h2⟩ => ⟨v, h1, h.on h2, Off.of_below h2⟩
  · exact (R.recover_down hg0 hw h).mono fun _ _ ⟨h1, v', h2, h3⟩ => ⟨v', h1, h2, h3⟩

/-- What holds of a journal's lines while it is up. -/
def Inv (L : List ByteArray) (s : Nat) (d : Bool) : Prop := d = false → s ≤ L.length ∧ ∀ x ∈ L, Ok x
theorem ok_two {s : ByteArray} (h : Ok s) : 2 ≤ s.size := by
  obtain ⟨k, id, l, _, e⟩ := ok_is h
  rw [e, sign_size]
  omega
theorem whole_ok : ∀ (L : List ByteArray), ∀ x ∈ L.take ((wholeD fun s => Classical.propDecidable (Ok s)) L), Ok x
  | [], x, hx => by simp at hx
  | s :: r, x, hx => by
    by_cases h : Ok s
    · rw [whole_cons s r h, List.take_succ_cons] at hx
      rcases List.mem_cons.1 hx with rfl | hx
      · exact h
      · exact whole_ok r x hx
    · rw [whole_cons_not s r h] at hx
      simp at hx
theorem Inv.add {L : List ByteArray} {s : Nat} {d : Bool} (h : Inv L s d) (room : Int) (k : ByteArray) (id : Int) (l : List Int) : Inv (addL room L d k id l) s d := by
  intro hd
  obtain ⟨h1, h2⟩ := h hd
  unfold addL
  split
  · rename_i he
    refine ⟨by simp; omega, fun x hx => ?_⟩
    rcases List.mem_append.1 hx with hx | hx
    · exact h2 x hx
    · rw [List.mem_singleton] at hx
      subst hx
      refine ok_line ?_
      unfold addE at he
      rw [hd] at he
      simp only [Bool.false_eq_true, if_false] at he
      by_cases hm : mayB k id l = true
      · exact hm
      · rw [if_neg hm] at he; cases he
  · exact ⟨h1, h2⟩
theorem Inv.sync {L : List ByteArray} {s : Nat} {d : Bool} (h : Inv L s d) : Inv L (syS L s d) d := by
  intro hd
  obtain ⟨h1, h2⟩ := h hd
  subst hd
  exact ⟨Nat.le_refl _, h2⟩
theorem Inv.down (L : List ByteArray) (s : Nat) : Inv L s true := fun h => by cases h
theorem Inv.recover {L : List ByteArray} {s : Nat} {d : Bool} (h : Inv L s d) : Inv (reL ((wholeD fun s => Classical.propDecidable (Ok s)) L) L d) (reS ((wholeD fun s => Classical.propDecidable (Ok s)) L) s d) false := by
  intro _
  cases d
  · exact h rfl
  · have := whole_le L
    exact ⟨by show (wholeD fun s => Classical.propDecidable (Ok s)) L ≤ (L.take ((wholeD fun s => Classical.propDecidable (Ok s)) L)).length; simp; omega, whole_ok L⟩

theorem crash_all {B : Nat} {w : World} {p : Nat} {v : Value} {room : Int} {L : List ByteArray} {sure : Nat} {down : Bool} (h : Jr B w p v room L sure down) (hi : Inv L sure down) (stay torn : Int) :
    Calls Tryz.prog 12 #[.pointer (some ⟨p, 0, none⟩), .int .i64 stay, .int .i64 torn] w fun e w' => ∃ v', (∃ x, e = .returned x) ∧ Jr B w' p v' room (crL L sure down stay torn) sure true ∧ Off p v v' w w' := by
  cases down
  · exact (crash_up h (hi rfl).1 stay torn).mono fun _ _ ⟨h1, v', h2, h3⟩ => ⟨v', h1, h2, h3⟩
  · exact (crash_down h stay torn).mono fun _ _ ⟨h1, h2⟩ => ⟨v, h1, h.on h2, Off.of_below h2⟩
theorem R.crash_all {B : Nat} {w : World} {p : Nat} {v : Value} {room : Int} {L : List ByteArray} {sure : Nat} {down : Bool} (h : R.Jr B w p v room L sure down) (hi : Inv L sure down) (stay torn : Int) :
    Calls Tryz.prog 13 #[.pointer (some ⟨p, 0, none⟩), .int .i64 stay, .int .i64 torn] w fun e w' => ∃ v', (∃ x, e = .returned x) ∧ R.Jr B w' p v' room (crL L sure down stay torn) sure true ∧ Off p v v' w w' := by
  cases down
  · exact (R.crash_up h (hi rfl).1 (fun x hx => ok_two ((hi rfl).2 x hx)) stay torn).mono fun _ _ ⟨h1, v', h2, h3⟩ => ⟨v', h1, h2, h3⟩
  · exact (R.crash_down h stay torn).mono fun _ _ ⟨h1, h2⟩ => ⟨v, h1, h.on h2, Off.of_below h2⟩

def Apart (v1 v2 : Value) : Prop := ∀ k, v1.ownBlock = some k → v2.ownBlock ≠ some k
theorem typ_ne4 : 46 ≠ 51 := by decide
theorem row_block {w : World} {B : Nat} {t : TypeId} {s : Nat} {v : Value} {n : Nat} {xs : List Value} (h : w.ownsRow B t s v n xs) {k : Nat} (hk : v.ownBlock = some k) : ∃ cs, w.heap[k]? = some (.cells cs t (0, 0)) := by
  rcases h.2 with ⟨rfl, _⟩ | ⟨g, cap, cur, rfl, _, hc, _⟩
  · simp [Value.ownBlock] at hk
  · simp [Value.ownBlock] at hk; subst hk; exact ⟨cur, hc⟩
theorem row_moved {w w' : World} {B : Nat} {t : TypeId} {s : Nat} {v : Value} {n : Nat} {xs : List Value} (h : w.ownsRow B t s v n xs) (hk : ∀ k, v.ownBlock = some k → w'.heap[k]? = w.heap[k]?) : w'.ownsRow B t s v n xs := by
  obtain ⟨hl, h⟩ := h
  refine ⟨hl, ?_⟩
  rcases h with h | ⟨g, cap, cur, rfl, hb, hc, rest⟩
  · exact .inl h
  · exact .inr ⟨g, cap, cur, rfl, hb, (hk g rfl).trans hc, rest⟩
theorem typ_differ {w : World} {k : Nat} {cs cs' : Array Value} {t t' : TypeId} {f f' : Nat × Nat} (h : w.heap[k]? = some (.cells cs t f)) (h' : w.heap[k]? = some (.cells cs' t' f')) : t = t' := by
  rw [h] at h'
  simp only [Option.some.injEq, Obj.cells.injEq] at h'
  exact h'.2.1

/-- A step on the journal leaves the reference's as it was. -/
theorem R.Jr.other {B : Nat} {w w' : World} {p q : Nat} {v1 v1' v2 : Value} {room : Int} {L : List ByteArray} {s : Nat} {d : Bool} (h1 : Go.Proofs.YthjcedbjjphleaaGreatDoor.Jr B w p v1 room L s d) (h2 : R.Jr B w q v2 room L s d) (ha : Apart v1 v2) (ho : Off p v1 v1' w w') : R.Jr B w' q v2 room L s d ∧ Apart v1' v2 := by
  have hqp : q ≠ p := fun e => by subst e; exact typ_ne4 (typ_differ h2.1 h1.1)
  have hv1q : v1.ownBlock ≠ some q := fun e => by obtain ⟨cs, hc⟩ := row_block h1.2.2.1 e; exact R.typ_ne (typ_differ hc h2.1)
  have hv2 : ∀ k, v2.ownBlock = some k → k < w.heap.size ∧ k ≠ p ∧ v1.ownBlock ≠ some k := fun k e => by
    obtain ⟨cs, hc⟩ := row_block h2.2.2.1 e
    exact ⟨(Array.getElem?_eq_some_iff.1 hc).1, fun e' => by subst e'; exact Go.Proofs.YthjcedbjjphleaaGreatDoor.typ_ne (typ_differ hc h1.1), fun e' => ha k e' e⟩
  refine ⟨⟨(ho.heap h2.lt hqp hv1q).trans h2.1, h2.2.1, row_moved h2.2.2.1 (fun k e => ?_), h2.2.2.2⟩, fun k e e' => ?_⟩
  · obtain ⟨x1, x2, x3⟩ := hv2 k e
    exact ho.heap x1 x2 x3
  · obtain ⟨x1, x2, x3⟩ := hv2 k e'
    exact (ho.2 k x1 x2 x3).2 e
/-- A step on the reference's journal leaves the journal as it was. -/
theorem Jr.other {B : Nat} {w w' : World} {p q : Nat} {v1 v2 v2' : Value} {room : Int} {L L' : List ByteArray} {s s' : Nat} {d d' : Bool} (h1 : Jr B w p v1 room L s d) (h2 : R.Jr B w q v2 room L' s' d') (ha : Apart v1 v2) (ho : Off q v2 v2' w w') : Jr B w' p v1 room L s d ∧ Apart v1 v2' := by
  have hqp : p ≠ q := fun e => by subst e; exact typ_ne4 (typ_differ h2.1 h1.1)
  have hv2p : v2.ownBlock ≠ some p := fun e => by obtain ⟨cs, hc⟩ := row_block h2.2.2.1 e; exact typ_ne (typ_differ hc h1.1)
  have hv1 : ∀ k, v1.ownBlock = some k → k < w.heap.size ∧ k ≠ q ∧ v2.ownBlock ≠ some k := fun k e => by
    obtain ⟨cs, hc⟩ := row_block h1.2.2.1 e
    exact ⟨(Array.getElem?_eq_some_iff.1 hc).1, fun e' => by subst e'; exact R.typ_ne (typ_differ hc h2.1), ha k e⟩
  refine ⟨⟨(ho.heap h1.lt hqp hv2p).trans h1.1, h1.2.1, row_moved h1.2.2.1 (fun k e => ?_), h1.2.2.2⟩, fun k e => ?_⟩
  · obtain ⟨x1, x2, x3⟩ := hv1 k e
    exact ho.heap x1 x2 x3
  · obtain ⟨x1, x2, x3⟩ := hv1 k e
    exact (ho.2 k x1 x2 x3).2
theorem rd_alike {xs ys : List Ev} {L : List ByteArray} (hl : xs.length = ys.length) (hx : Rd xs L) (hy : Rd ys L) : Alike xs ys :=
  ⟨hl, fun i x y h1 h2 => by
    obtain ⟨a, b, c, _⟩ := ParseR.uniq (hx i x h1) (hy i y h2)
    exact ⟨a, b, c⟩⟩
end Go.Proofs.YthjcedbjjphleaaGreatDoor
