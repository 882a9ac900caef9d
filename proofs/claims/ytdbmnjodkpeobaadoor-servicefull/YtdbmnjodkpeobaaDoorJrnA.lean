/-
  Contracts: journal.New, Sync, Sure, Down, Lines.
-/
import Derived.Test.YtdbmnjodkpeobaaDoorJrnS
namespace Go.Proofs.YtdbmnjodkpeobaaDoor
open Go.ChangeShapes Go.WideShapes Go.ChangeAt Go.RowKit

def roomV (room : Int) : Int := min (max room 1) 4096
theorem roomV_in (room : Int) : 1 ≤ roomV room ∧ roomV room ≤ 4096 := by unfold roomV; omega

theorem new_any (room : Int) (w : World) :
    Calls Tryd.prog 10 #[.int .i64 room] w fun e w' => e = .returned (.pointer (some ⟨w.heap.size, 0, none⟩)) ∧ w' = w.alloc (.cells #[.int .i64 (roomV room), .slice none 0 0, .int .i64 0, .bool false] 43) := by
  unfold roomV
  go_enter Tryd.func10, Tryd.ntmps10
  go_wp2
  go_ret
  exact ⟨rfl, rfl⟩

theorem down_nil (w : World) : Calls Tryd.prog 21 #[.pointer none] w fun e w' => e = .returned (.bool false) ∧ Below w.heap.size w w' := by
  go_enter Tryd.func21, Tryd.ntmps21
  go_wp2
  go_ret
  exact ⟨rfl, Below.refl _ _⟩
theorem down_any {B : Nat} {w : World} {p : Nat} {v : Value} {room : Int} {L : List ByteArray} {sure : Nat} {down : Bool} (h : Jr B w p v room L sure down) :
    Calls Tryd.prog 21 #[.pointer (some ⟨p, 0, none⟩)] w fun e w' => e = .returned (.bool down) ∧ Below w.heap.size w w' := by
  obtain ⟨⟨c0, c1, c2, c3⟩, -⟩ := h.cells
  go_enter Tryd.func21, Tryd.ntmps21
  go_wp2
  go_ret
  exact ⟨rfl, Below.refl _ _⟩
theorem sync_nil (w : World) : Calls Tryd.prog 23 #[.pointer none] w fun e w' => e = .returned (.int .i64 1) ∧ Below w.heap.size w w' := by
  go_enter Tryd.func23, Tryd.ntmps23
  go_wp2
  go_ret
  exact ⟨rfl, Below.refl _ _⟩
theorem sync_down {B : Nat} {w : World} {p : Nat} {v : Value} {room : Int} {L : List ByteArray} {sure : Nat} (h : Jr B w p v room L sure true) :
    Calls Tryd.prog 23 #[.pointer (some ⟨p, 0, none⟩)] w fun e w' => e = .returned (.int .i64 10) ∧ Below w.heap.size w w' := by
  obtain ⟨⟨c0, c1, c2, c3⟩, -⟩ := h.cells
  go_enter Tryd.func23, Tryd.ntmps23
  go_wp2
  go_ret
  exact ⟨rfl, Below.refl _ _⟩
theorem sync_up {B : Nat} {w : World} {p : Nat} {v : Value} {room : Int} {L : List ByteArray} {sure : Nat} (h : Jr B w p v room L sure false) :
    Calls Tryd.prog 23 #[.pointer (some ⟨p, 0, none⟩)] w fun e w' => e = .returned (.int .i64 0) ∧ Jr B w' p v room L L.length false ∧ Off p v v w w' := by
  obtain ⟨⟨c0, c1, c2, c3⟩, f1, f2, f3⟩ := h.cells
  obtain ⟨a, c, rfl, hc, -⟩ := h.row
  have HJ : Hid _ := h.setSure L.length
  have HO : Hid _ := (Off.refl p (.slice a L.length c) w).setCell 2 (.int .i64 L.length)
  clear h hc
  go_enter Tryd.func23, Tryd.ntmps23
  go_wp2
  go_ret
  exact ⟨rfl, HJ.out, HO.out⟩

theorem Jr.nilrow {B : Nat} {w : World} {p : Nat} {a : Option Addr} {n c : Nat} {room : Int} {L : List ByteArray} {sure : Nat} {down : Bool} (h : Jr B w p (.slice a n c) room L sure down) : a = none → L = [] := by
  intro e
  subst e
  obtain ⟨_, _, ⟨h3, h4⟩, _⟩ := h
  rcases h4 with ⟨e, h5⟩ | ⟨g, cap, cur, e, _⟩
  · exact List.eq_nil_of_length_eq_zero h5
  · cases e

end Go.Proofs.YtdbmnjodkpeobaaDoor
