/-
  Contracts: journal.New, Sync, Sure, Down, Lines.
-/
import Derived.Test.YtdbmnjodkpeobaaGreatDoorJrnS
namespace Go.Proofs.YtdbmnjodkpeobaaGreatDoor
open Go.ChangeShapes Go.WideShapes Go.ChangeAt Go.RowKit

def roomV (room : Int) : Int := min (max room 1) 4096
theorem roomV_in (room : Int) : 1 ≤ roomV room ∧ roomV room ≤ 4096 := by unfold roomV; omega

theorem new_any (room : Int) (w : World) :
    Calls Tryz.prog 21 #[.int .i64 room] w fun e w' => e = .returned (.pointer (some ⟨w.heap.size, 0, none⟩)) ∧ w' = w.alloc (.cells #[.int .i64 (roomV room), .slice none 0 0, .int .i64 0, .bool false] 83) := by
  unfold roomV
  go_enter Tryz.func21, Tryz.ntmps21
  go_wp2
  go_ret
  exact ⟨rfl, rfl⟩

theorem down_nil (w : World) : Calls Tryz.prog 41 #[.pointer none] w fun e w' => e = .returned (.bool false) ∧ Below w.heap.size w w' := by
  go_enter Tryz.func41, Tryz.ntmps41
  go_wp2
  go_ret
  exact ⟨rfl, Below.refl _ _⟩
theorem down_any {B : Nat} {w : World} {p : Nat} {v : Value} {room : Int} {L : List ByteArray} {sure : Nat} {down : Bool} (h : Jr B w p v room L sure down) :
    Calls Tryz.prog 41 #[.pointer (some ⟨p, 0, none⟩)] w fun e w' => e = .returned (.bool down) ∧ Below w.heap.size w w' := by
  obtain ⟨⟨c0, c1, c2, c3⟩, -⟩ := h.cells
  go_enter Tryz.func41, Tryz.ntmps41
  go_wp2
  go_ret
  exact ⟨rfl, Below.refl _ _⟩
theorem sync_nil (w : World) : Calls Tryz.prog 71 #[.pointer none] w fun e w' => e = .returned (.int .i64 1) ∧ Below w.heap.size w w' := by
  go_enter Tryz.func71, Tryz.ntmps71
  go_wp2
  go_ret
  exact ⟨rfl, Below.refl _ _⟩
theorem sync_down {B : Nat} {w : World} {p : Nat} {v : Value} {room : Int} {L : List ByteArray} {sure : Nat} (h : Jr B w p v room L sure true) :
    Calls Tryz.prog 71 #[.pointer (some ⟨p, 0, none⟩)] w fun e w' => e = .returned (.int .i64 10) ∧ Below w.heap.size w w' := by
  obtain ⟨⟨c0, c1, c2, c3⟩, -⟩ := h.cells
  go_enter Tryz.func71, Tryz.ntmps71
  go_wp2
  go_ret
  exact ⟨rfl, Below.refl _ _⟩
theorem sync_up {B : Nat} {w : World} {p : Nat} {v : Value} {room : Int} {L : List ByteArray} {sure : Nat} (h : Jr B w p v room L sure false) :
    Calls Tryz.prog 71 #[.pointer (some ⟨p, 0, none⟩)] w fun e w' => e = .returned (.int .i64 0) ∧ Jr B w' p v room L L.length false ∧ Off p v v w w' := by
  obtain ⟨⟨c0, c1, c2, c3⟩, f1, f2, f3⟩ := h.cells
  obtain ⟨a, c, rfl, hc, -⟩ := h.row
  have HJ : Hid _ := h.setSure L.length
  have HO : Hid _ := (Off.refl p (.slice a L.length c) w).setCell 2 (.int .i64 L.length)
  clear h hc
  go_enter Tryz.func71, Tryz.ntmps71
  go_wp2
  go_ret
  exact ⟨rfl, HJ.out, HO.out⟩

/-- Lines of a nil journal. -/
theorem lines_nil (w : World) : Calls Tryz.prog 47 #[.pointer none] w fun e w' => e = .returned (.slice none 0 0) ∧ Below w.heap.size w w' := by
  go_enter Tryz.func47, Tryz.ntmps47
  go_wp2
  go_ret
  exact ⟨rfl, Below.refl _ _⟩

theorem clone_strs {w : World} {a : Option Addr} {c : Nat} {L : List ByteArray} (h : Strs w a L) (hn : a = none → L = []) (hl : L.length ≤ 4096) :
    Calls Tryz.prog 61 #[.slice a L.length c] w fun e w' => ∃ u, e = .returned u ∧ w'.ownsRow w.heap.size 9 1 u L.length (L.map Value.string) ∧ Below w.heap.size w w' := by
  cases a with
  | none =>
    have := hn rfl
    subst this
    refine (Tryz.slices_Clone_string_nil _ _ w).mono ?_
    rintro e w' ⟨rfl, rfl⟩
    exact ⟨_, rfl, ⟨rfl, .inl ⟨rfl, rfl⟩⟩, Below.refl _ _⟩
  | some ad =>
    by_cases h0 : L = []
    · subst h0
      refine (Tryz.slices_Clone_string_zero ad _ w).mono ?_
      rintro e w' ⟨u, rfl, h1, _, h2⟩
      exact ⟨u, rfl, h1, h2⟩
    · rcases h with h | ⟨b, off, e, hc⟩
      · exact absurd h h0
      · cases e
        refine (Tryz.slices_Clone_string b off L.length c L w (Nat.le_refl _) (by omega) hc).mono ?_
        rintro e w' ⟨u, rfl, h1, _, h2⟩
        rw [List.take_length] at h1
        exact ⟨u, rfl, h1, h2⟩

theorem Jr.nilrow {B : Nat} {w : World} {p : Nat} {a : Option Addr} {n c : Nat} {room : Int} {L : List ByteArray} {sure : Nat} {down : Bool} (h : Jr B w p (.slice a n c) room L sure down) : a = none → L = [] := by
  intro e
  subst e
  obtain ⟨_, _, ⟨h3, h4⟩, _⟩ := h
  rcases h4 with ⟨e, h5⟩ | ⟨g, cap, cur, e, _⟩
  · exact List.eq_nil_of_length_eq_zero h5
  · cases e

theorem lines_any {B : Nat} {w : World} {p : Nat} {v : Value} {room : Int} {L : List ByteArray} {sure : Nat} {down : Bool} (h : Jr B w p v room L sure down) :
    Calls Tryz.prog 47 #[.pointer (some ⟨p, 0, none⟩)] w fun e w' => ∃ a c, e = .returned (.slice a L.length c) ∧ w'.ownsRow w.heap.size 9 1 (.slice a L.length c) L.length (L.map Value.string) ∧ Below w.heap.size w w' := by
  obtain ⟨⟨c0, c1, c2, c3⟩, f1, f2, f3⟩ := h.cells
  obtain ⟨a, c, rfl, hc, hst⟩ := h.row
  have HC := clone_strs (c := c) hst h.nilrow h.2.2.2.2.1
  clear h hc hst
  go_enter Tryz.func47, Tryz.ntmps47
  go_wp2_with fail
  refine HC.mono ?_
  rintro e w1 ⟨u, rfl, ho, hb⟩
  obtain ⟨a1, c1', rfl, -, -, -⟩ := owned_strs ho
  have HO : Hid _ := ho
  clear ho
  go_wp2
  go_ret
  exact ⟨a1, c1', rfl, HO.out, hb⟩
end Go.Proofs.YtdbmnjodkpeobaaGreatDoor
