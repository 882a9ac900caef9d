/-
  Contract of tally's Waits.
-/
import Derived.Test.YtnffgamekhedkaaGreatDoorSgnjlign
import Derived.Test.YtnffgamekhedkaaGreatDoorSgmhhcne
namespace Go.Proofs.YtnffgamekhedkaaGreatDoor
open Go.ChangeShapes Go.WideShapes Go.ChangeAt Go.RowKit

/-- What is handed back reads as xs; nothing that there was is turned. -/
def TellI (w : World) (xs : List Int) (e : Ending) (w' : World) : Prop :=
  ∃ a c, e = .returned (.slice a xs.length c) ∧ Ints w' a xs ∧ Below w.heap.size w w'
theorem tell_nil {w w' : World} (hb : Below w.heap.size w w') : TellI w [] (.returned (.slice none 0 0)) w' := ⟨none, 0, rfl, .inl rfl, hb⟩
theorem silent_bd (y : Nat → Bool) (k : Nat) : (silent y k).length ≤ k := by have := silent_len y k; omega
theorem twaitsnil_any (w : World) : Calls Tryz.prog 108 #[.pointer none] w fun e w' => e = .returned (.slice none 0 0) ∧ w = w' := by
  go_enter Tryz.func108, Tryz.ntmps108
  go_wp2
  go_ret
  exact ⟨rfl, rfl⟩
set_option maxRecDepth 100000 in
set_option maxHeartbeats 1000000 in
theorem twaits_any {B : Nat} {w : World} {p : Nat} {t : Ta} (k : Tk B w p t) :
    Calls Tryz.prog 108 #[.pointer (some ⟨p, 0, none⟩)] w (TellI w t.waits) := by
  obtain ⟨c0, -, -, c67⟩ := k.1.cells
  cases hd : t.d
  · rw [hd] at c67
    have e : t.waits = silent t.y t.n := by unfold Ta.waits; rw [hd]; rfl
    rw [e]
    have h64 := k.2.n64
    have CI : Hid (∀ (wr : World), Below w.heap.size w wr → ∀ j, j < 64 → wr.cell? ⟨p, 1 + j, none⟩ = some (.bool (t.y j))) := fun wr hb j hj => (k.on hb).1.cellI hj
    clear k e hd
    obtain ⟨n, hn⟩ : ∃ n, t.n = n := ⟨_, rfl⟩
    rw [hn] at c0 h64 ⊢
    obtain ⟨y, hy⟩ : ∃ y, t.y = y := ⟨_, rfl⟩
    rw [hy] at CI ⊢
    clear hn hy
    have hn64 : (n : Int) ≤ 64 := by omega
    go_enter Tryz.func108, Tryz.ntmps108
    go_wp2
    go_region
    go_wp2
    go_loopw [3, 23] (fun v i wr => ∃ (j : Nat) (av : Option Addr) (cv : Nat), i = .int .i64 j ∧ v = .slice av (silent y j).length cv ∧ j ≤ n ∧ Hid (wr.ownsRow w.heap.size 3 1 (.slice av (silent y j).length cv) (silent y j).length ((silent y j).map (Value.int .i64))) ∧ Hid (Below w.heap.size w wr)) (fun _ i _ => n - (intOf i).toNat)
    case atStart => exact ⟨0, none, 0, rfl, rfl, Nat.zero_le _, World.ownsRow_nil _ _ _ _, (Below.refl _ _).drew⟩
    case round =>
      obtain ⟨j, av, cv, rfl, rfl, hj, HR, HB⟩ := hrel
      by_cases hlt : j < n
      · have hx := CI.out wr HB.out j (by omega)
        have ql : (j : Int) < (n : Int) := by omega
        cases hy : y j
        · have HE : Hid (silent y (j + 1) = silent y j ++ [(j : Int)]) := by show silent y j ++ _ = _; rw [hy]; rfl
          have hlen := silent_bd y j
          rw [hy] at hx
          have hbb := HB.out.size
          clear hy CI
          go_wp2_with (at_builtin; refine append_nums rfl (.tmp 30) (.tmp 32) rfl w.heap.size (.slice av (silent y j).length cv) (silent y j).length (silent y j) rfl (HR.out.alloc _) ⟨wr.heap.size, 0, none⟩ 1 1 [(j : Int)] rfl rfl (ints_one _ _) (by omega) (by simp; omega) ?_; intro v' w4 hown' hgrow; obtain ⟨a4, c4, rfl, -⟩ := row_slice hown'; have HR4 := hide hown'; have HB4 : Hid (Below w.heap.size w w4) := (HB.out.alloc HB.out.size _).grown hgrow (by simp; omega) (fun i e => (HR.out.lt i e).1); clear hown' hgrow)
          go_roundw
          case rel => exact ⟨j + 1, a4, c4, by go_num, by rw [HE.out]; simp, by omega, by rw [HE.out, List.length_append]; exact HR4, HB4⟩
          case measure => simp [intOf]; omega
        · have HE : Hid (silent y (j + 1) = silent y j) := by show silent y j ++ _ = _; rw [hy]; simp
          rw [hy] at hx
          clear hy CI
          go_wp2
          go_roundw
          case rel => exact ⟨j + 1, av, cv, by go_num, by rw [HE.out], by omega, by rw [HE.out]; exact HR, HB⟩
          case measure => simp [intOf]; omega
      · have ql : ¬ (j : Int) < (n : Int) := by omega
        go_wp2
        go_ret
        have e : j = n := by omega
        subst e
        obtain ⟨a', c', e1, -, hi⟩ := owned_nums HR.out
        cases e1
        exact ⟨_, _, rfl, hi, HB.out⟩
  · rw [hd] at c67
    have e : t.waits = [] := by unfold Ta.waits; rw [hd]; rfl
    rw [e]
    clear k e hd
    go_enter Tryz.func108, Tryz.ntmps108
    go_wp2
    go_ret
    exact tell_nil (Below.refl _ _)
end Go.Proofs.YtnffgamekhedkaaGreatDoor
