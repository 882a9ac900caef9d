/-
  Contracts of amount.Split, wharfingerref1.SameInts and wharfingerlaw1.awake: Split makes the row that the plain function splitL says; SameInts tells whether two rows are the same; awake returns true.
-/
import Derived.Test.YtpnegdcfccnocabAmt
import Derived.Deep.OwnRows
import Derived.Deep.QuietTactic
import Derived.BigQuiet
import Derived.Deep.Light
import Derived.Outline
import Derived.WalkLawsBesides
namespace Go.Proofs.Ytpnegdcfccnocab
open Go.ChangeShapes Go.WideShapes Go.ChangeAt Go.RowKit

/-- The slice at a reads as the numbers l. -/
def Ints (w : World) (a : Option Addr) (l : List Int) : Prop :=
  l = [] ∨ ∃ b off, a = some ⟨b, off, none⟩ ∧ ∀ i, i < l.length → w.cell? ⟨b, off + i, none⟩ = some (.int .i64 (l.getD i 0))

theorem Ints.below {w w' : World} {a : Option Addr} {l : List Int} (h : Ints w a l) (hb : Below w.heap.size w w') : Ints w' a l := by
  rcases h with h | ⟨b, off, ha, hc⟩
  · exact .inl h
  · refine .inr ⟨b, off, ha, fun i hi => ?_⟩
    have := hc i hi
    rw [hb.cell (p := ⟨b, off + i, none⟩) (World.block_lt_of_cell? _ _ this)]
    exact this

theorem Ints.drewN {w : World} {a : Option Addr} {l : List Int} (h : Ints w a l) (n : Nat) : Ints (w.drewN n) a l := by
  rcases h with h | ⟨b, off, ha, hc⟩
  · exact .inl h
  · exact .inr ⟨b, off, ha, fun i hi => by rw [← hc i hi]; simp⟩

theorem take_eq_succ {l m : List Int} {k : Nat} (hl : k < l.length) (hm : k < m.length) (h : l.take k = m.take k) (e : l.getD k 0 = m.getD k 0) : l.take (k + 1) = m.take (k + 1) := by
  rw [List.take_succ_eq_append_getElem hl, List.take_succ_eq_append_getElem hm, h]
  simp [List.getD, hl, hm] at e
  rw [e]

theorem ret_bool {a b : Bool} (h : a = b) : Ending.returned (.bool a) = .returned (.bool b) := by rw [h]

set_option maxHeartbeats 400000 in
theorem same_any (a b : Option Addr) (l m : List Int) (ca cb : Nat) (w : World) (hl : l.length ≤ 4611686018427387904) (ha : Ints w a l) (hb : Ints w b m) :
    Calls Try.prog 7 #[.slice a l.length ca, .slice b m.length cb] w fun e w' => e = .returned (.bool (decide (l = m))) ∧ ∃ n, w' = w.drewN n := by
  by_cases hlen : l.length = m.length
  · have e0 : ((l.length : Int) != (m.length : Int)) = false := by simp [hlen]
    have e1 : m.length = l.length := hlen.symm
    have hm : m.length ≤ 4611686018427387904 := by omega
    rw [e1]
    rw [e1] at e0
    have HL : Hid (l.length = m.length) := hlen
    clear hlen e1 hm
    go_enter Try.func7, Try.ntmps7
    go_wp2
    go_loopw [13] (fun i wr => ∃ k n : Nat, k ≤ l.length ∧ i = .int .i64 k ∧ l.take k = m.take k ∧ wr = w.drewN n) (fun i _ => l.length - (intOf i).toNat)
    case atStart => exact ⟨0, 0, Nat.zero_le _, rfl, rfl, rfl⟩
    case round =>
      obtain ⟨k, n, hk, rfl, ht, rfl⟩ := hrel
      by_cases hlt : k < l.length
      · have hkm : k < m.length := by have := HL.out; omega
        rcases ha with ha | ⟨ba, oa, rfl, hca⟩
        · subst ha; simp at hlt
        rcases hb with hb | ⟨bb, ob, rfl, hcb⟩
        · subst hb; simp at hkm
        have h1 := hca k hlt
        have h2 := hcb k hkm
        clear hca hcb
        obtain ⟨x, hx⟩ : ∃ x, x = l.getD k 0 := ⟨_, rfl⟩
        obtain ⟨y, hy⟩ : ∃ y, y = m.getD k 0 := ⟨_, rfl⟩
        rw [← hx] at h1
        rw [← hy] at h2
        have HX : Hid (x = l.getD k 0) := hx
        have HY : Hid (y = m.getD k 0) := hy
        clear hx hy
        by_cases hxy : x = y
        · subst hxy
          have HE : Hid (l.take (k + 1) = m.take (k + 1)) := take_eq_succ hlt hkm ht (by rw [← HX.out]; exact HY.out)
          clear ht
          go_wp2
          go_quiet (fail)
          go_wp2
          go_roundw
          case rel => exact ⟨k + 1, n + nq, by omega, by go_num, HE.out, rfl⟩
          case measure => simp [intOf]; omega
        · have hd : (x != y) = true := by simpa using hxy
          have HLM : Hid (false = decide (l = m)) := by
            show false = decide (l = m)
            simp
            intro h
            exact hxy (by rw [HX.out, HY.out, h])
          clear hxy ht
          go_wp2
          go_quiet (fail)
          go_wp2
          go_ret
          exact ⟨ret_bool HLM.out, n + nq, by simp⟩
      · have hlm : decide (l = m) = true := by
          have h1 := HL.out
          rw [List.take_of_length_le (by omega), List.take_of_length_le (by omega)] at ht
          simpa using ht
        have HLM : Hid (true = decide (l = m)) := hlm.symm
        clear hlm ht
        go_wp2
        go_ret
        exact ⟨ret_bool HLM.out, _, rfl⟩
  · have e0 : ((l.length : Int) != (m.length : Int)) = true := by simp; omega
    have hne : decide (l = m) = false := by simp; intro h; exact hlen (by rw [h])
    rw [hne]
    go_enter Try.func7, Try.ntmps7
    go_wp2
    go_ret
    exact ⟨rfl, 0, rfl⟩

theorem Try.infoInt : (Try.prog.info? 3).map (fun i => (i.zero, i.size, i.bytes)) = some (some (.int .i64 0), 1, 8) := by kernel_rfl

/-- The i-th of n parts of a. -/
def splitF (a : Int) (n i : Nat) : Int := a / n + if (i : Int) < a % n then 1 else 0
def splitL (a : Int) (n : Nat) : List Int := (List.range n).map (splitF a n)
theorem splitL_len (a : Int) (n : Nat) : (splitL a n).length = n := by simp [splitL]
theorem splitL_get (a : Int) (n i : Nat) (h : i < n) : (splitL a n).getD i 0 = splitF a n i := by simp [splitL, h]

theorem row_step {w : World} {G n k : Nat} {a : Int} (v : Int) (hv : v = splitF a n k) (h : w.rowIs G 3 n (fun i => if i < k then .int .i64 (splitF a n i) else .int .i64 0)) :
    (w.setCell ⟨G, k, none⟩ (.int .i64 v)).rowIs G 3 n (fun i => if i < k + 1 then .int .i64 (splitF a n i) else .int .i64 0) := by
  refine (h.set k _).congr (fun i _ => ?_)
  by_cases e : i = k
  · subst e; simp [hv]
  · simp only [if_neg e]
    by_cases hlt : i < k
    · rw [if_pos hlt, if_pos (by omega)]
    · rw [if_neg hlt, if_neg (by omega)]

theorem row_step2 {w : World} {G n k : Nat} {a : Int} (u : Value) (v : Int) (hv : v = splitF a n k) (h : w.rowIs G 3 n (fun i => if i < k then .int .i64 (splitF a n i) else .int .i64 0)) :
    ((w.setCell ⟨G, k, none⟩ u).setCell ⟨G, k, none⟩ (.int .i64 v)).rowIs G 3 n (fun i => if i < k + 1 then .int .i64 (splitF a n i) else .int .i64 0) := by
  refine ((h.set k _).set k _).congr (fun i _ => ?_)
  by_cases e : i = k
  · subst e; simp [hv]
  · simp only [if_neg e]
    by_cases hlt : i < k
    · rw [if_pos hlt, if_pos (by omega)]
    · rw [if_neg hlt, if_neg (by omega)]

set_option maxHeartbeats 400000 in
theorem split_yes (a : Int) (n : Nat) (w : World) (ha : may a = true) (hn1 : 1 ≤ n) (hn2 : n ≤ 64) :
    Calls Try.prog 8 #[.int .i64 a, .int .i64 (n : Int)] w fun e w' => e = .returned (.slice (some ⟨w.heap.size, 0, none⟩) n n) ∧ w'.rowIs w.heap.size 3 n (fun i => .int .i64 (splitF a n i)) ∧ Below w.heap.size w w' := by
  obtain ⟨ha1, ha2⟩ := may_iff.1 ha
  have hmk := run_make_row' (P := Try.prog) 22 3 (.int .i64 0) 8 Try.underlying22 Try.infoInt rfl .i64 .i64 n (by omega) (by omega)
  have hnz : (0 : Int) < n := by omega
  have q1 : 0 ≤ a / n := Int.ediv_nonneg ha1 (by omega)
  have q2 : a / n ≤ a := Int.ediv_le_self _ ha1
  have r1 : 0 ≤ a % n := Int.emod_nonneg _ (by omega)
  have r2 : a % n < n := Int.emod_lt_of_pos _ hnz
  go_enter Try.func8, Try.ntmps8
  go_wp2_with (go_at_call 9; refine (may_any _ _).mono ?_; rintro e w' ⟨rfl, rfl⟩)
  go_quiet (fail)
  go_wp2
  clear hmk
  go_loopw [29] (fun i wr => ∃ k : Nat, k ≤ n ∧ i = .int .i64 k ∧ wr.rowIs w.heap.size 3 n (fun i => if i < k then .int .i64 (splitF a n i) else .int .i64 0) ∧ Below w.heap.size w wr) (fun i _ => n - (intOf i).toNat)
  case atStart => exact ⟨0, Nat.zero_le _, rfl, ((World.rowIs_made w (.int .i64 0) n 3).drew).congr (fun i _ => by simp), below_drewN ((Below.refl _ _).alloc (Nat.le_refl _) _) _⟩
  case round =>
    obtain ⟨k, hk, rfl, hrow, hbel⟩ := hrel
    by_cases hlt : k < n
    · have hc := hrow.cell hlt
      have hf := hrow.frozen k
      by_cases hr : (k : Int) < a % n
      · have hv : a / n + 1 = splitF a n k := by simp [splitF, hr]
        have hR := row_step2 (.int .i64 (a / n)) _ hv hrow
        have HB := (hbel.setCell (p := ⟨w.heap.size, k, none⟩) (Nat.le_refl _) (.int .i64 (a / n))).setCell (p := ⟨w.heap.size, k, none⟩) (Nat.le_refl _) (.int .i64 (a / n + 1))
        have HR : Hid _ := hR
        clear hv hR hrow
        go_wp2
        go_roundw
        case rel => exact ⟨k + 1, by omega, by go_num, HR.out, HB⟩
        case measure => simp [intOf]; omega
      · have hv : a / n = splitF a n k := by simp [splitF, hr]
        have HR : Hid _ := row_step _ hv hrow
        have HB := hbel.setCell (p := ⟨w.heap.size, k, none⟩) (Nat.le_refl _) (.int .i64 (a / n))
        clear hv hrow
        go_wp2
        go_roundw
        case rel => exact ⟨k + 1, by omega, by go_num, HR.out, HB⟩
        case measure => simp [intOf]; omega
    · obtain rfl : k = n := by omega
      have HR : Hid _ := hrow.congr (g := fun i => .int .i64 (splitF a k i)) (fun i hi => by simp [hi])
      clear hrow
      go_wp2
      go_ret
      exact ⟨rfl, HR.out, hbel⟩

theorem split_no (a n : Int) (w : World) (h : may a = false ∨ n < 1 ∨ 64 < n) :
    Calls Try.prog 8 #[.int .i64 a, .int .i64 n] w fun e w' => e = .returned (.slice none 0 0) ∧ w = w' := by
  by_cases ha : may a = false
  · go_enter Try.func8, Try.ntmps8
    go_wp2_with (go_at_call 9; refine (may_any _ _).mono ?_; rintro e w' ⟨rfl, rfl⟩)
    go_ret
    exact ⟨rfl, rfl⟩
  · have ha' : may a = true := by simpa using ha
    by_cases h1 : n < 1
    · go_enter Try.func8, Try.ntmps8
      go_wp2_with (go_at_call 9; refine (may_any _ _).mono ?_; rintro e w' ⟨rfl, rfl⟩)
      go_ret
      exact ⟨rfl, rfl⟩
    · have h2 : 64 < n := by rcases h with h | h | h; exact absurd h ha; exact absurd h h1; exact h
      clear h
      go_enter Try.func8, Try.ntmps8
      go_wp2_with (go_at_call 9; refine (may_any _ _).mono ?_; rintro e w' ⟨rfl, rfl⟩)
      go_ret
      exact ⟨rfl, rfl⟩

theorem ints_of_row {w : World} {G n : Nat} {a : Int} (h : w.rowIs G 3 n (fun i => .int .i64 (splitF a n i))) : Ints w (some ⟨G, 0, none⟩) (splitL a n) := by
  refine .inr ⟨G, 0, rfl, fun i hi => ?_⟩
  rw [splitL_len] at hi
  rw [splitL_get a n i hi, Nat.zero_add]
  exact h.cell hi

theorem split73 (w : World) : Calls Try.prog 8 #[.int .i64 7, .int .i64 3] w fun e w' => e = .returned (.slice (some ⟨w.heap.size, 0, none⟩) 3 3) ∧ Ints w' (some ⟨w.heap.size, 0, none⟩) [3, 2, 2] ∧ Below w.heap.size w w' := by
  have h := split_yes 7 3 w (by decide) (by decide) (by decide)
  refine Calls.mono h ?_
  rintro e w' ⟨rfl, hr, hb⟩
  have hs : splitL 7 3 = [3, 2, 2] := by decide
  exact ⟨rfl, hs ▸ ints_of_row hr, hb⟩

theorem same33 (a b : Option Addr) (w : World) (ha : Ints w a [3, 2, 2]) (hb : Ints w b [3, 2, 2]) :
    Calls Try.prog 7 #[.slice a 3 3, .slice b 3 3] w fun e w' => e = .returned (.bool true) ∧ ∃ n, w' = w.drewN n :=
  same_any a b [3, 2, 2] [3, 2, 2] 3 3 w (by decide) ha hb

theorem ints322 (w : World) : Ints (w.alloc (.cells #[.int .i64 3, .int .i64 2, .int .i64 2] 3)) (some ⟨w.heap.size, 0, none⟩) [3, 2, 2] := by
  refine .inr ⟨w.heap.size, 0, rfl, fun i hi => ?_⟩
  match i, hi with
  | 0, _ => simp
  | 1, _ => simp
  | 2, _ => simp

set_option maxHeartbeats 400000 in
theorem awake_any (w : World) : Calls Try.prog 4 #[] w fun e w' => e = .returned (.bool true) ∧ Below w.heap.size w w' := by
  have e1 : may 1000000000 = true := by decide
  have e2 : may (-1) = false := by decide
  go_enter Try.func4, Try.ntmps4
  go_wp2_with (first
    | (go_at_call 8; refine (split73 w).mono ?_; rintro e w1 ⟨rfl, hi, hb⟩)
    | (go_at_call 7; refine (same33 _ _ _ ?_ ?_).mono ?_; rotate_left 2; rintro e w2 ⟨rfl, n, rfl⟩)
    | (go_at_call 9; refine (may_any _ _).mono ?_; rintro e w' ⟨rfl, rfl⟩))
  · go_ret
    exact ⟨rfl, below_drewN (hb.alloc hb.size _) n⟩
  · exact hi.below ((Below.refl _ _).alloc (Nat.le_refl _) _)
  · exact ints322 _
end Go.Proofs.Ytpnegdcfccnocab
