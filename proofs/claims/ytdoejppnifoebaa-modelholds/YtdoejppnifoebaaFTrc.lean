/-
  The reference's Trace: what happened; NewTrace.
-/
import Derived.Test.YtdoejppnifoebaaFlwG
import Derived.Test.YtdoejppnifoebaaOrdF
import Derived.Test.YtdoejppnifoebaaFlwW
import Derived.Laws.MakeOwn
namespace Go.Proofs.Ytdoejppnifoebaa
open Go.ChangeShapes Go.WideShapes Go.ChangeAt Go.RowKit

def rowA (l : List Bool) : Array Value := (l.map Value.bool).toArray
theorem rowA_at (l : List Bool) (j : Nat) : (rowA l)[j]? = (l[j]?).map Value.bool := by simp [rowA]
theorem rowA_set (l : List Bool) (j : Nat) (b : Bool) : (rowA l).setIfInBounds j (.bool b) = rowA (l.set j b) := by
  unfold rowA
  rw [List.setIfInBounds_toArray, List.map_set]
/-- Which steps are done, which undone. -/
def dB (n : Nat) (s : Fs) : List Bool := (List.range n).map fun k => decide (k < s.d)
def uB (n : Nat) (s : Fs) : List Bool := (List.range n).map fun k => decide (s.u ≤ k ∧ k < s.d)
theorem dB_at {n : Nat} {s : Fs} {j : Nat} (h : j < n) : (rowA (dB n s))[j]? = some (.bool (decide (j < s.d))) := by
  rw [rowA_at]; simp [dB, h]
theorem uB_at {n : Nat} {s : Fs} {j : Nat} (h : j < n) : (rowA (uB n s))[j]? = some (.bool (decide (s.u ≤ j ∧ j < s.d))) := by
  rw [rowA_at]; simp [uB, h]
theorem dB_set {n : Nat} {s : Fs} (y z g : Bool) (v : Nat) : (dB n s).set s.d true = dB n ⟨s.d + 1, v, y, z, g⟩ := by
  refine List.ext_getElem (by simp [dB]) (fun i h1 h2 => ?_)
  simp only [dB, List.getElem_set, List.getElem_map, List.getElem_range]
  split
  · simp; omega
  · simp only [decide_eq_decide]; omega
theorem uB_done {n : Nat} {s : Fs} (h : s.u = s.d) (y z g : Bool) : uB n s = uB n ⟨s.d + 1, s.u + 1, y, z, g⟩ := by
  refine List.ext_getElem (by simp [uB]) (fun i h1 h2 => ?_)
  simp only [uB, List.getElem_map, List.getElem_range, decide_eq_decide]
  omega
theorem uB_set {n : Nat} {s : Fs} (h : s.u ≤ s.d) (h0 : 0 < s.u) (y z g : Bool) : (uB n s).set (s.u - 1) true = uB n ⟨s.d, s.u - 1, y, z, g⟩ := by
  refine List.ext_getElem (by simp [uB]) (fun i h1 h2 => ?_)
  simp only [uB, List.getElem_set, List.getElem_map, List.getElem_range]
  split
  · simp; omega
  · simp only [decide_eq_decide]; omega

/-- A trace at p in memory: an order of n steps, its state s; its blocks lie at B or above, apart. -/
structure Tr (B : Nat) (w : World) (p bd bu : Nat) (o : Od) (a : Option Addr) (c n : Nat) (s : Fs) : Prop where
  own : B ≤ p ∧ B ≤ bd ∧ B ≤ bu ∧ p ≠ bd ∧ p ≠ bu ∧ bd ≠ bu
  at_ : w.heap[p]? = some (.cells #[.int .i64 o.id, .int .i64 o.item, .int .i64 o.qty, .int .i64 o.client, .int .i64 o.price, .slice a o.steps.length c, .slice (some ⟨bd, 0, none⟩) n n, .slice (some ⟨bu, 0, none⟩) n n, .bool s.yes, .bool s.no, .bool s.ship, .bool (decide (s.u < s.d))] 37 (0, 0))
  done : w.heap[bd]? = some (.cells (rowA (dB n s)) 4 (0, 0))
  undone : w.heap[bu]? = some (.cells (rowA (uB n s)) 4 (0, 0))
theorem Tr.below {B : Nat} {w w' : World} {p bd bu : Nat} {o : Od} {a : Option Addr} {c n : Nat} {s : Fs} (h : Tr B w p bd bu o a c n s) (hb : Below w.heap.size w w') : Tr B w' p bd bu o a c n s :=
  ⟨h.own, (hb.block _ (Array.getElem?_eq_some_iff.1 h.at_).1).trans h.at_, (hb.block _ (Array.getElem?_eq_some_iff.1 h.done).1).trans h.done, (hb.block _ (Array.getElem?_eq_some_iff.1 h.undone).1).trans h.undone⟩

theorem Try.infoBool : (Try.prog.info? 4).map (fun i => (i.zero, i.size, i.bytes)) = some (some (.bool false), 1, 1) := by kernel_rfl
theorem make_bools (n : Nat) (hn : n ≤ 3) (W : World) : (Instr.makeSlice 35 (.int .i64 (n : Int)) (.int .i64 (n : Int))).run Try.prog W = .ok (.slice (some ⟨W.heap.size, 0, none⟩) n n) (W.alloc (.cells (rowA (dB n fs0)) 4)) := by
  obtain ⟨i0, hi, hz0, hz1, hz2⟩ := info_parts Try.infoBool
  rw [run_makeSlice (P := Try.prog) W 35 4 i0 _ Try.underlying35 hi hz0 .i64 .i64 (n : Int) (n : Int) (by omega) (Int.le_refl _) (by rw [hz1]; simp; omega) (by rw [hz2]; omega) (by omega), hz1]
  have e : madeCells (Value.bool false).cells (n * 1) = rowA (dB n fs0) := by
    obtain rfl | rfl | rfl | rfl : n = 0 ∨ n = 1 ∨ n = 2 ∨ n = 3 := by omega
    all_goals kernel_rfl
  rw [Int.toNat_natCast, e]
theorem uB_start (n : Nat) : uB n fs0 = dB n fs0 := by
  refine List.ext_getElem (by simp [uB, dB]) (fun i h1 h2 => ?_)
  simp [uB, dB, fs0]

theorem tr_start {B : Nat} {V : World} (hB : B ≤ V.heap.size) (o : Od) (a : Option Addr) (c n : Nat) (x : Bool) :
    Tr B (((V.alloc (.cells (rowA (dB n fs0)) 4)).alloc (.cells (rowA (dB n fs0)) 4)).alloc (.cells #[.int .i64 o.id, .int .i64 o.item, .int .i64 o.qty, .int .i64 o.client, .int .i64 o.price, .slice a o.steps.length c, .slice (some ⟨if x then V.heap.size else V.heap.size + 1, 0, none⟩) n n, .slice (some ⟨if x then V.heap.size + 1 else V.heap.size, 0, none⟩) n n, .bool false, .bool false, .bool false, .bool false] 37)) (V.heap.size + 2) (if x then V.heap.size else V.heap.size + 1) (if x then V.heap.size + 1 else V.heap.size) o a c n fs0 := by
  have hal := allocs_at [.cells (rowA (dB n fs0)) 4 (0, 0), .cells (rowA (dB n fs0)) 4 (0, 0), .cells #[.int .i64 o.id, .int .i64 o.item, .int .i64 o.qty, .int .i64 o.client, .int .i64 o.price, .slice a o.steps.length c, .slice (some ⟨if x then V.heap.size else V.heap.size + 1, 0, none⟩) n n, .slice (some ⟨if x then V.heap.size + 1 else V.heap.size, 0, none⟩) n n, .bool false, .bool false, .bool false, .bool false] 37 (0, 0)] V
  have h0 := hal 0 _ rfl
  rw [Nat.add_zero] at h0
  have h1 := hal 1 _ rfl
  have h2 := hal 2 _ rfl
  cases x
  · refine ⟨by simp; omega, h2, h1, ?_⟩
    rw [uB_start]; exact h0
  · refine ⟨by simp; omega, h2, h0, ?_⟩
    rw [uB_start]; exact h1

theorem tr_grow {w V : World} (h : Below w.heap.size w V) (x y z : Obj) : Below w.heap.size w (((V.alloc x).alloc y).alloc z) := by
  have h1 := h.alloc h.size x
  have h2 := h1.alloc h1.size y
  exact h2.alloc h2.size z
set_option maxHeartbeats 4000000 in
theorem newtrace_any (o : Od) (a : Option Addr) (c : Nat) (w : World) (h3 : o.steps.length ≤ 3) :
    Calls Try.prog 10 #[.agg #[.int .i64 o.id, .int .i64 o.item, .int .i64 o.qty, .int .i64 o.client, .int .i64 o.price, .slice a o.steps.length c]] w fun e w' => ∃ p bd bu, e = .returned (.pointer (some ⟨p, 0, none⟩)) ∧ Tr w.heap.size w' p bd bu o a c o.steps.length fs0 ∧ Below w.heap.size w w' := by
  obtain ⟨V, hV⟩ : ∃ V, V = w.alloc (.cells #[.int .i64 o.id, .int .i64 o.item, .int .i64 o.qty, .int .i64 o.client, .int .i64 o.price, .slice a o.steps.length c] 24) := ⟨_, rfl⟩
  have hbV : Below w.heap.size w V := by rw [hV]; exact (Below.refl _ _).alloc (Nat.le_refl _) _
  have hVb : V.heap[w.heap.size]? = some (.cells #[.int .i64 o.id, .int .i64 o.item, .int .i64 o.qty, .int .i64 o.client, .int .i64 o.price, .slice a o.steps.length c] 24 (0, 0)) := by rw [hV]; exact World.alloc_heap_new w _
  have hmk := make_bools o.steps.length h3
  have HBV := hide hbV
  have hat : ∀ u, Below V.heap.size V u → u.heap[w.heap.size]? = some (.cells #[.int .i64 o.id, .int .i64 o.item, .int .i64 o.qty, .int .i64 o.client, .int .i64 o.price, .slice a o.steps.length c] 24 (0, 0)) := fun u hu => (hu.block _ (Array.getElem?_eq_some_iff.1 hVb).1).trans hVb
  have b1 : Below V.heap.size V V := Below.refl _ _
  have b2 : Below V.heap.size V (V.alloc (.cells (rowA (dB o.steps.length fs0)) 4)) := b1.alloc b1.size _
  have b3 : Below V.heap.size V ((V.alloc (.cells (rowA (dB o.steps.length fs0)) 4)).alloc (.cells (rowA (dB o.steps.length fs0)) 4)) := b2.alloc b2.size _
  obtain ⟨d0, d1, d2, d3, d4, d5⟩ := order_of_six (hat _ b1)
  obtain ⟨e0, e1, e2, e3, e4, e5⟩ := order_of_six (hat _ b2)
  obtain ⟨f0, f1, f2, f3, f4, f5⟩ := order_of_six (hat _ b3)
  clear hbV hVb hat b1 b2 b3
  go_enter Try.func10, Try.ntmps10
  go_wp2_with fail
  rw [← hV]
  clear hV
  go_region
  all_goals go_wp2
  all_goals go_ret
  · exact ⟨_, _, _, rfl, (tr_start HBV.out.size o a c o.steps.length true).below (Below.refl _ _).drew, (tr_grow HBV.out _ _ _).drew⟩
  · exact ⟨_, _, _, rfl, (tr_start HBV.out.size o a c o.steps.length false).below (Below.refl _ _).drew, (tr_grow HBV.out _ _ _).drew⟩

/-! What a trace tells. -/
theorem Tr.cells {B : Nat} {w : World} {p bd bu : Nat} {o : Od} {a : Option Addr} {c n : Nat} {s : Fs} (h : Tr B w p bd bu o a c n s) :
    w.cell? ⟨p, 6, none⟩ = some (.slice (some ⟨bd, 0, none⟩) n n) ∧ w.cell? ⟨p, 7, none⟩ = some (.slice (some ⟨bu, 0, none⟩) n n) ∧ w.cell? ⟨p, 8, none⟩ = some (.bool s.yes) ∧ w.cell? ⟨p, 9, none⟩ = some (.bool s.no) ∧ w.cell? ⟨p, 10, none⟩ = some (.bool s.ship) ∧ w.cell? ⟨p, 11, none⟩ = some (.bool (decide (s.u < s.d))) := by
  refine ⟨?_, ?_, ?_, ?_, ?_, ?_⟩
  all_goals (rw [cell_of h.at_]; rfl)
theorem Tr.doneAt {B : Nat} {w : World} {p bd bu : Nat} {o : Od} {a : Option Addr} {c n : Nat} {s : Fs} (h : Tr B w p bd bu o a c n s) {j : Nat} (hj : j < n) : w.cell? ⟨bd, j, none⟩ = some (.bool (decide (j < s.d))) := by
  rw [cell_of h.done]; exact dB_at hj
theorem Tr.undoneAt {B : Nat} {w : World} {p bd bu : Nat} {o : Od} {a : Option Addr} {c n : Nat} {s : Fs} (h : Tr B w p bd bu o a c n s) {j : Nat} (hj : j < n) : w.cell? ⟨bu, j, none⟩ = some (.bool (decide (s.u ≤ j ∧ j < s.d))) := by
  rw [cell_of h.undone]; exact uB_at hj

set_option maxHeartbeats 2000000 in
theorem tall_any {B : Nat} {w : World} {p bd bu : Nat} {o : Od} {a : Option Addr} {c n : Nat} {s : Fs} (h : Tr B w p bd bu o a c n s) (hd : s.d ≤ n) (hn : n ≤ 3) :
    Calls Try.prog 26 #[.pointer (some ⟨p, 0, none⟩)] w fun e w' => e = .returned (.bool (decide (s.d = n))) ∧ w = w' := by
  obtain ⟨c6, -⟩ := h.cells
  have HT := hide h
  clear h
  go_enter Try.func26, Try.ntmps26
  go_wp2
  go_loop [10] (fun iv => ∃ k : Nat, iv = .int .i64 k ∧ k ≤ n ∧ k ≤ s.d) (fun iv => n - (intOf iv).toNat)
  case atStart => exact ⟨0, rfl, Nat.zero_le _, Nat.zero_le _⟩
  case round =>
    obtain ⟨k, rfl, hk, hkd⟩ := hrel
    by_cases hlt : k < n
    · have q1 : (k : Int) < (n : Int) := by omega
      have hc := HT.out.doneAt hlt
      by_cases hd2 : k < s.d
      · have e : decide (k < s.d) = true := by simpa using hd2
        rw [e] at hc
        go_wp2
        go_round
        case rel => exact ⟨k + 1, by go_num, by omega, by omega⟩
        case measure => simp [intOf]; omega
      · have e : decide (k < s.d) = false := by simpa using hd2
        rw [e] at hc
        have HF : Hid (false = decide (s.d = n)) := by show _ = _; symm; simp; omega
        go_wp2
        go_ret
        exact ⟨ret_bool HF.out, rfl⟩
    · have q1 : ¬ (k : Int) < (n : Int) := by omega
      have HF : Hid (true = decide (s.d = n)) := by show _ = _; symm; simp; omega
      go_wp2
      go_ret
      exact ⟨ret_bool HF.out, rfl⟩

set_option maxHeartbeats 2000000 in
theorem tlater_any {B : Nat} {w : World} {p bd bu : Nat} {o : Od} {a : Option Addr} {c n : Nat} {s : Fs} (h : Tr B w p bd bu o a c n s) (hu : s.u ≤ s.d) (hd : s.d ≤ n) (hn : n ≤ 3) (j : Nat) (hj : j < n) :
    Calls Try.prog 25 #[.pointer (some ⟨p, 0, none⟩), .int .i64 j] w fun e w' => e = .returned (.bool (decide (s.u ≤ j + 1))) ∧ w = w' := by
  obtain ⟨c6, c7, -⟩ := h.cells
  have HT := hide h
  clear h
  go_enter Try.func25, Try.ntmps25
  go_wp2
  go_loop [5] (fun iv => ∃ k : Nat, iv = .int .i64 k ∧ k ≤ n ∧ j + 1 ≤ k ∧ (j + 1 < k → s.u ≤ j + 1)) (fun iv => n - (intOf iv).toNat)
  case atStart => exact ⟨j + 1, by go_num, by omega, Nat.le_refl _, fun h => by omega⟩
  case round =>
    obtain ⟨k, rfl, hk, hkj, hku⟩ := hrel
    by_cases hlt : k < n
    · have q1 : (k : Int) < (n : Int) := by omega
      have hc := HT.out.doneAt hlt
      have hcu := HT.out.undoneAt hlt
      by_cases hd2 : k < s.d
      · have e : decide (k < s.d) = true := by simpa using hd2
        rw [e] at hc
        by_cases hu2 : s.u ≤ k
        · have e2 : decide (s.u ≤ k ∧ k < s.d) = true := by simp; omega
          rw [e2] at hcu
          have HKU := hide hku
          clear hku
          go_wp2
          go_round
          case rel => exact ⟨k + 1, by go_num, by omega, by omega, fun _ => by by_cases e : j + 1 < k; exact HKU.out e; omega⟩
          case measure => simp [intOf]; omega
        · have e2 : decide (s.u ≤ k ∧ k < s.d) = false := by simp; omega
          rw [e2] at hcu
          have HF : Hid (false = decide (s.u ≤ j + 1)) := by show _ = _; symm; simp; omega
          clear hku
          go_wp2
          go_ret
          exact ⟨ret_bool HF.out, rfl⟩
      · have e : decide (k < s.d) = false := by simpa using hd2
        rw [e] at hc
        have HKU : Hid (s.u ≤ j + 1) := by
          show _ ≤ _
          by_cases e : j + 1 < k
          · exact hku e
          · omega
        clear hku hcu
        go_wp2
        go_round
        case rel => exact ⟨k + 1, by go_num, by omega, by omega, fun _ => HKU.out⟩
        case measure => simp [intOf]; omega
    · have q1 : ¬ (k : Int) < (n : Int) := by omega
      have HF : Hid (true = decide (s.u ≤ j + 1)) := by
        show _ = _; symm; simp
        by_cases e : j + 1 < k
        · exact hku e
        · omega
      clear hku
      go_wp2
      go_ret
      exact ⟨ret_bool HF.out, rfl⟩
end Go.Proofs.Ytdoejppnifoebaa
