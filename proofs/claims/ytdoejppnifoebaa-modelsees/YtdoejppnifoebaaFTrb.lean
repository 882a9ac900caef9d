/-
  See of the reference's Trace: MUndone.
-/
import Derived.Test.YtdoejppnifoebaaFTrs
namespace Go.Proofs.Ytdoejppnifoebaa
open Go.ChangeShapes Go.WideShapes Go.ChangeAt Go.RowKit

set_option maxRecDepth 100000 in
set_option maxHeartbeats 4000000 in
theorem see_undone {B : Nat} {w : World} {p bd bu : Nat} {o : Od} {a : Option Addr} {c n : Nat} {s : Fs} (h : Tr B w p bd bu o a c n s) (hok : Fok n s) (hn : n ≤ 3) (hB : B ≤ w.heap.size) (x2 : Int) :
    Calls Try.prog 11 #[.pointer (some ⟨p, 0, none⟩), .agg #[.int .i64 5, .int .i64 x2]] w (SeeR B w p bd bu o a c n s (5, x2)) := by
  obtain ⟨k1, k2, k3, k4, k5⟩ := id hok
  have HB := hide hB
  by_cases hneg : x2 < 0
  · have q0 : ¬ x2 ≥ 0 := by omega
    obtain ⟨A, hA⟩ : ∃ A, A = w.alloc (.cells #[.int .i64 5, .int .i64 x2] 33) := ⟨_, rfl⟩
    have hTA : Tr B A p bd bu o a c n s := h.below (by rw [hA]; exact (Below.refl _ _).alloc (Nat.le_refl _) _)
    obtain ⟨c6, c7, c8, c9, c10, c11⟩ := hTA.cells
    rw [hA] at c6 c7 c8 c9 c10 c11
    clear hA hTA
    have HNO : Hid (seeF n s (5, x2) = none) := by
      show _ = _
      unfold seeF
      rw [if_neg (by simp), if_pos rfl, if_neg (by rintro ⟨z1, z2, z3⟩; (try simp only at z3); omega)]
    clear k1 k2 k3 k4 k5 hok h hB
    go_enter Try.func11, Try.ntmps11
    go_wp2
    go_ret
    exact see_no _ HB.out HNO.out
  have q0 : x2 ≥ 0 := by omega
  by_cases hbig : ¬ x2 < (n : Int)
  · have q1 : ¬ x2 < (n : Int) := hbig
    obtain ⟨A, hA⟩ : ∃ A, A = w.alloc (.cells #[.int .i64 5, .int .i64 x2] 33) := ⟨_, rfl⟩
    have hTA : Tr B A p bd bu o a c n s := h.below (by rw [hA]; exact (Below.refl _ _).alloc (Nat.le_refl _) _)
    obtain ⟨c6, c7, c8, c9, c10, c11⟩ := hTA.cells
    rw [hA] at c6 c7 c8 c9 c10 c11
    clear hA hTA
    have HNO : Hid (seeF n s (5, x2) = none) := by
      show _ = _
      unfold seeF
      rw [if_neg (by simp), if_pos rfl, if_neg (by rintro ⟨z1, z2, z3⟩; (try simp only at z3); omega)]
    clear k1 k2 k3 k4 k5 hok h hB
    go_enter Try.func11, Try.ntmps11
    go_wp2
    go_ret
    exact see_no _ HB.out HNO.out
  have q1 : x2 < (n : Int) := by omega
  obtain rfl | rfl | rfl : x2 = 0 ∨ x2 = 1 ∨ x2 = 2 := by omega
  · cases hno : s.no
    · obtain ⟨A, hA⟩ : ∃ A, A = w.alloc (.cells #[.int .i64 5, .int .i64 0] 33) := ⟨_, rfl⟩
      have hTA : Tr B A p bd bu o a c n s := h.below (by rw [hA]; exact (Below.refl _ _).alloc (Nat.le_refl _) _)
      obtain ⟨c6, c7, c8, c9, c10, c11⟩ := hTA.cells
      have cd := hTA.doneAt (show 0 < n by omega)
      have cu := hTA.undoneAt (show 0 < n by omega)
      obtain ⟨-, -, fz⟩ := hTA.frozen 0
      obtain ⟨fy, -, -⟩ := hTA.frozen 11
      have LT := tlater_any hTA k1 k2 hn 0 (by omega)
      rw [hno] at c9
      rw [hA] at c6 c7 c8 c9 c10 c11 cd cu fz fy LT
      clear hA hTA
      have HNO : Hid (seeF n s (5, 0) = none) := by
        show _ = _
        unfold seeF
        rw [if_neg (by simp), if_pos rfl, if_neg (by rintro ⟨z1, z2, z3⟩; rw [hno] at z1; cases z1)]
      clear k1 k2 k3 k4 k5 hok h hB hno
      go_enter Try.func11, Try.ntmps11
      go_wp2
      go_ret
      exact see_no _ HB.out HNO.out
    by_cases hd : ¬ 0 < s.d
    · obtain ⟨A, hA⟩ : ∃ A, A = w.alloc (.cells #[.int .i64 5, .int .i64 0] 33) := ⟨_, rfl⟩
      have hTA : Tr B A p bd bu o a c n s := h.below (by rw [hA]; exact (Below.refl _ _).alloc (Nat.le_refl _) _)
      obtain ⟨c6, c7, c8, c9, c10, c11⟩ := hTA.cells
      have cd := hTA.doneAt (show 0 < n by omega)
      have cu := hTA.undoneAt (show 0 < n by omega)
      obtain ⟨-, -, fz⟩ := hTA.frozen 0
      obtain ⟨fy, -, -⟩ := hTA.frozen 11
      have LT := tlater_any hTA k1 k2 hn 0 (by omega)
      rw [hno] at c9
      rw [show decide (0 < s.d) = false by simp; omega] at cd
      rw [hA] at c6 c7 c8 c9 c10 c11 cd cu fz fy LT
      clear hA hTA
      have HNO : Hid (seeF n s (5, 0) = none) := by
        show _ = _
        unfold seeF
        rw [if_neg (by simp), if_pos rfl, if_neg (by rintro ⟨z1, z2, z3⟩; (try simp only at z3); omega)]
      clear k1 k2 k3 k4 k5 hok h hB hno hd
      go_enter Try.func11, Try.ntmps11
      go_wp2
      go_ret
      exact see_no _ HB.out HNO.out
    by_cases hu : s.u ≤ 0
    · obtain ⟨A, hA⟩ : ∃ A, A = w.alloc (.cells #[.int .i64 5, .int .i64 0] 33) := ⟨_, rfl⟩
      have hTA : Tr B A p bd bu o a c n s := h.below (by rw [hA]; exact (Below.refl _ _).alloc (Nat.le_refl _) _)
      obtain ⟨c6, c7, c8, c9, c10, c11⟩ := hTA.cells
      have cd := hTA.doneAt (show 0 < n by omega)
      have cu := hTA.undoneAt (show 0 < n by omega)
      obtain ⟨-, -, fz⟩ := hTA.frozen 0
      obtain ⟨fy, -, -⟩ := hTA.frozen 11
      have LT := tlater_any hTA k1 k2 hn 0 (by omega)
      rw [hno] at c9
      rw [show decide (0 < s.d) = true by simp; omega] at cd
      rw [show decide (s.u ≤ 0 ∧ 0 < s.d) = true by simp; omega] at cu
      rw [hA] at c6 c7 c8 c9 c10 c11 cd cu fz fy LT
      clear hA hTA
      have HNO : Hid (seeF n s (5, 0) = none) := by
        show _ = _
        unfold seeF
        rw [if_neg (by simp), if_pos rfl, if_neg (by rintro ⟨z1, z2, z3⟩; (try simp only at z3); omega)]
      clear k1 k2 k3 k4 k5 hok h hB hno hd hu
      go_enter Try.func11, Try.ntmps11
      go_wp2
      go_ret
      exact see_no _ HB.out HNO.out
    by_cases hl : ¬ s.u ≤ 0 + 1
    · obtain ⟨A, hA⟩ : ∃ A, A = w.alloc (.cells #[.int .i64 5, .int .i64 0] 33) := ⟨_, rfl⟩
      have hTA : Tr B A p bd bu o a c n s := h.below (by rw [hA]; exact (Below.refl _ _).alloc (Nat.le_refl _) _)
      obtain ⟨c6, c7, c8, c9, c10, c11⟩ := hTA.cells
      have cd := hTA.doneAt (show 0 < n by omega)
      have cu := hTA.undoneAt (show 0 < n by omega)
      obtain ⟨-, -, fz⟩ := hTA.frozen 0
      obtain ⟨fy, -, -⟩ := hTA.frozen 11
      have LT := tlater_any hTA k1 k2 hn 0 (by omega)
      rw [hno] at c9
      rw [show decide (0 < s.d) = true by simp; omega] at cd
      rw [show decide (s.u ≤ 0 ∧ 0 < s.d) = false by simp; omega] at cu
      rw [show decide (s.u ≤ 0 + 1) = false by simp; omega] at LT
      rw [hA] at c6 c7 c8 c9 c10 c11 cd cu fz fy LT
      clear hA hTA
      have HNO : Hid (seeF n s (5, 0) = none) := by
        show _ = _
        unfold seeF
        rw [if_neg (by simp), if_pos rfl, if_neg (by rintro ⟨z1, z2, z3⟩; (try simp only at z3); omega)]
      clear k1 k2 k3 k4 k5 hok h hB hno hd hu hl
      go_enter Try.func11, Try.ntmps11
      go_wp2_with (go_at_call 25; refine LT.mono ?_; rintro e u1 ⟨rfl, rfl⟩)
      go_ret
      exact see_no _ HB.out HNO.out
    have hue : s.u = 0 + 1 := by omega
    have HYS : Hid (seeF n s (5, 0) = some ⟨s.d, s.u - 1, s.yes, s.no, s.ship⟩) := by
      show _ = _
      unfold seeF
      rw [if_neg (by simp), if_pos rfl, if_pos ⟨hno, by omega, by rw [hue]; rfl⟩]
    have hT := tr_undone h hB k1 (by omega) (.cells #[.int .i64 5, .int .i64 0] 33)
    rw [show s.u - 1 = 0 by omega] at hT HYS
    have HT := hide hT
    clear hT
    obtain ⟨A, hA⟩ : ∃ A, A = w.alloc (.cells #[.int .i64 5, .int .i64 0] 33) := ⟨_, rfl⟩
    have hTA : Tr B A p bd bu o a c n s := h.below (by rw [hA]; exact (Below.refl _ _).alloc (Nat.le_refl _) _)
    obtain ⟨c6, c7, c8, c9, c10, c11⟩ := hTA.cells
    have cd := hTA.doneAt (show 0 < n by omega)
    have cu := hTA.undoneAt (show 0 < n by omega)
    obtain ⟨-, -, fz⟩ := hTA.frozen 0
    obtain ⟨fy, -, -⟩ := hTA.frozen 11
    have LT := tlater_any hTA k1 k2 hn 0 (by omega)
    rw [hno] at c9
    rw [show decide (0 < s.d) = true by simp; omega] at cd
    rw [show decide (s.u ≤ 0 ∧ 0 < s.d) = false by simp; omega] at cu
    rw [show decide (s.u ≤ 0 + 1) = true by simp; omega] at LT
    rw [hA] at c6 c7 c8 c9 c10 c11 cd cu fz fy LT
    clear hA hTA
    clear k1 k2 k3 k4 k5 hok h hB hno hd hu hl hue
    go_enter Try.func11, Try.ntmps11
    go_wp2_with (go_at_call 25; refine LT.mono ?_; rintro e u1 ⟨rfl, rfl⟩)
    go_ret
    exact see_yes HYS.out HT.out.1 HT.out.2
  · cases hno : s.no
    · obtain ⟨A, hA⟩ : ∃ A, A = w.alloc (.cells #[.int .i64 5, .int .i64 1] 33) := ⟨_, rfl⟩
      have hTA : Tr B A p bd bu o a c n s := h.below (by rw [hA]; exact (Below.refl _ _).alloc (Nat.le_refl _) _)
      obtain ⟨c6, c7, c8, c9, c10, c11⟩ := hTA.cells
      have cd := hTA.doneAt (show 1 < n by omega)
      have cu := hTA.undoneAt (show 1 < n by omega)
      obtain ⟨-, -, fz⟩ := hTA.frozen 1
      obtain ⟨fy, -, -⟩ := hTA.frozen 11
      have LT := tlater_any hTA k1 k2 hn 1 (by omega)
      rw [hno] at c9
      rw [hA] at c6 c7 c8 c9 c10 c11 cd cu fz fy LT
      clear hA hTA
      have HNO : Hid (seeF n s (5, 1) = none) := by
        show _ = _
        unfold seeF
        rw [if_neg (by simp), if_pos rfl, if_neg (by rintro ⟨z1, z2, z3⟩; rw [hno] at z1; cases z1)]
      clear k1 k2 k3 k4 k5 hok h hB hno
      go_enter Try.func11, Try.ntmps11
      go_wp2
      go_ret
      exact see_no _ HB.out HNO.out
    by_cases hd : ¬ 1 < s.d
    · obtain ⟨A, hA⟩ : ∃ A, A = w.alloc (.cells #[.int .i64 5, .int .i64 1] 33) := ⟨_, rfl⟩
      have hTA : Tr B A p bd bu o a c n s := h.below (by rw [hA]; exact (Below.refl _ _).alloc (Nat.le_refl _) _)
      obtain ⟨c6, c7, c8, c9, c10, c11⟩ := hTA.cells
      have cd := hTA.doneAt (show 1 < n by omega)
      have cu := hTA.undoneAt (show 1 < n by omega)
      obtain ⟨-, -, fz⟩ := hTA.frozen 1
      obtain ⟨fy, -, -⟩ := hTA.frozen 11
      have LT := tlater_any hTA k1 k2 hn 1 (by omega)
      rw [hno] at c9
      rw [show decide (1 < s.d) = false by simp; omega] at cd
      rw [hA] at c6 c7 c8 c9 c10 c11 cd cu fz fy LT
      clear hA hTA
      have HNO : Hid (seeF n s (5, 1) = none) := by
        show _ = _
        unfold seeF
        rw [if_neg (by simp), if_pos rfl, if_neg (by rintro ⟨z1, z2, z3⟩; (try simp only at z3); omega)]
      clear k1 k2 k3 k4 k5 hok h hB hno hd
      go_enter Try.func11, Try.ntmps11
      go_wp2
      go_ret
      exact see_no _ HB.out HNO.out
    by_cases hu : s.u ≤ 1
    · obtain ⟨A, hA⟩ : ∃ A, A = w.alloc (.cells #[.int .i64 5, .int .i64 1] 33) := ⟨_, rfl⟩
      have hTA : Tr B A p bd bu o a c n s := h.below (by rw [hA]; exact (Below.refl _ _).alloc (Nat.le_refl _) _)
      obtain ⟨c6, c7, c8, c9, c10, c11⟩ := hTA.cells
      have cd := hTA.doneAt (show 1 < n by omega)
      have cu := hTA.undoneAt (show 1 < n by omega)
      obtain ⟨-, -, fz⟩ := hTA.frozen 1
      obtain ⟨fy, -, -⟩ := hTA.frozen 11
      have LT := tlater_any hTA k1 k2 hn 1 (by omega)
      rw [hno] at c9
      rw [show decide (1 < s.d) = true by simp; omega] at cd
      rw [show decide (s.u ≤ 1 ∧ 1 < s.d) = true by simp; omega] at cu
      rw [hA] at c6 c7 c8 c9 c10 c11 cd cu fz fy LT
      clear hA hTA
      have HNO : Hid (seeF n s (5, 1) = none) := by
        show _ = _
        unfold seeF
        rw [if_neg (by simp), if_pos rfl, if_neg (by rintro ⟨z1, z2, z3⟩; (try simp only at z3); omega)]
      clear k1 k2 k3 k4 k5 hok h hB hno hd hu
      go_enter Try.func11, Try.ntmps11
      go_wp2
      go_ret
      exact see_no _ HB.out HNO.out
    by_cases hl : ¬ s.u ≤ 1 + 1
    · obtain ⟨A, hA⟩ : ∃ A, A = w.alloc (.cells #[.int .i64 5, .int .i64 1] 33) := ⟨_, rfl⟩
      have hTA : Tr B A p bd bu o a c n s := h.below (by rw [hA]; exact (Below.refl _ _).alloc (Nat.le_refl _) _)
      obtain ⟨c6, c7, c8, c9, c10, c11⟩ := hTA.cells
      have cd := hTA.doneAt (show 1 < n by omega)
      have cu := hTA.undoneAt (show 1 < n by omega)
      obtain ⟨-, -, fz⟩ := hTA.frozen 1
      obtain ⟨fy, -, -⟩ := hTA.frozen 11
      have LT := tlater_any hTA k1 k2 hn 1 (by omega)
      rw [hno] at c9
      rw [show decide (1 < s.d) = true by simp; omega] at cd
      rw [show decide (s.u ≤ 1 ∧ 1 < s.d) = false by simp; omega] at cu
      rw [show decide (s.u ≤ 1 + 1) = false by simp; omega] at LT
      rw [hA] at c6 c7 c8 c9 c10 c11 cd cu fz fy LT
      clear hA hTA
      have HNO : Hid (seeF n s (5, 1) = none) := by
        show _ = _
        unfold seeF
        rw [if_neg (by simp), if_pos rfl, if_neg (by rintro ⟨z1, z2, z3⟩; (try simp only at z3); omega)]
      clear k1 k2 k3 k4 k5 hok h hB hno hd hu hl
      go_enter Try.func11, Try.ntmps11
      go_wp2_with (go_at_call 25; refine LT.mono ?_; rintro e u1 ⟨rfl, rfl⟩)
      go_ret
      exact see_no _ HB.out HNO.out
    have hue : s.u = 1 + 1 := by omega
    have HYS : Hid (seeF n s (5, 1) = some ⟨s.d, s.u - 1, s.yes, s.no, s.ship⟩) := by
      show _ = _
      unfold seeF
      rw [if_neg (by simp), if_pos rfl, if_pos ⟨hno, by omega, by rw [hue]; rfl⟩]
    have hT := tr_undone h hB k1 (by omega) (.cells #[.int .i64 5, .int .i64 1] 33)
    rw [show s.u - 1 = 1 by omega] at hT HYS
    have HT := hide hT
    clear hT
    obtain ⟨A, hA⟩ : ∃ A, A = w.alloc (.cells #[.int .i64 5, .int .i64 1] 33) := ⟨_, rfl⟩
    have hTA : Tr B A p bd bu o a c n s := h.below (by rw [hA]; exact (Below.refl _ _).alloc (Nat.le_refl _) _)
    obtain ⟨c6, c7, c8, c9, c10, c11⟩ := hTA.cells
    have cd := hTA.doneAt (show 1 < n by omega)
    have cu := hTA.undoneAt (show 1 < n by omega)
    obtain ⟨-, -, fz⟩ := hTA.frozen 1
    obtain ⟨fy, -, -⟩ := hTA.frozen 11
    have LT := tlater_any hTA k1 k2 hn 1 (by omega)
    rw [hno] at c9
    rw [show decide (1 < s.d) = true by simp; omega] at cd
    rw [show decide (s.u ≤ 1 ∧ 1 < s.d) = false by simp; omega] at cu
    rw [show decide (s.u ≤ 1 + 1) = true by simp; omega] at LT
    rw [hA] at c6 c7 c8 c9 c10 c11 cd cu fz fy LT
    clear hA hTA
    clear k1 k2 k3 k4 k5 hok h hB hno hd hu hl hue
    go_enter Try.func11, Try.ntmps11
    go_wp2_with (go_at_call 25; refine LT.mono ?_; rintro e u1 ⟨rfl, rfl⟩)
    go_ret
    exact see_yes HYS.out HT.out.1 HT.out.2
  · cases hno : s.no
    · obtain ⟨A, hA⟩ : ∃ A, A = w.alloc (.cells #[.int .i64 5, .int .i64 2] 33) := ⟨_, rfl⟩
      have hTA : Tr B A p bd bu o a c n s := h.below (by rw [hA]; exact (Below.refl _ _).alloc (Nat.le_refl _) _)
      obtain ⟨c6, c7, c8, c9, c10, c11⟩ := hTA.cells
      have cd := hTA.doneAt (show 2 < n by omega)
      have cu := hTA.undoneAt (show 2 < n by omega)
      obtain ⟨-, -, fz⟩ := hTA.frozen 2
      obtain ⟨fy, -, -⟩ := hTA.frozen 11
      have LT := tlater_any hTA k1 k2 hn 2 (by omega)
      rw [hno] at c9
      rw [hA] at c6 c7 c8 c9 c10 c11 cd cu fz fy LT
      clear hA hTA
      have HNO : Hid (seeF n s (5, 2) = none) := by
        show _ = _
        unfold seeF
        rw [if_neg (by simp), if_pos rfl, if_neg (by rintro ⟨z1, z2, z3⟩; rw [hno] at z1; cases z1)]
      clear k1 k2 k3 k4 k5 hok h hB hno
      go_enter Try.func11, Try.ntmps11
      go_wp2
      go_ret
      exact see_no _ HB.out HNO.out
    by_cases hd : ¬ 2 < s.d
    · obtain ⟨A, hA⟩ : ∃ A, A = w.alloc (.cells #[.int .i64 5, .int .i64 2] 33) := ⟨_, rfl⟩
      have hTA : Tr B A p bd bu o a c n s := h.below (by rw [hA]; exact (Below.refl _ _).alloc (Nat.le_refl _) _)
      obtain ⟨c6, c7, c8, c9, c10, c11⟩ := hTA.cells
      have cd := hTA.doneAt (show 2 < n by omega)
      have cu := hTA.undoneAt (show 2 < n by omega)
      obtain ⟨-, -, fz⟩ := hTA.frozen 2
      obtain ⟨fy, -, -⟩ := hTA.frozen 11
      have LT := tlater_any hTA k1 k2 hn 2 (by omega)
      rw [hno] at c9
      rw [show decide (2 < s.d) = false by simp; omega] at cd
      rw [hA] at c6 c7 c8 c9 c10 c11 cd cu fz fy LT
      clear hA hTA
      have HNO : Hid (seeF n s (5, 2) = none) := by
        show _ = _
        unfold seeF
        rw [if_neg (by simp), if_pos rfl, if_neg (by rintro ⟨z1, z2, z3⟩; (try simp only at z3); omega)]
      clear k1 k2 k3 k4 k5 hok h hB hno hd
      go_enter Try.func11, Try.ntmps11
      go_wp2
      go_ret
      exact see_no _ HB.out HNO.out
    by_cases hu : s.u ≤ 2
    · obtain ⟨A, hA⟩ : ∃ A, A = w.alloc (.cells #[.int .i64 5, .int .i64 2] 33) := ⟨_, rfl⟩
      have hTA : Tr B A p bd bu o a c n s := h.below (by rw [hA]; exact (Below.refl _ _).alloc (Nat.le_refl _) _)
      obtain ⟨c6, c7, c8, c9, c10, c11⟩ := hTA.cells
      have cd := hTA.doneAt (show 2 < n by omega)
      have cu := hTA.undoneAt (show 2 < n by omega)
      obtain ⟨-, -, fz⟩ := hTA.frozen 2
      obtain ⟨fy, -, -⟩ := hTA.frozen 11
      have LT := tlater_any hTA k1 k2 hn 2 (by omega)
      rw [hno] at c9
      rw [show decide (2 < s.d) = true by simp; omega] at cd
      rw [show decide (s.u ≤ 2 ∧ 2 < s.d) = true by simp; omega] at cu
      rw [hA] at c6 c7 c8 c9 c10 c11 cd cu fz fy LT
      clear hA hTA
      have HNO : Hid (seeF n s (5, 2) = none) := by
        show _ = _
        unfold seeF
        rw [if_neg (by simp), if_pos rfl, if_neg (by rintro ⟨z1, z2, z3⟩; (try simp only at z3); omega)]
      clear k1 k2 k3 k4 k5 hok h hB hno hd hu
      go_enter Try.func11, Try.ntmps11
      go_wp2
      go_ret
      exact see_no _ HB.out HNO.out
    by_cases hl : ¬ s.u ≤ 2 + 1
    · obtain ⟨A, hA⟩ : ∃ A, A = w.alloc (.cells #[.int .i64 5, .int .i64 2] 33) := ⟨_, rfl⟩
      have hTA : Tr B A p bd bu o a c n s := h.below (by rw [hA]; exact (Below.refl _ _).alloc (Nat.le_refl _) _)
      obtain ⟨c6, c7, c8, c9, c10, c11⟩ := hTA.cells
      have cd := hTA.doneAt (show 2 < n by omega)
      have cu := hTA.undoneAt (show 2 < n by omega)
      obtain ⟨-, -, fz⟩ := hTA.frozen 2
      obtain ⟨fy, -, -⟩ := hTA.frozen 11
      have LT := tlater_any hTA k1 k2 hn 2 (by omega)
      rw [hno] at c9
      rw [show decide (2 < s.d) = true by simp; omega] at cd
      rw [show decide (s.u ≤ 2 ∧ 2 < s.d) = false by simp; omega] at cu
      rw [show decide (s.u ≤ 2 + 1) = false by simp; omega] at LT
      rw [hA] at c6 c7 c8 c9 c10 c11 cd cu fz fy LT
      clear hA hTA
      have HNO : Hid (seeF n s (5, 2) = none) := by
        show _ = _
        unfold seeF
        rw [if_neg (by simp), if_pos rfl, if_neg (by rintro ⟨z1, z2, z3⟩; (try simp only at z3); omega)]
      clear k1 k2 k3 k4 k5 hok h hB hno hd hu hl
      go_enter Try.func11, Try.ntmps11
      go_wp2_with (go_at_call 25; refine LT.mono ?_; rintro e u1 ⟨rfl, rfl⟩)
      go_ret
      exact see_no _ HB.out HNO.out
    have hue : s.u = 2 + 1 := by omega
    have HYS : Hid (seeF n s (5, 2) = some ⟨s.d, s.u - 1, s.yes, s.no, s.ship⟩) := by
      show _ = _
      unfold seeF
      rw [if_neg (by simp), if_pos rfl, if_pos ⟨hno, by omega, by rw [hue]; rfl⟩]
    have hT := tr_undone h hB k1 (by omega) (.cells #[.int .i64 5, .int .i64 2] 33)
    rw [show s.u - 1 = 2 by omega] at hT HYS
    have HT := hide hT
    clear hT
    obtain ⟨A, hA⟩ : ∃ A, A = w.alloc (.cells #[.int .i64 5, .int .i64 2] 33) := ⟨_, rfl⟩
    have hTA : Tr B A p bd bu o a c n s := h.below (by rw [hA]; exact (Below.refl _ _).alloc (Nat.le_refl _) _)
    obtain ⟨c6, c7, c8, c9, c10, c11⟩ := hTA.cells
    have cd := hTA.doneAt (show 2 < n by omega)
    have cu := hTA.undoneAt (show 2 < n by omega)
    obtain ⟨-, -, fz⟩ := hTA.frozen 2
    obtain ⟨fy, -, -⟩ := hTA.frozen 11
    have LT := tlater_any hTA k1 k2 hn 2 (by omega)
    rw [hno] at c9
    rw [show decide (2 < s.d) = true by simp; omega] at cd
    rw [show decide (s.u ≤ 2 ∧ 2 < s.d) = false by simp; omega] at cu
    rw [show decide (s.u ≤ 2 + 1) = true by simp; omega] at LT
    rw [hA] at c6 c7 c8 c9 c10 c11 cd cu fz fy LT
    clear hA hTA
    clear k1 k2 k3 k4 k5 hok h hB hno hd hu hl hue
    go_enter Try.func11, Try.ntmps11
    go_wp2_with (go_at_call 25; refine LT.mono ?_; rintro e u1 ⟨rfl, rfl⟩)
    go_ret
    exact see_yes HYS.out HT.out.1 HT.out.2
end Go.Proofs.Ytdoejppnifoebaa
