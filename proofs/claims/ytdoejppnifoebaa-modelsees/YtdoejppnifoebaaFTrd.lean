/-
  See of the reference's Trace: the other kinds; the reference's Legal.
-/
import Derived.Test.YtdoejppnifoebaaFTra
import Derived.Test.YtdoejppnifoebaaFTrb
namespace Go.Proofs.Ytdoejppnifoebaa
open Go.ChangeShapes Go.WideShapes Go.ChangeAt Go.RowKit

set_option maxRecDepth 100000 in
set_option maxHeartbeats 4000000 in
theorem see_commits {B : Nat} {w : World} {p bd bu : Nat} {o : Od} {a : Option Addr} {c n : Nat} {s : Fs} (h : Tr B w p bd bu o a c n s) (hok : Fok n s) (hn : n ≤ 3) (hB : B ≤ w.heap.size) (x2 : Int) :
    Calls Try.prog 11 #[.pointer (some ⟨p, 0, none⟩), .agg #[.int .i64 13, .int .i64 x2]] w (SeeR B w p bd bu o a c n s (13, x2)) := by
  obtain ⟨k1, k2, k3, k4, k5⟩ := id hok
  have HB := hide hB
  by_cases hx : ¬ x2 = 0
  · have qx : (x2 != 0) = true := by simpa using hx
    obtain ⟨A, hA⟩ : ∃ A, A = w.alloc (.cells #[.int .i64 13, .int .i64 x2] 33) := ⟨_, rfl⟩
    have hTA : Tr B A p bd bu o a c n s := h.below (by rw [hA]; exact (Below.refl _ _).alloc (Nat.le_refl _) _)
    obtain ⟨c6, c7, c8, c9, c10, c11⟩ := hTA.cells
    obtain ⟨fz, -, -⟩ := hTA.frozen 8
    have LT := tall_any hTA k2 hn
    rw [hA] at c6 c7 c8 c9 c10 c11 fz LT
    clear hA hTA
    have HNO : Hid (seeF n s (13, x2) = none) := by
      show _ = _
      unfold seeF
      rw [if_neg (by simp), if_neg (by simp), if_pos rfl, if_neg (by rintro ⟨z1, z2, z3, z4, z5⟩; exact hx z1)]
    clear k1 k2 k3 k4 k5 hok h hB hx
    go_enter Try.func11, Try.ntmps11
    go_wp2
    all_goals go_ret
    all_goals exact see_no _ HB.out HNO.out
  obtain rfl : x2 = 0 := by omega
  cases hy : s.yes
  rotate_left
  · obtain ⟨A, hA⟩ : ∃ A, A = w.alloc (.cells #[.int .i64 13, .int .i64 0] 33) := ⟨_, rfl⟩
    have hTA : Tr B A p bd bu o a c n s := h.below (by rw [hA]; exact (Below.refl _ _).alloc (Nat.le_refl _) _)
    obtain ⟨c6, c7, c8, c9, c10, c11⟩ := hTA.cells
    obtain ⟨fz, -, -⟩ := hTA.frozen 8
    have LT := tall_any hTA k2 hn
    rw [hy] at c8
    rw [hA] at c6 c7 c8 c9 c10 c11 fz LT
    clear hA hTA
    have HNO : Hid (seeF n s (13, 0) = none) := by
      show _ = _
      unfold seeF
      rw [if_neg (by simp), if_neg (by simp), if_pos rfl, if_neg (by rintro ⟨z1, z2, z3, z4, z5⟩; rw [hy] at z2; cases z2)]
    clear k1 k2 k3 k4 k5 hok h hB hy
    go_enter Try.func11, Try.ntmps11
    go_wp2_with (go_at_call 26; refine LT.mono ?_; rintro e u1 ⟨rfl, rfl⟩)
    go_ret
    exact see_no _ HB.out HNO.out
  cases hno : s.no
  rotate_left
  · obtain ⟨A, hA⟩ : ∃ A, A = w.alloc (.cells #[.int .i64 13, .int .i64 0] 33) := ⟨_, rfl⟩
    have hTA : Tr B A p bd bu o a c n s := h.below (by rw [hA]; exact (Below.refl _ _).alloc (Nat.le_refl _) _)
    obtain ⟨c6, c7, c8, c9, c10, c11⟩ := hTA.cells
    obtain ⟨fz, -, -⟩ := hTA.frozen 8
    have LT := tall_any hTA k2 hn
    rw [hy] at c8
    rw [hno] at c9
    rw [hA] at c6 c7 c8 c9 c10 c11 fz LT
    clear hA hTA
    have HNO : Hid (seeF n s (13, 0) = none) := by
      show _ = _
      unfold seeF
      rw [if_neg (by simp), if_neg (by simp), if_pos rfl, if_neg (by rintro ⟨z1, z2, z3, z4, z5⟩; rw [hno] at z3; cases z3)]
    clear k1 k2 k3 k4 k5 hok h hB hy hno
    go_enter Try.func11, Try.ntmps11
    go_wp2_with (go_at_call 26; refine LT.mono ?_; rintro e u1 ⟨rfl, rfl⟩)
    go_ret
    exact see_no _ HB.out HNO.out
  by_cases ha : s.u < s.d
  · obtain ⟨A, hA⟩ : ∃ A, A = w.alloc (.cells #[.int .i64 13, .int .i64 0] 33) := ⟨_, rfl⟩
    have hTA : Tr B A p bd bu o a c n s := h.below (by rw [hA]; exact (Below.refl _ _).alloc (Nat.le_refl _) _)
    obtain ⟨c6, c7, c8, c9, c10, c11⟩ := hTA.cells
    obtain ⟨fz, -, -⟩ := hTA.frozen 8
    have LT := tall_any hTA k2 hn
    rw [hy] at c8
    rw [hno] at c9
    rw [show decide (s.u < s.d) = true by simp; omega] at c11
    rw [hA] at c6 c7 c8 c9 c10 c11 fz LT
    clear hA hTA
    have HNO : Hid (seeF n s (13, 0) = none) := by
      show _ = _
      unfold seeF
      rw [if_neg (by simp), if_neg (by simp), if_pos rfl, if_neg (by rintro ⟨z1, z2, z3, z4, z5⟩; omega)]
    clear k1 k2 k3 k4 k5 hok h hB hy hno ha
    go_enter Try.func11, Try.ntmps11
    go_wp2_with (go_at_call 26; refine LT.mono ?_; rintro e u1 ⟨rfl, rfl⟩)
    go_ret
    exact see_no _ HB.out HNO.out
  by_cases hd : ¬ s.d = n
  · obtain ⟨A, hA⟩ : ∃ A, A = w.alloc (.cells #[.int .i64 13, .int .i64 0] 33) := ⟨_, rfl⟩
    have hTA : Tr B A p bd bu o a c n s := h.below (by rw [hA]; exact (Below.refl _ _).alloc (Nat.le_refl _) _)
    obtain ⟨c6, c7, c8, c9, c10, c11⟩ := hTA.cells
    obtain ⟨fz, -, -⟩ := hTA.frozen 8
    have LT := tall_any hTA k2 hn
    rw [hy] at c8
    rw [hno] at c9
    rw [show decide (s.u < s.d) = false by simp; omega] at c11
    rw [show decide (s.d = n) = false by simp; omega] at LT
    rw [hA] at c6 c7 c8 c9 c10 c11 fz LT
    clear hA hTA
    have HNO : Hid (seeF n s (13, 0) = none) := by
      show _ = _
      unfold seeF
      rw [if_neg (by simp), if_neg (by simp), if_pos rfl, if_neg (by rintro ⟨z1, z2, z3, z4, z5⟩; exact hd z4)]
    clear k1 k2 k3 k4 k5 hok h hB hy hno ha hd
    go_enter Try.func11, Try.ntmps11
    go_wp2_with (go_at_call 26; refine LT.mono ?_; rintro e u1 ⟨rfl, rfl⟩)
    go_ret
    exact see_no _ HB.out HNO.out
  have HYS : Hid (seeF n s (13, 0) = some ⟨s.d, s.u, true, s.no, s.ship⟩) := by
    show _ = _
    unfold seeF
    rw [if_neg (by simp), if_neg (by simp), if_pos rfl, if_pos ⟨rfl, hy, hno, by omega, by omega⟩]
  have HT := hide (tr_yes h hB (.cells #[.int .i64 13, .int .i64 0] 33))
  obtain ⟨A, hA⟩ : ∃ A, A = w.alloc (.cells #[.int .i64 13, .int .i64 0] 33) := ⟨_, rfl⟩
  have hTA : Tr B A p bd bu o a c n s := h.below (by rw [hA]; exact (Below.refl _ _).alloc (Nat.le_refl _) _)
  obtain ⟨c6, c7, c8, c9, c10, c11⟩ := hTA.cells
  obtain ⟨fz, -, -⟩ := hTA.frozen 8
  have LT := tall_any hTA k2 hn
  rw [hy] at c8
  rw [hno] at c9
  rw [show decide (s.u < s.d) = false by simp; omega] at c11
  rw [show decide (s.d = n) = true by simp; omega] at LT
  rw [hA] at c6 c7 c8 c9 c10 c11 fz LT
  clear hA hTA k1 k2 k3 k4 k5 hok h hB hy hno ha hd
  go_enter Try.func11, Try.ntmps11
  go_wp2_with (go_at_call 26; refine LT.mono ?_; rintro e u1 ⟨rfl, rfl⟩)
  go_ret
  exact see_yes HYS.out HT.out.1 HT.out.2

set_option maxRecDepth 100000 in
set_option maxHeartbeats 4000000 in
theorem see_aborts {B : Nat} {w : World} {p bd bu : Nat} {o : Od} {a : Option Addr} {c n : Nat} {s : Fs} (h : Tr B w p bd bu o a c n s) (hok : Fok n s) (_hn : n ≤ 3) (hB : B ≤ w.heap.size) (x2 : Int) :
    Calls Try.prog 11 #[.pointer (some ⟨p, 0, none⟩), .agg #[.int .i64 14, .int .i64 x2]] w (SeeR B w p bd bu o a c n s (14, x2)) := by
  obtain ⟨k1, k2, k3, k4, k5⟩ := id hok
  have HB := hide hB
  by_cases hx : ¬ x2 = 0
  · have qx : (x2 != 0) = true := by simpa using hx
    obtain ⟨A, hA⟩ : ∃ A, A = w.alloc (.cells #[.int .i64 14, .int .i64 x2] 33) := ⟨_, rfl⟩
    have hTA : Tr B A p bd bu o a c n s := h.below (by rw [hA]; exact (Below.refl _ _).alloc (Nat.le_refl _) _)
    obtain ⟨c6, c7, c8, c9, c10, c11⟩ := hTA.cells
    obtain ⟨fz, -, -⟩ := hTA.frozen 9
    rw [hA] at c6 c7 c8 c9 c10 c11 fz
    clear hA hTA
    have HNO : Hid (seeF n s (14, x2) = none) := by
      show _ = _
      unfold seeF
      rw [if_neg (by simp), if_neg (by simp), if_neg (by simp), if_pos rfl, if_neg (by rintro ⟨z1, z2, z3⟩; exact hx z1)]
    clear k1 k2 k3 k4 k5 hok h hB hx
    go_enter Try.func11, Try.ntmps11
    go_wp2
    all_goals go_ret
    all_goals exact see_no _ HB.out HNO.out
  obtain rfl : x2 = 0 := by omega
  cases hy : s.yes
  rotate_left
  · obtain ⟨A, hA⟩ : ∃ A, A = w.alloc (.cells #[.int .i64 14, .int .i64 0] 33) := ⟨_, rfl⟩
    have hTA : Tr B A p bd bu o a c n s := h.below (by rw [hA]; exact (Below.refl _ _).alloc (Nat.le_refl _) _)
    obtain ⟨c6, c7, c8, c9, c10, c11⟩ := hTA.cells
    obtain ⟨fz, -, -⟩ := hTA.frozen 9
    rw [hy] at c8
    rw [hA] at c6 c7 c8 c9 c10 c11 fz
    clear hA hTA
    have HNO : Hid (seeF n s (14, 0) = none) := by
      show _ = _
      unfold seeF
      rw [if_neg (by simp), if_neg (by simp), if_neg (by simp), if_pos rfl, if_neg (by rintro ⟨z1, z2, z3⟩; rw [hy] at z2; cases z2)]
    clear k1 k2 k3 k4 k5 hok h hB hy
    go_enter Try.func11, Try.ntmps11
    go_wp2
    go_ret
    exact see_no _ HB.out HNO.out
  cases hno : s.no
  rotate_left
  · obtain ⟨A, hA⟩ : ∃ A, A = w.alloc (.cells #[.int .i64 14, .int .i64 0] 33) := ⟨_, rfl⟩
    have hTA : Tr B A p bd bu o a c n s := h.below (by rw [hA]; exact (Below.refl _ _).alloc (Nat.le_refl _) _)
    obtain ⟨c6, c7, c8, c9, c10, c11⟩ := hTA.cells
    obtain ⟨fz, -, -⟩ := hTA.frozen 9
    rw [hy] at c8
    rw [hno] at c9
    rw [hA] at c6 c7 c8 c9 c10 c11 fz
    clear hA hTA
    have HNO : Hid (seeF n s (14, 0) = none) := by
      show _ = _
      unfold seeF
      rw [if_neg (by simp), if_neg (by simp), if_neg (by simp), if_pos rfl, if_neg (by rintro ⟨z1, z2, z3⟩; rw [hno] at z3; cases z3)]
    clear k1 k2 k3 k4 k5 hok h hB hy hno
    go_enter Try.func11, Try.ntmps11
    go_wp2
    go_ret
    exact see_no _ HB.out HNO.out
  have HYS : Hid (seeF n s (14, 0) = some ⟨s.d, s.u, s.yes, true, s.ship⟩) := by
    show _ = _
    unfold seeF
    rw [if_neg (by simp), if_neg (by simp), if_neg (by simp), if_pos rfl, if_pos ⟨rfl, hy, hno⟩]
  have HT := hide (tr_no h hB (.cells #[.int .i64 14, .int .i64 0] 33))
  obtain ⟨A, hA⟩ : ∃ A, A = w.alloc (.cells #[.int .i64 14, .int .i64 0] 33) := ⟨_, rfl⟩
  have hTA : Tr B A p bd bu o a c n s := h.below (by rw [hA]; exact (Below.refl _ _).alloc (Nat.le_refl _) _)
  obtain ⟨c6, c7, c8, c9, c10, c11⟩ := hTA.cells
  obtain ⟨fz, -, -⟩ := hTA.frozen 9
  rw [hy] at c8
  rw [hno] at c9
  rw [hA] at c6 c7 c8 c9 c10 c11 fz
  clear hA hTA k1 k2 k3 k4 k5 hok h hB hy hno
  go_enter Try.func11, Try.ntmps11
  go_wp2
  go_ret
  exact see_yes HYS.out HT.out.1 HT.out.2

set_option maxRecDepth 100000 in
set_option maxHeartbeats 4000000 in
theorem see_shipped {B : Nat} {w : World} {p bd bu : Nat} {o : Od} {a : Option Addr} {c n : Nat} {s : Fs} (h : Tr B w p bd bu o a c n s) (hok : Fok n s) (_hn : n ≤ 3) (hB : B ≤ w.heap.size) (x2 : Int) :
    Calls Try.prog 11 #[.pointer (some ⟨p, 0, none⟩), .agg #[.int .i64 16, .int .i64 x2]] w (SeeR B w p bd bu o a c n s (16, x2)) := by
  obtain ⟨k1, k2, k3, k4, k5⟩ := id hok
  have HB := hide hB
  by_cases hx : ¬ x2 = 0
  · have qx : (x2 != 0) = true := by simpa using hx
    obtain ⟨A, hA⟩ : ∃ A, A = w.alloc (.cells #[.int .i64 16, .int .i64 x2] 33) := ⟨_, rfl⟩
    have hTA : Tr B A p bd bu o a c n s := h.below (by rw [hA]; exact (Below.refl _ _).alloc (Nat.le_refl _) _)
    obtain ⟨c6, c7, c8, c9, c10, c11⟩ := hTA.cells
    obtain ⟨fz, -, -⟩ := hTA.frozen 10
    rw [hA] at c6 c7 c8 c9 c10 c11 fz
    clear hA hTA
    have HNO : Hid (seeF n s (16, x2) = none) := by
      show _ = _
      unfold seeF
      rw [if_neg (by simp), if_neg (by simp), if_neg (by simp), if_neg (by simp), if_pos rfl, if_neg (by rintro ⟨z1, z2, z3⟩; exact hx z1)]
    clear k1 k2 k3 k4 k5 hok h hB hx
    go_enter Try.func11, Try.ntmps11
    go_wp2
    all_goals go_ret
    all_goals exact see_no _ HB.out HNO.out
  obtain rfl : x2 = 0 := by omega
  cases hy : s.yes
  · obtain ⟨A, hA⟩ : ∃ A, A = w.alloc (.cells #[.int .i64 16, .int .i64 0] 33) := ⟨_, rfl⟩
    have hTA : Tr B A p bd bu o a c n s := h.below (by rw [hA]; exact (Below.refl _ _).alloc (Nat.le_refl _) _)
    obtain ⟨c6, c7, c8, c9, c10, c11⟩ := hTA.cells
    obtain ⟨fz, -, -⟩ := hTA.frozen 10
    rw [hy] at c8
    rw [hA] at c6 c7 c8 c9 c10 c11 fz
    clear hA hTA
    have HNO : Hid (seeF n s (16, 0) = none) := by
      show _ = _
      unfold seeF
      rw [if_neg (by simp), if_neg (by simp), if_neg (by simp), if_neg (by simp), if_pos rfl, if_neg (by rintro ⟨z1, z2, z3⟩; rw [hy] at z2; cases z2)]
    clear k1 k2 k3 k4 k5 hok h hB hy
    go_enter Try.func11, Try.ntmps11
    go_wp2
    go_ret
    exact see_no _ HB.out HNO.out
  cases hg : s.ship
  rotate_left
  · obtain ⟨A, hA⟩ : ∃ A, A = w.alloc (.cells #[.int .i64 16, .int .i64 0] 33) := ⟨_, rfl⟩
    have hTA : Tr B A p bd bu o a c n s := h.below (by rw [hA]; exact (Below.refl _ _).alloc (Nat.le_refl _) _)
    obtain ⟨c6, c7, c8, c9, c10, c11⟩ := hTA.cells
    obtain ⟨fz, -, -⟩ := hTA.frozen 10
    rw [hy] at c8
    rw [hg] at c10
    rw [hA] at c6 c7 c8 c9 c10 c11 fz
    clear hA hTA
    have HNO : Hid (seeF n s (16, 0) = none) := by
      show _ = _
      unfold seeF
      rw [if_neg (by simp), if_neg (by simp), if_neg (by simp), if_neg (by simp), if_pos rfl, if_neg (by rintro ⟨z1, z2, z3⟩; rw [hg] at z3; cases z3)]
    clear k1 k2 k3 k4 k5 hok h hB hy hg
    go_enter Try.func11, Try.ntmps11
    go_wp2
    go_ret
    exact see_no _ HB.out HNO.out
  have HYS : Hid (seeF n s (16, 0) = some ⟨s.d, s.u, s.yes, s.no, true⟩) := by
    show _ = _
    unfold seeF
    rw [if_neg (by simp), if_neg (by simp), if_neg (by simp), if_neg (by simp), if_pos rfl, if_pos ⟨rfl, hy, hg⟩]
  have HT := hide (tr_ship h hB (.cells #[.int .i64 16, .int .i64 0] 33))
  obtain ⟨A, hA⟩ : ∃ A, A = w.alloc (.cells #[.int .i64 16, .int .i64 0] 33) := ⟨_, rfl⟩
  have hTA : Tr B A p bd bu o a c n s := h.below (by rw [hA]; exact (Below.refl _ _).alloc (Nat.le_refl _) _)
  obtain ⟨c6, c7, c8, c9, c10, c11⟩ := hTA.cells
  obtain ⟨fz, -, -⟩ := hTA.frozen 10
  rw [hy] at c8
  rw [hg] at c10
  rw [hA] at c6 c7 c8 c9 c10 c11 fz
  clear hA hTA k1 k2 k3 k4 k5 hok h hB hy hg
  go_enter Try.func11, Try.ntmps11
  go_wp2
  go_ret
  exact see_yes HYS.out HT.out.1 HT.out.2

set_option maxRecDepth 100000 in
set_option maxHeartbeats 4000000 in
theorem see_other {B : Nat} {w : World} {p bd bu : Nat} {o : Od} {a : Option Addr} {c n : Nat} {s : Fs} (h : Tr B w p bd bu o a c n s) (hB : B ≤ w.heap.size) (x1 x2 : Int) (h2 : x1 ≠ 2) (h5 : x1 ≠ 5) (h13 : x1 ≠ 13) (h14 : x1 ≠ 14) (h16 : x1 ≠ 16) :
    Calls Try.prog 11 #[.pointer (some ⟨p, 0, none⟩), .agg #[.int .i64 x1, .int .i64 x2]] w (SeeR B w p bd bu o a c n s (x1, x2)) := by
  have HB := hide hB
  have HNO : Hid (seeF n s (x1, x2) = none) := by
    show _ = _
    unfold seeF
    rw [if_neg h2, if_neg h5, if_neg h13, if_neg h14, if_neg h16]
  have q2 : (x1 == 2) = false := by simpa using h2
  have q5 : (x1 == 5) = false := by simpa using h5
  have q13 : (x1 == 13) = false := by simpa using h13
  have q14 : (x1 == 14) = false := by simpa using h14
  have q16 : (x1 == 16) = false := by simpa using h16
  obtain ⟨A, hA⟩ : ∃ A, A = w.alloc (.cells #[.int .i64 x1, .int .i64 x2] 33) := ⟨_, rfl⟩
  have hTA : Tr B A p bd bu o a c n s := h.below (by rw [hA]; exact (Below.refl _ _).alloc (Nat.le_refl _) _)
  obtain ⟨c6, -⟩ := hTA.cells
  rw [hA] at c6
  clear hA hTA h hB h2 h5 h13 h14 h16
  by_cases hx : x2 ≥ 0
  · go_enter Try.func11, Try.ntmps11
    go_wp2
    go_ret
    exact see_no _ HB.out HNO.out
  · go_enter Try.func11, Try.ntmps11
    go_wp2
    go_ret
    exact see_no _ HB.out HNO.out

theorem see_any {B : Nat} {w : World} {p bd bu : Nat} {o : Od} {a : Option Addr} {c n : Nat} {s : Fs} (h : Tr B w p bd bu o a c n s) (hok : Fok n s) (hn : n ≤ 3) (hB : B ≤ w.heap.size) (x1 x2 : Int) :
    Calls Try.prog 11 #[.pointer (some ⟨p, 0, none⟩), .agg #[.int .i64 x1, .int .i64 x2]] w (SeeR B w p bd bu o a c n s (x1, x2)) := by
  by_cases h2 : x1 = 2
  · subst h2; exact see_done h hok hn hB x2
  by_cases h5 : x1 = 5
  · subst h5; exact see_undone h hok hn hB x2
  by_cases h13 : x1 = 13
  · subst h13; exact see_commits h hok hn hB x2
  by_cases h14 : x1 = 14
  · subst h14; exact see_aborts h hok hn hB x2
  by_cases h16 : x1 = 16
  · subst h16; exact see_shipped h hok hn hB x2
  exact see_other h hB x1 x2 h2 h5 h13 h14 h16
end Go.Proofs.Ytdoejppnifoebaa
