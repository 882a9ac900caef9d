/-
  See of the reference's Trace: MDone.
-/
import Derived.Test.YtdoejppnifoebaaFTrs
namespace Go.Proofs.Ytdoejppnifoebaa
open Go.ChangeShapes Go.WideShapes Go.ChangeAt Go.RowKit

set_option maxRecDepth 100000 in
set_option maxHeartbeats 4000000 in
theorem see_done {B : Nat} {w : World} {p bd bu : Nat} {o : Od} {a : Option Addr} {c n : Nat} {s : Fs} (h : Tr B w p bd bu o a c n s) (hok : Fok n s) (hn : n ≤ 3) (hB : B ≤ w.heap.size) (x2 : Int) :
    Calls Try.prog 11 #[.pointer (some ⟨p, 0, none⟩), .agg #[.int .i64 2, .int .i64 x2]] w (SeeR B w p bd bu o a c n s (2, x2)) := by
  obtain ⟨k1, k2, k3, k4, k5⟩ := id hok
  have HB := hide hB
  by_cases hneg : x2 < 0
  · have q0 : ¬ x2 ≥ 0 := by omega
    obtain ⟨A, hA⟩ : ∃ A, A = w.alloc (.cells #[.int .i64 2, .int .i64 x2] 33) := ⟨_, rfl⟩
    have hTA : Tr B A p bd bu o a c n s := h.below (by rw [hA]; exact (Below.refl _ _).alloc (Nat.le_refl _) _)
    obtain ⟨c6, c7, c8, c9, c10, c11⟩ := hTA.cells
    rw [hA] at c6 c7 c8 c9 c10 c11
    clear hA hTA
    have HNO : Hid (seeF n s (2, x2) = none) := by
      show _ = _
      unfold seeF
      rw [if_pos rfl, if_neg (by rintro ⟨z1, z2, z3, z4⟩; (try simp only at z1); omega)]
    clear k1 k2 k3 k4 k5 hok h hB
    go_enter Try.func11, Try.ntmps11
    go_wp2
    go_ret
    exact see_no _ HB.out HNO.out
  have q0 : x2 ≥ 0 := by omega
  by_cases hbig : ¬ x2 < (n : Int)
  · have q1 : ¬ x2 < (n : Int) := hbig
    obtain ⟨A, hA⟩ : ∃ A, A = w.alloc (.cells #[.int .i64 2, .int .i64 x2] 33) := ⟨_, rfl⟩
    have hTA : Tr B A p bd bu o a c n s := h.below (by rw [hA]; exact (Below.refl _ _).alloc (Nat.le_refl _) _)
    obtain ⟨c6, c7, c8, c9, c10, c11⟩ := hTA.cells
    rw [hA] at c6 c7 c8 c9 c10 c11
    clear hA hTA
    have HNO : Hid (seeF n s (2, x2) = none) := by
      show _ = _
      unfold seeF
      rw [if_pos rfl, if_neg (by rintro ⟨z1, z2, z3, z4⟩; (try simp only at z1); omega)]
    clear k1 k2 k3 k4 k5 hok h hB
    go_enter Try.func11, Try.ntmps11
    go_wp2
    go_ret
    exact see_no _ HB.out HNO.out
  have q1 : x2 < (n : Int) := by omega
  obtain rfl | rfl | rfl : x2 = 0 ∨ x2 = 1 ∨ x2 = 2 := by omega
  · by_cases hd : 0 < s.d
    · obtain ⟨A, hA⟩ : ∃ A, A = w.alloc (.cells #[.int .i64 2, .int .i64 0] 33) := ⟨_, rfl⟩
      have hTA : Tr B A p bd bu o a c n s := h.below (by rw [hA]; exact (Below.refl _ _).alloc (Nat.le_refl _) _)
      obtain ⟨c6, c7, c8, c9, c10, c11⟩ := hTA.cells
      have cd := hTA.doneAt (show 0 < n by omega)
      obtain ⟨-, fz, -⟩ := hTA.frozen 0
      rw [show decide (0 < s.d) = true by simp; omega] at cd
      rw [hA] at c6 c7 c8 c9 c10 c11 cd fz
      clear hA hTA 
      have HNO : Hid (seeF n s (2, 0) = none) := by
        show _ = _
        unfold seeF
        rw [if_pos rfl, if_neg (by rintro ⟨z1, z2, z3, z4⟩; (try simp only at z1); omega)]
      clear k1 k2 k3 k4 k5 hok h hB hd
      go_enter Try.func11, Try.ntmps11
      go_wp2
      go_ret
      exact see_no _ HB.out HNO.out
    cases hy : s.yes
    rotate_left
    · obtain ⟨A, hA⟩ : ∃ A, A = w.alloc (.cells #[.int .i64 2, .int .i64 0] 33) := ⟨_, rfl⟩
      have hTA : Tr B A p bd bu o a c n s := h.below (by rw [hA]; exact (Below.refl _ _).alloc (Nat.le_refl _) _)
      obtain ⟨c6, c7, c8, c9, c10, c11⟩ := hTA.cells
      have cd := hTA.doneAt (show 0 < n by omega)
      obtain ⟨-, fz, -⟩ := hTA.frozen 0
      rw [hy] at c8
      rw [show decide (0 < s.d) = false by simp; omega] at cd
      rw [hA] at c6 c7 c8 c9 c10 c11 cd fz
      clear hA hTA 
      have HNO : Hid (seeF n s (2, 0) = none) := by
        show _ = _
        unfold seeF
        rw [if_pos rfl, if_neg (by rintro ⟨z1, z2, z3, z4⟩; (try simp only at z3); rw [hy] at z3; cases z3)]
      clear k1 k2 k3 k4 k5 hok h hB hd hy
      go_enter Try.func11, Try.ntmps11
      go_wp2
      go_ret
      exact see_no _ HB.out HNO.out
    by_cases ha : s.u < s.d
    · obtain ⟨A, hA⟩ : ∃ A, A = w.alloc (.cells #[.int .i64 2, .int .i64 0] 33) := ⟨_, rfl⟩
      have hTA : Tr B A p bd bu o a c n s := h.below (by rw [hA]; exact (Below.refl _ _).alloc (Nat.le_refl _) _)
      obtain ⟨c6, c7, c8, c9, c10, c11⟩ := hTA.cells
      have cd := hTA.doneAt (show 0 < n by omega)
      obtain ⟨-, fz, -⟩ := hTA.frozen 0
      rw [hy] at c8
      rw [show decide (0 < s.d) = false by simp; omega] at cd
      rw [show decide (s.u < s.d) = true by simpa using ha] at c11
      rw [hA] at c6 c7 c8 c9 c10 c11 cd fz
      clear hA hTA 
      have HNO : Hid (seeF n s (2, 0) = none) := by
        show _ = _
        unfold seeF
        rw [if_pos rfl, if_neg (by rintro ⟨z1, z2, z3, z4⟩; (try simp only at z4); omega)]
      clear k1 k2 k3 k4 k5 hok h hB hd hy ha
      go_enter Try.func11, Try.ntmps11
      go_wp2
      go_ret
      exact see_no _ HB.out HNO.out
    have hde : s.d = 0 := by omega
    have hue : s.u = s.d := by omega
    have HYS : Hid (seeF n s (2, 0) = some ⟨s.d + 1, s.u + 1, s.yes, s.no, s.ship⟩) := by
      show _ = _
      unfold seeF
      rw [if_pos rfl, if_pos ⟨by rw [hde]; rfl, by omega, hy, hue⟩]
    have hT := tr_done h hB hue (.cells #[.int .i64 2, .int .i64 0] 33)
    rw [hde] at hT
    rw [hde] at HYS
    have HT := hide hT
    clear hT
    obtain ⟨A, hA⟩ : ∃ A, A = w.alloc (.cells #[.int .i64 2, .int .i64 0] 33) := ⟨_, rfl⟩
    have hTA : Tr B A p bd bu o a c n s := h.below (by rw [hA]; exact (Below.refl _ _).alloc (Nat.le_refl _) _)
    obtain ⟨c6, c7, c8, c9, c10, c11⟩ := hTA.cells
    have cd := hTA.doneAt (show 0 < n by omega)
    obtain ⟨-, fz, -⟩ := hTA.frozen 0
    rw [hy] at c8
    rw [show decide (0 < s.d) = false by simp; omega] at cd
    rw [show decide (s.u < s.d) = false by simpa using ha] at c11
    rw [hA] at c6 c7 c8 c9 c10 c11 cd fz
    clear hA hTA 
    clear k1 k2 k3 k4 k5 hok h hB hd hy ha hue hde
    go_enter Try.func11, Try.ntmps11
    go_wp2
    go_ret
    exact see_yes HYS.out HT.out.1 HT.out.2
  · by_cases hd : 1 < s.d
    · obtain ⟨A, hA⟩ : ∃ A, A = w.alloc (.cells #[.int .i64 2, .int .i64 1] 33) := ⟨_, rfl⟩
      have hTA : Tr B A p bd bu o a c n s := h.below (by rw [hA]; exact (Below.refl _ _).alloc (Nat.le_refl _) _)
      obtain ⟨c6, c7, c8, c9, c10, c11⟩ := hTA.cells
      have cd := hTA.doneAt (show 1 < n by omega)
      have ce := hTA.doneAt (show 0 < n by omega)
      obtain ⟨-, fz, -⟩ := hTA.frozen 1
      rw [show decide (1 < s.d) = true by simp; omega] at cd
      rw [hA] at c6 c7 c8 c9 c10 c11 cd ce fz
      clear hA hTA 
      have HNO : Hid (seeF n s (2, 1) = none) := by
        show _ = _
        unfold seeF
        rw [if_pos rfl, if_neg (by rintro ⟨z1, z2, z3, z4⟩; (try simp only at z1); omega)]
      clear k1 k2 k3 k4 k5 hok h hB hd
      go_enter Try.func11, Try.ntmps11
      go_wp2
      go_ret
      exact see_no _ HB.out HNO.out
    by_cases he : ¬ 0 < s.d
    · obtain ⟨A, hA⟩ : ∃ A, A = w.alloc (.cells #[.int .i64 2, .int .i64 1] 33) := ⟨_, rfl⟩
      have hTA : Tr B A p bd bu o a c n s := h.below (by rw [hA]; exact (Below.refl _ _).alloc (Nat.le_refl _) _)
      obtain ⟨c6, c7, c8, c9, c10, c11⟩ := hTA.cells
      have cd := hTA.doneAt (show 1 < n by omega)
      have ce := hTA.doneAt (show 0 < n by omega)
      obtain ⟨-, fz, -⟩ := hTA.frozen 1
      rw [show decide (1 < s.d) = false by simp; omega] at cd
      rw [show decide (0 < s.d) = false by simp; omega] at ce
      rw [hA] at c6 c7 c8 c9 c10 c11 cd ce fz
      clear hA hTA 
      have HNO : Hid (seeF n s (2, 1) = none) := by
        show _ = _
        unfold seeF
        rw [if_pos rfl, if_neg (by rintro ⟨z1, z2, z3, z4⟩; (try simp only at z1); omega)]
      clear k1 k2 k3 k4 k5 hok h hB hd he
      go_enter Try.func11, Try.ntmps11
      go_wp2
      go_ret
      exact see_no _ HB.out HNO.out
    cases hy : s.yes
    rotate_left
    · obtain ⟨A, hA⟩ : ∃ A, A = w.alloc (.cells #[.int .i64 2, .int .i64 1] 33) := ⟨_, rfl⟩
      have hTA : Tr B A p bd bu o a c n s := h.below (by rw [hA]; exact (Below.refl _ _).alloc (Nat.le_refl _) _)
      obtain ⟨c6, c7, c8, c9, c10, c11⟩ := hTA.cells
      have cd := hTA.doneAt (show 1 < n by omega)
      have ce := hTA.doneAt (show 0 < n by omega)
      obtain ⟨-, fz, -⟩ := hTA.frozen 1
      rw [hy] at c8
      rw [show decide (1 < s.d) = false by simp; omega] at cd
      rw [show decide (0 < s.d) = true by simp; omega] at ce
      rw [hA] at c6 c7 c8 c9 c10 c11 cd ce fz
      clear hA hTA 
      have HNO : Hid (seeF n s (2, 1) = none) := by
        show _ = _
        unfold seeF
        rw [if_pos rfl, if_neg (by rintro ⟨z1, z2, z3, z4⟩; (try simp only at z3); rw [hy] at z3; cases z3)]
      clear k1 k2 k3 k4 k5 hok h hB hd he hy
      go_enter Try.func11, Try.ntmps11
      go_wp2
      go_ret
      exact see_no _ HB.out HNO.out
    by_cases ha : s.u < s.d
    · obtain ⟨A, hA⟩ : ∃ A, A = w.alloc (.cells #[.int .i64 2, .int .i64 1] 33) := ⟨_, rfl⟩
      have hTA : Tr B A p bd bu o a c n s := h.below (by rw [hA]; exact (Below.refl _ _).alloc (Nat.le_refl _) _)
      obtain ⟨c6, c7, c8, c9, c10, c11⟩ := hTA.cells
      have cd := hTA.doneAt (show 1 < n by omega)
      have ce := hTA.doneAt (show 0 < n by omega)
      obtain ⟨-, fz, -⟩ := hTA.frozen 1
      rw [hy] at c8
      rw [show decide (1 < s.d) = false by simp; omega] at cd
      rw [show decide (0 < s.d) = true by simp; omega] at ce
      rw [show decide (s.u < s.d) = true by simpa using ha] at c11
      rw [hA] at c6 c7 c8 c9 c10 c11 cd ce fz
      clear hA hTA 
      have HNO : Hid (seeF n s (2, 1) = none) := by
        show _ = _
        unfold seeF
        rw [if_pos rfl, if_neg (by rintro ⟨z1, z2, z3, z4⟩; (try simp only at z4); omega)]
      clear k1 k2 k3 k4 k5 hok h hB hd he hy ha
      go_enter Try.func11, Try.ntmps11
      go_wp2
      go_ret
      exact see_no _ HB.out HNO.out
    have hde : s.d = 1 := by omega
    have hue : s.u = s.d := by omega
    have HYS : Hid (seeF n s (2, 1) = some ⟨s.d + 1, s.u + 1, s.yes, s.no, s.ship⟩) := by
      show _ = _
      unfold seeF
      rw [if_pos rfl, if_pos ⟨by rw [hde]; rfl, by omega, hy, hue⟩]
    have hT := tr_done h hB hue (.cells #[.int .i64 2, .int .i64 1] 33)
    rw [hde] at hT
    rw [hde] at HYS
    have HT := hide hT
    clear hT
    obtain ⟨A, hA⟩ : ∃ A, A = w.alloc (.cells #[.int .i64 2, .int .i64 1] 33) := ⟨_, rfl⟩
    have hTA : Tr B A p bd bu o a c n s := h.below (by rw [hA]; exact (Below.refl _ _).alloc (Nat.le_refl _) _)
    obtain ⟨c6, c7, c8, c9, c10, c11⟩ := hTA.cells
    have cd := hTA.doneAt (show 1 < n by omega)
    have ce := hTA.doneAt (show 0 < n by omega)
    obtain ⟨-, fz, -⟩ := hTA.frozen 1
    rw [hy] at c8
    rw [show decide (1 < s.d) = false by simp; omega] at cd
    rw [show decide (0 < s.d) = true by simp; omega] at ce
    rw [show decide (s.u < s.d) = false by simpa using ha] at c11
    rw [hA] at c6 c7 c8 c9 c10 c11 cd ce fz
    clear hA hTA 
    clear k1 k2 k3 k4 k5 hok h hB hd he hy ha hue hde
    go_enter Try.func11, Try.ntmps11
    go_wp2
    go_ret
    exact see_yes HYS.out HT.out.1 HT.out.2
  · by_cases hd : 2 < s.d
    · obtain ⟨A, hA⟩ : ∃ A, A = w.alloc (.cells #[.int .i64 2, .int .i64 2] 33) := ⟨_, rfl⟩
      have hTA : Tr B A p bd bu o a c n s := h.below (by rw [hA]; exact (Below.refl _ _).alloc (Nat.le_refl _) _)
      obtain ⟨c6, c7, c8, c9, c10, c11⟩ := hTA.cells
      have cd := hTA.doneAt (show 2 < n by omega)
      have ce := hTA.doneAt (show 1 < n by omega)
      obtain ⟨-, fz, -⟩ := hTA.frozen 2
      rw [show decide (2 < s.d) = true by simp; omega] at cd
      rw [hA] at c6 c7 c8 c9 c10 c11 cd ce fz
      clear hA hTA 
      have HNO : Hid (seeF n s (2, 2) = none) := by
        show _ = _
        unfold seeF
        rw [if_pos rfl, if_neg (by rintro ⟨z1, z2, z3, z4⟩; (try simp only at z1); omega)]
      clear k1 k2 k3 k4 k5 hok h hB hd
      go_enter Try.func11, Try.ntmps11
      go_wp2
      go_ret
      exact see_no _ HB.out HNO.out
    by_cases he : ¬ 1 < s.d
    · obtain ⟨A, hA⟩ : ∃ A, A = w.alloc (.cells #[.int .i64 2, .int .i64 2] 33) := ⟨_, rfl⟩
      have hTA : Tr B A p bd bu o a c n s := h.below (by rw [hA]; exact (Below.refl _ _).alloc (Nat.le_refl _) _)
      obtain ⟨c6, c7, c8, c9, c10, c11⟩ := hTA.cells
      have cd := hTA.doneAt (show 2 < n by omega)
      have ce := hTA.doneAt (show 1 < n by omega)
      obtain ⟨-, fz, -⟩ := hTA.frozen 2
      rw [show decide (2 < s.d) = false by simp; omega] at cd
      rw [show decide (1 < s.d) = false by simp; omega] at ce
      rw [hA] at c6 c7 c8 c9 c10 c11 cd ce fz
      clear hA hTA 
      have HNO : Hid (seeF n s (2, 2) = none) := by
        show _ = _
        unfold seeF
        rw [if_pos rfl, if_neg (by rintro ⟨z1, z2, z3, z4⟩; (try simp only at z1); omega)]
      clear k1 k2 k3 k4 k5 hok h hB hd he
      go_enter Try.func11, Try.ntmps11
      go_wp2
      go_ret
      exact see_no _ HB.out HNO.out
    cases hy : s.yes
    rotate_left
    · obtain ⟨A, hA⟩ : ∃ A, A = w.alloc (.cells #[.int .i64 2, .int .i64 2] 33) := ⟨_, rfl⟩
      have hTA : Tr B A p bd bu o a c n s := h.below (by rw [hA]; exact (Below.refl _ _).alloc (Nat.le_refl _) _)
      obtain ⟨c6, c7, c8, c9, c10, c11⟩ := hTA.cells
      have cd := hTA.doneAt (show 2 < n by omega)
      have ce := hTA.doneAt (show 1 < n by omega)
      obtain ⟨-, fz, -⟩ := hTA.frozen 2
      rw [hy] at c8
      rw [show decide (2 < s.d) = false by simp; omega] at cd
      rw [show decide (1 < s.d) = true by simp; omega] at ce
      rw [hA] at c6 c7 c8 c9 c10 c11 cd ce fz
      clear hA hTA 
      have HNO : Hid (seeF n s (2, 2) = none) := by
        show _ = _
        unfold seeF
        rw [if_pos rfl, if_neg (by rintro ⟨z1, z2, z3, z4⟩; (try simp only at z3); rw [hy] at z3; cases z3)]
      clear k1 k2 k3 k4 k5 hok h hB hd he hy
      go_enter Try.func11, Try.ntmps11
      go_wp2
      go_ret
      exact see_no _ HB.out HNO.out
    by_cases ha : s.u < s.d
    · obtain ⟨A, hA⟩ : ∃ A, A = w.alloc (.cells #[.int .i64 2, .int .i64 2] 33) := ⟨_, rfl⟩
      have hTA : Tr B A p bd bu o a c n s := h.below (by rw [hA]; exact (Below.refl _ _).alloc (Nat.le_refl _) _)
      obtain ⟨c6, c7, c8, c9, c10, c11⟩ := hTA.cells
      have cd := hTA.doneAt (show 2 < n by omega)
      have ce := hTA.doneAt (show 1 < n by omega)
      obtain ⟨-, fz, -⟩ := hTA.frozen 2
      rw [hy] at c8
      rw [show decide (2 < s.d) = false by simp; omega] at cd
      rw [show decide (1 < s.d) = true by simp; omega] at ce
      rw [show decide (s.u < s.d) = true by simpa using ha] at c11
      rw [hA] at c6 c7 c8 c9 c10 c11 cd ce fz
      clear hA hTA 
      have HNO : Hid (seeF n s (2, 2) = none) := by
        show _ = _
        unfold seeF
        rw [if_pos rfl, if_neg (by rintro ⟨z1, z2, z3, z4⟩; (try simp only at z4); omega)]
      clear k1 k2 k3 k4 k5 hok h hB hd he hy ha
      go_enter Try.func11, Try.ntmps11
      go_wp2
      go_ret
      exact see_no _ HB.out HNO.out
    have hde : s.d = 2 := by omega
    have hue : s.u = s.d := by omega
    have HYS : Hid (seeF n s (2, 2) = some ⟨s.d + 1, s.u + 1, s.yes, s.no, s.ship⟩) := by
      show _ = _
      unfold seeF
      rw [if_pos rfl, if_pos ⟨by rw [hde]; rfl, by omega, hy, hue⟩]
    have hT := tr_done h hB hue (.cells #[.int .i64 2, .int .i64 2] 33)
    rw [hde] at hT
    rw [hde] at HYS
    have HT := hide hT
    clear hT
    obtain ⟨A, hA⟩ : ∃ A, A = w.alloc (.cells #[.int .i64 2, .int .i64 2] 33) := ⟨_, rfl⟩
    have hTA : Tr B A p bd bu o a c n s := h.below (by rw [hA]; exact (Below.refl _ _).alloc (Nat.le_refl _) _)
    obtain ⟨c6, c7, c8, c9, c10, c11⟩ := hTA.cells
    have cd := hTA.doneAt (show 2 < n by omega)
    have ce := hTA.doneAt (show 1 < n by omega)
    obtain ⟨-, fz, -⟩ := hTA.frozen 2
    rw [hy] at c8
    rw [show decide (2 < s.d) = false by simp; omega] at cd
    rw [show decide (1 < s.d) = true by simp; omega] at ce
    rw [show decide (s.u < s.d) = false by simpa using ha] at c11
    rw [hA] at c6 c7 c8 c9 c10 c11 cd ce fz
    clear hA hTA 
    clear k1 k2 k3 k4 k5 hok h hB hd he hy ha hue hde
    go_enter Try.func11, Try.ntmps11
    go_wp2
    go_ret
    exact see_yes HYS.out HT.out.1 HT.out.2
end Go.Proofs.Ytdoejppnifoebaa
