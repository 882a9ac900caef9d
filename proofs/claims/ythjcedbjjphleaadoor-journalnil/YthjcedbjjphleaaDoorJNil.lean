/-
  JournalNil: a journal that there isn't.
-/
import Derived.Test.YthjcedbjjphleaaDoorJrnI
import Derived.Test.YthjcedbjjphleaaDoorCallD
import Derived.Test.YthjcedbjjphleaaDoorLater
namespace Go.Proofs.YthjcedbjjphleaaDoor
open Go.ChangeShapes Go.WideShapes Go.ChangeAt Go.RowKit

set_option maxRecDepth 100000 in
set_option maxHeartbeats 4000000 in
theorem journalNil_walk (d0 s0 t0 : Int) (k0 : ByteArray) (id0 : Int) (a0 : Option Addr) (len0 cap0 : Nat) (z0 : List Int) (w : World) (_wk0 : k0.size ≤ maxLen) (w0 : IsRow .i64 w a0 len0 cap0 z0) (hg : Gl w) :
    Calls Tryd.prog 3 #[.agg #[.int .i64 d0, .int .i64 s0, .int .i64 t0, .string k0, .int .i64 id0, .slice a0 len0 cap0]] w fun e w' => e = .returned (.bool true) ∧ Below w.heap.size w w' := by
  obtain ⟨l, rfl, -, -⟩ := w0.ints
  clear w0 _wk0
  have HG : Hid (Gl w) := hg
  clear hg
  obtain ⟨W, hW⟩ : ∃ W, W = w.alloc (.cells #[.int .i64 d0, .int .i64 s0, .int .i64 t0, .string k0, .int .i64 id0, .slice a0 l.length cap0] 26) := ⟨_, rfl⟩
  have HB : Hid (Below w.heap.size w W) := by show Below w.heap.size w W; rw [hW]; exact (Below.refl _ _).alloc (Nat.le_refl _) _
  have HWW : Hid (W = w.alloc (.cells #[.int .i64 d0, .int .i64 s0, .int .i64 t0, .string k0, .int .i64 id0, .slice a0 l.length cap0] 26)) := hW
  have C3 : W.cell? ⟨w.heap.size, 3, none⟩ = some (.string k0) := by rw [hW]; simp
  have C4 : W.cell? ⟨w.heap.size, 4, none⟩ = some (.int .i64 id0) := by rw [hW]; simp
  have C5 : W.cell? ⟨w.heap.size, 5, none⟩ = some (.slice a0 l.length cap0) := by rw [hW]; simp
  have CR := crash_nil s0 t0 W
  rw [hW] at CR
  clear hW
  go_enter Tryd.func3, Tryd.ntmps3
  go_wp2_with fail
  refine CR.mono ?_
  rintro e u1 ⟨⟨x1, rfl⟩, hb1⟩
  rw [← HWW.out] at hb1
  have c3 := cellL C3 hb1
  have c4 := cellL C4 hb1
  have c5 := cellL C5 hb1
  have HB1 := hide (bel_on' HB.out hb1)
  clear hb1 CR C3 C4 C5
  go_wp2_with fail
  refine (add_nil k0 id0 a0 l cap0 _).mono ?_
  rintro e u2 ⟨rfl, hb2⟩
  have HB2 := hide (bel_on' HB1.out hb2)
  clear hb2
  go_wp2_with fail
  refine (sync_nil _).mono ?_
  rintro e u3 ⟨rfl, hb3⟩
  have HB3 := hide (bel_on' HB2.out hb3)
  clear hb3
  go_wp2_with fail
  refine (recover_nil _).mono ?_
  rintro e u4 ⟨rfl, hb4⟩
  have HB4 := hide (bel_on' HB3.out hb4)
  clear hb4
  go_wp2_with fail
  refine (told_nil HG.out HB4.out 3).mono ?_
  rintro e u5 ⟨rfl, hb5⟩
  have HB5 := hide (bel_on' HB4.out hb5)
  clear hb5
  go_wp2_with fail
  refine (lines_nil _).mono ?_
  rintro e u6 ⟨rfl, hb6⟩
  have HB6 := hide (bel_on' HB5.out hb6)
  clear hb6
  go_wp2_with fail
  refine (sure_nil _).mono ?_
  rintro e u7 ⟨rfl, hb7⟩
  have HB7 := hide (bel_on' HB6.out hb7)
  clear hb7
  go_wp2_with fail
  refine (down_nil _).mono ?_
  rintro e u8 ⟨rfl, hb8⟩
  have HB8 := hide (bel_on' HB7.out hb8)
  clear hb8
  go_wp2_with fail
  refine (jawake_any _ (HG.out.on HB8.out)).mono ?_
  rintro e u9 ⟨rfl, hb9⟩
  have HB9 := hide (bel_on' HB8.out hb9)
  clear hb9
  go_wp2
  go_ret
  exact ⟨rfl, HB9.out⟩
end Go.Proofs.YthjcedbjjphleaaDoor
