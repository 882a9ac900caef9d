/-
  Contracts: stepsMay, May of package order; the law's light.
-/
import Derived.Test.YtdoejppnifoebaaOrdC2
namespace Go.Proofs.Ytdoejppnifoebaa
open Go.ChangeShapes Go.WideShapes Go.ChangeAt Go.RowKit

theorem steps_long {l : List (Int × Int)} (h : (l.length : Int) > 3) : stepsB l = false := by unfold stepsB; simp; omega
theorem steps_bad {l : List (Int × Int)} {j : Nat} (hj : j < l.length) (h : okAt l j = false) : stepsB l = false := by unfold stepsB; rw [okTo_fail h hj]; simp
theorem steps_good {l : List (Int × Int)} (h : ¬ (l.length : Int) > 3) (h2 : okTo l l.length = true) : stepsB l = true := by unfold stepsB; rw [h2]; simp; omega

set_option maxHeartbeats 2000000 in
theorem steps_any (o : Od) (a : Option Addr) (c : Nat) (w : World) (ha : Sts w a o.steps) (hl : o.steps.length ≤ 9223372036854775807) :
    Calls Try.prog 40 #[.agg #[.int .i64 o.id, .int .i64 o.item, .int .i64 o.qty, .int .i64 o.client, .int .i64 o.price, .slice a o.steps.length c]] w fun e w' => e = .returned (.bool (stepsB o.steps)) ∧ Below w.heap.size w w' := by
  have HI : Hid (Sts w a o.steps) := ha
  have HB : Hid (Below w.heap.size w (w.alloc (.cells #[.int .i64 o.id, .int .i64 o.item, .int .i64 o.qty, .int .i64 o.client, .int .i64 o.price, .slice a o.steps.length c] 24))) := (Below.refl _ _).alloc (Nat.le_refl _) _
  clear ha
  by_cases h3 : (o.steps.length : Int) > 3
  · have HF := hide (steps_long h3)
    go_enter Try.func40, Try.ntmps40
    go_wp2
    go_ret
    exact ⟨ret_bool HF.out.symm, HB.out⟩
  have HBX : Hid (∀ wr, Below (w.heap.size + 1) (w.alloc (.cells #[.int .i64 o.id, .int .i64 o.item, .int .i64 o.qty, .int .i64 o.client, .int .i64 o.price, .slice a o.steps.length c] 24)) wr → wr.heap[w.heap.size]? = some (.cells #[.int .i64 o.id, .int .i64 o.item, .int .i64 o.qty, .int .i64 o.client, .int .i64 o.price, .slice a o.steps.length c] 24 (0, 0))) := fun wr hb => by
    rw [hb.block _ (by simp)]
    show (w.heap.push _)[w.heap.size]? = _
    simp
  go_enter Try.func40, Try.ntmps40
  go_wp2
  go_loopw [12] (fun i wr => ∃ j : Nat, i = .int .i64 j ∧ j ≤ o.steps.length ∧ w.heap.size < wr.heap.size ∧ Hid (Below w.heap.size w wr) ∧ Hid (Below (w.heap.size + 1) (w.alloc (.cells #[.int .i64 o.id, .int .i64 o.item, .int .i64 o.qty, .int .i64 o.client, .int .i64 o.price, .slice a o.steps.length c] 24)) wr) ∧ Hid (okTo o.steps j = true)) (fun i _ => o.steps.length - (intOf i).toNat)
  case atStart => exact ⟨0, rfl, Nat.zero_le _, by simp, HB, Below.refl _ _, rfl⟩
  case round =>
    obtain ⟨j, rfl, hj, hsz, HR, HR2, HN⟩ := hrel
    by_cases hlt : j < o.steps.length
    · obtain ⟨b, off, rfl, h0, h1⟩ := (HI.out.below HR.out).at hlt
      obtain ⟨x1, e1⟩ : ∃ x, x = (stAt o.steps j).1 := ⟨_, rfl⟩
      obtain ⟨x2, e2⟩ : ∃ x, x = (stAt o.steps j).2 := ⟨_, rfl⟩
      rw [← e1] at h0
      rw [← e2] at h1
      have HK : Hid (okAt o.steps j = (svcB x1 && amtB x2 && (atF o.steps x1 == (j : Int)))) := by show _ = _; rw [okAt_eq hlt, ← e1, ← e2]
      clear e1 e2
      have hbx := HBX.out wr HR2.out
      have c0 := cell_of (i := 0) hbx
      have c1 := cell_of (i := 1) hbx
      have c2 := cell_of (i := 2) hbx
      have c3 := cell_of (i := 3) hbx
      have c4 := cell_of (i := 4) hbx
      have c5 := cell_of (i := 5) hbx
      simp at c0 c1 c2 c3 c4 c5
      clear hbx
      cases p1 : svcB x1
      · have HF : Hid (false = stepsB o.steps) := (steps_bad hlt (by rw [HK.out, p1]; rfl)).symm
        go_wp2_with (first
          | (go_at_call 45; refine (svc_any _ _).mono ?_; rintro e w1 ⟨rfl, rfl⟩))
        go_ret
        exact ⟨ret_bool HF.out, HR.out.alloc HR.out.size _⟩
      cases p2 : amtB x2
      · have HF : Hid (false = stepsB o.steps) := (steps_bad hlt (by rw [HK.out, p1, p2]; rfl)).symm
        go_wp2_with (first
          | (go_at_call 45; refine (svc_any _ _).mono ?_; rintro e w1 ⟨rfl, rfl⟩)
          | (go_at_call 39; refine (amt_any _ _).mono ?_; rintro e w1 ⟨rfl, rfl⟩))
        go_ret
        exact ⟨ret_bool HF.out, HR.out.alloc HR.out.size _⟩
      have HA : Hid (∀ u : World, Below w.heap.size w u → Calls Try.prog 28 #[.agg #[.int .i64 o.id, .int .i64 o.item, .int .i64 o.qty, .int .i64 o.client, .int .i64 o.price, .slice (some ⟨b, off, none⟩) o.steps.length c], .int .i64 x1] u fun e w' => e = .returned (.int .i64 (atF o.steps x1)) ∧ Below u.heap.size u w') := fun u hu => at_any o _ c x1 u (HI.out.below hu) hl
      obtain ⟨y, ey⟩ : ∃ y, y = atF o.steps x1 := ⟨_, rfl⟩
      rw [← ey] at HA HK
      have EY := hide ey
      clear ey
      by_cases hy : y = (j : Int)
      · subst hy
        have HS : Hid (okTo o.steps (j + 1) = true) := by show _ = _; rw [okTo_succ, HN.out, HK.out, p1, p2]; simp
        go_wp2_with (first
          | (go_at_call 45; refine (svc_any _ _).mono ?_; rintro e w1 ⟨rfl, rfl⟩)
          | (go_at_call 39; refine (amt_any _ _).mono ?_; rintro e w1 ⟨rfl, rfl⟩)
          | (go_at_call 28; refine (HA.out _ (HR.out.alloc HR.out.size _)).mono ?_; rintro e w2 ⟨rfl, hb2⟩))
        have hb3 := HR.out.alloc HR.out.size (.cells #[.int .i64 x1, .int .i64 x2] 39)
        have hb4 := HR2.out.alloc (B := w.heap.size + 1) (by have := HR2.out.size; simpa using this) (.cells #[.int .i64 x1, .int .i64 x2] 39)
        have hs2 := hb2.size
        simp at hs2
        have H2 := hide (bel_on' hb3 hb2)
        have H4 := hide (hb4.trans (hb2.mono (by simp; omega)))
        clear hb2 hb3 hb4
        go_roundw
        case rel => exact ⟨j + 1, by go_num, by omega, by omega, H2, H4, HS⟩
        case measure => simp [intOf]; omega
      · have HF : Hid (false = stepsB o.steps) := (steps_bad hlt (by rw [HK.out, p1, p2]; simpa using hy)).symm
        have hne : (y != (j : Int)) = true := by simpa using hy
        go_wp2_with (first
          | (go_at_call 45; refine (svc_any _ _).mono ?_; rintro e w1 ⟨rfl, rfl⟩)
          | (go_at_call 39; refine (amt_any _ _).mono ?_; rintro e w1 ⟨rfl, rfl⟩)
          | (go_at_call 28; refine (HA.out _ (HR.out.alloc HR.out.size _)).mono ?_; rintro e w2 ⟨rfl, hb2⟩))
        go_ret
        exact ⟨ret_bool HF.out, bel_on' (HR.out.alloc HR.out.size _) hb2⟩
    · have HF : Hid (true = stepsB o.steps) := (steps_good (by omega) (by have := HN.out; rwa [show j = o.steps.length by omega] at this)).symm
      go_wp2
      go_ret
      exact ⟨ret_bool HF.out, HR.out⟩

set_option maxHeartbeats 2000000 in
theorem omay_any (o : Od) (a : Option Addr) (c : Nat) (w : World) (ha : Sts w a o.steps) (hl : o.steps.length ≤ 9223372036854775807) :
    Calls Try.prog 20 #[.agg #[.int .i64 o.id, .int .i64 o.item, .int .i64 o.qty, .int .i64 o.client, .int .i64 o.price, .slice a o.steps.length c]] w fun e w' => e = .returned (.bool (mayO o)) ∧ Below w.heap.size w w' := by
  have HI : Hid (Sts w a o.steps) := ha
  have HB : Hid (Below w.heap.size w (w.alloc (.cells #[.int .i64 o.id, .int .i64 o.item, .int .i64 o.qty, .int .i64 o.client, .int .i64 o.price, .slice a o.steps.length c] 24))) := (Below.refl _ _).alloc (Nat.le_refl _) _
  clear ha
  by_cases c1 : o.id < 1
  · have HF : Hid (false = mayO o) := by show _ = _; unfold mayO oidB; simp; omega
    go_enter Try.func20, Try.ntmps20
    go_wp2_with (first
      | (go_at_call 38; refine (plc_any _ _).mono ?_; rintro e w1 ⟨rfl, rfl⟩)
      | (go_at_call 39; refine (amt_any _ _).mono ?_; rintro e w1 ⟨rfl, rfl⟩))
    go_ret
    exact ⟨ret_bool HF.out, HB.out⟩
  by_cases c2 : 999 < o.id
  · have HF : Hid (false = mayO o) := by show _ = _; unfold mayO oidB; simp; omega
    go_enter Try.func20, Try.ntmps20
    go_wp2_with (first
      | (go_at_call 38; refine (plc_any _ _).mono ?_; rintro e w1 ⟨rfl, rfl⟩)
      | (go_at_call 39; refine (amt_any _ _).mono ?_; rintro e w1 ⟨rfl, rfl⟩))
    go_ret
    exact ⟨ret_bool HF.out, HB.out⟩
  cases p1 : plcB o.item
  · have HF : Hid (false = mayO o) := by show _ = _; unfold mayO; rw [p1]; simp
    go_enter Try.func20, Try.ntmps20
    go_wp2_with (first
      | (go_at_call 38; refine (plc_any _ _).mono ?_; rintro e w1 ⟨rfl, rfl⟩)
      | (go_at_call 39; refine (amt_any _ _).mono ?_; rintro e w1 ⟨rfl, rfl⟩))
    go_ret
    exact ⟨ret_bool HF.out, HB.out⟩
  cases p2 : plcB o.client
  · have HF : Hid (false = mayO o) := by show _ = _; unfold mayO; rw [p2]; simp
    go_enter Try.func20, Try.ntmps20
    go_wp2_with (first
      | (go_at_call 38; refine (plc_any _ _).mono ?_; rintro e w1 ⟨rfl, rfl⟩)
      | (go_at_call 39; refine (amt_any _ _).mono ?_; rintro e w1 ⟨rfl, rfl⟩))
    go_ret
    exact ⟨ret_bool HF.out, HB.out⟩
  cases p3 : amtB o.qty
  · have HF : Hid (false = mayO o) := by show _ = _; unfold mayO; rw [p3]; simp
    go_enter Try.func20, Try.ntmps20
    go_wp2_with (first
      | (go_at_call 38; refine (plc_any _ _).mono ?_; rintro e w1 ⟨rfl, rfl⟩)
      | (go_at_call 39; refine (amt_any _ _).mono ?_; rintro e w1 ⟨rfl, rfl⟩))
    go_ret
    exact ⟨ret_bool HF.out, HB.out⟩
  cases p4 : amtB o.price
  · have HF : Hid (false = mayO o) := by show _ = _; unfold mayO; rw [p4]; simp
    go_enter Try.func20, Try.ntmps20
    go_wp2_with (first
      | (go_at_call 38; refine (plc_any _ _).mono ?_; rintro e w1 ⟨rfl, rfl⟩)
      | (go_at_call 39; refine (amt_any _ _).mono ?_; rintro e w1 ⟨rfl, rfl⟩))
    go_ret
    exact ⟨ret_bool HF.out, HB.out⟩
  have HF : Hid (stepsB o.steps = mayO o) := by
    show _ = _
    unfold mayO
    rw [p1, p2, p3, p4, oidB_iff.2 (by omega)]; simp
  have HM := steps_any o a c (w.alloc (.cells #[.int .i64 o.id, .int .i64 o.item, .int .i64 o.qty, .int .i64 o.client, .int .i64 o.price, .slice a o.steps.length c] 24)) (HI.out.below HB.out) hl
  go_enter Try.func20, Try.ntmps20
  go_wp2_with (first
    | (go_at_call 38; refine (plc_any _ _).mono ?_; rintro e w1 ⟨rfl, rfl⟩)
    | (go_at_call 39; refine (amt_any _ _).mono ?_; rintro e w1 ⟨rfl, rfl⟩)
    | (go_at_call 40; refine HM.mono ?_; rintro e w1 ⟨rfl, hb1⟩))
  go_ret
  exact ⟨ret_bool HF.out, bel_on' HB.out hb1⟩

end Go.Proofs.Ytdoejppnifoebaa
