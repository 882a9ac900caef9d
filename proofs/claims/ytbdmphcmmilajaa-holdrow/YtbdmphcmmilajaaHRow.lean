/-
  HoldRow's walk.
-/
import Derived.Test.YtbdmphcmmilajaaHldA
import Derived.Test.YtbdmphcmmilajaaHldQ
import Derived.Test.YtbdmphcmmilajaaNum
namespace Go.Proofs.Ytbdmphcmmilajaa
open Go.ChangeShapes Go.WideShapes Go.ChangeAt Go.RowKit Go.Maps

theorem idsTo_upd (h : Int → Int) {id v : Int} (h0 : h id = 0) (hv : v ≠ 0) (n : Nat) : (idsTo (upd h id v) n).length = (idsTo h n).length + (if 0 ≤ id ∧ id < n then 1 else 0) := by
  induction n with
  | zero => rw [if_neg (by omega)]; rfl
  | succ n ih =>
    rw [idsTo_succ, idsTo_succ, List.length_append, List.length_append, ih]
    by_cases e : (n : Int) = id
    · subst e
      rw [upd_same, if_pos hv, if_neg (by omega), if_neg (by omega), if_pos (by omega)]
      simp
    · rw [upd_other h v e]
      by_cases hc : 0 ≤ id ∧ id < n
      · have a1 : 0 ≤ id ∧ id < ((n + 1 : Nat) : Int) := by omega
        rw [if_pos hc, if_pos a1]; omega
      · have a1 : ¬ (0 ≤ id ∧ id < ((n + 1 : Nat) : Int)) := by omega
        rw [if_neg hc, if_neg a1]
        omega
theorem rise_get {L : List Int} (hr : L.Pairwise (· < ·)) {m : Nat} (h0 : 0 < m) (hm : m < L.length) : L.getD (m - 1) 0 < L.getD m 0 := by
  have := List.pairwise_iff_getElem.1 hr (m - 1) m (by omega) hm (by omega)
  simpa [List.getD, hm, show m - 1 < L.length by omega] using this
/-- What is kept between two orders. -/
def RowI (j : Nat) (h : Int → Int) (c : Nat) : Prop := (idsL h).length = c ∧ c ≤ j ∧ ∀ x, h x ≠ 0 → 900 - (j : Int) < x
theorem RowI.next {j : Nat} {h : Int → Int} {c : Nat} (r : RowI j h c) : RowI (j + 1) h c := ⟨r.1, by have := r.2.1; omega, fun x hx => by have := r.2.2 x hx; push_cast; omega⟩
theorem RowI.zero {j : Nat} {h : Int → Int} {c : Nat} (r : RowI j h c) : h (900 - (j : Int)) = 0 := by
  rcases Decidable.em (h (900 - (j : Int)) = 0) with e | e
  · exact e
  · have := r.2.2 _ e; omega
theorem RowI.put {j : Nat} {h : Int → Int} {c : Nat} (r : RowI j h c) (hj : j < 40) {v : Int} (hv : v ≠ 0) : RowI (j + 1) (upd h (900 - (j : Int)) v) (c + 1) := by
  refine ⟨?_, by have := r.2.1; omega, fun x hx => ?_⟩
  · unfold idsL
    rw [idsTo_upd h r.zero hv, if_pos (by omega)]
    have := r.1
    unfold idsL at this
    omega
  · by_cases e : x = 900 - (j : Int)
    · subst e; push_cast; omega
    · rw [upd_other _ _ e] at hx; have := r.2.2 x hx; push_cast; omega
def RRel (w : World) (p b : Nat) (len : Nat) (lv cv i : Value) (wr : World) : Prop :=
  ∃ (j c : Nat) (left : Int) (h : Int → Int), i = .int .i64 j ∧ lv = .int .i64 left ∧ cv = .int .i64 c ∧ j ≤ len ∧ j ≤ 40 ∧ c ≤ j ∧ (0 ≤ left ∧ left ≤ 1000000000) ∧ Hid (Bk w.heap.size wr p b left h j) ∧ Hid (RowI j h c) ∧ Hid (Below w.heap.size w wr)

set_option maxRecDepth 100000 in
set_option maxHeartbeats 2000000 in
theorem holdRow_walk (a0 : Int) (a1 : Option Addr) (len1 cap1 : Nat) (z1 : List Int) (w : World) (_w0 : (Lit.int .i64 a0).wf = true) (w1 : IsRow .i64 w a1 len1 cap1 z1) :
    Calls Try.prog 7 #[.int .i64 a0, .slice a1 len1 cap1] w fun e w' => e = .returned (.bool true) ∧ Below w.heap.size w w' := by
  obtain ⟨l1, rfl, hlen, hin⟩ := w1.ints
  clear w1
  obtain ⟨bR1, bR2⟩ := um_bd a0 2000 (by omega) (by omega)
  obtain ⟨R, hR⟩ : ∃ R, um a0 2000 = R := ⟨_, rfl⟩
  rw [hR] at bR1 bR2
  unfold um at hR
  have kR : clampA R = R := by unfold clampA; rw [if_neg (by omega), if_pos (by omega)]
  have HCL := hide hin
  clear hin
  go_enter Try.func7, Try.ntmps7
  go_wp2_with (first
    | (go_at_call 8; refine (new_any _ w).mono ?_; rintro e u1 ⟨p, b, rfl, k1, hb1⟩; rw [kR] at k1; have HK1 := hide k1; have HB1 := hide hb1; clear k1 hb1))
  clear hR kR
  go_loopw [6, 7, 23] (fun lv cv i wr => RRel w p b l1.length lv cv i wr) (fun _ _ i _ => l1.length - (intOf i).toNat)
  case atStart => exact ⟨0, 0, R, fun _ => 0, rfl, rfl, rfl, Nat.zero_le _, Nat.zero_le _, Nat.le_refl _, ⟨by omega, by omega⟩, HK1, ⟨by rw [idsL_zero]; rfl, Nat.le_refl _, fun x h => absurd rfl h⟩, HB1⟩
  case round =>
    obtain ⟨j, c, left, h, rfl, rfl, rfl, hj, hj40, hcj, ⟨hl0, hl1⟩, HK, HI, HB⟩ := hrel
    clear HK1 HB1
    have HLI : Hid (∀ U : World, Below wr.heap.size wr U → Calls Try.prog 19 #[.pointer (some ⟨p, 0, none⟩), .int .i64 100] U (OwnInts U (idsL h))) := fun U hU => by
      have hl : (idsL h).length ≤ 1000 := idsTo_len h 1000
      have := lids_any (some ⟨p, 0, none⟩) (idsL h) (by omega) U 100 (by omega) (fun U2 h2 => ids_any ((HK.out.on hU).on h2) (by omega))
      rwa [List.take_of_length_le (by rw [HI.out.1]; omega)] at this
    by_cases hlt : j < l1.length
    · have ql : (j : Int) < (l1.length : Int) := by omega
      have hin := HCL.out.below HB.out
      rcases hin with h0 | ⟨bc, off, rfl, hca⟩
      · subst h0; simp at hlt
      have c0 := hca j hlt
      obtain ⟨y, hy⟩ : ∃ y, l1.getD j 0 = y := ⟨_, rfl⟩
      rw [hy] at c0
      clear hca hy
      by_cases h40 : j < 40
      · have q40 : ¬ (j : Int) ≥ 40 := by omega
        obtain ⟨bX1, bX2⟩ := um_bd y 300 (by omega) (by omega)
        obtain ⟨X, hX⟩ : ∃ X, um y 300 = X := ⟨_, rfl⟩
        rw [hX] at bX1 bX2
        unfold um at hX
        have hwj : (Lit.int .i64 (900 - (j : Int))).wf = true := wf_of (by omega) (by omega)
        have hij : isI (900 - (j : Int)) = true := isI_iff.2 (by omega)
        by_cases hle : 1 + X ≤ left
        · have e0 : takeE left h (900 - (j : Int)) (1 + X) = 0 := by unfold takeE; rw [if_pos ⟨hij, by omega, by omega⟩, HI.out.zero, if_neg (by simp), if_pos hle]
          have A := take_on HK.out HB.out (x := 1 + X) hwj (by omega) e0 (by unfold takeL; rw [if_pos e0]) (by unfold takeH; rw [if_pos e0])
          have HI2 := hide (HI.out.put h40 (v := 1 + X) (by omega))
          clear HLI HK HI hwj hij e0
          go_wp2_with (go_at_call 12; refine A.mono ?_; rintro e V ⟨rfl, K2, B2⟩; clear A; have HK2 := hide K2; have HB2 := hide B2; clear K2 B2)
          go_roundw
          case rel => exact ⟨j + 1, c + 1, left - (1 + X), _, by go_num, rfl, by go_num, by omega, by omega, by omega, ⟨by omega, by omega⟩, HK2, HI2, HB2⟩
          case measure => simp [intOf]; omega
        · have e0 : takeE left h (900 - (j : Int)) (1 + X) = 9 := by unfold takeE; rw [if_pos ⟨hij, by omega, by omega⟩, HI.out.zero, if_neg (by simp), if_neg hle]
          have A := take_on HK.out HB.out (x := 1 + X) hwj (by omega) e0 (if_neg (by rw [e0]; decide)) (if_neg (by rw [e0]; decide))
          have HI2 := hide HI.out.next
          clear HLI HK HI hwj hij e0
          go_wp2_with (go_at_call 12; refine A.mono ?_; rintro e V ⟨rfl, K2, B2⟩; clear A; have HK2 := hide K2; have HB2 := hide B2; clear K2 B2)
          go_roundw
          case rel => exact ⟨j + 1, c, left, h, by go_num, rfl, rfl, by omega, by omega, by omega, ⟨by omega, by omega⟩, HK2, HI2, HB2⟩
          case measure => simp [intOf]; omega
      · have q40 : (j : Int) ≥ 40 := by omega
        have LI := HLI.out wr (Below.refl _ _)
        clear HLI
        go_wp2_with (go_at_call 19; refine LI.mono ?_; rintro e V ⟨av, cv, rfl, -, hrow, bV⟩; clear LI; have HRW := hide hrow; have HBV := hide bV; clear hrow bV)
        obtain ⟨L, hL⟩ : ∃ L, idsL h = L := ⟨_, rfl⟩
        have HRI : Hid (L.Pairwise (· < ·)) := by show L.Pairwise (· < ·); rw [← hL]; exact idsTo_rise h 1000
        have hLc : L.length = c := by rw [← hL]; exact HI.out.1
        have HIN : Hid (Ints V av L) := by
          have := HRW.out
          rw [hL] at this
          obtain ⟨a', c', e1, -, e2⟩ := owned_nums this
          cases e1
          exact e2
        rw [hL]
        clear hL HRW
        go_loopw [58] (fun i vr => ∃ m : Nat, m ≤ L.length ∧ i = .int .i64 m ∧ vr = V) (fun i _ => L.length - (intOf i).toNat)
        case atStart => exact ⟨0, Nat.zero_le _, rfl, rfl⟩
        case round =>
          obtain ⟨m, hm, rfl, rfl⟩ := hrel
          by_cases hml : m < L.length
          · have qm : (m : Int) < (L.length : Int) := by omega
            rcases HIN.out with h0 | ⟨bi, oi, rfl, hci⟩
            · exfalso; rw [h0] at hml; simp at hml
            have d0 := hci m hml
            by_cases hm0 : m = 0
            · subst hm0
              rw [Nat.add_zero] at d0
              obtain ⟨x0, hx0⟩ : ∃ x0, L.getD 0 0 = x0 := ⟨_, rfl⟩
              rw [hx0] at d0
              clear hci hx0
              go_wp2
              go_roundw
              case rel => exact ⟨1, by omega, by go_num, trivial⟩
              case measure => simp [intOf]; omega
            · have d1 := hci (m - 1) (by omega)
              have hri := rise_get HRI.out (show 0 < m by omega) hml
              obtain ⟨x0, hx0⟩ : ∃ x0, L.getD m 0 = x0 := ⟨_, rfl⟩
              obtain ⟨x1, hx1⟩ : ∃ x1, L.getD (m - 1) 0 = x1 := ⟨_, rfl⟩
              rw [hx0] at d0 hri
              rw [hx1] at d1 hri
              clear hx0 hx1 hci
              obtain ⟨m1, rfl⟩ : ∃ m1, m = m1 + 1 := ⟨m - 1, by omega⟩
              have q0 : ((m1 + 1 : Nat) : Int) > 0 := by omega
              have q1 : ¬ x0 ≤ x1 := by omega
              rw [Nat.add_sub_cancel] at d1
              clear hri hm0
              go_wp2
              go_roundw
              case rel => exact ⟨m1 + 1 + 1, by omega, by go_num, trivial⟩
              case measure => simp [intOf]; omega
          · have qm : ¬ (m : Int) < (L.length : Int) := by omega
            have LF := left_any (HK.out.on HBV.out)
            have AW := hawake_any wr
            have ql1 : ((L.length : Int) == (c : Int)) = true := by rw [hLc]; simp
            go_wp2_with (first
              | (go_at_call 17; refine LF.mono ?_; rintro e u ⟨rfl, rfl⟩)
              | (go_at_call 20; refine AW.mono ?_; rintro e u ⟨rfl, b3⟩))
            go_ret
            exact ⟨rfl, bel_on' HB.out (bel_on' HBV.out b3)⟩
    · have ql : ¬ (j : Int) < (l1.length : Int) := by omega
      have LI := HLI.out wr (Below.refl _ _)
      clear HLI
      go_wp2_with (go_at_call 19; refine LI.mono ?_; rintro e V ⟨av, cv, rfl, -, hrow, bV⟩; clear LI; have HRW := hide hrow; have HBV := hide bV; clear hrow bV)
      obtain ⟨L, hL⟩ : ∃ L, idsL h = L := ⟨_, rfl⟩
      have HRI : Hid (L.Pairwise (· < ·)) := by show L.Pairwise (· < ·); rw [← hL]; exact idsTo_rise h 1000
      have hLc : L.length = c := by rw [← hL]; exact HI.out.1
      have HIN : Hid (Ints V av L) := by
        have := HRW.out
        rw [hL] at this
        obtain ⟨a', c', e1, -, e2⟩ := owned_nums this
        cases e1
        exact e2
      rw [hL]
      clear hL HRW
      go_loopw [58] (fun i vr => ∃ m : Nat, m ≤ L.length ∧ i = .int .i64 m ∧ vr = V) (fun i _ => L.length - (intOf i).toNat)
      case atStart => exact ⟨0, Nat.zero_le _, rfl, rfl⟩
      case round =>
        obtain ⟨m, hm, rfl, rfl⟩ := hrel
        by_cases hml : m < L.length
        · have qm : (m : Int) < (L.length : Int) := by omega
          rcases HIN.out with h0 | ⟨bi, oi, rfl, hci⟩
          · exfalso; rw [h0] at hml; simp at hml
          have d0 := hci m hml
          by_cases hm0 : m = 0
          · subst hm0
            rw [Nat.add_zero] at d0
            obtain ⟨x0, hx0⟩ : ∃ x0, L.getD 0 0 = x0 := ⟨_, rfl⟩
            rw [hx0] at d0
            clear hci hx0
            go_wp2
            go_roundw
            case rel => exact ⟨1, by omega, by go_num, trivial⟩
            case measure => simp [intOf]; omega
          · have d1 := hci (m - 1) (by omega)
            have hri := rise_get HRI.out (show 0 < m by omega) hml
            obtain ⟨x0, hx0⟩ : ∃ x0, L.getD m 0 = x0 := ⟨_, rfl⟩
            obtain ⟨x1, hx1⟩ : ∃ x1, L.getD (m - 1) 0 = x1 := ⟨_, rfl⟩
            rw [hx0] at d0 hri
            rw [hx1] at d1 hri
            clear hx0 hx1 hci
            obtain ⟨m1, rfl⟩ : ∃ m1, m = m1 + 1 := ⟨m - 1, by omega⟩
            have q0 : ((m1 + 1 : Nat) : Int) > 0 := by omega
            have q1 : ¬ x0 ≤ x1 := by omega
            rw [Nat.add_sub_cancel] at d1
            clear hri hm0
            go_wp2
            go_roundw
            case rel => exact ⟨m1 + 1 + 1, by omega, by go_num, trivial⟩
            case measure => simp [intOf]; omega
        · have qm : ¬ (m : Int) < (L.length : Int) := by omega
          have LF := left_any (HK.out.on HBV.out)
          have AW := hawake_any wr
          have ql1 : ((L.length : Int) == (c : Int)) = true := by rw [hLc]; simp
          go_wp2_with (first
            | (go_at_call 17; refine LF.mono ?_; rintro e u ⟨rfl, rfl⟩)
            | (go_at_call 20; refine AW.mono ?_; rintro e u ⟨rfl, b3⟩))
          go_ret
          exact ⟨rfl, bel_on' HB.out (bel_on' HBV.out b3)⟩
end Go.Proofs.Ytbdmphcmmilajaa
