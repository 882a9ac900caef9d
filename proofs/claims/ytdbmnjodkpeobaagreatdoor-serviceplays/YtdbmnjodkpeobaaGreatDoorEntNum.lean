/-
  Contract: the reference's number.
-/
import Derived.Test.YtdbmnjodkpeobaaGreatDoorBd17
namespace Go.Proofs.YtdbmnjodkpeobaaGreatDoor
open Go.ChangeShapes Go.WideShapes Go.ChangeAt Go.RowKit

theorem dig_step (t : ByteArray) (j m : Nat) (h : j < t.size) (hm : Lib.decFrom 0 (t.data.toList.take j) = some m) (h0 : 48 ≤ t[j].toNat) (h1 : t[j].toNat ≤ 57) :
    Lib.decFrom 0 (t.data.toList.take (j + 1)) = some (10 * m + (t[j].toNat - 48)) := by
  have hd : Lib.digitVal t[j] = some (t[j].toNat - 48) := by unfold Lib.digitVal; rw [if_pos ⟨h0, h1⟩]
  rw [take_snoc t j h, decFrom_snoc _ _ hd _ _ _ hm]
  congr 1
  omega
theorem dig_at (t : ByteArray) (j : Nat) (h : j < t.size) : ∃ hj : j < t.data.toList.length, t.data.toList[j] = t[j] :=
  ⟨by rw [show t.data.toList.length = t.size from Array.length_toList]; exact h, by rw [Array.getElem_toList]; rfl⟩

set_option maxRecDepth 100000 in
set_option maxHeartbeats 1000000 in
theorem ref_number_any (s : ByteArray) (w : World) (hs : s.size ≤ 1000) (hg : Gl w) :
    Calls Tryz.prog 68 #[.string s] w fun e w' => ∃ v b, e = .returned (.tuple #[.int .i64 v, .bool b]) ∧ NumR s v b ∧ Below w.heap.size w w' := by
  have HG : Hid (Gl w) := hg
  clear hg
  have HL0 : Hid (s.data.toList.length = s.size) := Array.length_toList
  by_cases h0 : ∃ r, s.data.toList = 45 :: r
  · obtain ⟨r, hr⟩ := h0
    have hl : s.data.toList.length = s.size := Array.length_toList
    have hpos : 0 < s.size := by rw [hr] at hl; simp at hl; omega
    have q0 : (s.size : Int) > 0 := by omega
    have q1 : ((s[0].toNat : Int) == 45) = true := by
      have hb0 : s.data.toList[0]'(by omega) = s[0] := by rw [Array.getElem_toList]; rfl
      simp only [hr, List.getElem_cons_zero] at hb0
      rw [← hb0]; rfl
    obtain ⟨t, ht⟩ : ∃ t, s.extract 1 s.size = t := ⟨_, rfl⟩
    have HD : Hid (DigR s t true) := digR_minus s t (by rw [← ht, extract_list, hr]; simp [← hl, hr])
    have hts : t.size ≤ 1000 := by rw [← ht]; simp; omega
    clear hr hl
    by_cases hz : t.size = 0
    · have HNE : Hid (NumR s 0 false) := num_empty HD.out (List.eq_nil_of_length_eq_zero ((show t.data.toList.length = t.size from Array.length_toList).trans hz)) 0
      go_enter Tryz.func68, Tryz.ntmps68
      go_wp2
      go_loop [6, 21] (fun n i => n = .int .i64 0 ∧ i = .int .i64 0) (fun _ _ => 0)
      case atStart => exact ⟨rfl, rfl⟩
      case round =>
        obtain ⟨rfl, rfl⟩ := hrel
        have ql : ¬ (0 : Int) < (t.size : Int) := by omega
        have qt : (t.toList == []) = true := by
          rw [ByteArray.toList_eq]
          have h1 : t.data.toList.length = t.size := Array.length_toList
          rw [List.eq_nil_of_length_eq_zero (h1.trans hz)]
          rfl
        go_wp2
        go_ret2
        first | exact ⟨_, _, rfl, HNE.out, Below.refl _ _⟩ | exact ⟨_, .inl ⟨rfl, HNE.out, Below.refl _ _⟩⟩
    · skip
      go_enter Tryz.func68, Tryz.ntmps68
      go_wp2
      go_loop [6, 21] (fun n i => ∃ j m : Nat, j ≤ t.size ∧ i = .int .i64 j ∧ n = .int .i64 m ∧ m ≤ 10995116277769 ∧ Hid (Lib.decFrom 0 (t.data.toList.take j) = some m)) (fun _ i => t.size - (intOf i).toNat)
      case atStart => exact ⟨0, 0, Nat.zero_le _, rfl, rfl, by omega, rfl⟩
      case round =>
        obtain ⟨j, m, hj, rfl, rfl, hm, HM⟩ := hrel
        by_cases hlt : j < t.size
        · have hb := t[j].toNat_lt
          by_cases c1 : (t[j].toNat : Int) < 48
          · have HN : Hid (NumR s 0 false) := by obtain ⟨hjl, hjg⟩ := dig_at t j hlt; exact num_bad HD.out hjl (.inl (by rw [hjg]; omega)) 0
            go_wp2
            go_ret2
            exact ⟨_, .inl ⟨rfl, HN.out, Below.refl _ _⟩⟩
          by_cases c2 : (t[j].toNat : Int) > 57
          · have HN : Hid (NumR s 0 false) := by obtain ⟨hjl, hjg⟩ := dig_at t j hlt; exact num_bad HD.out hjl (.inr (by rw [hjg]; omega)) 0
            go_wp2
            go_ret2
            exact ⟨_, .inl ⟨rfl, HN.out, Below.refl _ _⟩⟩
          by_cases c3 : (m : Int) > 1099511627776
          · have HN : Hid (NumR s 0 false) := num_great HD.out HM.out (by omega) 0
            go_wp2
            go_ret2
            exact ⟨_, .inl ⟨rfl, HN.out, Below.refl _ _⟩⟩
          have HS : Hid _ := dig_step t j m hlt HM.out (by omega) (by omega)
          go_wp2
          go_round
          case rel => exact ⟨j + 1, 10 * m + (t[j].toNat - 48), by omega, by go_num, by congr 1; omega, by omega, HS⟩
          case measure => simp [intOf]; omega
        · have HW : Hid (Lib.decFrom 0 t.data.toList = some m) := by
            have := HM.out
            rwa [List.take_of_length_le (by rw [show t.data.toList.length = t.size from Array.length_toList]; omega)] at this
          obtain ⟨v, hv⟩ : ∃ v : Int, v = -(m : Int) := ⟨_, rfl⟩
          have HV : Hid (NumR s v ((⟨(Lib.itoa v).toArray⟩ : ByteArray).toList == s.toList)) := num_whole HD.out HW.out hm v (by rw [hv]; simp)
          subst hv
          obtain ⟨z, hz⟩ : ∃ z : ByteArray, (⟨(Lib.itoa (-(m : Int))).toArray⟩ : ByteArray) = z := ⟨_, rfl⟩
          rw [hz] at HV
          have HZ : Hid ((⟨(Lib.itoa (-(m : Int))).toArray⟩ : ByteArray) = z) := hz
          clear hz HW HM
          have qt : (t.toList == []) = false := by
            rw [ByteArray.toList_eq]
            have : t.data.toList.length = t.size := Array.length_toList
            cases hc : t.data.toList with
            | nil => rw [hc] at this; simp at this; omega
            | cons => rfl
          cases hq : (z.toList == s.toList)
          · rw [hq] at HV
            go_wp2_with (first
              | (go_at_call 79; refine (itoa_any _ _ ?_ ?_ HG.out).mono ?_; (· omega); (· omega); rintro e w2 ⟨rfl, hb2⟩; rw [HZ.out]))
            go_ret2
            exact ⟨_, _, rfl, HV.out, hb2⟩
          · rw [hq] at HV
            go_wp2_with (first
              | (go_at_call 79; refine (itoa_any _ _ ?_ ?_ HG.out).mono ?_; (· omega); (· omega); rintro e w2 ⟨rfl, hb2⟩; rw [HZ.out]))
            go_ret2
            exact ⟨_, _, rfl, HV.out, hb2⟩
  · have HD : Hid (DigR s s false) := digR_plain s (fun r hr => h0 ⟨r, hr⟩)
    have h45 : ∀ h : 0 < s.size, ((s[0].toNat : Int) == 45) = false := fun h => by
      simp
      intro e
      apply h0
      refine ⟨s.data.toList.tail, ?_⟩
      have hl : s.data.toList.length = s.size := Array.length_toList
      cases hc : s.data.toList with
      | nil => rw [hc] at hl; simp at hl; omega
      | cons b r =>
        have hb0 : s.data.toList[0]'(by omega) = s[0] := by rw [Array.getElem_toList]; rfl
        simp only [hc, List.getElem_cons_zero] at hb0
        simp only [List.tail_cons, List.cons.injEq, and_true]
        rw [hb0]
        apply UInt8.toNat_inj.1
        show s[0].toNat = 45
        omega
    clear h0
    by_cases hz : s.size = 0
    · have q0 : ¬ (s.size : Int) > 0 := by omega
      have HNE : Hid (NumR s 0 false) := num_empty HD.out (List.eq_nil_of_length_eq_zero (by rw [HL0.out]; exact hz)) 0
      clear h45
      go_enter Tryz.func68, Tryz.ntmps68
      go_wp2
      go_loop [6, 21] (fun n i => n = .int .i64 0 ∧ i = .int .i64 0) (fun _ _ => 0)
      case atStart => exact ⟨rfl, rfl⟩
      case round =>
        obtain ⟨rfl, rfl⟩ := hrel
        have ql : ¬ (0 : Int) < (s.size : Int) := by omega
        have qt : (s.toList == []) = true := by
          rw [ByteArray.toList_eq]
          have h1 : s.data.toList.length = s.size := Array.length_toList
          rw [List.eq_nil_of_length_eq_zero (h1.trans hz)]
          rfl
        go_wp2
        go_ret2
        first | exact ⟨_, _, rfl, HNE.out, Below.refl _ _⟩ | exact ⟨_, .inl ⟨rfl, HNE.out, Below.refl _ _⟩⟩
    · have q0 : (s.size : Int) > 0 := by omega
      have q1 := h45 (by omega)
      clear h45
      go_enter Tryz.func68, Tryz.ntmps68
      go_wp2
      go_loop [6, 21] (fun n i => ∃ j m : Nat, j ≤ s.size ∧ i = .int .i64 j ∧ n = .int .i64 m ∧ m ≤ 10995116277769 ∧ Hid (Lib.decFrom 0 (s.data.toList.take j) = some m)) (fun _ i => s.size - (intOf i).toNat)
      case atStart => exact ⟨0, 0, Nat.zero_le _, rfl, rfl, by omega, rfl⟩
      case round =>
        obtain ⟨j, m, hj, rfl, rfl, hm, HM⟩ := hrel
        by_cases hlt : j < s.size
        · have hb := s[j].toNat_lt
          by_cases c1 : (s[j].toNat : Int) < 48
          · have HN : Hid (NumR s 0 false) := by obtain ⟨hjl, hjg⟩ := dig_at s j hlt; exact num_bad HD.out hjl (.inl (by rw [hjg]; omega)) 0
            go_wp2
            go_ret2
            exact ⟨_, .inl ⟨rfl, HN.out, Below.refl _ _⟩⟩
          by_cases c2 : (s[j].toNat : Int) > 57
          · have HN : Hid (NumR s 0 false) := by obtain ⟨hjl, hjg⟩ := dig_at s j hlt; exact num_bad HD.out hjl (.inr (by rw [hjg]; omega)) 0
            go_wp2
            go_ret2
            exact ⟨_, .inl ⟨rfl, HN.out, Below.refl _ _⟩⟩
          by_cases c3 : (m : Int) > 1099511627776
          · have HN : Hid (NumR s 0 false) := num_great HD.out HM.out (by omega) 0
            go_wp2
            go_ret2
            exact ⟨_, .inl ⟨rfl, HN.out, Below.refl _ _⟩⟩
          have HS : Hid _ := dig_step s j m hlt HM.out (by omega) (by omega)
          go_wp2
          go_round
          case rel => exact ⟨j + 1, 10 * m + (s[j].toNat - 48), by omega, by go_num, by congr 1; omega, by omega, HS⟩
          case measure => simp [intOf]; omega
        · have HW : Hid (Lib.decFrom 0 s.data.toList = some m) := by
            have := HM.out
            rwa [List.take_of_length_le (by rw [show s.data.toList.length = s.size from Array.length_toList]; omega)] at this
          obtain ⟨v, hv⟩ : ∃ v : Int, v = (m : Int) := ⟨_, rfl⟩
          have HV : Hid (NumR s v ((⟨(Lib.itoa v).toArray⟩ : ByteArray).toList == s.toList)) := num_whole HD.out HW.out hm v (by rw [hv]; simp)
          subst hv
          obtain ⟨z, hz⟩ : ∃ z : ByteArray, (⟨(Lib.itoa ((m : Int))).toArray⟩ : ByteArray) = z := ⟨_, rfl⟩
          rw [hz] at HV
          have HZ : Hid ((⟨(Lib.itoa ((m : Int))).toArray⟩ : ByteArray) = z) := hz
          clear hz HW HM
          have qt : (s.toList == []) = false := by
            rw [ByteArray.toList_eq]
            have : s.data.toList.length = s.size := Array.length_toList
            cases hc : s.data.toList with
            | nil => rw [hc] at this; simp at this; omega
            | cons => rfl
          cases hq : (z.toList == s.toList)
          · rw [hq] at HV
            go_wp2_with (first
              | (go_at_call 79; refine (itoa_any _ _ ?_ ?_ HG.out).mono ?_; (· omega); (· omega); rintro e w2 ⟨rfl, hb2⟩; rw [HZ.out]))
            go_ret2
            exact ⟨_, _, rfl, HV.out, hb2⟩
          · rw [hq] at HV
            go_wp2_with (first
              | (go_at_call 79; refine (itoa_any _ _ ?_ ?_ HG.out).mono ?_; (· omega); (· omega); rintro e w2 ⟨rfl, hb2⟩; rw [HZ.out]))
            go_ret2
            exact ⟨_, _, rfl, HV.out, hb2⟩
end Go.Proofs.YtdbmnjodkpeobaaGreatDoor
