/-
  PostFull: the walk.
-/
import Derived.Test.YtmndemjjfhdfdaaPstL
import Derived.Test.YtmndemjjfhdfdaaPstC
import Derived.Test.YtmndemjjfhdfdaaNum
namespace Go.Proofs.Ytmndemjjfhdfdaa
open Go.ChangeShapes Go.WideShapes Go.ChangeAt Go.RowKit Go.Shelf

def idM (k : Nat) : Mg := ⟨0, 0, 0, k, 0, 0, 0⟩
/-- Behind k of them. -/
def fullS (M k : Nat) : Ps := ⟨M, ((List.range k).drop (k - M)).map idM, k - M⟩
theorem full_len (M k : Nat) : (fullS M k).l.length = min k M := by simp [fullS]; omega
theorem full_put {M k : Nat} (hk : k < 1000000) : putPs (fullS M k) [idM k] = fullS M (k + 1) := by
  show put1 (fullS M k) (idM k) = _
  have hl := full_len M k
  unfold put1
  by_cases h : k < M
  · rw [if_pos (by rw [hl]; show _ < M; omega)]
    unfold fullS
    rw [show k - M = 0 by omega, show k + 1 - M = 0 by omega, List.drop_zero, List.drop_zero, List.range_succ, List.map_append]
    rfl
  · rw [if_neg (by rw [hl]; show ¬ _ < M; omega)]
    unfold fullS
    dsimp only
    congr 1
    · rw [show k + 1 - M = (k - M) + 1 by omega, ← List.drop_drop, List.range_succ, List.drop_append_of_le_length (by simp), List.eraseIdx_zero, List.drop_one, List.map_tail, List.map_append]
      rfl
    · omega
theorem full_at {M k i : Nat} {m : Mg} (h : (fullS M k).l[i]? = some m) : m.id = ((k - min k M + i : Nat) : Int) := by
  unfold fullS at h
  dsimp only at h
  rw [List.getElem?_map, List.getElem?_drop] at h
  by_cases hi : k - M + i < k
  · rw [List.getElem?_range hi] at h
    simp at h
    subst h
    show ((k - M + i : Nat) : Int) = _
    omega
  · rw [List.getElem?_eq_none (by simp; omega)] at h
    simp at h

set_option maxHeartbeats 4000000 in
set_option maxRecDepth 100000 in
theorem postFull_walk (a0 a1 : Int) (w : World) (_w0 : (Lit.int .i64 a0).wf = true) (_w1 : (Lit.int .i64 a1).wf = true) :
    Calls Try.prog 6 #[.int .i64 a0, .int .i64 a1] w fun e w' => e = .returned (.bool true) ∧ Below w.heap.size w w' := by
  clear _w0 _w1
  obtain ⟨b1, b2⟩ := um_bd a0 20 (by omega) (by omega)
  obtain ⟨R, hR⟩ : ∃ R, um a0 20 = R := ⟨_, rfl⟩
  rw [hR] at b1 b2
  unfold um at hR
  obtain ⟨b3, b4⟩ := um_bd a1 60 (by omega) (by omega)
  obtain ⟨S, hS⟩ : ∃ S, um a1 60 = S := ⟨_, rfl⟩
  rw [hS] at b3 b4
  unfold um at hS
  obtain ⟨m0, rfl⟩ : ∃ m0 : Nat, R = m0 := ⟨R.toNat, by omega⟩
  obtain ⟨n, rfl⟩ : ∃ n : Nat, S = n := ⟨S.toNat, by omega⟩
  have HN := tnew_any (1 + (m0 : Int)) w
  have hs0 : newPs (1 + (m0 : Int)) = fullS (1 + m0) 0 := by
    unfold newPs fullS clampP
    rw [if_neg (by omega), if_neg (by omega), show (1 + (m0 : Int)).toNat = 1 + m0 by omega]
    simp
  rw [hs0] at HN
  have hn : n < 60 := by omega
  have hm0 : m0 < 20 := by omega
  clear hs0 b1 b2 b3 b4
  go_enter Try.func6, Try.ntmps6
  go_wp2_with fail
  refine HN.mono ?_
  rintro e u1 ⟨rfl, k1, b1⟩
  have HB1 := hide b1
  have HK1 := hide k1
  clear HN b1 k1
  rw [hS]
  clear hS hR
  go_wp2_with fail
  go_loopw [22] (fun i wr => ∃ (j : Nat) (E : Nat → Prop), i = .int .i64 j ∧ j ≤ n ∧ Hid (Pt w.heap.size E wr w.heap.size (fullS (1 + m0) j)) ∧ Hid (Below w.heap.size w wr)) (fun i _ => n - (intOf i).toNat)
  case atStart => exact ⟨0, _, rfl, Nat.zero_le _, HK1, HB1⟩
  case round =>
    obtain ⟨j, E, rfl, hj, HP, HB⟩ := hrel
    by_cases hlt : j < n
    · have hq : (j : Int) < (n : Int) := by omega
      have hb2 := bel_al (Below.refl wr.heap.size wr) (.cells #[.int .i64 0, .int .i64 0, .int .i64 0, .int .i64 j, .int .i64 0, .int .i64 0, .int .i64 0] 35)
      have P2 := tput_any (HP.out.on hb2) (mgs_new wr [idM j] _ rfl) (c := 1) (fun _ ad e he => by cases e; have h3 := (HP.out.1 _ he).2; dsimp only at h3; omega) (by simp)
      rw [full_put (by omega)] at P2
      have HP2 := hide (HP.out.on hb2)
      have HBB := hide (HB.out.trans (hb2.mono HB.out.size))
      clear hb2
      go_wp2_with fail
      refine P2.mono ?_
      rintro e u3 ⟨rfl, k3, o3⟩
      have HB3 := hide (HBB.out.trans (HP2.out.bel o3))
      have HK3 := hide k3
      clear k3 o3 P2 HP2 HBB
      go_wp2
      go_roundw
      case rel => exact ⟨j + 1, _, by go_num, by omega, HK3, HB3⟩
      case measure => simp [intOf]; omega
    · have hq : ¬ (j : Int) < (n : Int) := by omega
      obtain rfl : j = n := by omega
      have A := tlall_any HP.out 100 (by omega)
      have HLEN := hide (full_len (1 + m0) j)
      have hle : (fullS (1 + m0) j).l.length ≤ 100 := by rw [HLEN.out]; omega
      rw [List.take_of_length_le hle] at A
      obtain ⟨L, hL⟩ : ∃ L, (fullS (1 + m0) j).l = L := ⟨_, rfl⟩
      have HAT : Hid (∀ i m, L[i]? = some m → m.id = ((j - L.length + i : Nat) : Int)) := fun i m h => by
        rw [← hL] at h ⊢
        rw [HLEN.out]
        exact full_at h
      rw [hL] at A HLEN hle
      obtain ⟨N, hN⟩ : ∃ N, L.length = N := ⟨_, rfl⟩
      have HNE := hide hN
      have hNv : N = min j (1 + m0) := by rw [← hN]; exact HLEN.out
      clear hL hle HLEN hN
      go_wp2_with fail
      refine A.mono ?_
      rintro e u4 ⟨a4, c4, rfl, -, -, r4, b4⟩
      have HB4 := hide (bel_on' HB.out b4)
      have HM4 := hide (row_mgs r4)
      have LO := tlost_any (HP.out.on b4)
      rw [HNE.out]
      have hlo : (fullS (1 + m0) j).lost = j - (1 + m0) := rfl
      rw [hlo] at LO
      clear A r4 b4 hlo
      have HW := hide tawake_any
      by_cases hc : j < 1 + m0
      · have q0 : ((N : Int) != (j : Int)) = false := by simp only [bne_eq_false_iff_eq]; omega
        rw [show j - (1 + m0) = 0 by omega] at LO
        have q1 : ¬ (1 + (m0 : Int)) < (j : Int) := by omega
        have q2 : ¬ (0 : Int) < (j : Int) - (1 + (m0 : Int)) := by omega
        have hNj : N ≤ j := by omega
        clear hNv
        go_wp2_with (first
          | (go_at_call 21; refine LO.mono ?_; rintro e u5 ⟨rfl, rfl⟩))
        go_loopw [50] (fun i wr2 => ∃ t : Nat, i = .int .i64 t ∧ t ≤ N ∧ Hid (Below u4.heap.size u4 wr2)) (fun i _ => N - (intOf i).toNat)
        case atStart => exact ⟨0, rfl, Nat.zero_le _, Below.refl _ _⟩
        case round =>
          obtain ⟨t, rfl, ht, HR⟩ := hrel
          by_cases htl : t < N
          · have hkl : t < L.length := by have := HNE.out; omega
            obtain ⟨m, hm⟩ : ∃ m, L[t]? = some m := ⟨_, List.getElem?_eq_getElem hkl⟩
            obtain ⟨ba, oa, rfl, p0, p1, p2, p3, p4, p5, p6⟩ := (HM4.out.below HR.out).get hm
            have hid : m.id = (j : Int) - (N : Int) + (t : Int) := by rw [HAT.out t m hm, HNE.out]; omega
            have hidb : (m.id != (j : Int) - (N : Int) + (t : Int)) = false := by rw [hid]; simp
            have q5 : (t : Int) < (N : Int) := by omega
            clear hm hkl hid
            go_wp2
            go_roundw
            case rel => exact ⟨t + 1, by go_num, by omega, bel_al HR.out _⟩
            case measure => simp [intOf]; omega
          · have q5 : ¬ (t : Int) < (N : Int) := by omega
            go_wp2_with (go_at_call 9; refine (HW.out _).mono ?_; rintro e u6 ⟨rfl, b6⟩; have HB6 := hide b6; clear b6)
            go_ret
            exact ⟨rfl, bel_on' (bel_on' HB4.out HR.out) HB6.out⟩
      · by_cases hd : j = 1 + m0
        · rw [show j - (1 + m0) = 0 by omega] at LO
          have q1' : ¬ 1 + (m0 : Int) < (j : Int) := by omega
          have q00 : ((N : Int) != (j : Int)) = false := by simp only [bne_eq_false_iff_eq]; omega
          have q2 : ¬ (0 : Int) < (j : Int) - (1 + (m0 : Int)) := by omega
          have hNj : N ≤ j := by omega
          clear hNv hd
          go_wp2_with (first
            | (go_at_call 21; refine LO.mono ?_; rintro e u5 ⟨rfl, rfl⟩))
          go_loopw [50] (fun i wr2 => ∃ t : Nat, i = .int .i64 t ∧ t ≤ N ∧ Hid (Below u4.heap.size u4 wr2)) (fun i _ => N - (intOf i).toNat)
          case atStart => exact ⟨0, rfl, Nat.zero_le _, Below.refl _ _⟩
          case round =>
            obtain ⟨t, rfl, ht, HR⟩ := hrel
            by_cases htl : t < N
            · have hkl : t < L.length := by have := HNE.out; omega
              obtain ⟨m, hm⟩ : ∃ m, L[t]? = some m := ⟨_, List.getElem?_eq_getElem hkl⟩
              obtain ⟨ba, oa, rfl, p0, p1, p2, p3, p4, p5, p6⟩ := (HM4.out.below HR.out).get hm
              have hid : m.id = (j : Int) - (N : Int) + (t : Int) := by rw [HAT.out t m hm, HNE.out]; omega
              have hidb : (m.id != (j : Int) - (N : Int) + (t : Int)) = false := by rw [hid]; simp
              have q5 : (t : Int) < (N : Int) := by omega
              clear hm hkl hid
              go_wp2
              go_roundw
              case rel => exact ⟨t + 1, by go_num, by omega, bel_al HR.out _⟩
              case measure => simp [intOf]; omega
            · have q5 : ¬ (t : Int) < (N : Int) := by omega
              go_wp2_with (go_at_call 9; refine (HW.out _).mono ?_; rintro e u6 ⟨rfl, b6⟩; have HB6 := hide b6; clear b6)
              go_ret
              exact ⟨rfl, bel_on' (bel_on' HB4.out HR.out) HB6.out⟩
        · obtain ⟨D, hD⟩ : ∃ D : Nat, j - (1 + m0) = D := ⟨_, rfl⟩
          rw [hD] at LO
          have q0 : ((N : Int) != 1 + (m0 : Int)) = false := by simp only [bne_eq_false_iff_eq]; omega
          have q1 : (1 + (m0 : Int)) < (j : Int) := by omega
          have q2 : (j : Int) - (1 + (m0 : Int)) = (D : Int) := by omega
          have q3 : (0 : Int) < (D : Int) := by omega
          have hNj : N ≤ j := by omega
          clear hNv hd hD
          go_wp2_with (first
            | (go_at_call 21; refine LO.mono ?_; rintro e u5 ⟨rfl, rfl⟩))
          go_loopw [50] (fun i wr2 => ∃ t : Nat, i = .int .i64 t ∧ t ≤ N ∧ Hid (Below u4.heap.size u4 wr2)) (fun i _ => N - (intOf i).toNat)
          case atStart => exact ⟨0, rfl, Nat.zero_le _, Below.refl _ _⟩
          case round =>
            obtain ⟨t, rfl, ht, HR⟩ := hrel
            by_cases htl : t < N
            · have hkl : t < L.length := by have := HNE.out; omega
              obtain ⟨m, hm⟩ : ∃ m, L[t]? = some m := ⟨_, List.getElem?_eq_getElem hkl⟩
              obtain ⟨ba, oa, rfl, p0, p1, p2, p3, p4, p5, p6⟩ := (HM4.out.below HR.out).get hm
              have hid : m.id = (j : Int) - (N : Int) + (t : Int) := by rw [HAT.out t m hm, HNE.out]; omega
              have hidb : (m.id != (j : Int) - (N : Int) + (t : Int)) = false := by rw [hid]; simp
              have q5 : (t : Int) < (N : Int) := by omega
              clear hm hkl hid
              go_wp2
              go_roundw
              case rel => exact ⟨t + 1, by go_num, by omega, bel_al HR.out _⟩
              case measure => simp [intOf]; omega
            · have q5 : ¬ (t : Int) < (N : Int) := by omega
              go_wp2_with (go_at_call 9; refine (HW.out _).mono ?_; rintro e u6 ⟨rfl, b6⟩; have HB6 := hide b6; clear b6)
              go_ret
              exact ⟨rfl, bel_on' (bel_on' HB4.out HR.out) HB6.out⟩
end Go.Proofs.Ytmndemjjfhdfdaa
