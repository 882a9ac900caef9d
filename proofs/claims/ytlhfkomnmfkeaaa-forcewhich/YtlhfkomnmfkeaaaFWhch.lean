/-
  ForceWhich's walk.
-/
import Derived.Test.YtlhfkomnmfkeaaaFrcA
namespace Go.Proofs.Ytlhfkomnmfkeaaa
open Go.ChangeShapes Go.WideShapes Go.ChangeAt Go.RowKit

set_option maxHeartbeats 4000000 in
theorem forceWhich_walk (a0 : Option Addr) (len0 cap0 : Nat) (z0 : List Int) (a1 : Bool) (w : World) (w0 : IsRow .i64 w a0 len0 cap0 z0) :
    Calls Try.prog 6 #[.slice a0 len0 cap0, .bool a1] w fun e w' => e = .returned (.bool true) ∧ Below w.heap.size w w' := by
  obtain ⟨l, rfl, hl9, hi⟩ := w0.ints
  clear w0
  by_cases hbig : 60 < l.length
  · clear hi
    go_enter Try.func6, Try.ntmps6
    go_wp2_with (go_at_call 7; refine (fawake_any _).mono ?_; rintro e u ⟨rfl, hb⟩)
    go_ret
    exact ⟨rfl, hb⟩
  have W0 := hide (fwh_any a0 l cap0 a1 w (by omega) hi)
  have HI := hide hi
  have hpl : (whV l a1 l.length).length ≤ 60 := Nat.le_trans (wh_bd _ _ _) (by omega)
  have HN : Hid (∀ k, k < l.length → damV (l.getD k 0) a1 = true → (whV l a1 k).length < (whV l a1 l.length).length ∧ (whV l a1 l.length).getD (whV l a1 k).length 0 = (k : Int)) := fun k hk hd => wh_next hk hd
  have HF : Hid (∀ k, damV (l.getD k 0) a1 = true → (whV l a1 (k + 1)).length = (whV l a1 k).length + 1) := fun k hd => by rw [wh_on hd]; simp
  have HG : Hid (∀ k, damV (l.getD k 0) a1 = false → (whV l a1 (k + 1)).length = (whV l a1 k).length) := fun k hd => by rw [wh_off hd]
  have HL : Hid (∀ k, (whV l a1 k).length ≤ k) := fun k => wh_bd _ _ _
  obtain ⟨P, hP⟩ : ∃ P, whV l a1 l.length = P := ⟨_, rfl⟩
  obtain ⟨g, hg⟩ : ∃ g : Nat → Nat, (fun k => (whV l a1 k).length) = g := ⟨_, rfl⟩
  have hg' : ∀ k, (whV l a1 k).length = g k := fun k => congrFun hg k
  have HZ : Hid (g 0 = 0) := (hg' 0).symm
  have HT : Hid (g l.length = P.length) := by rw [← hP]; exact (hg' _).symm
  rw [hP] at hpl W0
  simp only [hP, hg'] at HN HF HG HL
  clear hP hg hg' hi hl9
  go_enter Try.func6, Try.ntmps6
  go_wp2_with (go_at_call 13; refine W0.out.mono ?_; rintro e u ⟨b1, d1, rfl, i1, hb1⟩; have HI1 := hide i1; have HB1 := hide hb1; have HJ := hide (HI.out.below hb1); clear i1 hb1)
  clear W0
  go_loopw [6, 19] (fun fv i wr => ∃ (j : Nat), fv = .int .i64 (g j : Nat) ∧ i = .int .i64 j ∧ j ≤ l.length ∧ Hid (Below u.heap.size u wr)) (fun _ i _ => l.length - (intOf i).toNat)
  case atStart => exact ⟨0, by rw [HZ.out]; rfl, rfl, Nat.zero_le _, Below.refl _ _⟩
  case round =>
    obtain ⟨j, rfl, rfl, hj, HW⟩ := hrel
    have hc := HL.out j
    by_cases hlt : j < l.length
    · have ql : (j : Int) < (l.length : Int) := by omega
      rcases HJ.out.below HW.out with h0 | ⟨bi, oi, rfl, hci⟩
      · subst h0; simp at hlt
      have c0 := hci j hlt
      obtain ⟨s, hs⟩ : ∃ s, l.getD j 0 = s := ⟨_, rfl⟩
      have F1 := HF.out j
      have F2 := HG.out j
      have F3 := HN.out j hlt
      rw [hs] at c0 F1 F2 F3
      obtain ⟨c, hcc⟩ : ∃ c, g j = c := ⟨_, rfl⟩
      rw [hcc] at F1 F2 F3 hc ⊢
      clear hs hci hcc
      obtain ⟨d, hd⟩ : ∃ d, damV s a1 = d := ⟨_, rfl⟩
      cases d
      · have HE := hide (F2 hd)
        clear F1 F2 F3
        have hx : (s = 4 ∧ a1 = true) ∨ (s = 5 ∧ a1 = false) ∨ (s ≠ 4 ∧ s ≠ 5) := by
          unfold damV at hd
          cases a1 <;> simp at hd <;> simp <;> omega
        rcases hx with ⟨rfl, rfl⟩ | ⟨rfl, rfl⟩ | ⟨h4, h5⟩
        · clear hd
          go_wp2
          go_roundw
          case rel => exact ⟨j + 1, by rw [HE.out], by go_num, by omega, HW⟩
          case measure => simp [intOf]; omega
        · clear hd
          go_wp2
          go_roundw
          case rel => exact ⟨j + 1, by rw [HE.out], by go_num, by omega, HW⟩
          case measure => simp [intOf]; omega
        · have q4 : (s == 4) = false := by simpa using h4
          have q5 : (s == 5) = false := by simpa using h5
          clear hd h4 h5
          go_wp2
          go_roundw
          case rel => exact ⟨j + 1, by rw [HE.out], by go_num, by omega, HW⟩
          case measure => simp [intOf]; omega
      · have HE := hide (F1 hd)
        obtain ⟨G1, G2⟩ := F3 hd
        clear F1 F2 F3
        rcases HI1.out.below HW.out with h0 | ⟨b2, o2, rfl, hc2⟩
        · rw [h0] at G1; simp at G1
        have c2 := hc2 c G1
        rw [G2] at c2
        have qx : (c : Int) < (P.length : Int) := by omega
        have qy : ((j : Int) != (j : Int)) = false := by simp
        clear hc2 G2
        rcases (dam_iff s a1).1 hd with ⟨rfl, rfl⟩ | ⟨rfl, rfl⟩
        all_goals
          clear hd
          go_wp2
          go_roundw
          case rel => exact ⟨j + 1, by rw [HE.out]; go_num, by go_num, by omega, HW⟩
          case measure => simp [intOf]; omega
    · have ql : ¬ (j : Int) < (l.length : Int) := by omega
      have ej : j = l.length := by omega
      have e := HT.out
      rw [← ej] at e
      rw [e]
      have qe : ((P.length : Int) == (P.length : Int)) = true := by simp
      have HB2 := hide (bel_on' HB1.out HW.out)
      clear e ej
      go_wp2_with (go_at_call 7; refine (fawake_any _).mono ?_; rintro e u ⟨rfl, hb⟩; have HE := hide (bel_on' HB2.out hb); clear hb)
      go_ret
      exact ⟨rfl, HE.out⟩
end Go.Proofs.Ytlhfkomnmfkeaaa
