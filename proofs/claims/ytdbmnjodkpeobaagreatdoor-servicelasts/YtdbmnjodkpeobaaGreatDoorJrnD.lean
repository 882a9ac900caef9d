/-
  Contract: journal.Crash.
-/
import Derived.Test.YtdbmnjodkpeobaaGreatDoorJrnC
namespace Go.Proofs.YtdbmnjodkpeobaaGreatDoor
open Go.ChangeShapes Go.WideShapes Go.ChangeAt Go.RowKit

theorem crash_nil (stay torn : Int) (w : World) : Calls Tryz.prog 25 #[.pointer none, .int .i64 stay, .int .i64 torn] w fun e w' => (∃ x, e = .returned x) ∧ Below w.heap.size w w' := by
  go_enter Tryz.func25, Tryz.ntmps25
  go_wp2
  refine bodyPost_ret (results_none rfl _ _ _) rfl ?_
  exact ⟨⟨_, rfl⟩, Below.refl _ _⟩
theorem crash_down {B : Nat} {w : World} {p : Nat} {v : Value} {room : Int} {L : List ByteArray} {sure : Nat} (h : Jr B w p v room L sure true) (stay torn : Int) :
    Calls Tryz.prog 25 #[.pointer (some ⟨p, 0, none⟩), .int .i64 stay, .int .i64 torn] w fun e w' => (∃ x, e = .returned x) ∧ Below w.heap.size w w' := by
  obtain ⟨⟨c0, c1, c2, c3⟩, f1, f2, f3⟩ := h.cells
  go_enter Tryz.func25, Tryz.ntmps25
  go_wp2
  refine bodyPost_ret (results_none rfl _ _ _) rfl ?_
  exact ⟨⟨_, rfl⟩, Below.refl _ _⟩

/-- So many lines a crash leaves whole. -/
def keptN (L : List ByteArray) (sure : Nat) (stay : Int) : Nat := sure + min stay.toNat (L.length - sure)
/-- What a crash leaves. -/
def crashL (L : List ByteArray) (sure : Nat) (stay torn : Int) : List ByteArray :=
  if keptN L sure stay = L.length then L else
    L.take (keptN L sure stay) ++ (if tearN (L.getD (keptN L sure stay) ByteArray.empty) torn = 0 then [] else [(L.getD (keptN L sure stay) ByteArray.empty).extract 0 (tearN (L.getD (keptN L sure stay) ByteArray.empty) torn)])

set_option maxRecDepth 100000 in
set_option maxHeartbeats 2000000 in
theorem crash_up {B : Nat} {w : World} {p : Nat} {v : Value} {room : Int} {L : List ByteArray} {sure : Nat} (h : Jr B w p v room L sure false) (hsu : sure ≤ L.length) (stay torn : Int) :
    Calls Tryz.prog 25 #[.pointer (some ⟨p, 0, none⟩), .int .i64 stay, .int .i64 torn] w fun e w' => (∃ x, e = .returned x) ∧ ∃ v', Jr B w' p v' room (crashL L sure stay torn) sure true ∧ Off p v v' w w' := by
  obtain ⟨⟨c0, c1, c2, c3⟩, f1, f2, f3⟩ := h.cells
  obtain ⟨a, c, rfl, hc, hst⟩ := h.row
  obtain ⟨K, hK⟩ : ∃ K, keptN L sure stay = K := ⟨_, rfl⟩
  have hKl : K ≤ L.length := by rw [← hK]; unfold keptN; omega
  have hKi : (sure : Int) + min (max stay 0) ((L.length : Int) - (sure : Int)) = (K : Int) := by rw [← hK]; unfold keptN; omega
  have HJ1 : Hid (Jr B (w.setCell ⟨p, 3, none⟩ (.bool true)) p (.slice a L.length c) room L sure true) := h.setDown true
  have HO1 : Hid (Off p (.slice a L.length c) (.slice a L.length c) w (w.setCell ⟨p, 3, none⟩ (.bool true))) := (Off.refl p (.slice a L.length c) w).setCell 3 (.bool true)
  have hL4 : L.length ≤ 4096 := h.2.2.2.2.1
  obtain ⟨M, hM⟩ : ∃ M, crashL L sure stay torn = M := ⟨_, rfl⟩
  rw [hM]
  unfold crashL at hM
  rw [hK] at hM
  have HM : Hid _ := hM
  clear hK hM
  go_enter Tryz.func25, Tryz.ntmps25
  go_wp2_with fail
  obtain ⟨u1, hu1⟩ : ∃ u1, u1 = w.setCell ⟨p, 3, none⟩ (.bool true) := ⟨_, rfl⟩
  rw [← hu1] at HJ1 HO1 ⊢
  clear c0 c1 c2 c3 f1 f2 f3 hu1
  obtain ⟨⟨c0, c1, c2, c3⟩, f1, f2, f3⟩ := HJ1.out.cells
  go_quiet (fail)
  have HBD : Hid (Below u1.heap.size u1 (u1.drewN nq)) := belowN (Below.refl _ _) nq
  generalize u1.drewN nq = u2 at HBD ⊢
  have HJ2 : Hid (Jr B u2 p (.slice a L.length c) room L sure true) := HJ1.out.on HBD.out
  have HO2 : Hid (Off p (.slice a L.length c) (.slice a L.length c) w u2) := HO1.out.trans (Off.of_below HBD.out)
  clear c0 c1 c2 c3 f1 f2 f3 HBD HJ1 HO1
  obtain ⟨⟨c0, c1, c2, c3⟩, f1, f2, f3⟩ := HJ2.out.cells
  by_cases hKe : K = L.length
  · have q1 : ((K : Int) == (L.length : Int)) = true := by simp; omega
    have HML : Hid (M = L) := by show M = L; rw [← HM.out, if_pos hKe]
    go_wp2
    refine bodyPost_ret (results_none rfl _ _ _) rfl ?_
    exact ⟨⟨_, rfl⟩, _, by rw [HML.out]; exact HJ2.out, HO2.out⟩
  · have q1 : ((K : Int) == (L.length : Int)) = false := by simp; omega
    have hlt : K < L.length := by omega
    obtain ⟨X, hX⟩ : ∃ X, L.getD K ByteArray.empty = X := ⟨_, rfl⟩
    have HML : Hid (M = L.take K ++ (if tearN X torn = 0 then [] else [X.extract 0 (tearN X torn)])) := by show M = _; rw [← HM.out, if_neg hKe, hX]
    have HXS : Hid (1 ≤ X.size ∧ X.size ≤ 63) := h.2.2.2.2.2 X (by rw [← hX]; simp [List.getD, hlt])
    obtain ⟨b, off, rfl, hcc⟩ : ∃ b off, a = some ⟨b, off, none⟩ ∧ u2.cell? ⟨b, off + K, none⟩ = some (.string X) := by
      rcases owned_strs HJ2.out.2.2.1 with ⟨a', c', e', -, -, hst'⟩
      cases e'
      rcases hst' with hn | ⟨b, off, rfl, hcl⟩
      · subst hn; simp at hlt
      · exact ⟨b, off, rfl, by rw [hcl K hlt, hX]⟩
    go_wp2_with fail
    refine (tear_any X torn u2 HXS.out).mono ?_
    rintro e u3 ⟨rfl, hb3⟩
    have HJ3 : Hid (Jr B u3 p (.slice (some ⟨b, off, none⟩) L.length c) room L sure true) := HJ2.out.on hb3
    have HO3 : Hid (Off p (.slice (some ⟨b, off, none⟩) L.length c) (.slice (some ⟨b, off, none⟩) L.length c) w u3) := HO2.out.trans (Off.of_below hb3)
    have htn : tearN X torn ≤ X.size - 1 := by unfold tearN; omega
    obtain ⟨Y, hY⟩ : ∃ Y, X.extract 0 (tearN X torn) = Y := ⟨_, rfl⟩
    have hYs : Y.size = tearN X torn := by rw [← hY]; simp; omega
    have HMY : Hid (M = L.take K ++ (if Y.size = 0 then [] else [Y])) := by show M = _; rw [HML.out, hY, hYs]
    have HYS : Hid (Y.size ≤ 63) := by show _ ≤ _; have := HXS.out; omega
    rw [hY]
    clear hb3 hY hYs htn HML HM hcc c0 c1 c2 c3 f1 f2 f3 HJ2 HO2 h
    go_wp2_with fail
    refine (cut_any HJ3.out K hKl).mono ?_
    rintro e u4 ⟨⟨x4, rfl⟩, v4, hj4, ho4⟩
    have HJ4 : Hid (Jr B u4 p v4 room (L.take K) sure true) := hj4
    have HO4 : Hid (Off p (.slice (some ⟨b, off, none⟩) L.length c) v4 w u4) := HO3.out.trans ho4
    clear hj4 ho4 HJ3 HO3
    obtain ⟨⟨c0, c1, c2, c3⟩, f1, f2, f3⟩ := HJ4.out.cells
    obtain ⟨a4, c4, rfl, -, -⟩ := HJ4.out.row
    by_cases hy0 : Y.size = 0
    · have qy : (Y.toList == []) = true := by
        rw [ByteArray.toList_eq]
        have h1 : Y.data.toList.length = Y.size := Array.length_toList
        rw [List.eq_nil_of_length_eq_zero (h1.trans hy0)]
        rfl
      have qn : (Y.toList != []) = false := by unfold bne; rw [qy]; rfl
      have HML : Hid (M = L.take K) := by show M = _; rw [HMY.out, if_pos hy0, List.append_nil]
      go_wp2
      go_end0
      exact ⟨⟨_, rfl⟩, _, by rw [HML.out]; exact HJ4.out, HO4.out⟩
    · have qy : (Y.toList == []) = false := by
        rw [ByteArray.toList_eq]
        have h1 : Y.data.toList.length = Y.size := Array.length_toList
        cases hc' : Y.data.toList with
        | nil => rw [hc'] at h1; simp at h1; omega
        | cons => rfl
      have qn : (Y.toList != []) = true := by unfold bne; rw [qy]; rfl
      have HML : Hid (M = L.take K ++ [Y]) := by show M = _; rw [HMY.out, if_neg hy0]
      have HY1 : Hid (1 ≤ Y.size ∧ Y.size ≤ 63) := ⟨by omega, HYS.out⟩
      have hTK : (L.take K).length < 4096 := by simp; omega
      generalize L.take K = T at HJ4 HO4 HML hTK c1 ⊢
      have HJ5 : Hid (Jr B (u4.alloc (.cells #[.string Y] 9)) p (.slice a4 T.length c4) room T sure true) := HJ4.out.on ((Below.refl _ _).alloc (Nat.le_refl _) _)
      have HO5 : Hid (Off p (.slice (some ⟨b, off, none⟩) L.length c) (.slice a4 T.length c4) w (u4.alloc (.cells #[.string Y] 9))) := HO4.out.trans (Off.of_below ((Below.refl _ _).alloc (Nat.le_refl _) _))
      go_wp2_with (first
        | (at_builtin; refine append_strs_at rfl (.tmp 62) (.tmp 64) rfl B (.slice a4 T.length c4) T.length T rfl HJ5.out.2.2.1 ⟨u4.heap.size, 0, none⟩ 1 1 [Y] rfl rfl (strs_one u4 Y) ?hnn ?hba ?_; (case hnn => omega); (case hba => exact HJ5.out.low); intro v6 w6 o6 g6 at6; obtain ⟨a6, c6, rfl, hj6, ho6, d1, e1⟩ := HJ5.out.appended HY1.out hTK o6 g6 at6; have HJ6 : Hid _ := hj6; have HO6 : Hid _ := HO5.out.trans ho6; clear o6 g6 at6 hj6 ho6))
      go_end0
      exact ⟨⟨_, rfl⟩, _, by rw [HML.out]; exact HJ6.out, HO6.out⟩
end Go.Proofs.YtdbmnjodkpeobaaGreatDoor
