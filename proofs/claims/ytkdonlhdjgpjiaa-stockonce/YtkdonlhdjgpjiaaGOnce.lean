/-
  StockOnce's walk.
-/
import Derived.Test.YtkdonlhdjgpjiaaSckA
import Derived.Test.YtkdonlhdjgpjiaaNum
namespace Go.Proofs.Ytkdonlhdjgpjiaa
open Go.ChangeShapes Go.WideShapes Go.ChangeAt Go.RowKit Go.Maps

theorem make8 (W : World) : (Instr.makeSlice 22 (.int .i64 8) (.int .i64 8)).run Try.prog W = .ok (.slice (some ⟨W.heap.size, 0, none⟩) 8 8) (W.alloc (.cells #[.int .i64 0, .int .i64 0, .int .i64 0, .int .i64 0, .int .i64 0, .int .i64 0, .int .i64 0, .int .i64 0] 3)) := by
  kernel_rfl
theorem zero8 {k : Nat} (hk : k < 8) : (#[.int .i64 0, .int .i64 0, .int .i64 0, .int .i64 0, .int .i64 0, .int .i64 0, .int .i64 0, .int .i64 0] : Array Value)[k]? = some (.int .i64 0) := by
  match k, hk with
  | 0, _ => rfl
  | 1, _ => rfl
  | 2, _ => rfl
  | 3, _ => rfl
  | 4, _ => rfl
  | 5, _ => rfl
  | 6, _ => rfl
  | 7, _ => rfl
/-- A row of eight with one number in it. -/
def put8 (i : Nat) (q : Int) : List Int := (List.replicate 8 0).set i q
theorem put8_len (i : Nat) (q : Int) : (put8 i q).length = 8 := by simp [put8]
theorem put8_at {i : Nat} (hi : i < 8) (q : Int) : (put8 i q).getD ((i : Int).toNat) 0 = q := by simp [put8, hi]
theorem put8_ints (w : World) {i : Nat} (hi : i < 8) (q : Int) : Ints ((w.alloc (.cells #[.int .i64 0, .int .i64 0, .int .i64 0, .int .i64 0, .int .i64 0, .int .i64 0, .int .i64 0, .int .i64 0] 3)).setCell ⟨w.heap.size, i, none⟩ (.int .i64 q)) (some ⟨w.heap.size, 0, none⟩) (put8 i q) := by
  refine .inr ⟨w.heap.size, 0, rfl, fun k hk => ?_⟩
  rw [put8_len] at hk
  rw [cell_of (heap_setCell_same _ _ _ _ _ _ (World.alloc_heap_new _ _))]
  rw [Nat.zero_add, Array.getElem?_setIfInBounds]
  by_cases h : i = k
  · subst h
    rw [if_pos rfl, if_pos (by exact hi)]
    simp [put8, hi]
  · rw [if_neg h, zero8 hk]
    have e2 : (List.replicate 8 (0 : Int))[k]? = some 0 := by rw [List.getElem?_replicate, if_pos hk]
    rw [List.getD_eq_getElem?_getD, put8, List.getElem?_set_ne h, e2]
    rfl
/-- What the calls come to. -/
theorem once_plain (l : List Int) (id k q : Int) (h1 : 1 ≤ id ∧ id ≤ 999) (h2 : 0 ≤ k ∧ k < 8) (h3 : 1 ≤ q ∧ q ≤ 1000) (hl : l.getD k.toNat 0 = q) : ∃ s2 s3 s4 : Sb,
    (resE (newS l) id k q = 0 ∧ resS (newS l) id k q = s2) ∧ frV s2 k = 0 ∧ (resE s2 id k 1 = 8 ∧ resS s2 id k 1 = s2) ∧
    ((unE s2 id = 0 ∧ comS s2 id = s3) ∧ (unE s3 id = 6 ∧ comS s3 id = s3 ∧ relS s3 id = s3) ∧ onV s3 k = 0) ∧
    ((unE s2 id = 0 ∧ relS s2 id = s4) ∧ (unE s4 id = 6 ∧ relS s4 id = s4 ∧ comS s4 id = s4) ∧ onV s4 k = q ∧ frV s4 k = q) := by
  have hI : isI id = true := isI_iff.2 h1
  have hT : isIt k = true := isIt_iff.2 h2
  have f1 : (newS l).fr k = q := by show clampA (l.getD k.toNat 0) = q; rw [hl]; exact clampA_id (by omega) (by omega)
  have o1 : (newS l).on k = q := by show clampA (l.getD k.toNat 0) = q; rw [hl]; exact clampA_id (by omega) (by omega)
  have e1 : resE (newS l) id k q = 0 := by unfold resE; rw [if_pos ⟨hI, hT, by omega, by omega⟩, if_neg (by simp [newS]), if_pos (by omega)]
  obtain ⟨s2, hs2⟩ : ∃ s2 : Sb, s2 = resS (newS l) id k q := ⟨_, rfl⟩
  have E2 : s2 = ⟨(newS l).on, upd (newS l).fr k 0, updO (newS l).r id (some (k, q))⟩ := by rw [hs2, resS_ok e1, f1, show q - q = 0 by omega]
  have f2 : s2.fr k = 0 := by rw [E2]; dsimp only; exact upd_same _ _ _
  have o2 : s2.on k = q := by rw [E2]; exact o1
  have r2 : s2.r id = some (k, q) := by rw [E2]; dsimp only; exact updO_same _ _ _
  have e2 : resE s2 id k 1 = 8 := by unfold resE; rw [if_pos ⟨hI, hT, by omega, by omega⟩, r2]; rfl
  obtain ⟨s3, hs3⟩ : ∃ s3 : Sb, s3 = comS s2 id := ⟨_, rfl⟩
  have E3 : s3 = ⟨upd s2.on k 0, s2.fr, updO s2.r id none⟩ := by rw [hs3, comS_some r2]; dsimp only; rw [o2, show q - q = 0 by omega]
  have o3 : s3.on k = 0 := by rw [E3]; dsimp only; exact upd_same _ _ _
  have r3 : s3.r id = none := by rw [E3]; dsimp only; exact updO_same _ _ _
  obtain ⟨s4, hs4⟩ : ∃ s4 : Sb, s4 = relS s2 id := ⟨_, rfl⟩
  have E4 : s4 = ⟨s2.on, upd s2.fr k q, updO s2.r id none⟩ := by rw [hs4, relS_some r2]; dsimp only; rw [f2, Int.zero_add]
  have o4 : s4.on k = q := by rw [E4]; exact o2
  have f4 : s4.fr k = q := by rw [E4]; dsimp only; exact upd_same _ _ _
  have r4 : s4.r id = none := by rw [E4]; dsimp only; exact updO_same _ _ _
  have vo : ∀ s : Sb, onV s k = s.on k := fun s => if_pos hT
  have vf : ∀ s : Sb, frV s k = s.fr k := fun s => if_pos hT
  exact ⟨s2, s3, s4, ⟨e1, hs2.symm⟩, by rw [vf, f2], ⟨e2, resS_no (by omega)⟩, ⟨⟨unE_some r2, hs3.symm⟩, ⟨unE_none r3, comS_none r3, relS_none r3⟩, by rw [vo, o3]⟩, ⟨⟨unE_some r2, hs4.symm⟩, ⟨unE_none r4, relS_none r4, comS_none r4⟩, by rw [vo, o4], by rw [vf, f4]⟩⟩

set_option maxHeartbeats 1000000 in
theorem stockOnce_walk (a0 a1 a2 : Int) (a3 : Bool) (w : World) (_w0 : (Lit.int .i64 a0).wf = true) (_w1 : (Lit.int .i64 a1).wf = true) (_w2 : (Lit.int .i64 a2).wf = true) :
    Calls Try.prog 6 #[.int .i64 a0, .int .i64 a1, .int .i64 a2, .bool a3] w fun e w' => e = .returned (.bool true) ∧ Below w.heap.size w w' := by
  obtain ⟨bA1, bA2⟩ := um_bd a0 999 (by omega) (by omega)
  obtain ⟨A, hA⟩ : ∃ A, um a0 999 = A := ⟨_, rfl⟩
  rw [hA] at bA1 bA2
  obtain ⟨bI1, bI2⟩ := um_bd a1 8 (by omega) (by omega)
  obtain ⟨i, hI⟩ : ∃ i : Nat, um a1 8 = i := ⟨(um a1 8).toNat, by omega⟩
  rw [hI] at bI1 bI2
  obtain ⟨bQ1, bQ2⟩ := um_bd a2 1000 (by omega) (by omega)
  obtain ⟨Q, hQ⟩ : ∃ Q, um a2 1000 = Q := ⟨_, rfl⟩
  rw [hQ] at bQ1 bQ2
  unfold um at hA hI hQ
  have hmk := make8 w
  have PL := hide (once_plain (put8 i (1 + Q)) (1 + A) i (1 + Q) (by omega) (by omega) (by omega) (put8_at (by omega) _))
  have HW : Hid ((Lit.int .i64 (1 + A)).wf = true) := wf_of (by omega) (by omega)
  have HN := hide (snew_on w ((w.alloc (.cells #[.int .i64 0, .int .i64 0, .int .i64 0, .int .i64 0, .int .i64 0, .int .i64 0, .int .i64 0, .int .i64 0] 3)).setCell ⟨w.heap.size, i, none⟩ (.int .i64 (1 + Q))) (put8 i (1 + Q)) ((bel_al (Below.refl _ _) _).setCell (p := ⟨w.heap.size, i, none⟩) (Nat.le_refl _) _) w.heap.size (put8_ints w (by omega) _) (by rw [put8_len]; omega))
  rw [put8_len] at HN
  have c8 : (w.alloc (.cells #[.int .i64 0, .int .i64 0, .int .i64 0, .int .i64 0, .int .i64 0, .int .i64 0, .int .i64 0, .int .i64 0] 3)).cell? ⟨w.heap.size, i, none⟩ = some (.int .i64 0) := by
    rw [cell_of (World.alloc_heap_new _ _)]
    exact zero8 (by omega)
  have f8 : (w.alloc (.cells #[.int .i64 0, .int .i64 0, .int .i64 0, .int .i64 0, .int .i64 0, .int .i64 0, .int .i64 0, .int .i64 0] 3)).frozen? ⟨w.heap.size, i, none⟩ = false := frozen_of_row _ _ _ _ _ (World.alloc_heap_new _ _)
  generalize w.alloc (.cells #[.int .i64 0, .int .i64 0, .int .i64 0, .int .i64 0, .int .i64 0, .int .i64 0, .int .i64 0, .int .i64 0] 3) = W8 at hmk HN c8 f8
  go_enter Try.func6, Try.ntmps6
  go_wp2_with fail
  try rw [hI]
  clear hA hI hQ hmk c8 f8
  refine HN.out.mono ?_
  rintro e w1 ⟨p, b, rfl, k1, hb1⟩
  obtain ⟨s2, s3, s4, ⟨e1, E1⟩, e2, ⟨e3, E3⟩, ⟨⟨e4, E4⟩, ⟨e5, E5, E6⟩, e7⟩, ⟨⟨e8, E8⟩, ⟨e9, E9, E10⟩, e11, e12⟩⟩ := PL.out
  have t1 := res_on k1 hb1 HW.out (by omega) e1 E1
  have T2 := hide (fun u (k : Sk w.heap.size u p b s2 1) => fr_on k e2)
  have T3 := hide (fun u (k : Sk w.heap.size u p b s2 1) hb => res_on k hb HW.out (by omega) e3 E3)
  have C4 := hide (fun u (k : Sk w.heap.size u p b s2 2) hb => com_on k hb HW.out e4 E4)
  have C5 := hide (fun u (k : Sk w.heap.size u p b s3 2) hb => com_on k hb HW.out e5 E5)
  have C6 := hide (fun u (k : Sk w.heap.size u p b s3 2) hb => rel_on k hb HW.out e5 E6)
  have C7 := hide (fun u (k : Sk w.heap.size u p b s3 2) => on_on k e7)
  have R4 := hide (fun u (k : Sk w.heap.size u p b s2 2) hb => rel_on k hb HW.out e8 E8)
  have R5 := hide (fun u (k : Sk w.heap.size u p b s4 2) hb => rel_on k hb HW.out e9 E9)
  have R6 := hide (fun u (k : Sk w.heap.size u p b s4 2) hb => com_on k hb HW.out e9 E10)
  have R7 := hide (fun u (k : Sk w.heap.size u p b s4 2) => on_on k e11)
  have R8 := hide (fun u (k : Sk w.heap.size u p b s4 2) => fr_on k e12)
  clear PL e1 E1 e2 e3 E3 e4 E4 e5 E5 E6 e7 e8 E8 e9 E9 E10 e11 e12 k1 hb1 HN HW
  cases a3
  · go_wp2_with (first
    | (go_at_call 16; refine t1.mono ?_; clear t1; rintro e w2 ⟨rfl, k, hb⟩; have t2 := T2.out w2 k; have t3 := T3.out w2 k hb; clear k hb)
    | (go_at_call 20; refine t2.mono ?_; clear t2; rintro e u ⟨rfl, rfl⟩)
    | (go_at_call 16; refine t3.mono ?_; clear t3; rintro e w4 ⟨rfl, k, hb⟩; have t4 := R4.out w4 k hb; clear k hb)
    | (go_at_call 14; refine t4.mono ?_; clear t4; rintro e w5 ⟨rfl, k, hb⟩; have t5 := R5.out w5 k hb; clear k hb)
    | (go_at_call 14; refine t5.mono ?_; clear t5; rintro e w6 ⟨rfl, k, hb⟩; have t6 := R6.out w6 k hb; clear k hb)
    | (go_at_call 12; refine t6.mono ?_; clear t6; rintro e w7 ⟨rfl, k, hb⟩; have t7 := R7.out w7 k; have t8 := R8.out w7 k; have HB9 := hide hb; clear k hb)
    | (go_at_call 19; refine t7.mono ?_; clear t7; rintro e u ⟨rfl, rfl⟩)
    | (go_at_call 20; refine t8.mono ?_; clear t8; rintro e u ⟨rfl, rfl⟩)
    | (go_at_call 9; refine (sawake_any _).mono ?_; rintro e u7 ⟨rfl, b7⟩; have HB7 := hide b7; clear b7))
    go_ret
    exact ⟨rfl, bel_on' HB9.out HB7.out⟩
  · go_wp2_with (first
    | (go_at_call 16; refine t1.mono ?_; clear t1; rintro e w2 ⟨rfl, k, hb⟩; have t2 := T2.out w2 k; have t3 := T3.out w2 k hb; clear k hb)
    | (go_at_call 20; refine t2.mono ?_; clear t2; rintro e u ⟨rfl, rfl⟩)
    | (go_at_call 16; refine t3.mono ?_; clear t3; rintro e w4 ⟨rfl, k, hb⟩; have t4 := C4.out w4 k hb; clear k hb)
    | (go_at_call 12; refine t4.mono ?_; clear t4; rintro e w5 ⟨rfl, k, hb⟩; have t5 := C5.out w5 k hb; clear k hb)
    | (go_at_call 12; refine t5.mono ?_; clear t5; rintro e w6 ⟨rfl, k, hb⟩; have t6 := C6.out w6 k hb; clear k hb)
    | (go_at_call 14; refine t6.mono ?_; clear t6; rintro e w7 ⟨rfl, k, hb⟩; have t7 := C7.out w7 k; have HB9 := hide hb; clear k hb)
    | (go_at_call 19; refine t7.mono ?_; clear t7; rintro e u ⟨rfl, rfl⟩)
    | (go_at_call 9; refine (sawake_any _).mono ?_; rintro e u7 ⟨rfl, b7⟩; have HB7 := hide b7; clear b7))
    go_ret
    exact ⟨rfl, bel_on' HB9.out HB7.out⟩
end Go.Proofs.Ytkdonlhdjgpjiaa
