/-
  Contract: the reference's ParseOrder.
-/
import Derived.Test.YteefmibnkfojiaaDoorOrdH
import Derived.Test.YteefmibnkfojiaaDoorOrdG
import Derived.Test.YteefmibnkfojiaaDoorOrdQ
import Derived.Deep.RegionLaw
import Derived.Deep.RegionHeld3
import Derived.Deep.LoopGhost
namespace Go.Proofs.YteefmibnkfojiaaDoor
open Go.ChangeShapes Go.WideShapes Go.ChangeAt Go.RowKit

/-- The world while the steps are read: the result's block, the order at P, its own row of steps; all below P lies as it did in w1. -/
def QSt (w1 : World) (P : Nat) (q : Od) (nv : Value) (wx : World) : Prop :=
  Below P w1 wx ∧ P + 1 ≤ wx.heap.size ∧
  wx.heap[P]? = some (.cells #[.int .i64 q.id, .int .i64 q.item, .int .i64 q.qty, .int .i64 q.client, .int .i64 q.price, nv] 24 (0, 0)) ∧
  wx.ownsRow (P + 1) 37 2 nv q.steps.length (stCells q.steps)
theorem QSt.on {w1 : World} {P : Nat} {q : Od} {nv : Value} {wx wy : World} (h : QSt w1 P q nv wx) (hb : Below wx.heap.size wx wy) : QSt w1 P q nv wy := by
  obtain ⟨h1, h2, h3, h4⟩ := h
  exact ⟨h1.trans (hb.mono (by omega)), Nat.le_trans h2 hb.size, (hb.block _ (by omega)).trans h3, row_stays h4 (fun k cs _ hc => hb.block k (Array.getElem?_eq_some_iff.1 hc).1)⟩
theorem QSt.app {w1 : World} {P : Nat} {q : Od} {nv nv' : Value} {w5 w6 : World} {st' : List (Int × Int)} (h : QSt w1 P q nv w5) (g : w5.grownBy w6 nv.ownBlock) (o : w6.ownsRow (P + 1) 37 2 nv' st'.length (stCells st')) :
    QSt w1 P ⟨q.id, q.item, q.qty, q.client, q.price, st'⟩ nv' (w6.setCell ⟨P, 5, none⟩ nv') ∧ w6.cell? ⟨P, 5, none⟩ = some nv ∧ w6.frozen? ⟨P, 5, none⟩ = false := by
  obtain ⟨h1, h2, h3, h4⟩ := h
  have hb : Below (P + 1) w5 w6 := (Below.refl _ _).grown g h2 (fun j hj => (h4.lt j hj).1)
  have hs := hb.size
  have e5 := (hb.block _ (by omega)).trans h3
  refine ⟨⟨(h1.trans (hb.mono (by omega))).setCell (Nat.le_refl _) _, by simp; omega, ?_, row_stays o (fun k cs hk _ => Below.heap_setCell _ _ _ _ (by show k ≠ P; omega))⟩, by rw [cell_of e5]; rfl, frozen_of_row _ _ _ _ _ e5⟩
  rw [heap_setCell_same _ _ _ _ _ _ e5]; simp

theorem step_append_stI {ops : Array Oper} {o : Oper} {a : Act} {w : World} {K : Act → World → Prop} {Q : Exit → Act → World → Prop} {E : Prop} (hgd : o.guard = none) (s x : Operand)
    (ho : o.op = .call { callee := .builtin .append, args := #[s, x], argTypes := #[22, 22] })
    (base : Nat) (v : Value) (L : List (Int × Int)) (hs : a.eval s = v) (hown : w.ownsRow base 37 2 v L.length (stCells L)) (ad : Addr) (y : Int × Int) (c : Nat) (hx : a.eval x = .slice (some ad) 1 c)
    (hm : Sts w (some ad) [y]) (hb : L.length + 1 ≤ 1000000) (hbase : base ≤ w.heap.size)
    (h : ∀ a' c' w', w'.ownsRow base 37 2 (.slice a' (L.length + 1) c') (L ++ [y]).length (stCells (L ++ [y])) → w.grownBy w' v.ownBlock → K (a.put o.dst (.slice a' (L.length + 1) c')) w') :
    if Region.wanted o (yielded ops a.tmps) = true then Oper.wp Tryd.prog o a w K Q else E := by
  have hw : Region.wanted o (yielded ops a.tmps) = true := by simp [Region.wanted, hgd]
  rw [if_pos hw]
  obtain ⟨i0, hi, hz0, hz1, hz2⟩ := info_parts Tryd.infoStep
  obtain ⟨v', w', hr, h2, h3, -, -⟩ := run_append_own_at (P := Tryd.prog) w base 22 o.type 37 i0 _ 2 16 Tryd.underlying22 hi hz0 hz1 hz2 rfl (by decide) v L.length (stCells L) hown ad 1 c (stCells [y]) (stCells_len [y]) (sts_news hm) (by
    intro u hu
    unfold stCells at hu
    rw [List.mem_flatMap] at hu
    obtain ⟨y', _, hy⟩ := hu
    simp at hy
    rcases hy with rfl | rfl <;> rfl) (by unfold maxLen; omega) (by omega) hbase
  unfold Oper.wp execOp
  simp only [ho, resolve, invoke, builtin, Sem.run_bind, Sem.run_pure, Result.andThen_ok, List.map_toArray, List.map_cons, List.map_nil, hs, hx, hr]
  obtain ⟨a', c', rfl, _⟩ := row_slice h2
  refine h a' c' w' ?_ h3
  rw [stCells_append, List.length_append]
  exact h2

theorem wrap_small (i : Nat) (h : i ≤ 1000) : IntKind.i64.wrap ((i : Int) + 1) = (i : Int) + 1 := by
  rw [IntKind.wrap_i64]; omega
theorem pairs_two {D : List Nat} {i : Nat} (h : i + 1 < D.length) : pairsO (D.drop i) = (((D.getD i 0 : Nat) : Int), ((D.getD (i + 1) 0 : Nat) : Int)) :: pairsO (D.drop (i + 2)) := by
  rw [List.drop_eq_getElem_cons (by omega), List.drop_eq_getElem_cons h, pairsO]
  simp [List.getD, h, show i < D.length by omega]
theorem pairs_end {D : List Nat} {i : Nat} (h : D.length ≤ i) : pairsO (D.drop i) = [] := by
  rw [List.drop_eq_nil_of_le h]; rfl
theorem lenB_iff {D : List Nat} : lenB D = true ↔ 5 ≤ D.length ∧ D.length ≤ 11 ∧ D.length % 2 = 1 := by
  unfold lenB
  simp only [Bool.and_eq_true, decide_eq_true_eq]
  exact and_assoc

set_option maxRecDepth 100000 in
set_option maxHeartbeats 8000000 in
theorem ref_parse_any (l : List UInt8) (w : World) (hl : l.length ≤ 300) (hg : Gl w) :
    Calls Tryd.prog 11 #[.string (byB l)] w fun e w' => ParseO w' l e ∧ Below w.heap.size w w' := by
  obtain ⟨Z, hZ⟩ : ∃ Z, Z = w.alloc (.cells #[.int .i64 0, .int .i64 0, .int .i64 0, .int .i64 0, .int .i64 0, .slice none 0 0] 24) := ⟨_, rfl⟩
  have hbZ : Below w.heap.size w Z := by rw [hZ]; exact (Below.refl _ _).alloc (Nat.le_refl _) _
  have hZb : Z.heap[w.heap.size]? = some (.cells #[.int .i64 0, .int .i64 0, .int .i64 0, .int .i64 0, .int .i64 0, .slice none 0 0] 24 (0, 0)) := by
    rw [hZ]
    show (w.heap.push _)[w.heap.size]? = _
    simp
  have DG := digits_any l Z hl
  obtain ⟨zs, hzs⟩ : ∃ n, n = Z.heap.size := ⟨_, rfl⟩
  rw [← hzs] at DG
  rw [hZ] at DG
  obtain ⟨D, hD⟩ : ∃ D, D = digsA l none := ⟨_, rfl⟩
  rw [← hD] at DG
  have HPR : Hid (∀ (o : Od) (e : Int), ((lenB D = true ∧ mayO (ofNums D) = true ∧ textL (ofNums D) = l ∧ o = ofNums D ∧ e = 0) ∨ ((lenB D = false ∨ mayO (ofNums D) = false ∨ textL (ofNums D) ≠ l) ∧ o = od0 ∧ e = 2)) → ParO l o e) := fun o e h => parO_ref l o e (by rw [← hD]; exact h)
  obtain ⟨S, hS⟩ : ∃ S, S = byB l := ⟨_, rfl⟩
  rw [← hS] at DG ⊢
  have HS := hide hS
  have HZ := hide hZ
  have HG := hide hg
  have HL300 := hide hl
  clear hZ hD hg hS hl
  go_enter Tryd.func11, Tryd.ntmps11
  go_wp2_with fail
  refine DG.mono ?_
  rintro e w1 ⟨av, cv, m, rfl, hna, hn300, hb1⟩
  rw [← HZ.out] at hb1
  subst hzs
  have Z1 := hide ((hb1.block w.heap.size (Array.getElem?_eq_some_iff.1 hZb).1).trans hZb)
  have HB1 := hide (bel_on' hbZ hb1)
  have HNA := hide hna
  have hz1 : w.heap.size < w1.heap.size := (Array.getElem?_eq_some_iff.1 Z1.out).1
  clear DG hb1 hZb hbZ hna
  by_cases hB : lenB D = true
  rotate_left
  · have HP : Hid (ParO l od0 2) := HPR.out od0 2 (.inr ⟨.inl (by simpa using hB), rfl, rfl⟩)
    by_cases g5 : (D.length : Int) < 5
    · clear hB
      obtain ⟨⟨d0, d1, d2, d3, d4, d5⟩, f0, f1, f2, f3, f4, f5⟩ := six_of Z1.out
      go_wp2
      obtain ⟨W, hW⟩ : ∃ W, W = ((((((w1).setCell ⟨w.heap.size, 0, none⟩ (.int .i64 0)).setCell ⟨w.heap.size, 1, none⟩ (.int .i64 0)).setCell ⟨w.heap.size, 2, none⟩ (.int .i64 0)).setCell ⟨w.heap.size, 3, none⟩ (.int .i64 0)).setCell ⟨w.heap.size, 4, none⟩ (.int .i64 0)).setCell ⟨w.heap.size, 5, none⟩ (.slice none 0 0) := ⟨_, rfl⟩
      rw [← hW]
      obtain ⟨r2, ro⟩ := set6 Z1.out hW
      obtain ⟨⟨z0, z1, z2, z3, z4, z5⟩, -⟩ := six_of r2
      have hbW : Below w.heap.size w W := HB1.out.trans (ro.bel (Nat.le_refl _) HB1.out.size)
      refine bodyPost_ret (v := .tuple #[.agg #[.int .i64 0, .int .i64 0, .int .i64 0, .int .i64 0, .int .i64 0, .slice none 0 0], .int .i64 2]) ?_ rfl ?_
      · rw [results_cell_tmp Tryd.results11]
        simp [go_sem, z0, z1, z2, z3, z4, z5]
      · exact ⟨⟨od0, 2, none, 0, HP.out, rfl, .inl rfl, Nat.zero_le _⟩, hbW⟩
    by_cases g11 : (D.length : Int) > 11
    · clear hB
      obtain ⟨⟨d0, d1, d2, d3, d4, d5⟩, f0, f1, f2, f3, f4, f5⟩ := six_of Z1.out
      go_wp2
      obtain ⟨W, hW⟩ : ∃ W, W = ((((((w1).setCell ⟨w.heap.size, 0, none⟩ (.int .i64 0)).setCell ⟨w.heap.size, 1, none⟩ (.int .i64 0)).setCell ⟨w.heap.size, 2, none⟩ (.int .i64 0)).setCell ⟨w.heap.size, 3, none⟩ (.int .i64 0)).setCell ⟨w.heap.size, 4, none⟩ (.int .i64 0)).setCell ⟨w.heap.size, 5, none⟩ (.slice none 0 0) := ⟨_, rfl⟩
      rw [← hW]
      obtain ⟨r2, ro⟩ := set6 Z1.out hW
      obtain ⟨⟨z0, z1, z2, z3, z4, z5⟩, -⟩ := six_of r2
      have hbW : Below w.heap.size w W := HB1.out.trans (ro.bel (Nat.le_refl _) HB1.out.size)
      refine bodyPost_ret (v := .tuple #[.agg #[.int .i64 0, .int .i64 0, .int .i64 0, .int .i64 0, .int .i64 0, .slice none 0 0], .int .i64 2]) ?_ rfl ?_
      · rw [results_cell_tmp Tryd.results11]
        simp [go_sem, z0, z1, z2, z3, z4, z5]
      · exact ⟨⟨od0, 2, none, 0, HP.out, rfl, .inl rfl, Nat.zero_le _⟩, hbW⟩
    have ge : ((D.length : Int) % 2 == 0) = true := by
      have h2 : ¬ (5 ≤ D.length ∧ D.length ≤ 11 ∧ D.length % 2 = 1) := fun h => hB (lenB_iff.2 h)
      simp only [beq_iff_eq]
      omega
    clear hB
    obtain ⟨⟨d0, d1, d2, d3, d4, d5⟩, f0, f1, f2, f3, f4, f5⟩ := six_of Z1.out
    go_wp2
    obtain ⟨W, hW⟩ : ∃ W, W = ((((((w1).setCell ⟨w.heap.size, 0, none⟩ (.int .i64 0)).setCell ⟨w.heap.size, 1, none⟩ (.int .i64 0)).setCell ⟨w.heap.size, 2, none⟩ (.int .i64 0)).setCell ⟨w.heap.size, 3, none⟩ (.int .i64 0)).setCell ⟨w.heap.size, 4, none⟩ (.int .i64 0)).setCell ⟨w.heap.size, 5, none⟩ (.slice none 0 0) := ⟨_, rfl⟩
    rw [← hW]
    obtain ⟨r2, ro⟩ := set6 Z1.out hW
    obtain ⟨⟨z0, z1, z2, z3, z4, z5⟩, -⟩ := six_of r2
    have hbW : Below w.heap.size w W := HB1.out.trans (ro.bel (Nat.le_refl _) HB1.out.size)
    refine bodyPost_ret (v := .tuple #[.agg #[.int .i64 0, .int .i64 0, .int .i64 0, .int .i64 0, .int .i64 0, .slice none 0 0], .int .i64 2]) ?_ rfl ?_
    · rw [results_cell_tmp Tryd.results11]
      simp [go_sem, z0, z1, z2, z3, z4, z5]
    · exact ⟨⟨od0, 2, none, 0, HP.out, rfl, .inl rfl, Nat.zero_le _⟩, hbW⟩
  obtain ⟨b5, b11, bo⟩ := lenB_iff.1 hB
  have ge : ((D.length : Int) % 2 == 0) = false := by
    simp only [beq_eq_false_iff_ne]
    omega
  have g5 : decide ((D.length : Int) < 5) = false := by simp only [decide_eq_false_iff_not]; omega
  have g11 : decide (11 < (D.length : Int)) = false := by simp only [decide_eq_false_iff_not]; omega
  obtain ⟨nb, noff, rfl, n0⟩ := HNA.out.at (i := 0) (by omega)
  obtain ⟨_, _, e1, n1⟩ := HNA.out.at (i := 1) (by omega)
  obtain ⟨_, _, e2, n2⟩ := HNA.out.at (i := 2) (by omega)
  obtain ⟨_, _, e3, n3⟩ := HNA.out.at (i := 3) (by omega)
  obtain ⟨_, _, e4, n4⟩ := HNA.out.at (i := 4) (by omega)
  cases e1
  cases e2
  cases e3
  cases e4
  obtain ⟨v0, ev0⟩ : ∃ v, v = D.getD 0 0 := ⟨_, rfl⟩
  obtain ⟨v1, ev1⟩ : ∃ v, v = D.getD 1 0 := ⟨_, rfl⟩
  obtain ⟨v2, ev2⟩ : ∃ v, v = D.getD 2 0 := ⟨_, rfl⟩
  obtain ⟨v3, ev3⟩ : ∃ v, v = D.getD 3 0 := ⟨_, rfl⟩
  obtain ⟨v4, ev4⟩ : ∃ v, v = D.getD 4 0 := ⟨_, rfl⟩
  rw [← ev0] at n0
  rw [← ev1] at n1
  rw [← ev2] at n2
  rw [← ev3] at n3
  rw [← ev4] at n4
  simp only [Nat.add_zero] at n0
  have HOF : Hid (ofNums D = ⟨v0, v2, v1, v4, v3, pairsO (D.drop 5)⟩) := by show _ = _; unfold ofNums; rw [ev0, ev1, ev2, ev3, ev4]
  clear ev0 ev1 ev2 ev3 ev4
  have q0 : 0 < D.length := by omega
  have q1 : (1 : Int) < (D.length : Int) := by omega
  have q2 : (2 : Int) < (D.length : Int) := by omega
  have q3 : (3 : Int) < (D.length : Int) := by omega
  have q4 : (4 : Int) < (D.length : Int) := by omega
  go_wp2_with fail
  refine wp_region_held_drew (S := (fun w' => w'.cell? ⟨nb, noff, none⟩ = some (.int .i64 v0) ∧ w'.cell? ⟨nb, noff + 1, none⟩ = some (.int .i64 v1) ∧ w'.cell? ⟨nb, noff + 2, none⟩ = some (.int .i64 v2) ∧ w'.cell? ⟨nb, noff + 3, none⟩ = some (.int .i64 v3) ∧ w'.cell? ⟨nb, noff + 4, none⟩ = some (.int .i64 v4))) (by kernel_rfl) ⟨n0, n1, n2, n3, n4⟩ (fun hHeld => ?_)
  refine wpAnyH_take (i := 0) (oi := { dst := some 29, op := _, type := _, pos := _, after := _, guard := _ }) (v := ?va0) rfl (by kernel_rfl) (by kernel_rfl) (by kernel_rfl) (fun _ _ _ h => h) (Or.inl ⟨by kernel_rfl, ?hya0⟩) hHeld ?resta0
  case hya0 => (intro w' hSw; (try dsimp only at hSw); go_simp; all_goals (with_reducible rfl))
  try simp only [Act.put, List.setIfInBounds_toArray, List.set_cons_zero, List.set_cons_succ]
  refine wpAnyH_take (i := 1) (oi := { dst := some 30, op := _, type := _, pos := _, after := _, guard := _ }) (v := ?va1) rfl (by kernel_rfl) (by kernel_rfl) (by kernel_rfl) (fun _ _ _ h => h) (Or.inl ⟨by kernel_rfl, ?hya1⟩) hHeld ?resta1
  case hya1 => (intro w' hSw; (try dsimp only at hSw); go_simp; all_goals (with_reducible rfl))
  try simp only [Act.put, List.setIfInBounds_toArray, List.set_cons_zero, List.set_cons_succ]
  refine wpAnyH_take (i := 2) (oi := { dst := some 31, op := _, type := _, pos := _, after := _, guard := _ }) (v := ?va2) rfl (by kernel_rfl) (by kernel_rfl) (by kernel_rfl) (fun _ _ _ h => h) (Or.inl ⟨by kernel_rfl, ?hya2⟩) hHeld ?resta2
  case hya2 => (intro w' hSw; (try dsimp only at hSw); go_simp; all_goals (with_reducible rfl))
  try simp only [Act.put, List.setIfInBounds_toArray, List.set_cons_zero, List.set_cons_succ]
  refine wpAnyH_take (i := 3) (oi := { dst := some 32, op := _, type := _, pos := _, after := _, guard := _ }) (v := ?va3) rfl (by kernel_rfl) (by kernel_rfl) (by kernel_rfl) (fun _ _ _ h => h) (Or.inl ⟨by kernel_rfl, ?hya3⟩) hHeld ?resta3
  case hya3 => (intro w' hSw; (try dsimp only at hSw); go_simp; all_goals (with_reducible rfl))
  try simp only [Act.put, List.setIfInBounds_toArray, List.set_cons_zero, List.set_cons_succ]
  refine wpAnyH_take (i := 4) (oi := { dst := some 33, op := _, type := _, pos := _, after := _, guard := _ }) (v := ?va4) rfl (by kernel_rfl) (by kernel_rfl) (by kernel_rfl) (fun _ _ _ h => h) (Or.inl ⟨by kernel_rfl, ?hya4⟩) hHeld ?resta4
  case hya4 => (intro w' hSw; (try dsimp only at hSw); go_simp; all_goals (with_reducible rfl))
  try simp only [Act.put, List.setIfInBounds_toArray, List.set_cons_zero, List.set_cons_succ]
  refine wpAnyH_take (i := 5) (oi := { dst := some 34, op := _, type := _, pos := _, after := _, guard := _ }) (v := ?va5) rfl (by kernel_rfl) (by kernel_rfl) (by kernel_rfl) (fun _ _ _ h => h) (Or.inl ⟨by kernel_rfl, ?hya5⟩) hHeld ?resta5
  case hya5 => (intro w' hSw; (try dsimp only at hSw); go_simp; all_goals (with_reducible rfl))
  try simp only [Act.put, List.setIfInBounds_toArray, List.set_cons_zero, List.set_cons_succ]
  refine wpAnyH_take (i := 6) (oi := { dst := some 35, op := _, type := _, pos := _, after := _, guard := _ }) (v := ?va6) rfl (by kernel_rfl) (by kernel_rfl) (by kernel_rfl) (fun _ _ _ h => h) (Or.inl ⟨by kernel_rfl, ?hya6⟩) hHeld ?resta6
  case hya6 => (intro w' hSw; (try dsimp only at hSw); go_simp; all_goals (with_reducible rfl))
  try simp only [Act.put, List.setIfInBounds_toArray, List.set_cons_zero, List.set_cons_succ]
  refine wpAnyH_take (i := 7) (oi := { dst := some 36, op := _, type := _, pos := _, after := _, guard := _ }) (v := ?va7) rfl (by kernel_rfl) (by kernel_rfl) (by kernel_rfl) (fun _ _ _ h => h) (Or.inl ⟨by kernel_rfl, ?hya7⟩) hHeld ?resta7
  case hya7 => (intro w' hSw; (try dsimp only at hSw); go_simp; all_goals (with_reducible rfl))
  try simp only [Act.put, List.setIfInBounds_toArray, List.set_cons_zero, List.set_cons_succ]
  refine wpAnyH_take (i := 8) (oi := { dst := some 37, op := _, type := _, pos := _, after := _, guard := _ }) (v := ?va8) rfl (by kernel_rfl) (by kernel_rfl) (by kernel_rfl) (fun _ _ _ h => h) (Or.inl ⟨by kernel_rfl, ?hya8⟩) hHeld ?resta8
  case hya8 => (intro w' hSw; (try dsimp only at hSw); go_simp; all_goals (with_reducible rfl))
  try simp only [Act.put, List.setIfInBounds_toArray, List.set_cons_zero, List.set_cons_succ]
  refine wpAnyH_take (i := 9) (oi := { dst := some 38, op := _, type := _, pos := _, after := _, guard := _ }) (v := ?va9) rfl (by kernel_rfl) (by kernel_rfl) (by kernel_rfl) (fun _ _ _ h => h) (Or.inl ⟨by kernel_rfl, ?hya9⟩) hHeld ?resta9
  case hya9 => (intro w' hSw; (try dsimp only at hSw); go_simp; all_goals (with_reducible rfl))
  try simp only [Act.put, List.setIfInBounds_toArray, List.set_cons_zero, List.set_cons_succ]
  refine wpAnyH_take (i := 10) (oi := { dst := some 39, op := _, type := _, pos := _, after := _, guard := _ }) (v := ?va10) rfl (by kernel_rfl) (by kernel_rfl) (by kernel_rfl) (fun _ _ _ h => h) (Or.inl ⟨by kernel_rfl, ?hya10⟩) hHeld ?resta10
  case hya10 => (intro w' hSw; (try dsimp only at hSw); go_simp; all_goals (with_reducible rfl))
  try simp only [Act.put, List.setIfInBounds_toArray, List.set_cons_zero, List.set_cons_succ]
  refine wpAnyH_take (i := 11) (oi := { dst := some 40, op := _, type := _, pos := _, after := _, guard := _ }) (v := ?va11) rfl (by kernel_rfl) (by kernel_rfl) (by kernel_rfl) (fun _ _ _ h => h) (Or.inl ⟨by kernel_rfl, ?hya11⟩) hHeld ?resta11
  case hya11 => (intro w' hSw; (try dsimp only at hSw); go_simp; all_goals (with_reducible rfl))
  try simp only [Act.put, List.setIfInBounds_toArray, List.set_cons_zero, List.set_cons_succ]
  refine wpAnyH_take (i := 12) (oi := { dst := some 41, op := _, type := _, pos := _, after := _, guard := _ }) (v := ?va12) rfl (by kernel_rfl) (by kernel_rfl) (by kernel_rfl) (fun _ _ _ h => h) (Or.inl ⟨by kernel_rfl, ?hya12⟩) hHeld ?resta12
  case hya12 => (intro w' hSw; (try dsimp only at hSw); go_simp; all_goals (with_reducible rfl))
  try simp only [Act.put, List.setIfInBounds_toArray, List.set_cons_zero, List.set_cons_succ]
  refine wpAnyH_take (i := 13) (oi := { dst := some 42, op := _, type := _, pos := _, after := _, guard := _ }) (v := ?va13) rfl (by kernel_rfl) (by kernel_rfl) (by kernel_rfl) (fun _ _ _ h => h) (Or.inl ⟨by kernel_rfl, ?hya13⟩) hHeld ?resta13
  case hya13 => (intro w' hSw; (try dsimp only at hSw); go_simp; all_goals (with_reducible rfl))
  try simp only [Act.put, List.setIfInBounds_toArray, List.set_cons_zero, List.set_cons_succ]
  refine wpAnyH_take (i := 14) (oi := { dst := some 43, op := _, type := _, pos := _, after := _, guard := _ }) (v := ?va14) rfl (by kernel_rfl) (by kernel_rfl) (by kernel_rfl) (fun _ _ _ h => h) (Or.inl ⟨by kernel_rfl, ?hya14⟩) hHeld ?resta14
  case hya14 => (intro w' hSw; (try dsimp only at hSw); go_simp; all_goals (with_reducible rfl))
  try simp only [Act.put, List.setIfInBounds_toArray, List.set_cons_zero, List.set_cons_succ]
  refine wpAnyH_take (i := 15) (oi := { dst := some 44, op := _, type := _, pos := _, after := _, guard := _ }) (v := ?va15) rfl (by kernel_rfl) (by kernel_rfl) (by kernel_rfl) (fun _ _ _ h => h) (Or.inl ⟨by kernel_rfl, ?hya15⟩) hHeld ?resta15
  case hya15 => (intro w' hSw; (try dsimp only at hSw); go_simp; all_goals (with_reducible rfl))
  try simp only [Act.put, List.setIfInBounds_toArray, List.set_cons_zero, List.set_cons_succ]
  refine wpAnyH_ready (rs := [16]) (by kernel_rfl) (by simp) ?_
  refine AllReadyH.cons rfl (fun K hK => ?_) AllReadyH.nil
  rw [if_pos (by kernel_rfl)]
  go_wp2
  refine hK.out _ _ ⟨?ka, ?kb, ?kc, ?kd, ?ke⟩ (fun hHeld => ?_)
  case ka => exact cellL n0 ((Below.refl _ _).alloc (Nat.le_refl _) _).drew
  case kb => exact cellL n1 ((Below.refl _ _).alloc (Nat.le_refl _) _).drew
  case kc => exact cellL n2 ((Below.refl _ _).alloc (Nat.le_refl _) _).drew
  case kd => exact cellL n3 ((Below.refl _ _).alloc (Nat.le_refl _) _).drew
  case ke => exact cellL n4 ((Below.refl _ _).alloc (Nat.le_refl _) _).drew
  clear hK K
  try simp only [Act.put, List.setIfInBounds_toArray, List.set_cons_zero, List.set_cons_succ]
  refine wpAnyH_ready (rs := [17]) (by kernel_rfl) (by simp) ?_
  refine AllReadyH.cons rfl (fun K hK => ?_) AllReadyH.nil
  rw [if_pos (by kernel_rfl)]
  go_wp2
  refine hK.out _ _ ⟨?la, ?lb, ?lc, ?ld, ?le⟩ (fun hHeld2 => ?_)
  case la => exact cellL n0 ((Below.refl _ _).alloc (Nat.le_refl _) _).drew
  case lb => exact cellL n1 ((Below.refl _ _).alloc (Nat.le_refl _) _).drew
  case lc => exact cellL n2 ((Below.refl _ _).alloc (Nat.le_refl _) _).drew
  case ld => exact cellL n3 ((Below.refl _ _).alloc (Nat.le_refl _) _).drew
  case le => exact cellL n4 ((Below.refl _ _).alloc (Nat.le_refl _) _).drew
  clear hK K hHeld hHeld2
  try simp only [Act.put, List.setIfInBounds_toArray, List.set_cons_zero, List.set_cons_succ]
  refine wpAnyH_done (by kernel_rfl) ?_ _
  obtain ⟨P, hP⟩ : ∃ P, P = w1.heap.size := ⟨_, rfl⟩
  obtain ⟨U, hU⟩ : ∃ U, U = (w1.alloc (.cells #[.int .i64 v0, .int .i64 v2, .int .i64 v1, .int .i64 v4, .int .i64 v3, .slice none 0 0] 24)).drew := ⟨_, rfl⟩
  have HQ0 : Hid (QSt w1 P ⟨v0, v2, v1, v4, v3, []⟩ (.slice none 0 0) U) := by
    rw [hU, hP]
    refine ⟨((Below.refl _ _).alloc (Nat.le_refl _) _).drew, by simp, ?_, row_nil _ _ _ _⟩
    show (w1.heap.push _)[w1.heap.size]? = _
    simp
  have HP1 := hide hP
  rw [← hU, ← hP]
  clear hU hP n0 n1 n2 n3 n4 q0 q1 q2 q3 q4
  go_wp2_with fail
  go_loopw [7] (fun iv wr => ∃ (i : Nat) (st : List (Int × Int)) (nv : Value), iv = .int .i64 i ∧ i = 5 + 2 * st.length ∧ i ≤ D.length ∧ Hid (QSt w1 P ⟨v0, v2, v1, v4, v3, st⟩ nv wr) ∧ Hid (st ++ pairsO (D.drop i) = pairsO (D.drop 5))) (fun iv _ => D.length - (intOf iv).toNat)
  case atStart => exact ⟨5, [], .slice none 0 0, rfl, rfl, b5, HQ0, rfl⟩
  case round =>
    obtain ⟨i, st, nv, rfl, hi, hiD, HQ, HPA⟩ := hrel
    obtain ⟨sv, sc, rfl, hsc⟩ := row_slice HQ.out.2.2.2
    have HBW : Hid (Below w1.heap.size w1 wr) := by show Below w1.heap.size w1 wr; rw [← HP1.out]; exact HQ.out.1
    by_cases hlt : i < D.length
    · have hi1 : i + 1 < D.length := by omega
      have qi : (i : Int) < (D.length : Int) := by omega
      have qi1 : (i : Int) + 1 < (D.length : Int) := by omega
      have qi2 : (0 : Int) ≤ (i : Int) + 1 := by omega
      have qi3 : ((i : Int) + 1).toNat = i + 1 := by omega
      have qi4 : IntKind.i64.wrap ((i : Int) + 1) = (i : Int) + 1 := wrap_small i (by omega)
      obtain ⟨_, _, e1, k1⟩ := (HNA.out.below HBW.out).at hlt
      obtain ⟨_, _, e2, k2⟩ := (HNA.out.below HBW.out).at hi1
      cases e1
      cases e2
      obtain ⟨x1, ex1⟩ : ∃ v, v = D.getD i 0 := ⟨_, rfl⟩
      obtain ⟨x2, ex2⟩ : ∃ v, v = D.getD (i + 1) 0 := ⟨_, rfl⟩
      rw [← ex1] at k1
      rw [← ex2] at k2
      have HNP : Hid ((st ++ [((x1 : Int), (x2 : Int))]) ++ pairsO (D.drop (i + 2)) = pairsO (D.drop 5)) := by
        show _ = _
        rw [← HPA.out, pairs_two hi1, ex1, ex2]
        simp
      clear ex1 ex2
      obtain ⟨⟨d0, d1, d2, d3, d4, d5⟩, f0, f1, f2, f3, f4, f5⟩ := six_of HQ.out.2.2.1
      have HV5 := hide (HQ.out.on (wy := (wr.alloc (.cells #[.int .i64 x1, .int .i64 x2] 37)).drew) ((Below.refl _ _).alloc (Nat.le_refl _) (.cells #[.int .i64 x1, .int .i64 x2] 37)).drew)
      have HS1 : Hid (Sts (wr.alloc (.cells #[.int .i64 x1, .int .i64 x2] 37)).drew (some ⟨wr.heap.size, 0, none⟩) [((x1 : Int), (x2 : Int))]) := (sts_one wr x1 x2).below (Below.refl _ _).drew
      have hps : P < wr.heap.size := HQ.out.2.1
      have hst3 : st.length ≤ 3 := by omega
      have hnbl : nb < wr.heap.size := World.block_lt_of_cell? _ _ k1
      have HIE := hide hi
      clear hi
      go_wp2_with fail
      go_region_law (refine step_append_stI rfl (.tmp 52) (.tmp 63) rfl (P + 1) _ st rfl HV5.out.2.2.2 ⟨wr.heap.size, 0, none⟩ ((x1 : Int), (x2 : Int)) 1 rfl HS1.out (by omega) HV5.out.2.1 ?_; intro a6 c6 w6 o6 g6; obtain ⟨j1, j2, j3⟩ := HV5.out.app g6 o6; have K1 := hide j1; clear j1 o6 g6)
      all_goals (go_wp2_with fail; go_roundw; (case rel => exact ⟨i + 2, st ++ [((x1 : Int), (x2 : Int))], _, by go_num, by have := HIE.out; simp; omega, by omega, K1, HNP⟩); (case measure => simp [intOf]; omega))
    · have HQE : Hid (ofNums D = ⟨v0, v2, v1, v4, v3, st⟩) := by
        show _ = _
        have h := HPA.out
        rw [pairs_end (by omega), List.append_nil] at h
        rw [HOF.out, h]
      obtain ⟨q, hq⟩ : ∃ q : Od, q = ⟨v0, v2, v1, v4, v3, st⟩ := ⟨_, rfl⟩
      have hst3 : st.length ≤ 3 := by omega
      have HBe := hide (bel_on' HB1.out HBW.out)
      have HZe := hide ((HBW.out.block _ hz1).trans Z1.out)
      have HSe : Hid (Sts wr sv st) := row_sts HQ.out.2.2.2
      have HRf : Hid (∀ x, sv = some x → P < x.block) := by
        rintro x rfl
        rcases HQ.out.2.2.2.2 with ⟨e, _⟩ | ⟨g, cap, cur, e, hg, _⟩
        · cases e
        · cases e; exact hg
      obtain ⟨⟨d0, d1, d2, d3, d4, d5⟩, -⟩ := six_of HQ.out.2.2.1
      have TX := ref_text_any ⟨v0, v2, v1, v4, v3, st⟩ sv sc wr HSe.out (by show st.length ≤ _; omega) hsc (HG.out.on HBe.out)
      rw [← hq] at HQE TX
      have eq0 : q.id = v0 ∧ q.item = v2 ∧ q.qty = v1 ∧ q.client = v4 ∧ q.price = v3 ∧ q.steps = st := by rw [hq]; exact ⟨rfl, rfl, rfl, rfl, rfl, rfl⟩
      obtain ⟨r0, r1, r2, r3, r4, r5⟩ := eq0
      rw [← r0] at d0
      rw [← r1] at d1
      rw [← r2] at d2
      rw [← r3] at d3
      rw [← r4] at d4
      rw [← r5] at d5
      have HQL : Hid (q.steps.length ≤ 3) := by show _ ≤ _; rw [r5]; exact hst3
      have HSQ : Hid (Sts wr sv q.steps) := by show Sts wr sv q.steps; rw [r5]; exact HSe.out
      have HPB : Hid (wr.heap[P]? = some (.cells #[.int .i64 q.id, .int .i64 q.item, .int .i64 q.qty, .int .i64 q.client, .int .i64 q.price, .slice sv q.steps.length sc] 24 (0, 0))) := by
        show _ = _
        rw [r0, r1, r2, r3, r4, r5]
        exact HQ.out.2.2.1
      obtain ⟨S1, hS1⟩ : ∃ S1, S1 = byB (textV q) := ⟨_, rfl⟩
      rw [← hS1] at TX
      have HS1 := hide hS1
      have HNP := hide (show w.heap.size < P by have := HP1.out; omega)
      clear r0 r1 r2 r3 r4 r5 hq hst3 hS1 hi
      go_wp2_with fail
      refine TX.mono ?_
      rintro e w7 ⟨rfl, hb7⟩
      have Z7 := hide ((hb7.block _ (Array.getElem?_eq_some_iff.1 HZe.out).1).trans HZe.out)
      have HB7 := hide (bel_on' HBe.out hb7)
      have HPB7 := hide ((hb7.block _ (Array.getElem?_eq_some_iff.1 HPB.out).1).trans HPB.out)
      have HSQ7 := hide (HSQ.out.below hb7)
      clear TX hb7 d0 d1 d2 d3 d4 d5
      cases hm : mayO q
      · have HP : Hid (ParO l od0 2) := HPR.out od0 2 (.inr ⟨.inr (.inl (by rw [HQE.out]; exact hm)), rfl, rfl⟩)
        have qE : S1.toList.isEmpty = true := by rw [HS1.out, byB_empty, (textV_nil q).2 hm]; rfl
        clear hm
        obtain ⟨⟨d0, d1, d2, d3, d4, d5⟩, f0, f1, f2, f3, f4, f5⟩ := six_of Z7.out
        go_wp2
        obtain ⟨W, hW⟩ : ∃ W, W = ((((((w7).setCell ⟨w.heap.size, 0, none⟩ (.int .i64 0)).setCell ⟨w.heap.size, 1, none⟩ (.int .i64 0)).setCell ⟨w.heap.size, 2, none⟩ (.int .i64 0)).setCell ⟨w.heap.size, 3, none⟩ (.int .i64 0)).setCell ⟨w.heap.size, 4, none⟩ (.int .i64 0)).setCell ⟨w.heap.size, 5, none⟩ (.slice none 0 0) := ⟨_, rfl⟩
        rw [← hW]
        obtain ⟨r2, ro⟩ := set6 Z7.out hW
        obtain ⟨⟨z0, z1, z2, z3, z4, z5⟩, -⟩ := six_of r2
        have hbW : Below w.heap.size w W := HB7.out.trans (ro.bel (Nat.le_refl _) HB7.out.size)
        refine bodyPost_ret (v := .tuple #[.agg #[.int .i64 0, .int .i64 0, .int .i64 0, .int .i64 0, .int .i64 0, .slice none 0 0], .int .i64 2]) ?_ rfl ?_
        · rw [results_cell_tmp Tryd.results11]
          simp [go_sem, z0, z1, z2, z3, z4, z5]
        · exact ⟨⟨od0, 2, none, 0, HP.out, rfl, .inl rfl, Nat.zero_le _⟩, hbW⟩
      · have hTq : textV q = textL q := by unfold textV; rw [if_pos hm]
        have qE : S1.toList.isEmpty = false := by
          rw [HS1.out, byB_empty, hTq]
          have := textL_ne q
          cases h : textL q with
          | nil => exact absurd h this
          | cons => rfl
        by_cases hT : textL q = l
        · have HP : Hid (ParO l q 0) := HPR.out q 0 (.inl ⟨hB, by rw [HQE.out]; exact hm, by rw [HQE.out]; exact hT, HQE.out.symm, rfl⟩)
          have qN : (S1.toList == S.toList) = true := by rw [HS1.out, HS.out, byB_list, byB_list, hTq, hT]; simp
          clear hm hT hTq
          obtain ⟨⟨d0, d1, d2, d3, d4, d5⟩, f0, f1, f2, f3, f4, f5⟩ := six_of Z7.out
          obtain ⟨⟨x0, x1, x2, x3, x4, x5⟩, -⟩ := six_of HPB7.out
          go_wp2
          obtain ⟨W, hW⟩ : ∃ W, W = (((((w7.setCell ⟨w.heap.size, 0, none⟩ (.int .i64 q.id)).setCell ⟨w.heap.size, 1, none⟩ (.int .i64 q.item)).setCell ⟨w.heap.size, 2, none⟩ (.int .i64 q.qty)).setCell ⟨w.heap.size, 3, none⟩ (.int .i64 q.client)).setCell ⟨w.heap.size, 4, none⟩ (.int .i64 q.price)).setCell ⟨w.heap.size, 5, none⟩ (.slice sv q.steps.length sc) := ⟨_, rfl⟩
          rw [← hW]
          obtain ⟨r2, ro⟩ := set6 Z7.out hW
          obtain ⟨⟨z0, z1, z2, z3, z4, z5⟩, -⟩ := six_of r2
          have hbW : Below w.heap.size w W := HB7.out.trans (ro.bel (Nat.le_refl _) HB7.out.size)
          have hstW : Sts W sv q.steps := by
            rcases HSQ7.out with h | ⟨b, off, h1, h2⟩
            · exact .inl h
            · have hbn : b ≠ w.heap.size := by
                intro e
                subst e
                have h3 : P < w.heap.size := HRf.out _ h1
                have h4 := HNP.out
                omega
              exact .inr ⟨b, off, h1, fun i hi => ⟨ro.cell (h2 i hi).1 hbn, ro.cell (h2 i hi).2 hbn⟩⟩
          refine bodyPost_ret (v := .tuple #[.agg #[.int .i64 q.id, .int .i64 q.item, .int .i64 q.qty, .int .i64 q.client, .int .i64 q.price, .slice sv q.steps.length sc], .int .i64 0]) ?_ rfl ?_
          · rw [results_cell_tmp Tryd.results11]
            simp [go_sem, z0, z1, z2, z3, z4, z5]
          · exact ⟨⟨q, 0, sv, sc, HP.out, rfl, hstW, HQL.out⟩, hbW⟩
        · have HP : Hid (ParO l od0 2) := HPR.out od0 2 (.inr ⟨.inr (.inr (by rw [HQE.out]; exact hT)), rfl, rfl⟩)
          have qN : (S1.toList == S.toList) = false := by rw [HS1.out, HS.out, byB_list, byB_list, hTq]; simpa using hT
          clear hm hT hTq
          obtain ⟨⟨d0, d1, d2, d3, d4, d5⟩, f0, f1, f2, f3, f4, f5⟩ := six_of Z7.out
          go_wp2
          obtain ⟨W, hW⟩ : ∃ W, W = ((((((w7).setCell ⟨w.heap.size, 0, none⟩ (.int .i64 0)).setCell ⟨w.heap.size, 1, none⟩ (.int .i64 0)).setCell ⟨w.heap.size, 2, none⟩ (.int .i64 0)).setCell ⟨w.heap.size, 3, none⟩ (.int .i64 0)).setCell ⟨w.heap.size, 4, none⟩ (.int .i64 0)).setCell ⟨w.heap.size, 5, none⟩ (.slice none 0 0) := ⟨_, rfl⟩
          rw [← hW]
          obtain ⟨r2, ro⟩ := set6 Z7.out hW
          obtain ⟨⟨z0, z1, z2, z3, z4, z5⟩, -⟩ := six_of r2
          have hbW : Below w.heap.size w W := HB7.out.trans (ro.bel (Nat.le_refl _) HB7.out.size)
          refine bodyPost_ret (v := .tuple #[.agg #[.int .i64 0, .int .i64 0, .int .i64 0, .int .i64 0, .int .i64 0, .slice none 0 0], .int .i64 2]) ?_ rfl ?_
          · rw [results_cell_tmp Tryd.results11]
            simp [go_sem, z0, z1, z2, z3, z4, z5]
          · exact ⟨⟨od0, 2, none, 0, HP.out, rfl, .inl rfl, Nat.zero_le _⟩, hbW⟩
end Go.Proofs.YteefmibnkfojiaaDoor
