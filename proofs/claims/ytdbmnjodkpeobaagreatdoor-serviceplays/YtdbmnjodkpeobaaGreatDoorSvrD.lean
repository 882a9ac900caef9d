/-
  The reference's service: Crash.
-/
import Derived.Test.YtdbmnjodkpeobaaGreatDoorBd19
namespace Go.Proofs.YtdbmnjodkpeobaaGreatDoor
open Go.ChangeShapes Go.WideShapes Go.ChangeAt Go.RowKit Go.Maps

theorem build_zero (w : World) : (Instr.build 38 #[]).run Tryz.prog w = .ok (.agg (Array.replicate 1000 (.int .i64 0))) w := by kernel_rfl
theorem wpList_build_zero {w : World} {ops : Array Oper} {rest : List Oper} {o : Oper} {a : Act} {Q : Exit → Act → World → Prop} (hg : o.guard = none) (hop : o.op = Op.build 38 #[]) {Z : List Value} (hZ : List.replicate 1000 (.int .i64 0) = Z)
    (hK : wpList Tryz.prog ops Q rest (a.put o.dst (.agg Z.toArray)) w) : wpList Tryz.prog ops Q (o :: rest) a w := by
  refine wpList_plain hg fun K' hK' => ?_
  have hrun := build_zero w
  rw [← List.toArray_replicate, hZ] at hrun
  generalize Z.toArray = cs at hrun hK
  unfold Oper.wp
  simp only [execOp, hop]
  simp [hrun, Result.andThen]
  exact hK' _ _ hK
theorem store_thousand {w : World} {b o : Nat} {vs : List Value} (hl : vs.length = 1000) (hc : ∀ j, j < 1000 → (w.cell? ⟨b, o + j, none⟩).isSome = true) (hf : ∀ j, j < 1000 → w.frozen? ⟨b, o + j, none⟩ = false) (h1 : ∀ v ∈ vs, v.oneCell' = true) :
    (storeVar 38 ⟨b, o, none⟩ (.agg vs.toArray)).run Tryz.prog w = .ok () (w.setCells b o vs) := by
  have hst := run_storeCells_cells (P := Tryz.prog) b o vs 0 w (by simpa [hl] using hc) (by simpa [hl] using hf) h1
  simp only [Nat.add_zero] at hst
  simp [storeVar, Tryz.sizeOf38, Value.cells, hl, hst, Result.andThen]
theorem wpList_store_row {w : World} {ops : Array Oper} {rest : List Oper} {o : Oper} {a : Act} {Q : Exit → Act → World → Prop} (hg : o.guard = none) (x y : Operand) (hop : o.op = Op.store 38 x y) (hd : o.dst = none) (b off : Nat) (vs : List Value) (hx : a.eval x = .pointer (some ⟨b, off, none⟩)) (hy : a.eval y = .agg vs.toArray) (hl : vs.length = 1000) (hc : ∀ j, j < 1000 → (w.cell? ⟨b, off + j, none⟩).isSome = true) (hf : ∀ j, j < 1000 → w.frozen? ⟨b, off + j, none⟩ = false) (h1 : ∀ v ∈ vs, v.oneCell' = true)
    (hK : wpList Tryz.prog ops Q rest a (w.setCells b off vs)) : wpList Tryz.prog ops Q (o :: rest) a w := by
  refine wpList_plain hg fun K' hK' => ?_
  have hrun : (Instr.storeAt 38 (.pointer (some ⟨b, off, none⟩)) (.agg vs.toArray)).run Tryz.prog w = .ok () (w.setCells b off vs) := by
    have h := store_thousand hl hc hf h1
    unfold Instr.storeAt
    simpa [Instr.sureAddr, Result.andThen] using h
  generalize vs.toArray = cs at hrun hy
  generalize w.setCells b off vs = W at hrun hK
  unfold Oper.wp
  simp only [execOp, hop]
  simp [hx, hy, hrun, Result.andThen]
  have := hK' _ _ hK
  simp only [Oper.upon, hd]
  exact this
/-- All but the journal forgotten. -/
theorem RsV.forget {B : Nat} {E : Nat → Prop} {w u u2 : World} {p : Nat} {v : Sv} {q : Nat} {r : Value} {pb : Nat} (hE : ∀ k, E k → B ≤ k ∧ k < w.heap.size) (hG : GoodSv v) (hB : B ≤ w.heap.size) (k : RsV B (growE E w u) u p ⟨v.node, v.hold, v.room, v.T, true, v.st⟩ q r pb) (hp : E p) (hk : Rg.Kept (fun k _ => E k) w u) (hb : Hd.Rb u.heap.size u2 u.heap.size (Hd.clampA v.hold) (fun _ => 0)) (h2 : Below u.heap.size u u2) :
    (∀ j, j < 1000 → ((u2.setCell ⟨p, 3, none⟩ (.pointer (some ⟨u.heap.size, 0, none⟩))).cell? ⟨p, 4 + j, none⟩).isSome = true) ∧ (∀ j, j < 1000 → (u2.setCell ⟨p, 3, none⟩ (.pointer (some ⟨u.heap.size, 0, none⟩))).frozen? ⟨p, 4 + j, none⟩ = false) ∧
    Rs B (growE E w ((u2.setCell ⟨p, 3, none⟩ (.pointer (some ⟨u.heap.size, 0, none⟩))).setCells p 4 (List.replicate 1000 (.int .i64 0)))) ((u2.setCell ⟨p, 3, none⟩ (.pointer (some ⟨u.heap.size, 0, none⟩))).setCells p 4 (List.replicate 1000 (.int .i64 0))) p (crS v) ∧ Rg.Kept (fun k _ => E k) w ((u2.setCell ⟨p, 3, none⟩ (.pointer (some ⟨u.heap.size, 0, none⟩))).setCells p 4 (List.replicate 1000 (.int .i64 0))) := by
  have k2 := k.on h2
  have hpl := k2.lt
  have hpu := k.lt
  have s1 := hk.size
  have s2 := h2.size
  have lt := hb.lt
  obtain ⟨U, hU⟩ : ∃ U, U = u2.setCell ⟨p, 3, none⟩ (.pointer (some ⟨u.heap.size, 0, none⟩)) := ⟨_, rfl⟩
  rw [← hU]
  have e1 : U.heap[p]? = some (.cells (scs 1000 v.node v.hold (.pointer (some ⟨q, 0, none⟩)) (.pointer (some ⟨u.heap.size, 0, none⟩)) v.st.s).toArray 44 (0, 0)) := by
    rw [hU, heap_setCell_same _ _ _ _ _ _ k2.blk, List.setIfInBounds_toArray, scs_setB]
  have kU : Rg.Kept (fun k _ => k = p) u2 U := by rw [hU]; exact Rg.Kept.setCell _ (fun _ => rfl)
  have hsz : (scs 1000 v.node v.hold (.pointer (some ⟨q, 0, none⟩)) (.pointer (some ⟨u.heap.size, 0, none⟩)) v.st.s).length = 1004 := scs_len _ _ _ _ _ _
  obtain ⟨cs', h3, h4, h5⟩ := heap_setCells p 44 (List.replicate 1000 (.int .i64 0)) 4 U _ e1 (by rw [List.size_toArray, hsz, List.length_replicate]; decide)
  have e2 : cs' = (scs 1000 v.node v.hold (.pointer (some ⟨q, 0, none⟩)) (.pointer (some ⟨u.heap.size, 0, none⟩)) (fun _ => 0)).toArray := by
    apply Array.ext_getElem?
    intro j
    rw [h5 j, List.getElem?_toArray, List.getElem?_toArray, ← scs_zero 1000 v.node v.hold (.pointer (some ⟨q, 0, none⟩)) (.pointer (some ⟨u.heap.size, 0, none⟩)) v.st.s]
    have ht : ((scs 1000 v.node v.hold (.pointer (some ⟨q, 0, none⟩)) (.pointer (some ⟨u.heap.size, 0, none⟩)) v.st.s).take 4).length = 4 := by rw [List.length_take, hsz]; decide
    rw [List.length_replicate]
    by_cases h : j < 4
    · rw [if_neg (by omega), List.getElem?_append_left (by omega), List.getElem?_take_of_lt h]
    · rw [List.getElem?_append_right (by omega), ht]
      by_cases h' : j < 4 + 1000
      · rw [if_pos (by omega)]
      · rw [if_neg (by omega), List.getElem?_eq_none (by omega), List.getElem?_eq_none (by rw [List.length_replicate]; omega)]
  rw [e2] at h3
  obtain ⟨⟨r1, r2, r3, r4⟩, r5⟩ := setCells_rest p (List.replicate 1000 (.int .i64 0)) 4 U
  have kS : Rg.Kept (fun k _ => k = p) U (U.setCells p 4 (List.replicate 1000 (.int .i64 0))) := ⟨r1, r2, r3, by rw [r4]; exact Nat.le_refl _, fun i o ho hx => (r5 i hx).trans ho⟩
  have kA := kU.trans kS
  generalize hW : U.setCells p 4 (List.replicate 1000 (.int .i64 0)) = W at h3 kS kA
  have hz := kA.size
  obtain ⟨⟨a1, a2⟩, b1, d1⟩ := k2.apart
  have jj := k2.jr.kept kA (fun _ e => a1 e.symm) (fun i _ e => (d1 i e).1)
  have up : ∀ i, growE E w u i → growE E w W i := fun i e => e.imp (fun e => e) (fun e => ⟨e.1, by omega⟩)
  refine ⟨fun j hj => ?_, fun j _ => frozen_of_row _ _ _ _ _ e1, ⟨grow_in hE hB (by omega), crS_good hG, q, r, u.heap.size, ⟨h3, jj, ⟨kA.block _ _ hb.1 (by omega), by omega⟩, Hd.Good.new, .inl hp, up _ k.eq, fun i e => up _ (k.er i e), .inr ⟨by omega, by omega⟩⟩⟩, hk.trans ((Rg.Kept.of_below h2).trans (kA.mono (fun i _ e => by subst e; exact hp)))⟩
  rw [cell_of e1, List.getElem?_toArray, scs_at _ _ _ _ _ hj]
  rfl
theorem rscrash_any {B : Nat} {E : Nat → Prop} {w : World} {p : Nat} {v : Sv} (k : Rs B E w p v) (stay torn : Int) :
    Calls Tryz.prog 11 #[.pointer (some ⟨p, 0, none⟩), .int .i64 stay, .int .i64 torn] w fun e w' => (∃ x, e = .returned x) ∧ Rs B (growE E w w') w' p (crS v) ∧ Rg.Kept (fun k _ => E k) w w' := by
  obtain ⟨hE, hG, q, r, pb, k0⟩ := id k
  have hB := k.low
  have hln : (v.T.map lnE).length = v.T.length := List.length_map _
  obtain ⟨-, c1, c2, -⟩ := k0.cells
  obtain ⟨⟨-, -, -, j3⟩, -⟩ := k0.jr.cells
  cases hd : v.down
  · have j := k0.jr
    rw [hd] at j j3
    have cs := crash_sure (v.T.map lnE) stay torn
    rw [hln] at cs
    have h2 : ∀ x ∈ v.T.map lnE, 2 ≤ x.size := fun x hx => by obtain ⟨e, he, rfl⟩ := List.mem_map.1 hx; exact en_size (hG.ok e he)
    have C : Calls Tryz.prog 26 #[.pointer (some ⟨q, 0, none⟩), .int .i64 stay, .int .i64 torn] w fun e w' => (∃ x, e = .returned x) ∧ ∃ r', RsV B (growE E w w') w' p ⟨v.node, v.hold, v.room, v.T, true, v.st⟩ q r' pb ∧ Rg.Kept (fun k _ => E k) w w' := by
      refine (R.crash_up j (by rw [hln]; exact Nat.le_refl _) h2 stay torn).mono ?_
      rintro e w' ⟨h1, r', h2, h3⟩
      rw [cs] at h2
      exact ⟨h1, r', k0.jstep h2 h3⟩
    have FX : Hid (∀ u r' u2, RsV B (growE E w u) u p ⟨v.node, v.hold, v.room, v.T, true, v.st⟩ q r' pb → Rg.Kept (fun k _ => E k) w u → Hd.Rb u.heap.size u2 u.heap.size (Hd.clampA v.hold) (fun _ => 0) → Below u.heap.size u u2 → _) := fun u r' u2 h1 h3 h4 h5 => RsV.forget hE hG hB h1 k0.ep h3 h4 h5
    have CU : Hid (∀ u r', RsV B (growE E w u) u p ⟨v.node, v.hold, v.room, v.T, true, v.st⟩ q r' pb → (u.cell? ⟨p, 1, none⟩ = some (.int .i64 v.hold) ∧ u.cell? ⟨p, 3, none⟩ = some (.pointer (some ⟨pb, 0, none⟩)) ∧ u.frozen? ⟨p, 3, none⟩ = false)) := fun u r' h => ⟨h.cells.2.1, h.cells.2.2.2, h.frozen 3⟩
    have one : ∀ x ∈ List.replicate 1000 (Value.int .i64 0), x.oneCell' = true := fun x hx => by rw [List.eq_of_mem_replicate hx]; rfl
    obtain ⟨Z, hZ⟩ : ∃ Z, List.replicate 1000 (Value.int .i64 0) = Z := ⟨_, rfl⟩
    rw [hZ] at one FX
    have HONE := hide one
    have HZL : Hid (Z.length = 1000) := by show _ = _; rw [← hZ]; exact List.length_replicate
    have HZ := hide hZ
    clear hZ
    generalize crS v = v' at FX ⊢
    generalize v.hold = hold at c1 FX C CU
    clear k k0 hE hG hB j cs h2 one hln
    go_enter Tryz.func11, Tryz.ntmps11
    go_wp2_with (first
      | (go_at_call 26; refine C.mono ?_; clear C; rintro e u1 ⟨⟨x, rfl⟩, r', h1, h2⟩; clear c1 c2 j3; obtain ⟨c1, c3, f3⟩ := CU.out u1 r' h1; have N := Hd.rnew_any hold u1; have H1 := hide h1; have H2 := hide h2; clear h1 h2)
      | (go_at_call 24; refine N.mono ?_; clear N; rintro e u2 ⟨rfl, h3, h4⟩; obtain ⟨g1, g2, g3⟩ := FX.out u1 r' u2 H1.out H2.out h3 h4; clear c1 c3 f3; obtain ⟨c1, c3, f3⟩ := (show u2.cell? ⟨p, 1, none⟩ = some (.int .i64 hold) ∧ u2.cell? ⟨p, 3, none⟩ = some (.pointer (some ⟨pb, 0, none⟩)) ∧ u2.frozen? ⟨p, 3, none⟩ = false from ⟨(H1.out.on h4).cells.2.1, (H1.out.on h4).cells.2.2.2, (H1.out.on h4).frozen 3⟩); have G1 := hide g1; have G2 := hide g2; have G3 := hide g3; clear h3 h4 g1 g2 g3 FX)
      | (refine wpList_build_zero rfl rfl HZ.out ?_)
      | (refine wpList_store_row rfl _ _ rfl rfl p 4 Z rfl rfl HZL.out G1.out G2.out HONE.out ?_))
    go_end0
    exact ⟨⟨_, rfl⟩, G3.out⟩
  · rw [hd] at j3
    have e1 : crS v = v := by
      have := hG.st_
      rw [hd] at this
      simp only [if_true] at this
      unfold crS
      rw [← this, ← hd]
    rw [e1]
    have HK : Hid (Rs B (growE E w w) w p v) := ⟨grow_in hE hB (Nat.le_refl _), hG, q, r, pb, k0.wide (fun _ e => .inl e)⟩
    clear k k0 hE hG hB hln e1 hd
    go_enter Tryz.func11, Tryz.ntmps11
    go_wp2
    go_end0
    exact ⟨⟨_, rfl⟩, HK.out, Rg.Kept.refl _ _⟩
end Go.Proofs.YtdbmnjodkpeobaaGreatDoor
