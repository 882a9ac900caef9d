/-
  Contracts of bell's Cut, Again, Ring, Hang.
-/
import Derived.Test.YtdjdlifacbmbcaaBelS
namespace Go.Proofs.Ytdjdlifacbmbcaa
open Go.ChangeShapes Go.WideShapes Go.ChangeAt Go.RowKit Go.Maps

section
variable {B : Nat} {E : Nat → Prop} {w : World} {p : Nat} {t : Int} {h : Int → Int} {n : Nat}
/-- The map's block, where a bell hangs. -/
theorem BtV.map {mv : Value} (k : BtV E w p t h n mv) {id : Int} (hx : h id ≠ 0) : ∃ b, mv = .map (some b) ∧ E b ∧ b ≠ p ∧ ∃ D : DataW Unit, w.ownsMap Try.prog 3 (plainElem Try.prog 3) b n D ∧ FitB D h := by
  rcases k.2 with ⟨_, rfl⟩ | ⟨b, e1, e2, D, e3, e4⟩
  · exact absurd rfl hx
  · refine ⟨b, e1, e2, ?_, D, e3, e4⟩
    rintro rfl
    obtain ⟨es, c, hb, _⟩ := e3
    rw [k.1] at hb
    cases hb
/-- A step that has turned the map alone. -/
theorem Bt.turn {b : Nat} {w1 : World} {D : DataW Unit} {h' : Int → Int} {n' : Nat} (hE : ∀ k, E k → B ≤ k ∧ k < w.heap.size) (hp : E p) (hb : E b) (hne : b ≠ p) (h1 : w.heap[p]? = some (.cells #[.int .i64 t, .map (some b)] 43 (0, 0)))
    (hk : Rg.Kept (fun i _ => i = b) w w1) (ho : w1.ownsMap Try.prog 3 (plainElem Try.prog 3) b n' D) (hf : FitB D h') (hg : GoodT t h') : Bt B E w1 p t h' n' ∧ Rg.Kept (fun i _ => E i) w w1 :=
  ⟨⟨fun k e => ⟨(hE k e).1, Nat.lt_of_lt_of_le (hE k e).2 hk.size⟩, hp, hg, _, hk.block _ _ h1 (fun e => hne e.symm), .inr ⟨b, rfl, hb, D, ho, hf⟩⟩, hk.mono (fun _ _ e => by rw [e]; exact hb)⟩

theorem turned_size {w w1 : World} {b : Nat} (h : w.mapTurned w1 b) : w1.heap.size = w.heap.size := by
  obtain ⟨_, _, _, _, _, rfl⟩ := h
  simp [Go.ChangeMaps.setBlock]
/-- m[id] = v -/
theorem own_upd {b : Nat} {D : DataW Unit} (hown : w.ownsMap Try.prog 3 (plainElem Try.prog 3) b n D) {id v : Int} (hw : (Lit.int .i64 id).wf = true) (h0 : 0 ≤ v) (h1 : v ≤ 20) (hn : n < 1000000) :
    ∃ w2 : World, (Instr.mapUpdate 41 (.map (some b)) (.int .i64 id) (.int .i64 v)).run Try.prog w.drew = .ok () w2 ∧ w2.ownsMap Try.prog 3 (plainElem Try.prog 3) b (n + 1) (D.put (.int .i64 id) (.lit (.int .i64 v))) ∧ Rg.Kept (fun i _ => i = b) w w2 ∧ w2.heap.size = w.heap.size := by
  have hownD : w.drew.ownsMap Try.prog 3 (plainElem Try.prog 3) b n D := hown
  obtain ⟨w1, hrun, o1, t1⟩ := hownD.store lawI Try.underlying41 (by unfold maxLen; omega) (keyOf_int_mk Try.underlying3 hw) (plainElem_int Try.underlying3 (wf_of (a := v) (by omega) (by omega)))
  have kd : Rg.Kept (fun i _ => i = b) w w.drew := Rg.Kept.of_below (Below.refl _ w).drew
  exact ⟨w1, hrun, o1, kd.trans (turned_kept t1), (turned_size t1).trans rfl⟩
theorem own_upd0 {b : Nat} {D : DataW Unit} (hown : w.ownsMap Try.prog 3 (plainElem Try.prog 3) b n D) {id v : Int} (hw : (Lit.int .i64 id).wf = true) (h0 : 0 ≤ v) (h1 : v ≤ 20) (hn : n < 1000000) :
    ∃ w2 : World, (Instr.mapUpdate 41 (.map (some b)) (.int .i64 id) (.int .i64 v)).run Try.prog w = .ok () w2 ∧ w2.ownsMap Try.prog 3 (plainElem Try.prog 3) b (n + 1) (D.put (.int .i64 id) (.lit (.int .i64 v))) ∧ Rg.Kept (fun i _ => i = b) w w2 := by
  obtain ⟨w1, hrun, o1, t1⟩ := hown.store lawI Try.underlying41 (by unfold maxLen; omega) (keyOf_int_mk Try.underlying3 hw) (plainElem_int Try.underlying3 (wf_of (a := v) (by omega) (by omega)))
  exact ⟨w1, hrun, o1, turned_kept t1⟩

set_option maxHeartbeats 1000000 in
theorem bcut_any (k : Bt B E w p t h n) {id : Int} (hw : (Lit.int .i64 id).wf = true) :
    Calls Try.prog 11 #[.pointer (some ⟨p, 0, none⟩), .int .i64 id] w fun e w' => e = .returned (.bool (hasB h id)) ∧ Bt B E w' p t (cutH h id) (n + 1) ∧ Rg.Kept (fun i _ => E i) w w' := by
  have H := bhas_any k hw
  by_cases hz : h id = 0
  · have hd : hasB h id = false := by simp [hasB, hz]
    rw [hd] at H ⊢
    rw [cutH_no hz]
    have HK := hide (k.more (Nat.le_succ n))
    clear k hd hz
    go_enter Try.func11, Try.ntmps11
    go_wp2_with (go_at_call 22; refine H.mono ?_; rintro e w' ⟨rfl, rfl⟩)
    go_ret
    exact ⟨rfl, HK.out, Rg.Kept.refl _ _⟩
  · have hd : hasB h id = true := by simp [hasB, hz]
    rw [hd] at H ⊢
    have g2 := k.good.cut id
    obtain ⟨hE, hp, -, mv, hv⟩ := k
    have c1 := hv.cellM
    obtain ⟨b, rfl, hEb, hne, D, hown, hf⟩ := hv.map hz
    have hkey := keyOf_int_mk Try.underlying3 hw
    have fin : ∀ w1, w1.ownsMap Try.prog 3 (plainElem Try.prog 3) b n (D.del (.int .i64 id)) → w.mapTurned w1 b → Bt B E w1 p t (cutH h id) (n + 1) ∧ Rg.Kept (fun i _ => E i) w w1 := fun w1 o1 t1 =>
      Bt.turn hE hp hEb hne hv.1 (turned_kept t1) (o1.mono (Nat.le_succ n)) (hf.del id) g2
    have FIN := hide fin
    clear fin hE hp hv hEb hne hf g2 hz hd
    go_enter Try.func11, Try.ntmps11
    go_wp2_with (first
      | (go_at_call 22; refine H.mono ?_; rintro e w' ⟨rfl, rfl⟩)
      | (at_delete; refine wpList_delete_own _ rfl _ _ 41 3 rfl 3 lawI Try.underlying41 _ b n D rfl hown _ _ rfl hkey ?_; intro w1 hown1 hturn1)
      | go_in)
    go_ret
    exact ⟨rfl, FIN.out _ hown1 hturn1⟩

set_option maxHeartbeats 1000000 in
theorem bagn_any (k : Bt B E w p t h n) {id : Int} (hw : (Lit.int .i64 id).wf = true) (hn : n < 1000000) :
    Calls Try.prog 13 #[.pointer (some ⟨p, 0, none⟩), .int .i64 id] w fun e w' => e = .returned (.bool (hasB h id)) ∧ Bt B E w' p t (agnH t h id) (n + 1) ∧ Rg.Kept (fun i _ => E i) w w' := by
  have H := bhas_any k hw
  by_cases hz : h id = 0
  · have hd : hasB h id = false := by simp [hasB, hz]
    rw [hd] at H ⊢
    have e2 : agnH t h id = h := if_pos hz
    rw [e2]
    have HK := hide (k.more (Nat.le_succ n))
    clear k hd hz e2
    go_enter Try.func13, Try.ntmps13
    go_wp2_with (go_at_call 22; refine H.mono ?_; rintro e w' ⟨rfl, rfl⟩)
    go_ret
    exact ⟨rfl, HK.out, Rg.Kept.refl _ _⟩
  · have hd : hasB h id = true := by simp [hasB, hz]
    rw [hd] at H ⊢
    have g2 := k.good.agn id
    have ht := k.good.lo
    have ht2 := k.good.hi
    obtain ⟨hE, hp, -, mv, hv⟩ := k
    have c0 := hv.cellT
    have c1 := hv.cellM
    obtain ⟨b, rfl, hEb, hne, D, hown, hf⟩ := hv.map hz
    have e2 : agnH t h id = upd h id (t + 1) := if_neg hz
    rw [e2] at g2 ⊢
    obtain ⟨w2, r2, o2, k2, -⟩ := own_upd hown hw (v := t) (by omega) ht2 hn
    have FIN := hide (Bt.turn hE hp hEb hne hv.1 k2 o2 (hf.put id t (by omega)) g2)
    clear hE hp hv hEb hne hf g2 hz hd e2 o2 k2 hown ht ht2
    go_enter Try.func13, Try.ntmps13
    go_wp2_with (go_at_call 22; refine H.mono ?_; rintro e w' ⟨rfl, rfl⟩)
    go_region
    all_goals go_wp2
    all_goals go_ret
    all_goals exact ⟨rfl, FIN.out⟩

set_option maxHeartbeats 1000000 in
theorem bring_any (k : Bt B E w p t h n) {id : Int} (hw : (Lit.int .i64 id).wf = true) (hn : n < 1000000) :
    Calls Try.prog 15 #[.pointer (some ⟨p, 0, none⟩), .int .i64 id] w fun e w' => e = .returned (.tuple #[.bool (hasB h id), .bool (oftB h id)]) ∧ Bt B E w' p t (ringH h id) (n + 1) ∧ Rg.Kept (fun i _ => E i) w w' := by
  have H := bhas_any k hw
  by_cases hz : h id = 0
  · have hd : hasB h id = false := by simp [hasB, hz]
    have ho : oftB h id = false := by simp [oftB, hz]
    have e2 : ringH h id = h := if_pos (by omega)
    rw [hd] at H ⊢
    rw [ho, e2]
    have HK := hide (k.more (Nat.le_succ n))
    clear k hd hz e2 ho
    go_enter Try.func15, Try.ntmps15
    go_wp2_with (go_at_call 22; refine H.mono ?_; rintro e w' ⟨rfl, rfl⟩)
    go_ret2
    exact ⟨rfl, HK.out, Rg.Kept.refl _ _⟩
  · have hd : hasB h id = true := by simp [hasB, hz]
    have hps := k.good.pos id
    rw [hd] at H ⊢
    by_cases h1 : h id = 1
    · have ho : oftB h id = true := by simp [oftB, h1]
      have e2 : ringH h id = h := if_pos (by omega)
      rw [ho, e2]
      have HK := hide (k.more (Nat.le_succ n))
      obtain ⟨hE, hp, -, mv, hv⟩ := k
      have c1 := hv.cellM
      obtain ⟨b, rfl, hEb, hne, D, hown, hf⟩ := hv.map hz
      have hl := own_look hown hw (x := 0) (by rw [(hf.2 id).1, h1]; rfl)
      clear hd hz e2 ho hE hp hv hEb hne hown hf h1 hps
      go_enter Try.func15, Try.ntmps15
      go_wp2_with (go_at_call 22; refine H.mono ?_; rintro e w' ⟨rfl, rfl⟩)
      go_ret2
      exact ⟨rfl, HK.out, Rg.Kept.refl _ _⟩
    · have ho : oftB h id = false := by simp [oftB, h1]
      have e2 : ringH h id = upd h id (h id - 1) := if_neg (by omega)
      have g2 := k.good.ring id
      have htp := k.good.top id
      have hth := k.good.hi
      rw [e2] at g2 ⊢
      rw [ho]
      obtain ⟨hE, hp, -, mv, hv⟩ := k
      have c1 := hv.cellM
      obtain ⟨b, rfl, hEb, hne, D, hown, hf⟩ := hv.map hz
      obtain ⟨x, hx⟩ : ∃ x, h id = x + 1 := ⟨h id - 1, by omega⟩
      have hat : D.atKey (.int .i64 id) (.lit (.int .i64 0)) = .lit (.int .i64 x) := by rw [(hf.2 id).1, hx, lf_up (by omega)]
      have hl := own_look hown hw hat
      rw [show h id - 1 = (x - 1) + 1 by omega] at g2 ⊢
      have hx1 : 1 ≤ x := by omega
      have hx2 : x ≤ 20 := by omega
      obtain ⟨w2, r2, o2, k2⟩ := own_upd0 hown hw (v := x - 1) (by omega) (by omega) hn
      have FIN := hide (Bt.turn hE hp hEb hne hv.1 k2 o2 (hf.put id (x - 1) (by omega)) g2)
      have q0 : (x == 0) = false := by simp; omega
      clear hE hp hv hEb hne hf g2 hz hd e2 o2 k2 hown ho h1 htp hth hat hx hps
      go_enter Try.func15, Try.ntmps15
      go_wp2_with (go_at_call 22; refine H.mono ?_; rintro e w' ⟨rfl, rfl⟩)
      go_ret2
      exact ⟨rfl, FIN.out⟩

set_option maxHeartbeats 1000000 in
theorem bhang_any (k : Bt B E w p t h n) {id : Int} (hw : (Lit.int .i64 id).wf = true) (hn : n < 1000000) :
    Calls Try.prog 9 #[.pointer (some ⟨p, 0, none⟩), .int .i64 id] w fun e w' => e = .returned (.bool (hangB h id)) ∧ Bt B (growE E w w') w' p t (hangH t h id) (n + 1) ∧ Rg.Kept (fun i _ => E i) w w' := by
  have H := bhas_any k hw
  have I := bisid_any id w
  have HLW := hide k.low
  cases hi : isI id
  · rw [hi] at I
    have hB : hangB h id = false := by simp [hangB, hi]
    have e2 : hangH t h id = h := if_neg (by rw [hB]; simp)
    rw [hB, e2]
    have HK := hide (k.more (Nat.le_succ n))
    clear k hB e2 H hi
    go_enter Try.func9, Try.ntmps9
    go_wp2_with (go_at_call 21; refine I.mono ?_; rintro e w' ⟨rfl, rfl⟩)
    go_ret
    exact ⟨rfl, HK.out.grow HLW.out, Rg.Kept.refl _ _⟩
  · rw [hi] at I
    by_cases hz : h id = 0
    · have hB : hangB h id = true := by simp [hangB, hi, hz]
      have e2 : hangH t h id = upd h id (t + 1) := if_pos hB
      have hd : hasB h id = false := by simp [hasB, hz]
      have g2 := k.good.hang id
      have ht := k.good.lo
      have ht2 := k.good.hi
      rw [hd] at H
      rw [e2] at g2 ⊢
      rw [hB]
      obtain ⟨hE, hp, -, mv, hv⟩ := k
      have c0 := hv.cellT
      have c1 := hv.cellM
      rcases hv.2 with ⟨rfl, hh⟩ | ⟨b, rfl, hEb, D, hown, hf⟩
      · have hlt := hv.lt
        have f1 := hv.frozen 1
        have hnm : ∀ u : World, (binOp BinOp.eql 41 (.map none) (.map none)).run Try.prog u = .ok (.bool true) u := fun _ => by kernel_rfl
        have hmm := @run_makeMap Try.prog
        obtain ⟨V, hV⟩ : ∃ V, (w.setCell ⟨p, 1, none⟩ (.map (some w.heap.size))).alloc (.map #[] 0) = V := ⟨_, rfl⟩
        have hV2 : V = (w.alloc (.map #[] 0)).setCell ⟨p, 1, none⟩ (.map (some w.heap.size)) := by rw [← hV]; simp [go_sem, hlt]
        have hkV : Rg.Kept (fun i _ => E i) w V := by rw [hV2]; exact (Rg.Kept.alloc _).trans (Rg.Kept.setCell _ (fun _ => hp))
        have hzV : V.heap.size = w.heap.size + 1 := by rw [hV2]; simp
        have hpV : V.heap[p]? = some (.cells #[.int .i64 t, .map (some w.heap.size)] 43 (0, 0)) := by
          have h3 : (w.alloc (.map #[] 0)).heap[p]? = some (.cells #[.int .i64 t, .map none] 43 (0, 0)) := (Below.heap_alloc _ _ _ hlt).trans hv.1
          rw [hV2, heap_setCell_same _ _ _ _ _ _ h3]
          rfl
        have hown : V.ownsMap Try.prog 3 (plainElem Try.prog 3) w.heap.size n (.map [] : DataW Unit) := by
          rw [hV2]
          exact ((World.ownsMap_made _ _ _ _).setCell (a := ⟨p, 1, none⟩) (show w.heap.size ≠ p by omega) _).mono (Nat.zero_le _)
        obtain ⟨w2, r2, o2, k2, e1⟩ := own_upd hown hw (v := t) (by omega) ht2 hn
        rw [hzV] at e1
        have HB := HLW.out
        have fin : Bt B (growE E w w2) w2 p t (upd h id (t + 1)) (n + 1) ∧ Rg.Kept (fun i _ => E i) w w2 := by
          subst hh
          obtain ⟨q1, q2⟩ := Bt.turn (B := B) (E := growE E w w2) (w := V) (p := p) (t := t) (b := w.heap.size) (fun k e => e.elim (fun e => ⟨(hE k e).1, by have := (hE k e).2; omega⟩) (fun e => ⟨by omega, by omega⟩)) (.inl hp) (.inr ⟨Nat.le_refl _, by omega⟩) (by omega) hpV (k2) o2 (FitB.new.put id t (by omega)) g2
          refine ⟨q1, ⟨q2.os.trans hkV.os, q2.tape.trans hkV.tape, q2.output.trans hkV.output, Nat.le_trans hkV.size q2.size, fun i o hi hx => q2.block i o (hkV.block i o hi hx) (fun e => e.elim hx (fun e => ?_))⟩⟩
          have := (Array.getElem?_eq_some_iff.1 hi).1
          omega
        have FIN := hide fin
        have d0 : V.cell? ⟨p, 0, none⟩ = some (.int .i64 t) := by rw [cell_of hpV]; rfl
        have d1 : V.cell? ⟨p, 1, none⟩ = some (.map (some w.heap.size)) := by rw [cell_of hpV]; rfl
        clear fin hE hp hv hh g2 hz hB e2 hd o2 k2 hown hpV hzV hkV hV2 ht ht2 e1 HB
        go_enter Try.func9, Try.ntmps9
        go_wp2_with (first
          | (go_at_call 21; refine I.mono ?_; rintro e w' ⟨rfl, rfl⟩)
          | (go_at_call 22; refine H.mono ?_; rintro e w' ⟨rfl, rfl⟩))
        go_region
        all_goals go_wp2
        all_goals go_ret
        all_goals exact ⟨rfl, FIN.out⟩
      · have hne : b ≠ p := by
          rintro rfl
          obtain ⟨es, c, hb, _⟩ := hown
          rw [hv.1] at hb
          cases hb
        have hnm : ∀ u : World, (binOp BinOp.eql 41 (.map (some b)) (.map none)).run Try.prog u = .ok (.bool false) u := fun _ => by kernel_rfl
        obtain ⟨w2, r2, o2, k2, -⟩ := own_upd hown hw (v := t) (by omega) ht2 hn
        have fin := Bt.turn hE hp hEb hne hv.1 k2 o2 (hf.put id t (by omega)) g2
        have FIN := hide fin
        clear fin hE hp hv hEb hne hf g2 hz hB e2 hd o2 k2 hown ht ht2
        go_enter Try.func9, Try.ntmps9
        go_wp2_with (first
          | (go_at_call 21; refine I.mono ?_; rintro e w' ⟨rfl, rfl⟩)
          | (go_at_call 22; refine H.mono ?_; rintro e w' ⟨rfl, rfl⟩))
        go_region
        all_goals go_wp2
        all_goals go_ret
        all_goals exact ⟨rfl, FIN.out.1.grow HLW.out, FIN.out.2⟩
    · have hB : hangB h id = false := by simp [hangB, hz]
      have e2 : hangH t h id = h := if_neg (by rw [hB]; simp)
      have hd : hasB h id = true := by simp [hasB, hz]
      rw [hd] at H
      rw [hB, e2]
      have HK := hide (k.more (Nat.le_succ n))
      clear k hB e2 hi hz hd
      go_enter Try.func9, Try.ntmps9
      go_wp2_with (first
        | (go_at_call 21; refine I.mono ?_; rintro e w' ⟨rfl, rfl⟩)
        | (go_at_call 22; refine H.mono ?_; rintro e w' ⟨rfl, rfl⟩))
      go_ret
      exact ⟨rfl, HK.out.grow HLW.out, Rg.Kept.refl _ _⟩
end
end Go.Proofs.Ytdjdlifacbmbcaa
