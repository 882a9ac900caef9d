/-
  Contract of service's Start.
-/
import Derived.Test.YtdbmnjodkpeobaaGreatDoorSvdA
import Derived.Test.YtdbmnjodkpeobaaGreatDoorRGp
import Derived.Maps.OwnIn
namespace Go.Proofs.YtdbmnjodkpeobaaGreatDoor
open Go.ChangeShapes Go.WideShapes Go.ChangeAt Go.RowKit Go.Shelf Go.Maps

attribute [local go_sem] Oper.semAt_some

theorem ownFrom_kept {β : Type} {X : Nat} {J : β → World → Prop} (h : ∀ s W W', J s W → Rg.Kept (fun k o => X ≤ k ∧ o.isCells = false) W W' → J s W') : OwnFrom X J := fun s W W' row hs hg hr =>
  h s W W' hs ⟨hg.os, hg.tape, hg.output, hg.size, fun k o hk hx => (hg.block k (Array.getElem?_eq_some_iff.1 hk).1 (fun e => by
    obtain ⟨h1, o', h2, h3⟩ := hr k e.symm
    rw [hk] at h2
    cases h2
    exact hx ⟨h1, h3⟩)).trans hk⟩
theorem good_own (N1 X : Nat) (x : Ev) : OwnFrom X (fun (_ : Unit) W => Good N1 x W) := ownFrom_kept (fun _ _ _ hs hk =>
  ⟨hs.1.moveF (fun _ _ ⟨_, hc⟩ => (hk.block _ _ hc (fun e => by cases e.2)).trans hc.symm), hs.2⟩)
/-- What the loop of Start has, pre having come. -/
def SI (w0 w : World) (E1 : Nat → Prop) (v : Sv) (p q : Nat) (r : Value) (pb mb sb n : Nat) (w2 : World) (pre : List Ev) (W : World) : Prop :=
  NdV w0.heap.size E1 W p ⟨v.node, v.hold, v.room, v.T, false, (v.T.take pre.length).foldl stp (ini v.hold)⟩ (n + 2 * pre.length) q r pb mb sb ∧ Boxed W w.heap.size 23 (.pointer (some ⟨p, 0, none⟩)) ∧ Rg.Kept (fun k _ => E1 k) w2 W ∧ pre.length ≤ v.T.length ∧ w2.heap.size ≤ W.heap.size
theorem SI.above {w0 w : World} {E1 : Nat → Prop} {v : Sv} {p q : Nat} {r : Value} {pb mb sb n : Nat} {w1 w2 : World} {pre : List Ev} {W W' : World} {F : Nat → Obj → Prop} (hE : ∀ k, E1 k → (w0.heap.size ≤ k ∧ k < w1.heap.size) ∧ k ≠ w.heap.size) (hs : w.heap.size < w2.heap.size ∧ w1.heap.size ≤ w2.heap.size) (h : SI w0 w E1 v p q r pb mb sb n w2 pre W) (hk : Rg.Kept (fun k o => w2.heap.size ≤ k ∧ F k o) W W') : SI w0 w E1 v p q r pb mb sb n w2 pre W' := by
  obtain ⟨h1, h2, h3, h4, h5⟩ := h
  refine ⟨h1.kept hk (fun k o e1 e2 => by have := hE k e1; omega), hk.block _ _ h2 (fun e => by omega), ⟨hk.os.trans h3.os, hk.tape.trans h3.tape, hk.output.trans h3.output, Nat.le_trans h3.size hk.size, fun k o hk' hx => hk.block k o (h3.block k o hk' hx) (fun e => by have := (Array.getElem?_eq_some_iff.1 hk').1; omega)⟩, h4, Nat.le_trans h5 hk.size⟩

section
variable {E : Nat → Prop} {w0 w : World} {p : Nat} {v : Sv} {n : Nat}
theorem sstart_up {B : Nat} (k : Nd B E w p v n) (hd : v.down = false) :
    Calls Tryz.prog 12 #[.pointer (some ⟨p, 0, none⟩)] w fun e w' => (∃ x, e = .returned x) ∧ Below w.heap.size w w' := by
  have hb0 : Below w.heap.size w (w.alloc (.cells #[.pointer (some ⟨p, 0, none⟩)] 23)) := (Below.refl _ _).alloc (Nat.le_refl _) _
  obtain ⟨hE, hG, q, r, pb, mb, sb, k0⟩ := id (k.on hb0)
  have D := sdown_any k0
  rw [hd] at D
  have HB := hide hb0
  clear k0 k hE hG hd hb0
  go_enter Tryz.func12, Tryz.ntmps12
  go_wp2_with (go_at_call 20; refine D.mono ?_; clear D; rintro e w' ⟨rfl, rfl⟩)
  refine bodyPost_ret (results_none rfl _ _ _) rfl ?_
  exact ⟨⟨_, rfl⟩, HB.out⟩

set_option maxRecDepth 100000 in
set_option maxHeartbeats 4000000 in
theorem sstart_down (hg0 : Gl w0) (hw : Below w0.heap.size w0 w) (k : Nd w0.heap.size E w p v n) (hd : v.down = true) (hn : n < 600000) :
    Calls Tryz.prog 12 #[.pointer (some ⟨p, 0, none⟩)] w fun e w' => (∃ x, e = .returned x) ∧ Nd w0.heap.size (growE E w w') w' p (upS v) (n + 10000) ∧ Rg.Kept (fun k _ => E k) w w' := by
  refine (callsIn_wide (n := 5)).1 ?_
  obtain ⟨hE, hG, q, r, pb, mb, sb, k00⟩ := id k
  obtain ⟨U, hU⟩ : ∃ U, U = w.alloc (.cells #[.pointer (some ⟨p, 0, none⟩)] 23) := ⟨_, rfl⟩
  have hbU : Below w.heap.size w U := by rw [hU]; exact (Below.refl _ _).alloc (Nat.le_refl _) _
  have hbx : Boxed U w.heap.size 23 (.pointer (some ⟨p, 0, none⟩)) := by
    show U.heap[w.heap.size]? = _
    rw [hU]
    exact World.alloc_heap_new w _
  have k0 := k00.on hbU
  have D := sdown_any k0
  have hln : (v.T.map lnE).length = v.T.length := List.length_map _
  have hok : ∀ x ∈ v.T.map lnE, Ok x := fun x hx => by obtain ⟨e, he, rfl⟩ := List.mem_map.1 hx; exact ok_en (hG.ok e he)
  have hwh := whole_ok _ hok
  have j := k0.jr
  rw [hd] at j D
  have R : Calls Tryz.prog 27 #[.pointer (some ⟨q, 0, none⟩)] U fun e w' => (∃ x, e = .returned x) ∧ ∃ r', NdV w0.heap.size (fun k => growE E w w' k ∧ k ≠ w.heap.size) w' p ⟨v.node, v.hold, v.room, v.T, false, v.st⟩ n q r' pb mb sb ∧ Rg.Kept (fun k _ => E k) w w' ∧ Boxed w' w.heap.size 23 (.pointer (some ⟨p, 0, none⟩)) := by
    refine (recover_down hg0 (bel_on' hw hbU) j).mono ?_
    rintro e w' ⟨h1, r', h2, h3⟩
    rw [hwh, List.take_length, hln] at h2
    obtain ⟨h4, h5⟩ := k0.jstep h2 h3
    have h6 : Boxed w' w.heap.size 23 (.pointer (some ⟨p, 0, none⟩)) := h5.block _ _ hbx (fun e => by have := (hE _ e).2; omega)
    have wd : ∀ i, growE E U w' i → growE E w w' i := fun i e => e.imp (fun e => e) (fun e => ⟨Nat.le_trans hbU.size e.1, e.2⟩)
    have ne : ∀ i, E i → i ≠ w.heap.size := fun i e => by have := (hE _ e).2; omega
    refine ⟨⟨_, h1⟩, r', ⟨h4.blk, h4.jr, h4.bk, h4.mp, h4.ne, ⟨.inl k0.ep, ne _ k0.ep⟩, ⟨.inl k0.eq, ne _ k0.eq⟩, fun i e => ⟨wd i (h4.er i e), ?_⟩, ⟨.inl k0.eb, ne _ k0.eb⟩, ⟨.inl k0.em, ne _ k0.em⟩, ⟨.inl k0.es, ne _ k0.es⟩⟩, (Rg.Kept.of_below hbU).trans h5, h6⟩
    obtain ⟨cs, hr⟩ := h2.rowObj e
    exact two_cells hr h6 (by decide)
  obtain ⟨-, -, c2, -, -⟩ := k00.cells
  have hpl := k00.lt
  have HG := hide hg0
  have HW := hide hw
  have HE := hide hE
  have HGD := hide hG
  have HK := hide k
  have HUW := hide hU
  rw [hU] at D
  clear hg0 hw k hE hG k00 k0 hbU hbx hU j
  rw [HUW.out] at R
  refine callsIn_of_wp_marks Tryz.func12 rfl trivial ?_ rfl
  simp only [Tryz.ntmps12, List.size_toArray, List.length_cons, List.length_nil, Nat.reduceAdd, Nat.reduceSub, Array.replicate_succ, Array.replicate_zero, List.push_toArray, List.append_toArray, List.nil_append, List.cons_append]
  gi_wp2_with fail
  refine ⟨trivial, (callsIn_wide.2 D).mono ?_⟩
  rintro e w' ⟨rfl, rfl⟩
  gi_wp2_with fail
  refine ⟨trivial, (callsIn_wide.2 R).mono ?_⟩
  rintro e w1 ⟨⟨x0, rfl⟩, r', k1, hk1, hbx1⟩
  obtain ⟨-, -, d2, -, -⟩ := k1.cells
  have hb1 := hbx1.cell
  gi_wp2_with fail
  refine ⟨trivial, (all_in 4 (by omega) k1.jr).mono ?_⟩
  rintro e w2 ⟨a, c, Bs, rfl, hcb, hla, hbs, hb⟩
  have hs01 := hk1.size
  have hs12 := hb.size
  have hL4 : (v.T.map lnE).length ≤ 4096 := k1.jr.2.2.2.2.1
  have hX : ∀ x ∈ v.T.map lnE, x.size ≤ 63 := fun x hx => (k1.jr.2.2.2.2.2 x hx).2
  have hw0 : w0.heap.size ≤ w.heap.size := HW.out.size
  have hW2 : Below w0.heap.size w0 w2 := (HW.out.trans (HK.out.bel hk1)).trans (hb.mono (by omega))
  have ES := Rp.entries_tells 4 (by omega) Bs w1.heap.size w2.heap.size w0 HG.out a c (v.T.map lnE) hL4 hX w2 hcb hla hW2 (Nat.le_refl _)
  obtain ⟨E1, hE1⟩ : ∃ E1 : Nat → Prop, (fun k => growE E w w1 k ∧ k ≠ w.heap.size) = E1 := ⟨_, rfl⟩
  have bE1 : ∀ k, E1 k → (w0.heap.size ≤ k ∧ k < w1.heap.size) ∧ k ≠ w.heap.size := fun k e => by
    rw [← hE1] at e
    refine ⟨?_, e.2⟩
    rcases e.1 with e | e
    · have := HE.out k e; omega
    · omega
  have sE1 : ∀ k, E1 k → growE E w w1 k := fun k e => by rw [← hE1] at e; exact e.1
  rw [hE1] at k1
  have i0 : SI w0 w E1 v p q r' pb mb sb n w2 [] w2 := by
    refine ⟨?_, (hb.block _ hbx1.lt).trans hbx1, Rg.Kept.refl _ _, Nat.zero_le _, Nat.le_refl _⟩
    have e1 : v.st = ini v.hold := by rw [HGD.out.st_, hd]; rfl
    have := k1.on hb
    rw [e1] at this
    exact this
  have K1 := hide k1
  have HI := hide i0
  have hlnT : v.T.length ≤ 4096 := by omega
  clear k1 i0 hcb hla hbx1 hb1 d2 hE1 hok hX
  gi_wp2_with fail
  refine Rp.range_tells (I := SI w0 w E1 v p q r' pb mb sb n w2) (Ix := fun _ _ _ => False)
    (Ax := fun x a' W => ∃ Bx, w2.heap.size ≤ Bx ∧ W.heap[Bx]? = some (.cells #[.string x.k, .int .i64 x.id, .slice x.av x.l.length x.cv] 70 (0, 0)) ∧
      a' = { tmps := #[Value.pointer (some { block := p, off := 0 }), Value.pointer (some { block := w.heap.size, off := 0 }), Value.pointer (some { block := Bx, off := 0 }),
          Value.pointer (some { block := p, off := 0 }), Value.bool true, Value.bool false,
          Value.pointer (some { block := p, off := 0 }), Value.pointer (some { block := p, off := 0 }),
          Value.pointer (some { block := p, off := 2 }), Value.pointer (some { block := q, off := 0 }), x0,
          Value.pointer (some { block := p, off := 0 }), Value.pointer (some { block := p, off := 0 }),
          Value.pointer (some { block := p, off := 2 }), Value.pointer (some { block := q, off := 0 }),
          Value.func (Fn.func 59) #[] #[Value.pointer (some { block := Bs, off := 0 })], x.enc, undef, undef, undef], defers := [] })
    rfl (by omega) (gf := 59) (lb := #[.pointer (some ⟨Bs, 0, none⟩)]) rfl trivial (enters_of Tryz.func59 (by kernel_rfl) rfl) ES
    (fun h k => h.trans k) (fun W l o o' hl' ho hc => ⟨⟨rfl, rfl, rfl, by simp, fun k hk => World.putObj_heap_other (by omega)⟩, fun k _ hk => World.putObj_heap_other (by omega)⟩) (fun _ => rfl)
    (ownFrom_kept (fun pre W W' hs hk => SI.above bE1 (by omega) hs hk)) (fun c s W W' row hs hg hr => hs.elim) (fun x a' => ?ax) (fun pre x s W W' row hs hg hr => ⟨good_own _ _ x () W W' row hs.1 hg hr, hs.2⟩) HI.out ?assign ?body ?done ?stop
  case ax =>
    refine ownFrom_kept (fun _ W W' hs hk => ?_)
    obtain ⟨Bx, h0, h1, h2⟩ := hs
    exact ⟨Bx, h0, hk.block _ _ h1 (fun e => by cases e.2), h2⟩
  case assign =>
    intro l pre x W K hI hG hK
    have hW7 := hI.2.2.2.2
    have hbA : Below W.heap.size W (W.alloc (.cells #[.string x.k, .int .i64 x.id, .slice x.av x.l.length x.cv] 70)) := (Below.refl _ _).alloc (Nat.le_refl _) _
    have HK' := hK { tmps := #[Value.pointer (some { block := p, off := 0 }), Value.pointer (some { block := w.heap.size, off := 0 }), Value.pointer (some { block := W.heap.size, off := 0 }),
          Value.pointer (some { block := p, off := 0 }), Value.bool true, Value.bool false,
          Value.pointer (some { block := p, off := 0 }), Value.pointer (some { block := p, off := 0 }),
          Value.pointer (some { block := p, off := 2 }), Value.pointer (some { block := q, off := 0 }), x0,
          Value.pointer (some { block := p, off := 0 }), Value.pointer (some { block := p, off := 0 }),
          Value.pointer (some { block := p, off := 2 }), Value.pointer (some { block := q, off := 0 }),
          Value.func (Fn.func 59) #[] #[Value.pointer (some { block := Bs, off := 0 })], x.enc, undef, undef, undef], defers := [] } _
      ((KeepsOthers.alloc _ _).from _) (Keep.of_below hbA (by omega) hW7) (SI.above (F := fun _ _ => True) bE1 (by omega) hI (Rg.Kept.of_below hbA)) ⟨⟨hG.1.1.below hbA, hG.1.2⟩, hG.2⟩ ⟨W.heap.size, hW7, World.alloc_heap_new W _, rfl⟩
    clear hK
    unfold Ev.enc at HK' ⊢
    gi_wp2
    exact HK'
  case body =>
    rintro l pre x a' W hI ⟨Bx, hB0, hbx, rfl⟩ ⟨hGd, hpr⟩ hlt
    have hltT : pre.length < v.T.length := by omega
    have hWs : w2.heap.size ≤ W.heap.size := hI.2.2.2.2
    obtain ⟨e, he⟩ : ∃ e, v.T[pre.length]? = some e := ⟨_, List.getElem?_eq_getElem hltT⟩
    have hoe : OkE e := HGD.out.ok e (List.mem_of_getElem? he)
    have hgd : (v.T.map lnE).getD pre.length ByteArray.empty = lnE e := by simp [List.getD, he]
    rw [hgd] at hpr
    obtain ⟨ek, ei, el⟩ := en_parse hoe hpr
    obtain ⟨xk, xi, xl, xa, xc⟩ := x
    simp only [Ev.enc] at *
    subst ek ei el
    have hst : stp ((v.T.take pre.length).foldl stp (ini v.hold)) e = (v.T.take (pre.length + 1)).foldl stp (ini v.hold) := by
      rw [List.take_add_one, he, List.foldl_append]
      rfl
    have FW := (sfollow_any hI.1 hoe (c := xc) hGd.1.ints (fun hc ad e1 h => by
      rcases hGd.1 with h0 | ⟨b, off, h1, h2, _⟩
      · unfold nB at h0; rw [if_pos hc] at h0; cases h0
      · rw [h1] at e1; cases e1; have := bE1 _ h; simp only at this; omega) (by have := hI.2.2.2.1; omega)).mono (R' := fun x w' => (∃ y, x = .returned y) ∧ KeepsFrom w2.heap.size W w' ∧ Keep w0.heap.size w1.heap.size w2.heap.size W w' ∧ SI w0 w E1 v p q r' pb mb sb n w2 (pre ++ [⟨kB e.c, e.id, nB e, xa, xc⟩]) w') (fun y w' ⟨z1, z2, z3⟩ => by
        refine ⟨z1, ⟨z3.size, fun k o hk ho _ => z3.block k o ho (fun e => by have := bE1 k e; omega)⟩, ⟨z3.bel (by omega) (fun k _ e => (bE1 k e).1.1), fun k h0 h1 => ?_⟩, ?_, z3.block _ _ hI.2.1 (fun e => (bE1 _ e).2 rfl), hI.2.2.1.trans z3, by simp; omega, Nat.le_trans hI.2.2.2.2 z3.size⟩
        · have hlk : k < W.heap.size := by have := hI.2.2.2.2; omega
          have ek : W.heap[k]? = some W.heap[k] := Array.getElem?_eq_getElem hlk
          rw [ek]
          exact z3.block k _ ek (fun e => by have := bE1 k e; omega)
        · rw [hst] at z2
          rw [List.length_append, List.length_singleton]
          exact z2)
    have hcb1 := hI.2.1.cell
    have e0 : W.cell? ⟨Bx, 0, none⟩ = some (.string (kB e.c)) := by rw [cell_of hbx]; rfl
    have e1 : W.cell? ⟨Bx, 1, none⟩ = some (.int .i64 e.id) := by rw [cell_of hbx]; rfl
    have e2 : W.cell? ⟨Bx, 2, none⟩ = some (.slice xa (nB e).length xc) := by rw [cell_of hbx]; rfl
    clear hst hgd he hoe hGd hpr
    generalize kB e.c = K0 at *
    generalize e.id = K1' at *
    gi_wp2_with fail
    refine ⟨trivial, (CallsIn.inRound l (callsIn_wide.2 FW)).mono ?_⟩
    rintro y w3 ⟨⟨z, rfl⟩, hz1, hz2, hz3⟩
    clear FW hI hbx
    gi_wp2
    exact ⟨hz1, hz2, hz3⟩
  case done =>
    rintro D xs W hD ⟨hlen, -⟩ hI hK
    rw [hwh, hln] at hlen
    have hDl : D < W.heap.size := (Array.getElem?_eq_some_iff.1 hK).1
    have FIN : Hid (Nd w0.heap.size (growE E w (W.putObj D (.deferred none))) (W.putObj D (.deferred none)) p (upS v) (n + 10000) ∧ Rg.Kept (fun k _ => E k) w (W.putObj D (.deferred none))) := by
      have kp : Rg.Kept (fun k o => w2.heap.size ≤ k ∧ True) W (W.putObj D (.deferred none)) := (Rg.Kept.putObj (E := fun k o => w2.heap.size ≤ k ∧ True) _ (fun _ => ⟨hD, trivial⟩))
      obtain ⟨h1, h2, h3, h4, h5⟩ := SI.above (F := fun _ _ => True) bE1 (by omega) hI kp
      rw [hlen, List.take_length] at h1
      have eU : upS v = ⟨v.node, v.hold, v.room, v.T, false, runT v.hold v.T⟩ := by unfold upS; rw [if_pos hd]
      have hsz := h3.size
      refine ⟨⟨grow_in HE.out HK.out.low (by omega), upS_good HGD.out, q, r', pb, mb, sb, ?_⟩, ?_⟩
      · rw [eU]
        exact (h1.more (by omega)).wide (fun i e => (sE1 i e).imp (fun e => e) (fun e => ⟨e.1, by omega⟩))
      · have kb : Rg.Kept (fun k _ => E k) w w2 := hk1.trans (Rg.Kept.of_below hb)
        refine kept_grow kb (h3.mono (fun i _ e => (sE1 i e).imp (fun e => e) (fun e => ⟨e.1, by omega⟩)))
    gi_wp2
    refine ⟨by simp, .inl ⟨_, _, rfl, run_takeDeferred hK, ?_⟩⟩
    exact ⟨_, results_none rfl _ _ _, ⟨_, rfl⟩, FIN.out⟩
  case stop => exact fun D c pre W _ _ h _ => h.elim
end
end Go.Proofs.YtdbmnjodkpeobaaGreatDoor
