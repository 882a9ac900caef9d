/-
  Own texts put together: SvcT, SvcU.
-/
import Derived.Test.YtdbmnjodkpeobaaGreatDoorSvcS
/-
  Contracts of service's isId, forget, State, Left, Down; those of a service that there isn't.
-/
namespace Go.Proofs.YtdbmnjodkpeobaaGreatDoor
open Go.ChangeShapes Go.WideShapes Go.ChangeAt Go.RowKit Go.Maps

theorem sisid_any (id : Int) (w : World) : Calls Tryz.prog 52 #[.int .i64 id] w fun e w' => e = .returned (.bool (Hd.isI id)) ∧ w = w' := by
  by_cases h0 : 1 ≤ id
  · by_cases h1 : id ≤ 999
    · have hm : true = Hd.isI id := (Hd.isI_iff.2 ⟨h0, h1⟩).symm
      rw [← hm]
      clear hm
      go_enter Tryz.func52, Tryz.ntmps52
      go_wp2
      go_ret
      exact ⟨rfl, rfl⟩
    · have hm : false = Hd.isI id := by unfold Hd.isI; simp; omega
      rw [← hm]
      clear hm
      go_enter Tryz.func52, Tryz.ntmps52
      go_wp2
      go_ret
      exact ⟨rfl, rfl⟩
  · have hm : false = Hd.isI id := by unfold Hd.isI; simp; omega
    rw [← hm]
    clear hm
    go_enter Tryz.func52, Tryz.ntmps52
    go_wp2
    go_ret
    exact ⟨rfl, rfl⟩

section
variable {B : Nat} {E : Nat → Prop} {w : World} {p : Nat} {v : Sv} {n q : Nat} {r : Value} {pb mb sb : Nat}
theorem sstate_any (k : NdV B E w p v n q r pb mb sb) {id : Int} (hw : (Lit.int .i64 id).wf = true) :
    Calls Tryz.prog 17 #[.pointer (some ⟨p, 0, none⟩), .int .i64 id] w fun e w' => e = .returned (.int .i64 (v.st.s id)) ∧ w = w' := by
  obtain ⟨c0, c1, c2, c3, c4⟩ := k.cells
  have hl := k.mp.look hw
  clear k
  generalize v.st.s id = x at hl ⊢
  go_enter Tryz.func17, Tryz.ntmps17
  go_wp2
  go_ret
  exact ⟨rfl, rfl⟩
theorem sstate_nil (id : Int) (w : World) : Calls Tryz.prog 17 #[.pointer none, .int .i64 id] w fun e w' => e = .returned (.int .i64 0) ∧ w = w' := by
  go_enter Tryz.func17, Tryz.ntmps17
  go_wp2
  go_ret
  exact ⟨rfl, rfl⟩
theorem sleft_any (k : NdV B E w p v n q r pb mb sb) :
    Calls Tryz.prog 19 #[.pointer (some ⟨p, 0, none⟩)] w fun e w' => e = .returned (.int .i64 v.st.left) ∧ w = w' := by
  obtain ⟨c0, c1, c2, c3, c4⟩ := k.cells
  have H := Hd.left_any k.bk
  clear k
  go_enter Tryz.func19, Tryz.ntmps19
  go_wp2_with (go_at_call 40; refine H.mono ?_; rintro e w' ⟨rfl, rfl⟩)
  go_ret
  exact ⟨rfl, rfl⟩
theorem sleft_nil (w : World) : Calls Tryz.prog 19 #[.pointer none] w fun e w' => e = .returned (.int .i64 0) ∧ w = w' := by
  go_enter Tryz.func19, Tryz.ntmps19
  go_wp2
  go_ret
  exact ⟨rfl, rfl⟩
theorem jdown_any {B : Nat} {w : World} {p : Nat} {v : Value} {room : Int} {L : List ByteArray} {sure : Nat} {down : Bool} (h : Jr B w p v room L sure down) :
    Calls Tryz.prog 41 #[.pointer (some ⟨p, 0, none⟩)] w fun e w' => e = .returned (.bool down) ∧ w = w' := by
  obtain ⟨⟨c0, c1, c2, c3⟩, -⟩ := h.cells
  go_enter Tryz.func41, Tryz.ntmps41
  go_wp2
  go_ret
  exact ⟨rfl, rfl⟩
theorem sdown_any (k : NdV B E w p v n q r pb mb sb) :
    Calls Tryz.prog 20 #[.pointer (some ⟨p, 0, none⟩)] w fun e w' => e = .returned (.bool v.down) ∧ w = w' := by
  obtain ⟨c0, c1, c2, c3, c4⟩ := k.cells
  have H := jdown_any k.jr
  clear k
  generalize v.down = d at H ⊢
  go_enter Tryz.func20, Tryz.ntmps20
  go_wp2_with (go_at_call 41; refine H.mono ?_; rintro e w' ⟨rfl, rfl⟩)
  go_ret
  exact ⟨rfl, rfl⟩
theorem sdown_nil (w : World) : Calls Tryz.prog 20 #[.pointer none] w fun e w' => e = .returned (.bool false) ∧ w = w' := by
  go_enter Tryz.func20, Tryz.ntmps20
  go_wp2
  go_ret
  exact ⟨rfl, rfl⟩
end

theorem forget_fin {w w1 : World} {p : Nat} {node hold : Int} {x2 x3 x4 : Value} {pb mb : Nat} (hb : w.heap[p]? = some (.cells #[.int .i64 node, .int .i64 hold, x2, x3, x4] 62 (0, 0)))
    (kb : Hd.Bk w.heap.size w1 pb mb (Hd.clampA hold) (fun _ => 0) 0) (hb1 : Below w.heap.size w w1) :
    ∃ W, W = (((w1.setCell ⟨p, 3, none⟩ (.pointer (some ⟨pb, 0, none⟩))).setCell ⟨p, 4, none⟩ (.map (some w1.heap.size))).alloc (.map #[] 0)) ∧
      W.heap[p]? = some (.cells #[.int .i64 node, .int .i64 hold, x2, .pointer (some ⟨pb, 0, none⟩), .map (some w1.heap.size)] 62 (0, 0)) ∧ Hd.Bk w.heap.size W pb mb (Hd.clampA hold) (fun _ => 0) 0 ∧ Mp W w1.heap.size 0 (fun _ => 0) ∧ mb ≠ w1.heap.size ∧ w.heap.size ≤ w1.heap.size ∧ Rg.Kept (fun k _ => k = p) w W := by
  have hp := (Array.getElem?_eq_some_iff.1 hb).1
  have hp1 := (hb1.block p hp).trans hb
  have e1 : (w1.setCell ⟨p, 3, none⟩ (.pointer (some ⟨pb, 0, none⟩))).heap[p]? = some (.cells #[.int .i64 node, .int .i64 hold, x2, .pointer (some ⟨pb, 0, none⟩), x4] 62 (0, 0)) := by rw [heap_setCell_same _ _ _ _ _ _ hp1]; rfl
  have e2 : ((w1.setCell ⟨p, 3, none⟩ (.pointer (some ⟨pb, 0, none⟩))).setCell ⟨p, 4, none⟩ (.map (some w1.heap.size))).heap[p]? = some (.cells #[.int .i64 node, .int .i64 hold, x2, .pointer (some ⟨pb, 0, none⟩), .map (some w1.heap.size)] 62 (0, 0)) := by rw [heap_setCell_same _ _ _ _ _ _ e1]; rfl
  have hs : ((w1.setCell ⟨p, 3, none⟩ (.pointer (some ⟨pb, 0, none⟩))).setCell ⟨p, 4, none⟩ (.map (some w1.heap.size))).heap.size = w1.heap.size := by simp
  have k1 : Rg.Kept (fun k _ => k = p) w1 (((w1.setCell ⟨p, 3, none⟩ (.pointer (some ⟨pb, 0, none⟩))).setCell ⟨p, 4, none⟩ (.map (some w1.heap.size))).alloc (.map #[] 0)) :=
    ((Rg.Kept.setCell (a := ⟨p, 3, none⟩) _ (fun _ => rfl)).trans (Rg.Kept.setCell (a := ⟨p, 4, none⟩) _ (fun _ => rfl))).trans (Rg.Kept.alloc _)
  have h2 := kb.2.1
  have h3 := kb.2.2.1
  refine ⟨_, rfl, (Below.heap_alloc _ _ _ (Array.getElem?_eq_some_iff.1 e2).1).trans e2, kb.kept k1 (fun _ e => by omega) (fun _ e => by omega), ?_, Nat.ne_of_lt kb.ltb, hb1.size, (Rg.Kept.of_below hb1).trans k1⟩
  have := World.ownsMap_made (H := Unit) (P := Tryz.prog) (k := 3) (R := plainElem Tryz.prog 3) ((w1.setCell ⟨p, 3, none⟩ (.pointer (some ⟨pb, 0, none⟩))).setCell ⟨p, 4, none⟩ (.map (some w1.heap.size)))
  rw [hs] at this
  exact ⟨_, this, Hd.Fits.new⟩
theorem sforget_any {w : World} {p : Nat} {node hold : Int} {x2 x3 x4 : Value} (hb : w.heap[p]? = some (.cells #[.int .i64 node, .int .i64 hold, x2, x3, x4] 62 (0, 0))) :
    Calls Tryz.prog 22 #[.pointer (some ⟨p, 0, none⟩)] w fun e w' => (∃ x, e = .returned x) ∧ ∃ pb mb sb,
      w'.heap[p]? = some (.cells #[.int .i64 node, .int .i64 hold, x2, .pointer (some ⟨pb, 0, none⟩), .map (some sb)] 62 (0, 0)) ∧ Hd.Bk w.heap.size w' pb mb (Hd.clampA hold) (fun _ => 0) 0 ∧ Mp w' sb 0 (fun _ => 0) ∧ mb ≠ sb ∧ w.heap.size ≤ sb ∧ Rg.Kept (fun k _ => k = p) w w' := by
  have c1 : w.cell? ⟨p, 1, none⟩ = some (.int .i64 hold) := by rw [cell_of hb]; rfl
  have HB := hide hb
  have hmm := @run_makeMap Tryz.prog
  clear hb
  go_enter Tryz.func22, Tryz.ntmps22
  go_wp2_with fail
  refine (Hd.new_any hold w).mono ?_
  rintro e w1 ⟨pb, mb, rfl, kb, hb1⟩
  have hp1 := (hb1.block p (Array.getElem?_eq_some_iff.1 HB.out).1).trans HB.out
  have c3 : w1.cell? ⟨p, 3, none⟩ = some x3 := by rw [cell_of hp1]; rfl
  have c4 : w1.cell? ⟨p, 4, none⟩ = some x4 := by rw [cell_of hp1]; rfl
  have f3 : w1.frozen? ⟨p, 3, none⟩ = false := frozen_of_row _ _ _ _ _ hp1
  have f4 : w1.frozen? ⟨p, 4, none⟩ = false := frozen_of_row _ _ _ _ _ hp1
  have hlt : p < w1.heap.size := (Array.getElem?_eq_some_iff.1 hp1).1
  have KB := hide kb
  have HB1 := hide hb1
  have HP1 := hide hp1
  clear kb hb1 hp1 c1
  obtain ⟨W, hW, FIN⟩ := forget_fin HB.out KB.out HB1.out
  have HF := hide FIN
  clear FIN
  go_wp2
  go_end0
  rw [← hW]
  exact ⟨⟨_, rfl⟩, pb, mb, w1.heap.size, HF.out⟩
end Go.Proofs.YtdbmnjodkpeobaaGreatDoor
/-
  Contracts of service's can, tried, follow, note, hears.
-/
namespace Go.Proofs.YtdbmnjodkpeobaaGreatDoor
open Go.ChangeShapes Go.WideShapes Go.ChangeAt Go.RowKit Go.Maps

section
variable {B : Nat} {E : Nat → Prop} {w : World} {p : Nat} {v : Sv} {n q : Nat} {r : Value} {pb mb sb : Nat}
theorem scan_any (k : NdV B E w p v n q r pb mb sb) {id a : Int} (hw : (Lit.int .i64 id).wf = true) (hn : n < 900000) :
    Calls Tryz.prog 72 #[.pointer (some ⟨p, 0, none⟩), .int .i64 id, .int .i64 a] w fun e w' => e = .returned (.bool (decide (Hd.takeE v.st.left v.st.h id a = 0))) ∧ NdV B E w' p v (n + 1) q r pb mb sb ∧ Rg.Kept (fun k _ => E k) w w' := by
  obtain ⟨c0, c1, c2, c3, c4⟩ := k.cells
  have T := Hd.take_any k.bk (x := a) hw (by omega)
  have HK := hide k
  clear k c0 c1 c2 c4
  by_cases he : Hd.takeE v.st.left v.st.h id a = 0
  · obtain ⟨h1, h2, h3⟩ := can_back he
    have ed : decide (Hd.takeE v.st.left v.st.h id a = 0) = true := by simp [he]
    rw [ed]
    rw [he] at T
    have H2 := hide h2
    have H3 := hide h3
    clear ed he h2 h3
    go_enter Tryz.func72, Tryz.ntmps72
    go_wp2_with fail
    refine T.mono ?_
    rintro e w1 ⟨rfl, kb1, hk1⟩
    obtain ⟨k1, hk1'⟩ := HK.out.bstep (by omega) kb1 hk1
    have Bc := Hd.back_any kb1 hw
    rw [h1] at Bc
    obtain ⟨-, -, -, d3, -⟩ := k1.cells
    have HK1 := hide k1
    have HKK := hide hk1'
    clear T c3 kb1 hk1 hk1' k1 h1
    go_wp2_with fail
    refine Bc.mono ?_
    rintro e w2 ⟨rfl, kb2, hk2⟩
    obtain ⟨k2, hk2'⟩ := HK1.out.bstep (Nat.le_refl _) kb2 hk2
    rw [H2.out, H3.out] at k2
    have HK2 := hide k2
    have HKK2 := hide (HKK.out.trans hk2')
    clear Bc d3 kb2 hk2 hk2' k2
    go_wp2
    go_ret
    exact ⟨rfl, HK2.out, HKK2.out⟩
  · have ed : decide (Hd.takeE v.st.left v.st.h id a = 0) = false := by simp [he]
    have eL : Hd.takeL v.st.left v.st.h id a = v.st.left := by unfold Hd.takeL; rw [if_neg he]
    have eH : Hd.takeH v.st.left v.st.h id a = v.st.h := by unfold Hd.takeH; rw [if_neg he]
    rw [ed]
    rw [eL, eH] at T
    have qe : (Hd.takeE v.st.left v.st.h id a == 0) = false := by simp [he]
    generalize Hd.takeE v.st.left v.st.h id a = x at T qe
    clear ed he eL eH
    go_enter Tryz.func72, Tryz.ntmps72
    go_wp2_with fail
    refine T.mono ?_
    rintro e w1 ⟨rfl, kb1, hk1⟩
    obtain ⟨k1, hk1'⟩ := HK.out.bstep (by omega) kb1 hk1
    have HK1 := hide k1
    have HKK := hide hk1'
    clear T c3 kb1 hk1 hk1' k1
    go_wp2
    go_ret
    exact ⟨rfl, HK1.out, HKK.out⟩

/-- The states behind an entry is followed, at any world with the same memory. -/
theorem NdV.put (k : NdV B E w p v n q r pb mb sb) (hn : n < 900000) {id x : Int} (hw : (Lit.int .i64 id).wf = true) (hx : x ≠ 0) (hwx : (Lit.int .i64 x).wf = true) :
    ∃ w', (Instr.mapUpdate 60 (.map (some sb)) (.int .i64 id) (.int .i64 x)).run Tryz.prog w.drew = .ok () w' ∧ NdV B E w' p ⟨v.node, v.hold, v.room, v.T, v.down, ⟨v.st.left, v.st.h, Hd.upd v.st.s id x⟩⟩ (n + 1) q r pb mb sb ∧ Rg.Kept (fun k _ => E k) w w' := by
  have hb : Below w.heap.size w w.drew := (Below.refl _ _).drew
  obtain ⟨w', h1, h2, h3⟩ := (k.on hb).mp.put (by omega) hw hx hwx
  obtain ⟨h4, h5⟩ := (k.on hb).mstep (Nat.le_succ n) h2 h3
  exact ⟨w', h1, h4, (Rg.Kept.of_below hb).trans h5⟩
theorem kept_cellR {F : Nat → Obj → Prop} {W W' : World} (hk : Rg.Kept F W W') {a : Addr} {x : Value} (hF : ∀ o, ¬ F a.block o) (hc : W.cell? a = some x) : W'.cell? a = some x := by
  have hlt := World.block_lt_of_cell? _ _ hc
  have e : W.heap[a.block]? = some W.heap[a.block] := Array.getElem?_eq_getElem hlt
  rw [World.cell?_of_block ((hk.block _ _ e (hF _)).trans e.symm)]
  exact hc
theorem three_new (w : World) (x y z : Value) (t : TypeId) : (w.alloc (.cells #[x, y, z] t)).cell? ⟨w.heap.size, 0, none⟩ = some x ∧ (w.alloc (.cells #[x, y, z] t)).cell? ⟨w.heap.size, 1, none⟩ = some y ∧ (w.alloc (.cells #[x, y, z] t)).cell? ⟨w.heap.size, 2, none⟩ = some z := by
  have e : (w.alloc (.cells #[x, y, z] t)).heap[w.heap.size]? = some (.cells #[x, y, z] t (0, 0)) := World.alloc_heap_new w _
  refine ⟨?_, ?_, ?_⟩ <;> (rw [cell_of e]; rfl)

/-- What an entry says is followed. -/
theorem sfollow_any (k : NdV B E w p v n q r pb mb sb) {e : En} (he : OkE e) {a : Option Addr} {c : Nat} (ha : Ints w a (nB e)) (hna : e.c = 1 → ∀ ad, a = some ad → ¬ E ad.block) (hn : n < 800000) :
    Calls Tryz.prog 29 #[.pointer (some ⟨p, 0, none⟩), .agg #[.string (kB e.c), .int .i64 e.id, .slice a (nB e).length c]] w fun x w' => (∃ y, x = .returned y) ∧ NdV B E w' p ⟨v.node, v.hold, v.room, v.T, v.down, stp v.st e⟩ (n + 2) q r pb mb sb ∧ Rg.Kept (fun k _ => E k) w w' := by
  have hw : (Lit.int .i64 e.id).wf = true := Hd.wf_of (by have := he.id; omega) (by have := he.id; omega)
  obtain ⟨W, hW⟩ : ∃ W, W = w.alloc (.cells #[.string (kB e.c), .int .i64 e.id, .slice a (nB e).length c] 70) := ⟨_, rfl⟩
  have hbW : Below w.heap.size w W := by rw [hW]; exact (Below.refl _ _).alloc (Nat.le_refl _) _
  have kW := k.on hbW
  have aW := ha.below hbW
  have hlt : pb < w.heap.size ∧ mb < w.heap.size := ⟨k.bk.lt, k.bk.ltb⟩
  have hKW : Rg.Kept (fun k _ => E k) w W := Rg.Kept.of_below hbW
  clear k ha
  obtain ⟨ec, ei, ea⟩ := e
  have hc := he.c
  simp only at hc hw hW aW ⊢
  rcases hc with rfl | rfl | rfl
  · have hbD : Below W.heap.size W W.drew := (Below.refl _ _).drew
    have T := Hd.take_any (kW.on hbD).bk (x := ea) hw (by omega)
    obtain ⟨c0, c1, c2, c3, c4⟩ := kW.cells
    simp only [kB, nB, if_true, List.length_singleton] at hW aW ⊢
    obtain ⟨b, off, rfl, c5⟩ : ∃ b off, a = some ⟨b, off, none⟩ ∧ W.cell? ⟨b, off, none⟩ = some (.int .i64 ea) := by
      rcases aW with h | ⟨b, off, h1, h2⟩
      · cases h
      · exact ⟨b, off, h1, by simpa using h2 0 (by simp)⟩
    obtain ⟨b0, b1, b2⟩ := three_new w (.string ⟨#[100, 105, 100]⟩) (.int .i64 ei) (.slice (some ⟨b, off, none⟩) 1 c) 70
    rw [← hW] at b0 b1 b2
    have NX : Hid (∀ u, Hd.Bk B u pb mb (Hd.takeL v.st.left v.st.h ei ea) (Hd.takeH v.st.left v.st.h ei ea) (n + 1) → Rg.Kept (Hd.Own2 pb mb) W.drew u → NdV B E u p ⟨v.node, v.hold, v.room, v.T, v.down, ⟨Hd.takeL v.st.left v.st.h ei ea, Hd.takeH v.st.left v.st.h ei ea, v.st.s⟩⟩ (n + 1) q r pb mb sb ∧ Rg.Kept (fun k _ => E k) w u ∧ (u.cell? ⟨p, 3, none⟩ = some (.pointer (some ⟨pb, 0, none⟩)) ∧ u.cell? ⟨p, 4, none⟩ = some (.map (some sb)) ∧ u.cell? ⟨w.heap.size, 1, none⟩ = some (.int .i64 ei) ∧ u.cell? ⟨w.heap.size, 2, none⟩ = some (.slice (some ⟨b, off, none⟩) 1 c) ∧ u.cell? ⟨b, off, none⟩ = some (.int .i64 ea))) := fun u h1 h2 => by
      obtain ⟨h3, h4⟩ := (kW.on hbD).bstep (Nat.le_succ n) h1 h2
      have e1 : W.heap[w.heap.size]? = some (.cells #[.string ⟨#[100, 105, 100]⟩, .int .i64 ei, .slice (some ⟨b, off, none⟩) 1 c] 70 (0, 0)) := by rw [hW]; exact World.alloc_heap_new w _
      have e2 := h2.block _ _ ((hbD.block _ (Array.getElem?_eq_some_iff.1 e1).1).trans e1) (fun e => e.elim (by omega) (by omega))
      have hne : b ≠ pb ∧ b ≠ mb := ⟨fun e => hna rfl _ rfl (by rw [e]; exact kW.eb), fun e => hna rfl _ rfl (by rw [e]; exact kW.em)⟩
      obtain ⟨-, -, -, z3, z4⟩ := h3.cells
      refine ⟨h3, hKW.trans ((Rg.Kept.of_below hbD).trans h4), z3, z4, by rw [cell_of e2]; rfl, by rw [cell_of e2]; rfl, ?_⟩
      exact kept_cellR h2 (fun _ e => e.elim hne.1 hne.2) (cellL c5 hbD)
    have HWW := hide hW
    have HW := hide hw
    clear kW aW hlt hKW hbW hbD hW he
    go_enter Tryz.func29, Tryz.ntmps29
    go_wp2_with fail
    rw [← HWW.out]
    go_region_held3 (fun w' => w'.cell? ⟨p, 3, none⟩ = some (.pointer (some ⟨pb, 0, none⟩)) ∧ w'.cell? ⟨w.heap.size, 1, none⟩ = some (.int .i64 ei) ∧ w'.cell? ⟨w.heap.size, 2, none⟩ = some (.slice (some ⟨b, off, none⟩) 1 c) ∧ w'.cell? ⟨b, off, none⟩ = some (.int .i64 ea)) (go_keep) (first
      | (go_at_call 48; refine T.mono ?_; clear T; rintro e u1 ⟨rfl, hk1, ho1⟩; clear c3 b1 b2 c5; obtain ⟨k1, hE1, c3, d4, b1, b2, c5⟩ := NX.out u1 hk1 ho1; have HK1 := hide k1; have HE1 := hide hE1; clear hk1 ho1 k1 hE1))
    generalize Hd.takeE v.st.left v.st.h ei ea = x
    obtain ⟨u2, hrun, k2, hE2⟩ := HK1.out.put (by omega) HW.out (x := 1) (by decide) (by decide)
    have HK2 := hide k2
    have HE2 := hide (HE1.out.trans hE2)
    clear k2 hE2 c5 b2 c3 NX HWW HK1 HE1 b0 c0 c1 c2
    go_wp2_with fail
    go_region
    all_goals go_wp2
    all_goals go_end0
    all_goals exact ⟨⟨_, rfl⟩, HK2.out, HE2.out⟩
  · obtain ⟨c0, c1, c2, c3, c4⟩ := kW.cells
    simp only [kB, nB, if_true, if_neg (show ¬ (2 : Nat) = 1 by decide), List.length_nil] at hW aW ⊢
    obtain ⟨b0, b1, b2⟩ := three_new w (.string ⟨#[99, 97, 110, 116]⟩) (.int .i64 ei) (.slice a 0 c) 70
    rw [← hW] at b0 b1 b2
    obtain ⟨u2, hrun, k2, hE2⟩ := kW.put (by omega) hw (x := 2) (by decide) (by decide)
    have HK2 := hide (k2.more (show n + 1 ≤ n + 2 by omega))
    have HE2 := hide (hKW.trans hE2)
    have HWW := hide hW
    clear kW aW hlt hKW hbW hW he k2 hE2 hw
    go_enter Tryz.func29, Tryz.ntmps29
    go_wp2_with fail
    rw [← HWW.out]
    go_region
    all_goals go_wp2
    all_goals go_end0
    all_goals exact ⟨⟨_, rfl⟩, HK2.out, HE2.out⟩
  · have hbD : Below W.heap.size W W.drew := (Below.refl _ _).drew
    have T := Hd.back_any (kW.on hbD).bk hw
    obtain ⟨c0, c1, c2, c3, c4⟩ := kW.cells
    simp only [kB, nB, if_neg (show ¬ (3 : Nat) = 1 by decide), if_neg (show ¬ (3 : Nat) = 2 by decide), List.length_nil] at hW aW ⊢
    obtain ⟨b0, b1, b2⟩ := three_new w (.string ⟨#[117, 110, 100, 105, 100]⟩) (.int .i64 ei) (.slice a 0 c) 70
    rw [← hW] at b0 b1 b2
    have NX : Hid (∀ u, Hd.Bk B u pb mb (Hd.backL v.st.left v.st.h ei) (Hd.backH v.st.h ei) n → Rg.Kept (Hd.Own2 pb mb) W.drew u → NdV B E u p ⟨v.node, v.hold, v.room, v.T, v.down, ⟨Hd.backL v.st.left v.st.h ei, Hd.backH v.st.h ei, v.st.s⟩⟩ n q r pb mb sb ∧ Rg.Kept (fun k _ => E k) w u ∧ (u.cell? ⟨p, 3, none⟩ = some (.pointer (some ⟨pb, 0, none⟩)) ∧ u.cell? ⟨p, 4, none⟩ = some (.map (some sb)) ∧ u.cell? ⟨w.heap.size, 1, none⟩ = some (.int .i64 ei))) := fun u h1 h2 => by
      obtain ⟨h3, h4⟩ := (kW.on hbD).bstep (Nat.le_refl n) h1 h2
      have e1 : W.heap[w.heap.size]? = some (.cells #[.string ⟨#[117, 110, 100, 105, 100]⟩, .int .i64 ei, .slice a 0 c] 70 (0, 0)) := by rw [hW]; exact World.alloc_heap_new w _
      have e2 := h2.block _ _ ((hbD.block _ (Array.getElem?_eq_some_iff.1 e1).1).trans e1) (fun e => e.elim (by omega) (by omega))
      obtain ⟨-, -, -, z3, z4⟩ := h3.cells
      exact ⟨h3, hKW.trans ((Rg.Kept.of_below hbD).trans h4), z3, z4, by rw [cell_of e2]; rfl⟩
    have HWW := hide hW
    have HW := hide hw
    clear kW aW hlt hKW hbW hbD hW he
    go_enter Tryz.func29, Tryz.ntmps29
    go_wp2_with fail
    rw [← HWW.out]
    go_region_held3 (fun w' => w'.cell? ⟨p, 3, none⟩ = some (.pointer (some ⟨pb, 0, none⟩)) ∧ w'.cell? ⟨w.heap.size, 1, none⟩ = some (.int .i64 ei)) (go_keep) (first
      | (go_at_call 49; refine T.mono ?_; clear T; rintro e u1 ⟨rfl, hk1, ho1⟩; clear c3 b1; obtain ⟨k1, hE1, c3, d4, b1⟩ := NX.out u1 hk1 ho1; have HK1 := hide k1; have HE1 := hide hE1; clear hk1 ho1 k1 hE1))
    generalize Hd.backE v.st.h ei = x
    obtain ⟨u2, hrun, k2, hE2⟩ := HK1.out.put (by omega) HW.out (x := 3) (by decide) (by decide)
    have HK2 := hide (k2.more (show n + 1 ≤ n + 2 by omega))
    have HE2 := hide (HE1.out.trans hE2)
    clear k2 hE2 c3 NX HWW HK1 HE1 b0 c0 c1 c2
    go_wp2_with fail
    go_region
    all_goals go_wp2
    all_goals go_end0
    all_goals exact ⟨⟨_, rfl⟩, HK2.out, HE2.out⟩
end
end Go.Proofs.YtdbmnjodkpeobaaGreatDoor
