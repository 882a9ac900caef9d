/-
  The reference's Handle: what stands between its steps; where it is deaf.
-/
import Derived.Test.YtdbmnjodkpeobaaGreatDoorSvrE
import Derived.Test.YtdbmnjodkpeobaaGreatDoorBd20
import Derived.Test.YtdbmnjodkpeobaaGreatDoorBd3
namespace Go.Proofs.YtdbmnjodkpeobaaGreatDoor
open Go.ChangeShapes Go.WideShapes Go.ChangeAt Go.RowKit Go.Maps

/-- The reference's service at V, some steps behind w. -/
structure RT (B : Nat) (E : Nat → Prop) (w : World) (E1 : Nat → Prop) (V : World) (p : Nat) (v : Sv) (q : Nat) (r : Value) (pb : Nat) : Prop where
  k : RsV B E1 V p v q r pb
  sub : ∀ i, E1 i → growE E w V i
  kp : Rg.Kept (fun i _ => E i) w V
section
variable {B : Nat} {E E1 E2 : Nat → Prop} {w V u : World} {p : Nat} {v v2 : Sv} {q : Nat} {r r2 : Value} {pb pb2 : Nat}
theorem grow_up (h : ∀ i, E1 i → growE E w V i) (h2 : ∀ i, E2 i → growE E1 V u i) (hw : w.heap.size ≤ V.heap.size) (hs : V.heap.size ≤ u.heap.size) : ∀ i, E2 i → growE E w u i := fun i e => by
  rcases h2 i e with e | e
  · exact (h i e).imp (fun e => e) (fun e => ⟨e.1, by omega⟩)
  · exact .inr ⟨by omega, e.2⟩
theorem RT.step (t : RT B E w E1 V p v q r pb) (k2 : RsV B E2 u p v2 q r2 pb2) (hk : Rg.Kept (fun i _ => E1 i) V u) (hs : ∀ i, E2 i → growE E1 V u i) : RT B E w E2 u p v2 q r2 pb2 :=
  ⟨k2, grow_up t.sub hs t.kp.size hk.size, kept_grow t.kp (hk.mono (fun i _ e => t.sub i e))⟩
theorem RT.on (t : RT B E w E1 V p v q r pb) (hb : Below V.heap.size V u) : RT B E w E1 u p v q r pb :=
  ⟨t.k.on hb, fun i e => (t.sub i e).imp (fun e => e) (fun e => ⟨e.1, by have := hb.size; omega⟩), t.kp.trans (Rg.Kept.of_below hb)⟩
theorem RT.new (k : RsV B E w p v q r pb) (hb : Below w.heap.size w V) : RT B E w E V p v q r pb := ⟨k.on hb, fun _ e => .inl e, Rg.Kept.of_below hb⟩
theorem RT.set (t : RT B E w E1 V p v q r pb) {i : Nat} (hi : i < 1000) (x : Int) : RT B E w E1 (V.setCell ⟨p, 4 + i, none⟩ (.int .i64 x)) p ⟨v.node, v.hold, v.room, v.T, v.down, ⟨v.st.left, v.st.h, Hd.upd v.st.s i x⟩⟩ q r pb := by
  obtain ⟨h1, h2⟩ := t.k.sstep hi x
  exact t.step h1 h2 (fun _ e => .inl e)
theorem RT.take (t : RT B E w E1 V p v q r pb) (id a : Int) :
    Calls Tryz.prog 32 #[.pointer (some ⟨pb, 0, none⟩), .int .i64 id, .int .i64 a] V fun e u => e = .returned (.int .i64 (Hd.takeE v.st.left v.st.h id a)) ∧ RT B E w E1 u p ⟨v.node, v.hold, v.room, v.T, v.down, ⟨Hd.takeL v.st.left v.st.h id a, Hd.takeH v.st.left v.st.h id a, v.st.s⟩⟩ q r pb ∧ Rg.Kept (fun i _ => E1 i) V u :=
  (Hd.rtake_any t.k.rb t.k.gd id a).mono (fun _ u ⟨h1, h2, h3⟩ => by
    obtain ⟨h4, h5⟩ := t.k.bstep h2 (t.k.gd.take id a) h3
    exact ⟨h1, t.step h4 h5 (fun _ e => .inl e), h5⟩)
theorem RT.back (t : RT B E w E1 V p v q r pb) (id : Int) :
    Calls Tryz.prog 33 #[.pointer (some ⟨pb, 0, none⟩), .int .i64 id] V fun e u => e = .returned (.int .i64 (Hd.backE v.st.h id)) ∧ RT B E w E1 u p ⟨v.node, v.hold, v.room, v.T, v.down, ⟨Hd.backL v.st.left v.st.h id, Hd.backH v.st.h id, v.st.s⟩⟩ q r pb ∧ Rg.Kept (fun i _ => E1 i) V u :=
  (Hd.rback_any t.k.rb t.k.gd id).mono (fun _ u ⟨h1, h2, h3⟩ => by
    obtain ⟨h4, h5⟩ := t.k.bstep h2 (t.k.gd.back id) h3
    exact ⟨h1, t.step h4 h5 (fun _ e => .inl e), h5⟩)
theorem RT.full (t : RT B E w E1 V p v q r pb) (hd : v.down = false) (hr : hasRoom v = false) (a : Option Addr) (c : Nat) :
    Calls Tryz.prog 39 #[.pointer (some ⟨q, 0, none⟩), .bool true, .slice a 1 c] V fun e u => e = .returned (.bool false) ∧ Below V.heap.size V u := by
  have j := t.k.jr
  rw [hd] at j
  exact rnote_full j (by rw [List.length_map]; exact hasRoom_not.1 hr) a c
theorem RT.note (t : RT B E w E1 V p v q r pb) (hd : v.down = false) (hr : hasRoom v = true) {e : En} (he : OkE e) {a : Option Addr} {c g : Nat} (ha : Ints V a (nB e)) (hg : Gl V)
    (hx : V.heap[g]? = some (.cells #[.string (kB e.c), .int .i64 e.id, .slice a (nB e).length c] 70 (0, 0))) :
    Calls Tryz.prog 39 #[.pointer (some ⟨q, 0, none⟩), .bool true, .slice (some ⟨g, 0, none⟩) 1 1] V fun x u => x = .returned (.bool true) ∧ ∃ E2 r2, RT B E w E2 u p ⟨v.node, v.hold, v.room, v.T ++ [e], v.down, v.st⟩ q r2 pb ∧ Rg.Kept (fun i _ => E1 i) V u ∧ (∀ i, E2 i → growE E1 V u i) := by
  have j := t.k.jr
  rw [hd] at j
  refine (rnote_room j (by rw [List.length_map]; exact hasRoom_iff.1 hr) he ha hg hx).mono ?_
  rintro x u ⟨h1, r2, h2, h3⟩
  have e1 : v.T.map lnE ++ [lnE e] = (v.T ++ [e]).map lnE := by rw [List.map_append]; rfl
  rw [e1, List.length_map, show v.T.length + 1 = (v.T ++ [e]).length by simp, ← hd] at h2
  obtain ⟨h4, h5⟩ := t.k.jstep h2 h3
  exact ⟨h1, growE E1 V u, r2, t.step h4 h5 (fun _ e => e), h5, fun _ e => e⟩
end
/-- What the reference's Handle leaves. -/
def RHand (B : Nat) (E : Nat → Prop) (w : World) (p : Nat) (v' : Sv) (xs : List Ms.Mg) (e : Ending) (w' : World) : Prop :=
  ∃ a c, e = .returned (.slice a xs.length c) ∧ Ms.Mgs w' a xs ∧ Rs B (growE E w w') w' p v' ∧ Rg.Kept (fun k _ => E k) w w'
section
variable {B : Nat} {E E1 : Nat → Prop} {w V u : World} {p : Nat} {v : Sv} {q : Nat} {r : Value} {pb : Nat}
theorem RT.rs (t : RT B E w E1 V p v q r pb) (hE : ∀ k, E k → B ≤ k ∧ k < w.heap.size) (hB : B ≤ w.heap.size) (hG : GoodSv v) : Rs B (growE E w V) V p v := ⟨grow_in hE hB t.kp.size, hG, q, r, pb, t.k.wide t.sub⟩
theorem rhand_no (t : RT B E w E1 V p v q r pb) (hE : ∀ k, E k → B ≤ k ∧ k < w.heap.size) (hB : B ≤ w.heap.size) (hG : GoodSv v) : RHand B E w p v [] (.returned (.slice none 0 0)) V :=
  ⟨none, 0, rfl, .inl rfl, t.rs hE hB hG, t.kp⟩
theorem rhand_one (t : RT B E w E1 V p v q r pb) (hE : ∀ k, E k → B ≤ k ∧ k < w.heap.size) (hB : B ≤ w.heap.size) (hG : GoodSv v) {K nd m3 m4 : Int}
    (hu : Below (V.alloc (.cells #[.int .i64 K, .int .i64 nd, .int .i64 0, .int .i64 m3, .int .i64 m4, .int .i64 0, .int .i64 0] 29)).heap.size (V.alloc (.cells #[.int .i64 K, .int .i64 nd, .int .i64 0, .int .i64 m3, .int .i64 m4, .int .i64 0, .int .i64 0] 29)) u) :
    RHand B E w p v [⟨K, nd, 0, m3, m4, 0, 0⟩] (.returned (.slice (some ⟨V.heap.size, 0, none⟩) 1 1)) u := by
  have hbA : Below V.heap.size V u := bel_on' ((Below.refl _ _).alloc (Nat.le_refl _) _) hu
  have e1 := World.alloc_heap_new V (.cells #[.int .i64 K, .int .i64 nd, .int .i64 0, .int .i64 m3, .int .i64 m4, .int .i64 0, .int .i64 0] 29)
  have e2 := (hu.block _ (Array.getElem?_eq_some_iff.1 e1).1).trans e1
  refine ⟨some ⟨V.heap.size, 0, none⟩, 1, rfl, .inr ⟨V.heap.size, 0, rfl, fun j x hj => ?_⟩, (t.on hbA).rs hE hB hG, (t.on hbA).kp⟩
  rw [cell_of e2]
  simpa [Ms.mgCells, Ms.mgC] using hj
end
theorem rh_deaf {B : Nat} {E : Nat → Prop} {w : World} {p : Nat} {v : Sv} (k : Rs B E w p v) (m : Ms.Mg) (hh : hearsB v m = false) :
    Calls Tryz.prog 16 #[.pointer (some ⟨p, 0, none⟩), .agg #[.int .i64 m.k, .int .i64 m.fr, .int .i64 m.to, .int .i64 m.id, .int .i64 m.st, .int .i64 m.a, .int .i64 m.b]] w (RHand B E w p v []) := by
  obtain ⟨hE, hG, q, r, pb, k0⟩ := id k
  have hB := k.low
  obtain ⟨W, hW⟩ : ∃ W, W = w.alloc (.cells #[.int .i64 m.k, .int .i64 m.fr, .int .i64 m.to, .int .i64 m.id, .int .i64 m.st, .int .i64 m.a, .int .i64 m.b] 29) := ⟨_, rfl⟩
  have hb0 : Below w.heap.size w W := by rw [hW]; exact (Below.refl _ _).alloc (Nat.le_refl _) _
  have hbx : W.heap[w.heap.size]? = some (.cells #[.int .i64 m.k, .int .i64 m.fr, .int .i64 m.to, .int .i64 m.id, .int .i64 m.st, .int .i64 m.a, .int .i64 m.b] 29 (0, 0)) := by rw [hW]; exact World.alloc_heap_new w _
  have kW := k0.on hb0
  obtain ⟨a0, a1, a2, a3, a4, a5, a6⟩ := seven_of hbx
  obtain ⟨c0, -, c2, -⟩ := kW.cells
  obtain ⟨⟨-, -, -, j3⟩, -⟩ := kW.jr.cells
  have I : ∀ u : Later W, Calls Tryz.prog 37 #[.int .i64 m.id] u.w fun e w' => e = .returned (.bool (Hd.isI m.id)) ∧ ∃ u' : Later W, w' = u'.w := fun u => calls_later u ((Hd.rid_any m.id u.w).mono (fun _ _ ⟨h1, h2⟩ => ⟨h1, by rw [← h2]; exact Below.refl _ _⟩))
  have NX : Hid (∀ u : Later W, RHand B E w p v [] (.returned (.slice none 0 0)) u.w) := fun u => rhand_no (RT.new k0 (bel_on' hb0 u.below)) hE hB hG
  have HW := hide hW
  unfold hearsB at hh
  obtain ⟨m0, m1, m2, m3, m4, m5, m6⟩ := m
  simp only at *
  generalize v.down = d at j3 hh
  generalize v.node = nd at c0 hh
  generalize Hd.isI m3 = ii at I hh
  have z0 := Later.cell c0
  have z1 := Later.cell a1
  have z2 := Later.cell a2
  have z3 := Later.cell a3
  have z4 := Later.cell c2
  have z5 := Later.cell j3
  have hne : Nonempty (Later W) := ⟨Later.now W⟩
  obtain ⟨b1, h1⟩ : ∃ b1, (m2 != nd) = b1 := ⟨_, rfl⟩
  obtain ⟨b2, h2⟩ : ∃ b2, (m1 != 0) = b2 := ⟨_, rfl⟩
  have hcs : d = true ∨ (d = false ∧ b1 = true) ∨ (d = false ∧ b1 = false ∧ b2 = true) ∨ (d = false ∧ b1 = false ∧ b2 = false ∧ ii = false) := by
    cases d
    · cases b1
      · cases b2
        · refine .inr (.inr (.inr ⟨rfl, rfl, rfl, ?_⟩))
          simp only [bne_eq_false_iff_eq] at h1 h2
          simpa [h1, h2] using hh
        · exact .inr (.inr (.inl ⟨rfl, rfl, rfl⟩))
      · exact .inr (.inl ⟨rfl, rfl⟩)
    · exact .inl rfl
  clear k kW hW hb0 hbx hh k0 hE hG hB
  rcases hcs with rfl | ⟨rfl, rfl⟩ | ⟨rfl, rfl, rfl⟩ | ⟨rfl, rfl, rfl, rfl⟩
  all_goals go_enter Tryz.func16, Tryz.ntmps16
  all_goals go_wp2_with fail
  all_goals rw [← HW.out]
  all_goals refine region_later (by kernel_rfl) (by kernel_rfl) ?_
  all_goals (repeat (first | go_big_quiet_step (exact I _) | quiet_step (exact I _)))
  all_goals refine wpQuiet_nil ?_
  all_goals intro u
  all_goals go_wp2
  all_goals go_ret
  all_goals exact NX.out u
end Go.Proofs.YtdbmnjodkpeobaaGreatDoor
