/-
  Contracts of service's tried, note.
-/
import Derived.Test.YtdbmnjodkpeobaaGreatDoorBd18
import Derived.Laws.Rows
import Derived.Test.YtdbmnjodkpeobaaGreatDoorBd3
namespace Go.Proofs.YtdbmnjodkpeobaaGreatDoor
open Go.ChangeShapes Go.WideShapes Go.ChangeAt Go.RowKit Go.Maps

theorem sset3 {w : World} {g : Nat} {x y z a b c : Value} {t : TypeId} (h : w.heap[g]? = some (.cells #[x, y, z] t (0, 0))) :
    (((w.setCell ⟨g, 0, none⟩ a).setCell ⟨g, 1, none⟩ b).setCell ⟨g, 2, none⟩ c).heap[g]? = some (.cells #[a, b, c] t (0, 0)) ∧ Rg.Kept (fun k _ => k = g) w (((w.setCell ⟨g, 0, none⟩ a).setCell ⟨g, 1, none⟩ b).setCell ⟨g, 2, none⟩ c) := by
  have e1 : (w.setCell ⟨g, 0, none⟩ a).heap[g]? = some (.cells #[a, y, z] t (0, 0)) := by rw [heap_setCell_same _ _ _ _ _ _ h]; rfl
  have e2 : ((w.setCell ⟨g, 0, none⟩ a).setCell ⟨g, 1, none⟩ b).heap[g]? = some (.cells #[a, b, z] t (0, 0)) := by rw [heap_setCell_same _ _ _ _ _ _ e1]; rfl
  exact ⟨by rw [heap_setCell_same _ _ _ _ _ _ e2]; rfl, ((Rg.Kept.setCell (a := ⟨g, 0, none⟩) _ (fun _ => rfl)).trans (Rg.Kept.setCell (a := ⟨g, 1, none⟩) _ (fun _ => rfl))).trans (Rg.Kept.setCell (a := ⟨g, 2, none⟩) _ (fun _ => rfl))⟩

/-- What a set of new blocks may turn turns nothing that lay there. -/
theorem kept_grow {E : Nat → Prop} {w u u' : World} (h : Rg.Kept (fun k _ => E k) w u) (h' : Rg.Kept (fun k _ => growE E w u k) u u') : Rg.Kept (fun k _ => E k) w u' :=
  ⟨h'.os.trans h.os, h'.tape.trans h.tape, h'.output.trans h.output, Nat.le_trans h.size h'.size, fun k o hk hx => h'.block k o (h.block k o hk hx) (fun e => e.elim hx (fun e => by have := (Array.getElem?_eq_some_iff.1 hk).1; omega))⟩
/-- One block that is new. -/
theorem kept_one {E : Nat → Prop} {w u u' : World} {g : Nat} (hg : w.heap.size ≤ g) (h : Rg.Kept (fun k _ => E k) w u) (h' : Rg.Kept (fun k _ => k = g) u u') : Rg.Kept (fun k _ => E k) w u' :=
  ⟨h'.os.trans h.os, h'.tape.trans h.tape, h'.output.trans h.output, Nat.le_trans h.size h'.size, fun k o hk hx => h'.block k o (h.block k o hk hx) (fun e => by have := (Array.getElem?_eq_some_iff.1 hk).1; omega)⟩
theorem Ints.keptR {F : Nat → Obj → Prop} {w w' : World} {a : Option Addr} {l : List Int} (h : Ints w a l) (hk : Rg.Kept F w w') (hF : ∀ ad o, a = some ad → ¬ F ad.block o) : Ints w' a l := by
  rcases h with h | ⟨b, off, ha, hc⟩
  · exact .inl h
  · exact .inr ⟨b, off, ha, fun i hi => kept_cellR hk (fun o => hF ⟨b, off, none⟩ o ha) (hc i hi)⟩

set_option maxRecDepth 100000 in
set_option maxHeartbeats 2000000 in
/-- Where there is no room nothing changes. -/
theorem add_full {B : Nat} {w : World} {p : Nat} {v : Value} {room : Int} {L : List ByteArray} {sure : Nat} (h : Jr B w p v room L sure false)
    (k : ByteArray) (id : Int) (a : Option Addr) (l : List Int) (c : Nat) (hk : k.size ≤ maxLen) (ha : Ints w a l) (hl : l.length ≤ 9223372036854775807) (hg : Gl w) (hm : mayB k id l = true) (hr : room ≤ (L.length : Int)) :
    Calls Tryz.prog 70 #[.pointer (some ⟨p, 0, none⟩), .agg #[.string k, .int .i64 id, .slice a l.length c]] w fun e w' => e = .returned (.int .i64 5) ∧ Below w.heap.size w w' := by
  obtain ⟨W, hW⟩ : ∃ W, W = w.alloc (.cells #[.string k, .int .i64 id, .slice a l.length c] 70) := ⟨_, rfl⟩
  have hB : Below w.heap.size w W := by rw [hW]; exact (Below.refl _ _).alloc (Nat.le_refl _) _
  have HB : Hid (Below w.heap.size w W) := hB
  have HJ : Hid (Jr B W p v room L sure false) := h.on hB
  have hpl := h.lt
  have HT := line_any k id a l c W hk (ha.below hB) hl (hg.on hB)
  have HWW : Hid (W = w.alloc (.cells #[.string k, .int .i64 id, .slice a l.length c] 70)) := hW
  obtain ⟨⟨c0, c1, c2, c3⟩, f1, f2, f3⟩ := h.cells
  rw [HWW.out] at HT
  have q0 : lineE k id l = 0 := by unfold lineE; rw [hm]; rfl
  rw [q0] at HT
  generalize lineV k id l = X at HT
  have hr' : (L.length : Int) ≥ room := hr
  clear hB hW hg ha q0 hm h hr
  go_enter Tryz.func70, Tryz.ntmps70
  go_wp2_with fail
  refine HT.mono ?_
  rintro e u1 ⟨rfl, hb1⟩
  have HB1 : Hid (Below W.heap.size W u1) := by show Below W.heap.size W u1; rw [HWW.out]; exact hb1
  have HJ1 : Hid (Jr B u1 p v room L sure false) := HJ.out.on HB1.out
  clear hb1 HT c0 c1 c2 c3 f1 f2 f3
  obtain ⟨⟨c0, c1, c2, c3⟩, f1, f2, f3⟩ := HJ1.out.cells
  obtain ⟨av, cv, rfl, -, -⟩ := HJ1.out.row
  go_wp2_with fail
  go_quiet (fail)
  have HBD : Hid (Below u1.heap.size u1 (u1.drewN nq)) := belowN (Below.refl _ _) nq
  generalize u1.drewN nq = u2 at HBD ⊢
  go_wp2
  go_ret
  exact ⟨rfl, bel_on' (bel_on' HB.out HB1.out) HBD.out⟩

section
variable {B : Nat} {E : Nat → Prop} {w : World} {p : Nat} {v : Sv} {n q : Nat} {r : Value} {pb mb sb : Nat}
theorem stried_any (k : NdV B E w p v n q r pb mb sb) (hE : ∀ k, E k → k < w.heap.size) {id a : Int} (hw : (Lit.int .i64 id).wf = true) (hn : n < 900000) :
    Calls Tryz.prog 54 #[.pointer (some ⟨p, 0, none⟩), .int .i64 id, .int .i64 a] w fun e w' => ∃ x c, e = .returned (.agg #[.string (kB (triedE v.st id a).c), .int .i64 (triedE v.st id a).id, .slice x (nB (triedE v.st id a)).length c]) ∧ Ints w' x (nB (triedE v.st id a)) ∧ (∀ ad, x = some ad → ¬ E ad.block ∧ ad.block < w'.heap.size) ∧ NdV B E w' p v (n + 1) q r pb mb sb ∧ Rg.Kept (fun k _ => E k) w w' := by
  have C := scan_any (k.on ((Below.refl _ _).alloc (Nat.le_refl _) (.cells #[.string ⟨#[]⟩, .int .i64 0, .slice none 0 0] 70))) (a := a) hw hn
  have KB := hide (World.alloc_heap_new w (.cells #[.string ⟨#[]⟩, .int .i64 0, .slice none 0 0] 70))
  have KA : Hid (Rg.Kept (fun k _ => E k) w (w.alloc (.cells #[.string ⟨#[]⟩, .int .i64 0, .slice none 0 0] 70))) := Rg.Kept.alloc _
  have HEE := hide hE
  clear k hE
  unfold triedE
  by_cases he : Hd.takeE v.st.left v.st.h id a = 0
  · have ed : decide (Hd.takeE v.st.left v.st.h id a = 0) = true := by simp [he]
    rw [ed] at C
    simp only [if_pos he, kB, nB, if_true, List.length_singleton]
    clear he ed
    go_enter Tryz.func54, Tryz.ntmps54
    go_wp2_with fail
    refine C.mono ?_
    rintro e w1 ⟨rfl, k1, hk1⟩
    have hbx := hk1.block _ _ KB.out (fun e => by have := HEE.out _ e; omega)
    have c0 : w1.cell? ⟨w.heap.size, 0, none⟩ = some (.string ⟨#[]⟩) := by rw [cell_of hbx]; rfl
    have c1 : w1.cell? ⟨w.heap.size, 1, none⟩ = some (.int .i64 0) := by rw [cell_of hbx]; rfl
    have c2 : w1.cell? ⟨w.heap.size, 2, none⟩ = some (.slice none 0 0) := by rw [cell_of hbx]; rfl
    have f0 : w1.frozen? ⟨w.heap.size, 0, none⟩ = false := frozen_of_row _ _ _ _ _ hbx
    have f1 : w1.frozen? ⟨w.heap.size, 1, none⟩ = false := frozen_of_row _ _ _ _ _ hbx
    have f2 : w1.frozen? ⟨w.heap.size, 2, none⟩ = false := frozen_of_row _ _ _ _ _ hbx
    have hlt : w.heap.size < w1.heap.size := (Array.getElem?_eq_some_iff.1 hbx).1
    have HBX := hide hbx
    have HK1 := hide k1
    have HE1 := hide (KA.out.trans hk1)
    clear C k1 hk1 hbx KA KB
    obtain ⟨s1, s2⟩ := sset3 (a := .string ⟨#[100, 105, 100]⟩) (b := .int .i64 id) (c := .slice (some ⟨w1.heap.size, 0, none⟩) 1 1) HBX.out
    have HS1 := hide s1
    have HS2 := hide s2
    clear s1 s2
    go_wp2
    have hsz : (((w1.setCell ⟨w.heap.size, 0, none⟩ (.string ⟨#[100, 105, 100]⟩)).setCell ⟨w.heap.size, 1, none⟩ (.int .i64 id)).setCell ⟨w.heap.size, 2, none⟩ (.slice (some ⟨w1.heap.size, 0, none⟩) 1 1)).heap.size = w1.heap.size := by simp
    generalize (((w1.setCell ⟨w.heap.size, 0, none⟩ (.string ⟨#[100, 105, 100]⟩)).setCell ⟨w.heap.size, 1, none⟩ (.int .i64 id)).setCell ⟨w.heap.size, 2, none⟩ (.slice (some ⟨w1.heap.size, 0, none⟩) 1 1)) = W at HS1 HS2 hsz ⊢
    have hbA : Below W.heap.size W (W.alloc (.cells #[.int .i64 a] 3)) := (Below.refl _ _).alloc (Nat.le_refl _) _
    refine bodyPost_ret (results_cell_row Tryz.results54 _ _ w.heap.size 70 _ (0, 0) _ rfl ((hbA.block _ (Array.getElem?_eq_some_iff.1 HS1.out).1).trans HS1.out) Tryz.underlying70 rfl (by kernel_rfl)) rfl ?_
    refine ⟨some ⟨w1.heap.size, 0, none⟩, 1, rfl, .inr ⟨w1.heap.size, 0, rfl, fun i hi => ?_⟩, fun ad e => ?_, (HK1.out.kept HS2.out (fun k o h e => ?_)).on hbA, (kept_one (Nat.le_refl _) HE1.out HS2.out).trans (Rg.Kept.of_below hbA)⟩
    · have : i = 0 := by simp at hi; omega
      subst this
      have e2 := World.alloc_heap_new W (.cells #[.int .i64 a] 3)
      rw [hsz] at e2
      rw [cell_of e2]
      rfl
    · cases e
      exact ⟨fun e => by have : w1.heap.size < w.heap.size := HEE.out _ e; omega, by show w1.heap.size < _; simp; omega⟩
    · have := HEE.out _ h; omega
  · have ed : decide (Hd.takeE v.st.left v.st.h id a = 0) = false := by simp [he]
    rw [ed] at C
    simp only [if_neg he, kB, nB, if_neg (show ¬ (2 : Nat) = 1 by decide), List.length_nil]
    clear he ed
    go_enter Tryz.func54, Tryz.ntmps54
    go_wp2_with fail
    refine C.mono ?_
    rintro e w1 ⟨rfl, k1, hk1⟩
    have hbx := hk1.block _ _ KB.out (fun e => by have := HEE.out _ e; omega)
    have c0 : w1.cell? ⟨w.heap.size, 0, none⟩ = some (.string ⟨#[]⟩) := by rw [cell_of hbx]; rfl
    have c1 : w1.cell? ⟨w.heap.size, 1, none⟩ = some (.int .i64 0) := by rw [cell_of hbx]; rfl
    have c2 : w1.cell? ⟨w.heap.size, 2, none⟩ = some (.slice none 0 0) := by rw [cell_of hbx]; rfl
    have f0 : w1.frozen? ⟨w.heap.size, 0, none⟩ = false := frozen_of_row _ _ _ _ _ hbx
    have f1 : w1.frozen? ⟨w.heap.size, 1, none⟩ = false := frozen_of_row _ _ _ _ _ hbx
    have f2 : w1.frozen? ⟨w.heap.size, 2, none⟩ = false := frozen_of_row _ _ _ _ _ hbx
    have hlt : w.heap.size < w1.heap.size := (Array.getElem?_eq_some_iff.1 hbx).1
    have HBX := hide hbx
    have HK1 := hide k1
    have HE1 := hide (KA.out.trans hk1)
    clear C k1 hk1 hbx KA KB
    obtain ⟨s1, s2⟩ := sset3 (a := .string ⟨#[99, 97, 110, 116]⟩) (b := .int .i64 id) (c := .slice none 0 0) HBX.out
    have HS1 := hide s1
    have HS2 := hide s2
    clear s1 s2
    go_wp2
    generalize (((w1.setCell ⟨w.heap.size, 0, none⟩ (.string ⟨#[99, 97, 110, 116]⟩)).setCell ⟨w.heap.size, 1, none⟩ (.int .i64 id)).setCell ⟨w.heap.size, 2, none⟩ (.slice none 0 0)) = W at HS1 HS2 ⊢
    refine bodyPost_ret (results_cell_row Tryz.results54 _ _ w.heap.size 70 _ (0, 0) _ rfl HS1.out Tryz.underlying70 rfl (by kernel_rfl)) rfl ?_
    refine ⟨none, ⟨_, rfl⟩, .inl rfl, (fun ad e => by cases e), HK1.out.kept HS2.out (fun k o h e => ?_), kept_one (Nat.le_refl _) HE1.out HS2.out⟩
    have := HEE.out _ h; omega
theorem snote_any (k : NdV B E w p v n q r pb mb sb) (hE : ∀ k, E k → k < w.heap.size) (hg : Gl w) (hd : v.down = false) {e : En} (he : OkE e) {a : Option Addr} {c : Nat} (ha : Ints w a (nB e)) (hna : ∀ ad, a = some ad → ¬ E ad.block ∧ ad.block < w.heap.size) (hn : n < 800000) :
    Calls Tryz.prog 53 #[.pointer (some ⟨p, 0, none⟩), .agg #[.string (kB e.c), .int .i64 e.id, .slice a (nB e).length c]] w fun x w' => x = .returned (.bool (hasRoom v)) ∧ (∃ r', NdV B (growE E w w') w' p (noteS v e) (n + 2) q r' pb mb sb) ∧ Rg.Kept (fun k _ => E k) w w' := by
  obtain ⟨W, hW⟩ : ∃ W, W = w.alloc (.cells #[.string (kB e.c), .int .i64 e.id, .slice a (nB e).length c] 70) := ⟨_, rfl⟩
  have hb0 : Below w.heap.size w W := by rw [hW]; exact (Below.refl _ _).alloc (Nat.le_refl _) _
  have hbD : Below W.heap.size W W.drew := (Below.refl _ _).drew
  have hbW : Below w.heap.size w W.drew := bel_on' hb0 hbD
  have hbx : W.heap[w.heap.size]? = some (.cells #[.string (kB e.c), .int .i64 e.id, .slice a (nB e).length c] 70 (0, 0)) := by rw [hW]; exact World.alloc_heap_new w _
  have hbxD : W.drew.heap[w.heap.size]? = some (.cells #[.string (kB e.c), .int .i64 e.id, .slice a (nB e).length c] 70 (0, 0)) := (hbD.block _ (Array.getElem?_eq_some_iff.1 hbx).1).trans hbx
  have kW := k.on hbW
  have hqr : q < w.heap.size ∧ ∀ i, r.ownBlock = some i → i < w.heap.size := ⟨hE _ k.eq, fun i e => hE _ (k.er i e)⟩
  have A := add_any kW.jr (kB e.c) e.id a (nB e) c (by have := kB_size e.c; unfold maxLen; omega) (ha.below hbW) (by have := nB_len e; omega) (hg.on hbW)
  obtain ⟨-, -, c2, -, -⟩ := (k.on hb0).cells
  have b0 : W.cell? ⟨w.heap.size, 0, none⟩ = some (.string (kB e.c)) := by rw [cell_of hbx]; rfl
  have b1 : W.cell? ⟨w.heap.size, 1, none⟩ = some (.int .i64 e.id) := by rw [cell_of hbx]; rfl
  have b2 : W.cell? ⟨w.heap.size, 2, none⟩ = some (.slice a (nB e).length c) := by rw [cell_of hbx]; rfl
  have hln : (v.T.map lnE).length = v.T.length := List.length_map _
  have hm := may_en he
  unfold addL addE at A
  rw [hd, hln, hm] at A
  have HWW := hide hW
  -- the cells of S behind a step on the journal
  have CE : Hid (∀ u r', Off q r r' W.drew u → (u.cell? ⟨p, 2, none⟩ = some (.pointer (some ⟨q, 0, none⟩)) ∧ u.cell? ⟨w.heap.size, 0, none⟩ = some (.string (kB e.c)) ∧ u.cell? ⟨w.heap.size, 1, none⟩ = some (.int .i64 e.id) ∧ u.cell? ⟨w.heap.size, 2, none⟩ = some (.slice a (nB e).length c)) ∧ u.heap[w.heap.size]? = W.drew.heap[w.heap.size]? ) := fun u r' ho => by
    have e2 := ho.heap (k := w.heap.size) (Array.getElem?_eq_some_iff.1 hbxD).1 (by omega) (fun e => by have := hqr.2 _ e; omega)
    have e3 := e2.trans hbxD
    obtain ⟨⟨a1, _⟩, _, _, d1⟩ := kW.apart
    refine ⟨⟨ho.cell kW.cells.2.2.1 a1 (fun e => (d1 p e).1 rfl), ?_, ?_, ?_⟩, e2⟩
    all_goals (rw [cell_of e3]; rfl)
  by_cases hr : v.room ≤ (v.T.length : Int)
  · have hR : hasRoom v = false := by unfold hasRoom; simp; omega
    have hN : noteS v e = v := by unfold noteS; rw [hR]; rfl
    rw [hR, hN]
    have kB0 := k.on hb0
    have AF : ∀ u : Later W, Calls Tryz.prog 70 #[.pointer (some ⟨q, 0, none⟩), .agg #[.string (kB e.c), .int .i64 e.id, .slice a (nB e).length c]] u.w fun x w' => x = .returned (.int .i64 5) ∧ ∃ u' : Later W, w' = u'.w := fun u => calls_later u (by
      have j1 := (kB0.on u.below).jr
      rw [hd] at j1
      exact add_full j1 (kB e.c) e.id a (nB e) c (by have := kB_size e.c; unfold maxLen; omega) ((ha.below hb0).below u.below) (by have := nB_len e; omega) ((hg.on hb0).on u.below) hm (by rw [hln]; exact hr))
    have NX : Hid (∀ u : Later W, (∃ r', NdV B (growE E w u.w) u.w p v (n + 2) q r' pb mb sb) ∧ Rg.Kept (fun k _ => E k) w u.w) := fun u =>
      ⟨⟨r, ((kB0.on u.below).more (Nat.le_add_right n 2)).wide (fun i e => .inl e)⟩, (Rg.Kept.of_below hb0).trans (Rg.Kept.of_below u.below)⟩
    generalize kB e.c = K at AF b0 HWW ⊢
    generalize e.id = ei at AF b1 HWW ⊢
    generalize (nB e).length = ln at AF b2 HWW ⊢
    have z0 := Later.cell c2
    have z1 := Later.cell b0
    have z2 := Later.cell b1
    have z3 := Later.cell b2
    have hne : Nonempty (Later W) := ⟨Later.now W⟩
    clear hW hbW hbx hbxD hb0 hbD kW hqr ha hg hm hln hN hR hr he hna k hE hd kB0 A CE
    go_enter Tryz.func53, Tryz.ntmps53
    go_wp2_with fail
    rw [← HWW.out]
    refine region_later (by kernel_rfl) (by kernel_rfl) ?_
    repeat (first | go_big_quiet_step (exact AF _) | quiet_step (exact AF _))
    refine wpQuiet_nil ?_
    intro u
    go_wp2
    go_ret
    exact ⟨rfl, NX.out u⟩
  · have hR : hasRoom v = true := by unfold hasRoom; simp; omega
    have hN : noteS v e = ⟨v.node, v.hold, v.room, v.T ++ [e], v.down, stp v.st e⟩ := by unfold noteS; rw [hR]; rfl
    rw [hR, hN]
    simp only [if_neg (show ¬ (false = true) by decide), if_true, if_neg hr] at A
    have NX : Hid (∀ u1 r1 u2, Off q r r1 W.drew u1 → Jr B u2 q r1 v.room (v.T.map lnE ++ [lineV (kB e.c) e.id (nB e)]) (v.T.map lnE ++ [lineV (kB e.c) e.id (nB e)]).length false → Off q r1 r1 u1 u2 →
        Calls Tryz.prog 29 #[.pointer (some ⟨p, 0, none⟩), .agg #[.string (kB e.c), .int .i64 e.id, .slice a (nB e).length c]] u2 fun x w' => (∃ y, x = .returned y) ∧ (∃ r', NdV B (growE E w w') w' p ⟨v.node, v.hold, v.room, v.T ++ [e], v.down, stp v.st e⟩ (n + 2) q r' pb mb sb) ∧ Rg.Kept (fun k _ => E k) w w') := fun u1 r1 u2 h1 h2 h3 => by
      have ho := h1.trans h3
      have e1 : v.T.map lnE ++ [lineV (kB e.c) e.id (nB e)] = (v.T ++ [e]).map lnE := by rw [List.map_append]; rfl
      rw [e1, List.length_map, ← hd] at h2
      obtain ⟨h4, h5⟩ := kW.jstep h2 ho
      have h6 : Rg.Kept (fun k _ => E k) w u2 := (Rg.Kept.of_below hbW).trans h5
      have h7 : NdV B (growE E w u2) u2 p ⟨v.node, v.hold, v.room, v.T ++ [e], v.down, v.st⟩ n q r1 pb mb sb := h4.wide (fun i e => e.imp id (fun e => ⟨Nat.le_trans hbW.size e.1, e.2⟩))
      have h8 : Ints u2 a (nB e) := ha.keptR h6 (fun ad o e1 => (hna ad e1).1)
      refine (sfollow_any h7 he (c := c) h8 (fun _ ad e1 h => h.elim (hna ad e1).1 (fun h => by have := (hna ad e1).2; omega)) hn).mono ?_
      rintro x u3 ⟨y, k3, hk3⟩
      exact ⟨y, ⟨r1, k3.wide (fun i e => e.imp id (fun e => ⟨e.1, Nat.lt_of_lt_of_le e.2 hk3.size⟩))⟩, kept_grow h6 hk3⟩
    generalize v.T.map lnE ++ [lineV (kB e.c) e.id (nB e)] = L' at A NX
    have SY : Hid (∀ u1 r1, Jr B u1 q r1 v.room L' v.T.length false → Calls Tryz.prog 71 #[.pointer (some ⟨q, 0, none⟩)] u1 fun e w' => e = .returned (.int .i64 0) ∧ Jr B w' q r1 v.room L' L'.length false ∧ Off q r1 r1 u1 w') := fun u1 r1 h => sync_up h
    generalize kB e.c = K at A b0 HWW CE NX ⊢
    generalize e.id = ei at A b1 HWW CE NX ⊢
    generalize (nB e).length = ln at A b2 HWW CE NX ⊢
    clear hW hbW hbx hbxD hb0 hbD kW hqr ha hg hm hln hN hR hr he hna k hE hd
    go_enter Tryz.func53, Tryz.ntmps53
    go_wp2_with fail
    rw [← HWW.out]
    go_region_held3 (fun w' => w'.cell? ⟨p, 2, none⟩ = some (.pointer (some ⟨q, 0, none⟩)) ∧ w'.cell? ⟨w.heap.size, 0, none⟩ = some (.string K) ∧ w'.cell? ⟨w.heap.size, 1, none⟩ = some (.int .i64 ei) ∧ w'.cell? ⟨w.heap.size, 2, none⟩ = some (.slice a ln c)) (go_keep) (first
      | (go_at_call 70; refine A.mono ?_; clear A; rintro x u1 ⟨r1, rfl, hj, ho⟩; clear c2 b0 b1 b2; obtain ⟨⟨c2, b0, b1, b2⟩, -⟩ := CE.out u1 r1 ho; have HO1 := hide ho; have S2 := SY.out u1 r1 hj; clear hj ho)
      | (go_at_call 71; refine S2.mono ?_; clear S2; rintro x u2 ⟨rfl, hj, ho⟩; clear c2 b0 b1 b2; obtain ⟨⟨c2, b0, b1, b2⟩, -⟩ := CE.out u2 r1 (HO1.out.trans ho); have FX := NX.out u1 r1 u2 HO1.out hj ho; clear hj ho))
    clear NX SY CE
    go_wp2_with (go_at_call 29; refine FX.mono ?_; clear FX; rintro x u3 ⟨⟨y, rfl⟩, hx⟩; have HX := hide hx; clear hx)
    go_ret
    exact ⟨rfl, HX.out⟩
end
end Go.Proofs.YtdbmnjodkpeobaaGreatDoor
