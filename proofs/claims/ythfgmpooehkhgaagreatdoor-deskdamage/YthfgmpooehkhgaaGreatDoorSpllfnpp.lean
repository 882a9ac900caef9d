/-
  Own texts put together: CgN, DkM, CgQ, DkL, ChL, ChM, ChB, ChE.
-/
import Derived.Test.YthfgmpooehkhgaaGreatDoorSppjfpgf
import Derived.Lib.ItoaNum
import Derived.Test.YthfgmpooehkhgaaGreatDoorSpagbdni
/-
  Contract of the chief's Begin.
-/
namespace Go.Proofs.YthfgmpooehkhgaaGreatDoor
open Go.ChangeShapes Go.WideShapes Go.ChangeAt Go.RowKit Go.Maps Sg Bl

section
variable {B : Nat} {O : Pt → Nat → Prop} {w : World} {p : Nat} {v : Ch} {q : Nat} {r : Value} {b bt : Nat} {loc : Int → Option Nat}
theorem bel_d {W u : World} (h : Below W.heap.size W u) : Below W.heap.size W u.drew := bel_on' h (Below.refl u.heap.size u).drew
theorem Up.hang (h : Up B O w p v q r b bt loc) {id : Int} (hw : (Lit.int .i64 id).wf = true) (hl : ∃ l, v.L id = some l) :
    Calls Tryz.prog 59 #[.pointer (some ⟨bt, 0, none⟩), .int .i64 id] w fun e w' => (∃ x, e = .returned x) ∧ UStp B O w p (setH v (hangH v.t v.h id)) q b bt loc w' := by
  refine (bhang_any h.k.bl hw (by omega)).mono ?_
  rintro e w' ⟨h1, h2, h3⟩
  have k1 := h.k.bstep h2 h3
  refine ⟨⟨_, h1⟩, _, r, loc, ⟨k1, setH_good h.g (fun e => by rw [h.d] at e; cases e) (fun x hx => ?_), h.d⟩, fun i e => gr_eo e, h3.mono (fun i _ e => ⟨_, e⟩), fun _ _ e => e⟩
  rcases hang_some hx with h4 | h4
  · exact h.g.bl x h4
  · rw [h4]; exact hl
theorem Up.sures (h : Up B O w p v q r b bt loc) (hg : ∀ u, Rg.Kept (fun i _ => Eo O i) w u → Gl u) {es : List Et} (hf : Fits22 v.L es) (hl : es.length ≤ 10) {ra : Option Addr} {rc : Nat} (hR : RowE w (Eo O) ra es) :
    Calls Tryz.prog 57 #[.pointer (some ⟨p, 0, none⟩), .slice ra es.length rc] w fun x w' => x = .returned (.int .i64 (noE v es.length)) ∧ UStp B O w p (sureS v es) q b bt loc w' := by
  unfold noE sureS
  cases hr : roomC v es.length
  · rw [if_neg (by decide), if_neg (by decide)]
    exact (csure_no (es := es) h.k h.len hl hr ra rc).mono (fun x w' ⟨h1, h2⟩ => ⟨h1, h.stay h2⟩)
  · rw [if_pos rfl, if_pos rfl]
    exact (csure_yes (es := es) (rc := rc) h.k h.d h.g.gm hg hf h.len hl hr hR).mono (fun x w' ⟨h1, h2⟩ => ⟨h1, h2.up (addC_good h.g h.d hf hr).2 h.d⟩)
set_option maxRecDepth 100000 in
set_option maxHeartbeats 4000000 in
theorem cbeg_any (h : Up B O w p v q r b bt loc) (hg : ∀ u, Rg.Kept (fun i _ => Eo O i) w u → Gl u) (o : Od) {sa : Option Addr} {sc : Nat} (hs : Sts w sa o.steps) (hsl : o.steps.length ≤ 9223372036854775807) (hw : (Lit.int .i64 o.id).wf = true) :
    Calls Tryz.prog 11 #[.pointer (some ⟨p, 0, none⟩), .agg #[.int .i64 o.id, .int .i64 o.item, .int .i64 o.qty, .int .i64 o.client, .int .i64 o.price, .slice sa o.steps.length sc]] w fun e w' => ∃ x, e = .returned (.tuple #[x, .int .i64 (begE v o)]) ∧ SendR B O w p (begS v o) q b bt loc (begA v o) (.returned x) w' := by
  obtain ⟨W, hW⟩ : ∃ W, W = w.alloc (.cells #[.int .i64 o.id, .int .i64 o.item, .int .i64 o.qty, .int .i64 o.client, .int .i64 o.price, .slice sa o.steps.length sc] 32) := ⟨_, rfl⟩
  have hbW : Below w.heap.size w W := by rw [hW]; exact (Below.refl _ _).alloc (Nat.le_refl _) _
  have hbx : W.heap[w.heap.size]? = some (.cells #[.int .i64 o.id, .int .i64 o.item, .int .i64 o.qty, .int .i64 o.client, .int .i64 o.price, .slice sa o.steps.length sc] 32 (0, 0)) := by rw [hW]; exact World.alloc_heap_new w _
  have hzW : W.heap.size = w.heap.size + 1 := by rw [hW]; simp
  have CU : Hid (∀ u, Below W.heap.size W u → (u.cell? ⟨w.heap.size, 0, none⟩ = some (.int .i64 o.id) ∧ u.cell? ⟨w.heap.size, 1, none⟩ = some (.int .i64 o.item) ∧ u.cell? ⟨w.heap.size, 2, none⟩ = some (.int .i64 o.qty) ∧ u.cell? ⟨w.heap.size, 3, none⟩ = some (.int .i64 o.client) ∧ u.cell? ⟨w.heap.size, 4, none⟩ = some (.int .i64 o.price) ∧ u.cell? ⟨w.heap.size, 5, none⟩ = some (.slice sa o.steps.length sc)) ∧ (u.cell? ⟨p, 0, none⟩ = some (.int .i64 v.most) ∧ u.cell? ⟨p, 3, none⟩ = some (.map (some b)) ∧ u.cell? ⟨p, 4, none⟩ = some (.pointer (some ⟨bt, 0, none⟩)))) := fun u hu => by
    have hx := (hu.block _ (by omega)).trans hbx
    obtain ⟨k0, -, -, k3, k4⟩ := (h.k.on (bel_on' hbW hu)).cell3
    refine ⟨⟨?_, ?_, ?_, ?_, ?_, ?_⟩, k0, k3, k4⟩ <;> (rw [cell_of hx]; rfl)
  have LKU : Hid (∀ u, Below W.heap.size W u → (Instr.lookup 92 (.map (some b)) (.int .i64 o.id) false).run Tryz.prog u.drew = .ok (ptV (loc o.id)) u.drew) := fun u hu => (h.k.on (bel_on' hbW (bel_on' hu (Below.refl u.heap.size u).drew))).look hw
  have ST : Hid (∀ u, Below W.heap.size W u → SendR B O w p v q b bt loc [] (.returned (.slice none 0 0)) u ∧ SendR B O w p v q b bt loc [] (.returned (.slice none 0 0)) u.drew) := fun u hu =>
    ⟨(h.stay (bel_on' hbW hu)).quiet, (h.stay (bel_on' (bel_on' hbW hu) (Below.refl u.heap.size u).drew)).quiet⟩
  have DN : Calls Tryz.prog 28 #[.pointer (some ⟨p, 0, none⟩)] W fun e w' => e = .returned (.bool false) ∧ Below W.heap.size W w' := by
    have := (h.k.on hbW).dn
    rw [h.d] at this
    exact this
  have MC : Hid (∀ u, Below W.heap.size W u → Calls Tryz.prog 55 #[.agg #[.int .i64 o.id, .int .i64 o.item, .int .i64 o.qty, .int .i64 o.client, .int .i64 o.price, .slice sa o.steps.length sc]] u fun e w' => e = .returned (.bool (mayO o)) ∧ Below W.heap.size W w') := fun u hu => (omay_any o sa sc u ((hs.below hbW).below hu) hsl).mono (fun _ _ ⟨e1, e2⟩ => ⟨e1, bel_on' hu e2⟩)
  have UW : Hid (∀ u, Below W.heap.size W u → Calls Tryz.prog 56 #[.pointer (some ⟨p, 0, none⟩)] u fun e w' => e = .returned (.int .i64 (wayN v.L : Int)) ∧ Below W.heap.size W w') := fun u hu =>
    (cway_any (h.k.on (bel_on' hbW hu)) h.g.gm).mono (fun _ _ ⟨e1, e2⟩ => ⟨e1, bel_on' hu e2⟩)
  unfold begS begA
  by_cases hm : mayO o = true
  rotate_left
  · have hm : mayO o = false := by simpa using hm
    have hE : begE v o = 1 := by unfold begE; rw [h.d, hm]; rfl
    rw [hE, if_neg (by decide), if_neg (by decide)]
    rw [hm] at MC
    rw [hW] at CU ST DN MC
    clear h hg hs hsl hw hW hbW hbx hzW LKU UW hm hE
    go_enter Tryz.func11, Tryz.ntmps11
    go_wp2_with (first
      | (go_at_call 28; refine DN.mono ?_; clear DN; rintro e u1 ⟨rfl, hb⟩; obtain ⟨⟨b0, b1, b2, b3, b4, b5⟩, p0, p3, p4⟩ := CU.out _ hb; have HB := hide hb; clear hb)
      | (go_at_call 55; refine (MC.out _ HB.out).mono ?_; clear MC; rintro e u2 ⟨rfl, hb⟩; clear b0 b1 b2 b3 b4 b5 p0 p3 p4; obtain ⟨⟨b0, b1, b2, b3, b4, b5⟩, p0, p3, p4⟩ := CU.out _ hb; clear HB; have HB := hide hb; clear hb))
    go_ret2
    exact ⟨_, rfl, (ST.out _ HB.out).1⟩
  rw [hm] at MC
  cases hl : v.L o.id with
  | some l =>
    obtain ⟨a, ha, -⟩ := h.k.ld o.id l hl
    have hE : begE v o = 8 := by unfold begE; rw [h.d, hm, hl]; rfl
    rw [hE, if_neg (by decide), if_neg (by decide)]
    rw [ha, show ptV (some a) = Value.pointer (some ⟨a, 0, none⟩) from rfl] at LKU
    rw [hW] at CU ST DN MC LKU
    clear h hg hs hsl hw hW hbW hbx hzW UW hm hE ha hl
    go_enter Tryz.func11, Tryz.ntmps11
    go_wp2_with (first
      | (go_at_call 28; refine DN.mono ?_; clear DN; rintro e u1 ⟨rfl, hb⟩; obtain ⟨⟨b0, b1, b2, b3, b4, b5⟩, p0, p3, p4⟩ := CU.out _ hb; have HB := hide hb; clear hb)
      | (go_at_call 55; refine (MC.out _ HB.out).mono ?_; clear MC; rintro e u2 ⟨rfl, hb⟩; clear b0 b1 b2 b3 b4 b5 p0 p3 p4; obtain ⟨⟨b0, b1, b2, b3, b4, b5⟩, p0, p3, p4⟩ := CU.out _ hb; clear HB; have HB := hide hb; have hL := LKU.out _ hb; clear hb))
    go_region_held3 (fun w' => w'.cell? ⟨w.heap.size, 0, none⟩ = some (.int .i64 o.id) ∧ w'.cell? ⟨w.heap.size, 1, none⟩ = some (.int .i64 o.item) ∧ w'.cell? ⟨w.heap.size, 2, none⟩ = some (.int .i64 o.qty) ∧ w'.cell? ⟨w.heap.size, 3, none⟩ = some (.int .i64 o.client) ∧ w'.cell? ⟨w.heap.size, 4, none⟩ = some (.int .i64 o.price) ∧ w'.cell? ⟨w.heap.size, 5, none⟩ = some (.slice sa o.steps.length sc) ∧ w'.cell? ⟨p, 0, none⟩ = some (.int .i64 v.most) ∧ w'.cell? ⟨p, 3, none⟩ = some (.map (some b)) ∧ w'.cell? ⟨p, 4, none⟩ = some (.pointer (some ⟨bt, 0, none⟩))) (go_keep) (fail)
    go_wp2
    go_ret2
    exact ⟨_, rfl, (ST.out _ HB.out).2⟩
  | none =>
  have hlo := h.k.no o.id hl
  rw [hlo, show ptV none = Value.pointer none from rfl] at LKU
  by_cases hwy : v.most ≤ (wayN v.L : Int)
  · have hE : begE v o = 5 := by unfold begE; rw [h.d, hm, hl]; simp [hwy]
    rw [hE, if_neg (by decide), if_neg (by decide)]
    rw [hW] at CU ST DN MC LKU UW
    generalize (wayN v.L : Int) = wn at *
    clear h hg hs hsl hw hW hbW hbx hzW hm hE hl hlo
    go_enter Tryz.func11, Tryz.ntmps11
    go_wp2_with (first
      | (go_at_call 28; refine DN.mono ?_; clear DN; rintro e u1 ⟨rfl, hb⟩; obtain ⟨⟨b0, b1, b2, b3, b4, b5⟩, p0, p3, p4⟩ := CU.out _ hb; have HB := hide hb; clear hb)
      | (go_at_call 55; refine (MC.out _ HB.out).mono ?_; clear MC; rintro e u2 ⟨rfl, hb⟩; clear b0 b1 b2 b3 b4 b5 p0 p3 p4; obtain ⟨⟨b0, b1, b2, b3, b4, b5⟩, p0, p3, p4⟩ := CU.out _ hb; clear HB; have HB := hide hb; have hL := LKU.out _ hb; clear hb))
    go_region_held3 (fun w' => w'.cell? ⟨w.heap.size, 0, none⟩ = some (.int .i64 o.id) ∧ w'.cell? ⟨w.heap.size, 1, none⟩ = some (.int .i64 o.item) ∧ w'.cell? ⟨w.heap.size, 2, none⟩ = some (.int .i64 o.qty) ∧ w'.cell? ⟨w.heap.size, 3, none⟩ = some (.int .i64 o.client) ∧ w'.cell? ⟨w.heap.size, 4, none⟩ = some (.int .i64 o.price) ∧ w'.cell? ⟨w.heap.size, 5, none⟩ = some (.slice sa o.steps.length sc) ∧ w'.cell? ⟨p, 0, none⟩ = some (.int .i64 v.most) ∧ w'.cell? ⟨p, 3, none⟩ = some (.map (some b)) ∧ w'.cell? ⟨p, 4, none⟩ = some (.pointer (some ⟨bt, 0, none⟩))) (go_keep) (fail)
    go_wp2_with fail
    go_region_held3 (fun w' => w'.cell? ⟨w.heap.size, 0, none⟩ = some (.int .i64 o.id) ∧ w'.cell? ⟨w.heap.size, 1, none⟩ = some (.int .i64 o.item) ∧ w'.cell? ⟨w.heap.size, 2, none⟩ = some (.int .i64 o.qty) ∧ w'.cell? ⟨w.heap.size, 3, none⟩ = some (.int .i64 o.client) ∧ w'.cell? ⟨w.heap.size, 4, none⟩ = some (.int .i64 o.price) ∧ w'.cell? ⟨w.heap.size, 5, none⟩ = some (.slice sa o.steps.length sc) ∧ w'.cell? ⟨p, 0, none⟩ = some (.int .i64 v.most) ∧ w'.cell? ⟨p, 3, none⟩ = some (.map (some b)) ∧ w'.cell? ⟨p, 4, none⟩ = some (.pointer (some ⟨bt, 0, none⟩))) (go_keep) (first
      | (go_at_call 56; refine (UW.out _ (bel_d (bel_d HB.out))).mono ?_; clear UW; rintro e u3 ⟨rfl, hb⟩; clear b0 b1 b2 b3 b4 b5 p0 p3 p4; obtain ⟨⟨b0, b1, b2, b3, b4, b5⟩, p0, p3, p4⟩ := CU.out _ hb; clear HB hL; have HB := hide hb; clear hb))
    go_wp2
    go_ret2
    exact ⟨_, rfl, (ST.out _ HB.out).1⟩
  have hwy' : ¬ ((wayN v.L : Int) ≥ v.most) := fun e => hwy e
  have hE : begE v o = noE v (o.steps.length + 1) := by unfold begE; rw [h.d, hm, hl]; simp [hwy]
  have mo := mayO_of hm
  have hl1 : (sureC v (begT o)).L o.id = some (begL o) := by
    show (begT o).foldl fol v.L o.id = _
    rw [fol_begin hl]
    exact Gd.updO_same _ _ _
  have EO : Hid (∀ u, Below W.heap.size W u → Calls Tryz.prog 58 #[.agg #[.int .i64 o.id, .int .i64 o.item, .int .i64 o.qty, .int .i64 o.client, .int .i64 o.price, .slice sa o.steps.length sc]] u fun e u3 => ∃ ra n rc, e = .returned (.slice ra n rc) ∧ Calls Tryz.prog 57 #[.pointer (some ⟨p, 0, none⟩), .slice ra n rc] u3 fun x u4 => x = .returned (.int .i64 (noE v (o.steps.length + 1))) ∧ (roomC v (o.steps.length + 1) = false → SendR B O w p v q b bt loc [] (.returned (.slice none 0 0)) u4) ∧ (roomC v (o.steps.length + 1) = true → u4.cell? ⟨w.heap.size, 0, none⟩ = some (.int .i64 o.id) ∧ u4.cell? ⟨p, 4, none⟩ = some (.pointer (some ⟨bt, 0, none⟩)) ∧ Calls Tryz.prog 59 #[.pointer (some ⟨bt, 0, none⟩), .int .i64 o.id] u4.drew fun e u5 => (∃ y, e = .returned y) ∧ u5.cell? ⟨w.heap.size, 0, none⟩ = some (.int .i64 o.id) ∧ u5.cell? ⟨p, 3, none⟩ = some (.map (some b)) ∧ u5.cell? ⟨p, 4, none⟩ = some (.pointer (some ⟨bt, 0, none⟩)) ∧ ∃ a1, (Instr.lookup 92 (.map (some b)) (.int .i64 o.id) false).run Tryz.prog u5.drew = .ok (.pointer (some ⟨a1, 0, none⟩)) u5.drew ∧ Calls Tryz.prog 60 #[.pointer (some ⟨p, 0, none⟩), .pointer (some ⟨a1, 0, none⟩)] u5.drew (fun e6 u6 => SendR B O w p (goS (begV v o) (begL o)) q b bt loc (goA (begV v o) (begL o)) e6 u6 ∧ u6.cell? ⟨p, 3, none⟩ = some (.map (some b)) ∧ u6.cell? ⟨w.heap.size, 0, none⟩ = some (.int .i64 o.id)))) := fun u hu => by
    have hx := bel_on' hbW hu
    refine (cents_any o (hs.below hx) mo.2.2.2.2.2.1).mono ?_
    rintro e u3 ⟨W', L, ra, rc, e1, hLe, hbW', en⟩
    have hx3 := bel_on' hx (bel_on' hbW' en.bel)
    have hu3 := bel_on' hu (bel_on' hbW' en.bel)
    have hz3 := hu3.size
    have hLl : L.length = (begT o).length := by rw [← hLe, List.length_map]
    refine ⟨ra, L.length, rc, e1, ?_⟩
    rw [hLl]
    have hR : RowE u3 (Eo O) ra (begT o) := by
      rw [← hLe]
      exact en.rowe (fun i ⟨y, e⟩ => by have := (h.k.bd y i e).2; have := hx.size; have := hbW'.size; omega)
    have hg3 : ∀ u', Rg.Kept (fun i _ => Eo O i) u3 u' → Gl u' := fun u' hk => hg u' ((Rg.Kept.of_below hx3).trans hk)
    refine ((h.on hx3).sures hg3 (fits_begin hm hl) (by rw [begT_len]; have := mo.2.2.2.2.2.1; omega) hR).mono ?_
    rintro x u4 ⟨e2, h6⟩
    rw [begT_len] at e2
    unfold sureS at h6
    rw [begT_len] at h6
    refine ⟨e2, fun hr => ?_, fun hr => ?_⟩
    · rw [hr, if_neg (by decide)] at h6
      exact (h6.from hx3).quiet
    · rw [hr, if_pos rfl] at h6
      obtain ⟨O1, r1, loc1, k1, g1, K1, l1⟩ := h6
      have nb : ∀ y, ¬ O y w.heap.size := fun y e => by have := (h.k.bd y _ e).2; omega
      have nb1 : ¬ Eo O1 w.heap.size := fun e => (g1 _ e).elim (fun ⟨y, e⟩ => nb y e) (fun e => by omega)
      have c4 : u4.cell? ⟨w.heap.size, 0, none⟩ = some (.int .i64 o.id) := kept_cellR K1 (fun _ ⟨y, e⟩ => nb y e) (CU.out u3 hu3).1.1
      obtain ⟨a1, ha1, -⟩ := k1.k.ld o.id _ hl1
      have G1 : ∀ u', Rg.Kept (fun i _ => Eo O1 i) u4 u' → Gl u' := fun u' hk => hg3 u' (kept_two g1 K1 hk)
      refine ⟨c4, k1.k.cell3.2.2.2.2, ((k1.on (Below.refl u4.heap.size u4).drew).hang hw ⟨_, hl1⟩).mono ?_⟩
      rintro e5 u5 ⟨e6, z⟩
      obtain ⟨O2, r2, loc2, k2, g2, K2, l2⟩ := z.from (w := u4) (Below.refl u4.heap.size u4).drew
      have G2 : ∀ u', Rg.Kept (fun i _ => Eo O2 i) u5 u' → Gl u' := fun u' hk => G1 u' (kept_two g2 K2 hk)
      have hd := (Below.refl u5.heap.size u5).drew
      have ha2 := l2 _ _ ha1
      have hL := (k2.k.on hd).look hw
      rw [ha2] at hL
      have nb2 : ¬ Eo O2 w.heap.size := fun e => (g2 _ e).elim nb1 (fun e => by have := World.block_lt_of_cell? _ _ c4; have e8 : w.heap.size < u4.heap.size := this; omega)
      have c5 := kept_cellR K2 (fun _ => nb1) c4
      refine ⟨e6, c5, k2.k.cell3.2.2.2.1, k2.k.cell3.2.2.2.2, a1, hL, (cgoon_any (k2.on hd) (fun u' hk => G2 u' ((Rg.Kept.of_below hd).trans hk)) (v := begV v o) hl1 ha2).mono ?_⟩
      intro e7 u7 z7
      have s1 := SendR.two (O := O2) (loc := loc2) (fun i e => .inl e) (Rg.Kept.of_below hd) (fun _ _ e => e) z7
      have s2 := SendR.two g2 K2 l2 s1
      have s3 := SendR.two g1 K1 l1 s2
      obtain ⟨ra7, rc7, O7, r7, loc7, -, -, -, k7, -, K7, -⟩ := id z7
      exact ⟨SendR.two (O := O) (loc := loc) (fun i e => .inl e) (Rg.Kept.of_below hx3) (fun _ _ e => e) s3, k7.k.cell3.2.2.2.1, kept_cellR K7 (fun _ => nb2) (cellL c5 hd)⟩
  rw [hE]
  rcases noE_two v (o.steps.length + 1) with ⟨e1, e2⟩ | ⟨e1, e2⟩
  · have EO2 : Hid (∀ u, Below W.heap.size W u → Calls Tryz.prog 58 #[.agg #[.int .i64 o.id, .int .i64 o.item, .int .i64 o.qty, .int .i64 o.client, .int .i64 o.price, .slice sa o.steps.length sc]] u fun e u3 => ∃ ra n rc, e = .returned (.slice ra n rc) ∧ Calls Tryz.prog 57 #[.pointer (some ⟨p, 0, none⟩), .slice ra n rc] u3 fun x u4 => x = .returned (.int .i64 0) ∧ u4.cell? ⟨w.heap.size, 0, none⟩ = some (.int .i64 o.id) ∧ u4.cell? ⟨p, 4, none⟩ = some (.pointer (some ⟨bt, 0, none⟩)) ∧ Calls Tryz.prog 59 #[.pointer (some ⟨bt, 0, none⟩), .int .i64 o.id] u4.drew fun e u5 => (∃ y, e = .returned y) ∧ u5.cell? ⟨w.heap.size, 0, none⟩ = some (.int .i64 o.id) ∧ u5.cell? ⟨p, 3, none⟩ = some (.map (some b)) ∧ u5.cell? ⟨p, 4, none⟩ = some (.pointer (some ⟨bt, 0, none⟩)) ∧ ∃ a1, (Instr.lookup 92 (.map (some b)) (.int .i64 o.id) false).run Tryz.prog u5.drew = .ok (.pointer (some ⟨a1, 0, none⟩)) u5.drew ∧ Calls Tryz.prog 60 #[.pointer (some ⟨p, 0, none⟩), .pointer (some ⟨a1, 0, none⟩)] u5.drew (fun e6 u6 => SendR B O w p (goS (begV v o) (begL o)) q b bt loc (goA (begV v o) (begL o)) e6 u6 ∧ u6.cell? ⟨p, 3, none⟩ = some (.map (some b)) ∧ u6.cell? ⟨w.heap.size, 0, none⟩ = some (.int .i64 o.id))) := fun u hu => (EO.out u hu).mono (fun _ _ ⟨ra, n, rc, y1, y2⟩ => ⟨ra, n, rc, y1, y2.mono (fun _ _ ⟨x1, _, x3⟩ => ⟨by rw [e1] at x1; exact x1, x3 e2⟩)⟩)
    rw [e1, if_pos rfl, if_pos rfl]
    rw [hW] at CU ST DN MC LKU UW EO2
    generalize (wayN v.L : Int) = wn at *
    generalize goS (begV v o) (begL o) = v9 at *
    generalize goA (begV v o) (begL o) = x9 at *
    clear h hg hs hsl hw hW hbW hbx hzW hm hE hl hlo hwy e1 e2 EO mo hl1 ST
    go_enter Tryz.func11, Tryz.ntmps11
    go_wp2_with (first
      | (go_at_call 28; refine DN.mono ?_; clear DN; rintro e u1 ⟨rfl, hb⟩; obtain ⟨⟨b0, b1, b2, b3, b4, b5⟩, p0, p3, p4⟩ := CU.out _ hb; have HB := hide hb; clear hb)
      | (go_at_call 55; refine (MC.out _ HB.out).mono ?_; clear MC; rintro e u2 ⟨rfl, hb⟩; clear b0 b1 b2 b3 b4 b5 p0 p3 p4; obtain ⟨⟨b0, b1, b2, b3, b4, b5⟩, p0, p3, p4⟩ := CU.out _ hb; clear HB; have HB := hide hb; have hL := LKU.out _ hb; clear hb))
    go_region_held3 (fun w' => w'.cell? ⟨w.heap.size, 0, none⟩ = some (.int .i64 o.id) ∧ w'.cell? ⟨w.heap.size, 1, none⟩ = some (.int .i64 o.item) ∧ w'.cell? ⟨w.heap.size, 2, none⟩ = some (.int .i64 o.qty) ∧ w'.cell? ⟨w.heap.size, 3, none⟩ = some (.int .i64 o.client) ∧ w'.cell? ⟨w.heap.size, 4, none⟩ = some (.int .i64 o.price) ∧ w'.cell? ⟨w.heap.size, 5, none⟩ = some (.slice sa o.steps.length sc) ∧ w'.cell? ⟨p, 0, none⟩ = some (.int .i64 v.most) ∧ w'.cell? ⟨p, 3, none⟩ = some (.map (some b)) ∧ w'.cell? ⟨p, 4, none⟩ = some (.pointer (some ⟨bt, 0, none⟩))) (go_keep) (fail)
    go_wp2_with fail
    go_region_held3 (fun w' => w'.cell? ⟨w.heap.size, 0, none⟩ = some (.int .i64 o.id) ∧ w'.cell? ⟨w.heap.size, 1, none⟩ = some (.int .i64 o.item) ∧ w'.cell? ⟨w.heap.size, 2, none⟩ = some (.int .i64 o.qty) ∧ w'.cell? ⟨w.heap.size, 3, none⟩ = some (.int .i64 o.client) ∧ w'.cell? ⟨w.heap.size, 4, none⟩ = some (.int .i64 o.price) ∧ w'.cell? ⟨w.heap.size, 5, none⟩ = some (.slice sa o.steps.length sc) ∧ w'.cell? ⟨p, 0, none⟩ = some (.int .i64 v.most) ∧ w'.cell? ⟨p, 3, none⟩ = some (.map (some b)) ∧ w'.cell? ⟨p, 4, none⟩ = some (.pointer (some ⟨bt, 0, none⟩))) (go_keep) (first
      | (go_at_call 56; refine (UW.out _ (bel_d (bel_d HB.out))).mono ?_; clear UW; rintro e u3 ⟨rfl, hb⟩; clear b0 b1 b2 b3 b4 b5 p0 p3 p4; obtain ⟨⟨b0, b1, b2, b3, b4, b5⟩, p0, p3, p4⟩ := CU.out _ hb; clear HB hL; have HB := hide hb; clear hb))
    go_wp2_with (first
      | (go_at_call 58; refine (EO2.out _ HB.out).mono ?_; clear EO2; rintro e u4 ⟨ra, n, rc, rfl, h5⟩; clear b0 b1 b2 b3 b4 b5 p0 p3 p4; have M2 := h5; clear h5)
      | (go_at_call 57; refine M2.mono ?_; clear M2; rintro e u4 ⟨rfl, c0, c4, h6⟩; have H2 := h6; clear h6))
    go_region_held3 (fun w' => w'.cell? ⟨p, 4, none⟩ = some (.pointer (some ⟨bt, 0, none⟩)) ∧ w'.cell? ⟨w.heap.size, 0, none⟩ = some (.int .i64 o.id)) (go_keep) (first
      | (go_at_call 59; refine H2.mono ?_; clear H2 c0 c4; rintro e u5 ⟨⟨y, rfl⟩, c0, c3, c4, a1, hL5, h7⟩; have G5 := h7; clear h7))
    go_wp2_with fail
    go_region_held3 (fun w' => w'.cell? ⟨p, 3, none⟩ = some (.map (some b)) ∧ w'.cell? ⟨w.heap.size, 0, none⟩ = some (.int .i64 o.id)) (go_keep) (first
      | (go_at_call 60; refine G5.mono ?_; clear G5; clear c0 c3; rintro e u6 ⟨h7, c3, c0⟩; have HX := hide h7; obtain ⟨rb, rd, O9, r9, loc9, rfl, -⟩ := h7))
    go_wp2
    go_ret2
    exact ⟨_, rfl, HX.out⟩
  · have EO2 : Hid (∀ u, Below W.heap.size W u → Calls Tryz.prog 58 #[.agg #[.int .i64 o.id, .int .i64 o.item, .int .i64 o.qty, .int .i64 o.client, .int .i64 o.price, .slice sa o.steps.length sc]] u fun e u3 => ∃ ra n rc, e = .returned (.slice ra n rc) ∧ Calls Tryz.prog 57 #[.pointer (some ⟨p, 0, none⟩), .slice ra n rc] u3 fun x u4 => x = .returned (.int .i64 5) ∧ SendR B O w p v q b bt loc [] (.returned (.slice none 0 0)) u4) := fun u hu => (EO.out u hu).mono (fun _ _ ⟨ra, n, rc, y1, y2⟩ => ⟨ra, n, rc, y1, y2.mono (fun _ _ ⟨x1, x2, _⟩ => ⟨by rw [e1] at x1; exact x1, x2 e2⟩)⟩)
    rw [e1, if_neg (by decide), if_neg (by decide)]
    rw [hW] at CU DN MC LKU UW EO2
    generalize (wayN v.L : Int) = wn at *
    clear h hg hs hsl hw hW hbW hbx hzW hm hE hl hlo hwy e1 e2 EO mo hl1 ST
    go_enter Tryz.func11, Tryz.ntmps11
    go_wp2_with (first
      | (go_at_call 28; refine DN.mono ?_; clear DN; rintro e u1 ⟨rfl, hb⟩; obtain ⟨⟨b0, b1, b2, b3, b4, b5⟩, p0, p3, p4⟩ := CU.out _ hb; have HB := hide hb; clear hb)
      | (go_at_call 55; refine (MC.out _ HB.out).mono ?_; clear MC; rintro e u2 ⟨rfl, hb⟩; clear b0 b1 b2 b3 b4 b5 p0 p3 p4; obtain ⟨⟨b0, b1, b2, b3, b4, b5⟩, p0, p3, p4⟩ := CU.out _ hb; clear HB; have HB := hide hb; have hL := LKU.out _ hb; clear hb))
    go_region_held3 (fun w' => w'.cell? ⟨w.heap.size, 0, none⟩ = some (.int .i64 o.id) ∧ w'.cell? ⟨w.heap.size, 1, none⟩ = some (.int .i64 o.item) ∧ w'.cell? ⟨w.heap.size, 2, none⟩ = some (.int .i64 o.qty) ∧ w'.cell? ⟨w.heap.size, 3, none⟩ = some (.int .i64 o.client) ∧ w'.cell? ⟨w.heap.size, 4, none⟩ = some (.int .i64 o.price) ∧ w'.cell? ⟨w.heap.size, 5, none⟩ = some (.slice sa o.steps.length sc) ∧ w'.cell? ⟨p, 0, none⟩ = some (.int .i64 v.most) ∧ w'.cell? ⟨p, 3, none⟩ = some (.map (some b)) ∧ w'.cell? ⟨p, 4, none⟩ = some (.pointer (some ⟨bt, 0, none⟩))) (go_keep) (fail)
    go_wp2_with fail
    go_region_held3 (fun w' => w'.cell? ⟨w.heap.size, 0, none⟩ = some (.int .i64 o.id) ∧ w'.cell? ⟨w.heap.size, 1, none⟩ = some (.int .i64 o.item) ∧ w'.cell? ⟨w.heap.size, 2, none⟩ = some (.int .i64 o.qty) ∧ w'.cell? ⟨w.heap.size, 3, none⟩ = some (.int .i64 o.client) ∧ w'.cell? ⟨w.heap.size, 4, none⟩ = some (.int .i64 o.price) ∧ w'.cell? ⟨w.heap.size, 5, none⟩ = some (.slice sa o.steps.length sc) ∧ w'.cell? ⟨p, 0, none⟩ = some (.int .i64 v.most) ∧ w'.cell? ⟨p, 3, none⟩ = some (.map (some b)) ∧ w'.cell? ⟨p, 4, none⟩ = some (.pointer (some ⟨bt, 0, none⟩))) (go_keep) (first
      | (go_at_call 56; refine (UW.out _ (bel_d (bel_d HB.out))).mono ?_; clear UW; rintro e u3 ⟨rfl, hb⟩; clear b0 b1 b2 b3 b4 b5 p0 p3 p4; obtain ⟨⟨b0, b1, b2, b3, b4, b5⟩, p0, p3, p4⟩ := CU.out _ hb; clear HB hL; have HB := hide hb; clear hb))
    go_wp2_with (first
      | (go_at_call 58; refine (EO2.out _ HB.out).mono ?_; clear EO2; rintro e u4 ⟨ra, n, rc, rfl, h5⟩; clear b0 b1 b2 b3 b4 b5 p0 p3 p4; have M2 := h5; clear h5)
      | (go_at_call 57; refine M2.mono ?_; clear M2; rintro e u4 ⟨rfl, h6⟩; have HX := hide h6; clear h6))
    go_ret2
    exact ⟨_, rfl, HX.out⟩
end
end Go.Proofs.YthfgmpooehkhgaaGreatDoor
/-
  A desk, plainly: who is rejected, how each order stands, in words.
-/
namespace Go.Proofs.YthfgmpooehkhgaaGreatDoor
open Go.RowKit Sg Bl

/-- What is known of an order, where there is none. -/
def noK : Lk := ⟨⟨0, 0, 0, 0, 0, []⟩, fa00, none⟩
def lkD (v : Ch) (id : Int) : Lk := (v.L id).getD noK
/-- How it stands, at a desk that has rejected R. -/
def stD (v : Ch) (R : Int → Bool) (id : Int) : Int := if stC v id = 0 ∧ R id = true then 8 else stC v id
def upR (R : Int → Bool) (i : Int) (b : Bool) : Int → Bool := fun x => if x = i then b else R x
theorem upR_same (R : Int → Bool) (i : Int) (b : Bool) : upR R i b i = b := by simp [upR]
theorem upR_other (R : Int → Bool) {i x : Int} (b : Bool) (h : x ≠ i) : upR R i b x = R x := by simp [upR, h]
/-- Who is rejected behind an order of id that was answered by e. -/
def subR (R : Int → Bool) (e id : Int) : Int → Bool := if e = 0 then upR R id false else if (e ≠ 10 ∧ e ≠ 8) ∧ (1 ≤ id ∧ id ≤ 999) then upR R id true else R
/-- Only ids are rejected. -/
def IdR (R : Int → Bool) : Prop := ∀ x, R x = true → 1 ≤ x ∧ x ≤ 999
theorem IdR.none : IdR (fun _ => false) := fun _ h => by cases h
theorem IdR.sub {R : Int → Bool} (h : IdR R) (e id : Int) : IdR (subR R e id) := by
  intro x hx
  unfold subR at hx
  split at hx
  · by_cases e1 : x = id
    · subst e1; rw [upR_same] at hx; cases hx
    · rw [upR_other _ _ e1] at hx; exact h x hx
  · split at hx
    · rename_i h2
      by_cases e1 : x = id
      · subst e1; exact h2.2
      · rw [upR_other _ _ e1] at hx; exact h x hx
    · exact h x hx

/-! Words. -/
def truN (l : List Bool) : Nat := (l.filter (fun b => b)).length
theorem truN_snoc (l : List Bool) (b : Bool) : truN (l ++ [b]) = truN l + (if b = true then 1 else 0) := by
  unfold truN
  rw [List.filter_append, List.length_append]
  cases b <;> rfl
theorem truN_le (l : List Bool) : truN l ≤ l.length := List.length_filter_le _ _
def shrL (l : List Bool) : List UInt8 := Lib.itoa (truN l) ++ [47] ++ Lib.itoa l.length
def whoL (a b : Bool) : List UInt8 := (if a = true then [32, 115, 116, 111, 99, 107] else []) ++ (if b = true then [32, 112, 117, 114, 115, 101] else [])
def wrdL (s : Int) (f : Fa) : List UInt8 :=
  if s = 1 then [102, 111, 114, 119, 97, 114, 100, 32] ++ shrL f.dn
  else if s = 2 then [112, 114, 101, 112, 97, 114, 105, 110, 103]
  else if s = 3 then [99, 111, 109, 109, 105, 116, 116, 101, 100]
  else if s = 4 then [117, 110, 100, 111, 105, 110, 103, 32] ++ shrL f.un
  else if s = 5 then [115, 104, 105, 112, 112, 101, 100]
  else if s = 6 then [97, 98, 111, 114, 116, 101, 100]
  else if s = 7 then [100, 97, 109, 97, 103, 101, 100] ++ whoL f.d0 f.d1
  else if s = 8 then [114, 101, 106, 101, 99, 116, 101, 100]
  else []
def telL (v : Ch) (R : Int → Bool) (id : Int) : List UInt8 := if wrdL (stD v R id) (lkD v id).f = [] then [] else Lib.itoa id ++ [58, 32] ++ wrdL (stD v R id) (lkD v id).f
/-- A row of bytes as a text. -/
def txB (l : List UInt8) : ByteArray := ⟨l.toArray⟩
theorem txB_app (a b : List UInt8) : txB a ++ txB b = txB (a ++ b) := by
  apply ByteArray.ext
  show (txB a ++ txB b).data = _
  rw [ByteArray.data_append]
  show a.toArray ++ b.toArray = (a ++ b).toArray
  simp
theorem txB_eq (a b : List UInt8) : ((txB a).toList == (txB b).toList) = decide (a = b) := by
  rw [ByteArray.toList_eq, ByteArray.toList_eq]
  show (a == b) = _
  by_cases h : a = b
  · subst h; simp
  · simp [h]
theorem txB_len (a : List UInt8) : (txB a).size = a.length := by simp [txB, ByteArray.size]
theorem itoa_one {n : Int} (h0 : 0 ≤ n) (h1 : n < 10) : Lib.itoa n = [UInt8.ofNat (48 + n.toNat)] := by
  unfold Lib.itoa
  rw [if_neg (by omega), Lib.decDigits, dif_pos (by omega)]

/-! How many are not over. -/
def opn1 (v : Ch) (x : Int × Int) : Bool := x.2 != 8 && !overF (lkD v x.1).o (lkD v x.1).f
def opnD (v : Ch) (l : List (Int × Int)) : Nat := (l.filter (opn1 v)).length
theorem opnD_snoc (v : Ch) (l : List (Int × Int)) (x : Int × Int) : opnD v (l ++ [x]) = opnD v l + (if opn1 v x = true then 1 else 0) := by
  unfold opnD
  rw [List.filter_append, List.length_append]
  cases h : opn1 v x <;> simp [h]

/-! Who is told, and how each stands. -/
def allF (f : Int → Int) (n : Nat) : List (Int × Int) := ((List.range n).map (fun i : Nat => ((i : Int), f i))).filter (fun x => x.2 != 0)
theorem allF_succ (f : Int → Int) (n : Nat) : allF f (n + 1) = allF f n ++ (if f n = 0 then [] else [((n : Int), f n)]) := by
  unfold allF
  rw [List.range_succ, List.map_append, List.filter_append]
  congr 1
  by_cases h : f (n : Int) = 0
  · rw [if_pos h]; simp [h]
  · rw [if_neg h]; simp [h]
theorem allF_pre (f : Int → Int) {i j : Nat} (h : i ≤ j) : allF f i <+: allF f j := by
  induction j with
  | zero => obtain rfl : i = 0 := by omega
            exact List.prefix_refl _
  | succ j ih =>
    by_cases e : i = j + 1
    · subst e; exact List.prefix_refl _
    · rw [allF_succ]
      exact (ih (by omega)).trans (List.prefix_append _ _)
theorem allF_mem {f : Int → Int} {n : Nat} {x : Int × Int} (h : x ∈ allF f n) : ∃ i : Nat, i < n ∧ x = ((i : Int), f i) ∧ f i ≠ 0 := by
  unfold allF at h
  rw [List.mem_filter, List.mem_map] at h
  obtain ⟨⟨i, h1, rfl⟩, h2⟩ := h
  exact ⟨i, List.mem_range.1 h1, rfl, by simpa using h2⟩
theorem allF_len (f : Int → Int) (n : Nat) : (allF f n).length ≤ n := by
  unfold allF
  refine Nat.le_trans (List.length_filter_le _ _) ?_
  simp
end Go.Proofs.YthfgmpooehkhgaaGreatDoor
/-
  A chief, plainly: an order that has begun in a new one, and is cancelled.
-/
namespace Go.Proofs.YthfgmpooehkhgaaGreatDoor
open Go.RowKit Sg Bl

/-- Facts of an order of which nothing is done; asked, turned. -/
def frF (n : Nat) (a t : Bool) : Fa := ⟨List.replicate n false, List.replicate n false, a, false, t, false, false, false, false, false, false⟩
theorem three_of {o : Od} (hm : mayO o = true) : o.steps.length = 0 ∨ o.steps.length = 1 ∨ o.steps.length = 2 ∨ o.steps.length = 3 := by
  have := (mayO_of hm).2.2.2.2.2.1
  omega
theorem may_fr {o : Od} (hm : mayO o = true) (a t : Bool) : mayF o (frF o.steps.length a t) = true := by
  unfold mayF
  rw [hm]
  have h := three_of hm
  have e1 : (frF o.steps.length a t).dn.length = o.steps.length := by simp [frF]
  have e2 : (frF o.steps.length a t).un.length = o.steps.length := by simp [frF]
  rw [decide_eq_true e1, decide_eq_true e2]
  generalize o.steps.length = n at *
  rcases h with rfl | rfl | rfl | rfl <;> cases a <;> cases t <;> rfl
theorem may_acc {o : Od} {f : Fa} (b : Bool) : mayF o { f with acc := b } = mayF o f := rfl
theorem st_fr {o : Od} (hm : mayO o = true) (a t : Bool) : stF o (frF o.steps.length a t) = if t = true then 4 else if a = true then 2 else 1 := by
  unfold stF
  rw [may_fr hm]
  cases a <;> cases t <;> rfl
theorem over_fr {o : Od} (hm : mayO o = true) (a t : Bool) : overF o (frF o.steps.length a t) = false := by
  unfold overF stF
  rw [may_acc, may_fr hm]
  cases a <;> cases t <;> rfl
theorem next_fr {o : Od} (hm : mayO o = true) (a : Bool) : nextF o (frF o.steps.length a false) = if o.steps.length = 0 then prepL o else [doM o 0] := by
  have h := three_of hm
  unfold nextF planL
  rw [may_fr hm, hm]
  simp only [Bool.true_eq_false, if_false, if_true]
  show runS (fwdS o (frF o.steps.length a false)) _ [] = _
  generalize hn : o.steps.length = n at *
  rcases h with rfl | rfl | rfl | rfl <;> rfl
theorem next_tn {o : Od} (hm : mayO o = true) (a : Bool) : ∃ r, nextF o (frF o.steps.length a true) = msgM o 10 1 :: msgM o 10 2 :: r ∧ r.length ≤ 1 := by
  have h := three_of hm
  unfold nextF Sg.backL
  rw [may_fr hm, hm]
  simp only [Bool.true_eq_false, if_false, if_true]
  show ∃ r, runS (bckS o (frF o.steps.length a true)) _ [] = _ ∧ _
  generalize hn : o.steps.length = n at *
  rcases h with rfl | rfl | rfl | rfl
  · exact ⟨_, rfl, Nat.zero_le _⟩
  · exact ⟨_, rfl, Nat.le_refl 1⟩
  · exact ⟨_, rfl, Nat.le_refl 1⟩
  · exact ⟨_, rfl, Nat.le_refl 1⟩
/-- An order that is led, nothing of it done. -/
def frL (o : Od) (a t : Bool) (y : Option (Bool × Bool)) : Lk := ⟨o, frF o.steps.length a t, y⟩
/-- A chief that leads one order, of which nothing is done: decided against it or not. -/
structure One (v : Ch) (o : Od) (a t : Bool) (n : Nat) : Prop where
  d : v.down = false
  l : ∃ y, v.L o.id = some (frL o a t y)
  len : v.T.length ≤ n
  oth : ∀ x, x ≠ o.id → v.L x = none
theorem One.le {v : Ch} {o : Od} {a t : Bool} {n n' : Nat} (h : One v o a t n) (hn : n ≤ n') : One v o a t n' := ⟨h.d, h.l, Nat.le_trans h.len hn, h.oth⟩
theorem One.setH {v : Ch} {o : Od} {a t : Bool} {n : Nat} (h : One v o a t n) (g : Int → Int) : One (Go.Proofs.YthfgmpooehkhgaaGreatDoor.setH v g) o a t n := ⟨h.d, h.l, h.len, h.oth⟩
theorem room_of {v : Ch} {n k : Nat} (h : v.T.length ≤ n) (hr : ((n + k : Nat) : Int) ≤ v.room) : roomC v k = true := by
  unfold roomC
  rw [decide_eq_true_eq]
  omega
/-- What is sent of it. -/
theorem One.send {v : Ch} {o : Od} {a : Bool} {n : Nat} (hm : mayO o = true) (h : One v o a false n) {y : Option (Bool × Bool)} (hy : v.L o.id = some (frL o a false y)) (hr : ((n + 1 : Nat) : Int) ≤ v.room) :
    One (sendS v (frL o a false y)) o (a || decide (o.steps.length = 0)) false (n + 1) ∧ sendA v (frL o a false y) = nextF o (frF o.steps.length a false) ∧ (sendS v (frL o a false y)).room = v.room ∧ (sendS v (frL o a false y)).t = v.t ∧ (sendS v (frL o a false y)).h = v.h := by
  have hrm := room_of (k := 1) h.len hr
  have hN : nextF (frL o a false y).o (frL o a false y).f = if o.steps.length = 0 then prepL o else [doM o 0] := next_fr hm a
  have ha : sendA v (frL o a false y) = nextF o (frF o.steps.length a false) := by
    unfold sendA
    rw [hrm]
    simp only [Bool.not_true, Bool.and_false, Bool.false_eq_true, if_false]
    rfl
  have hp : prepB (frL o a false y) = decide (o.steps.length = 0) := by
    unfold prepB
    rw [hN]
    by_cases e : o.steps.length = 0
    · rw [if_pos e, decide_eq_true e]; rfl
    · rw [if_neg e, decide_eq_false e]; rfl
  refine ⟨?_, ha, ?_⟩
  · unfold sendS
    rw [hp]
    cases e : decide (o.steps.length = 0) <;> cases a
    · simp only [Bool.false_and, Bool.false_eq_true, if_false, Bool.or_false]
      exact h.le (by omega)
    · simp only [Bool.false_and, Bool.false_eq_true, if_false, Bool.or_false]
      exact h.le (by omega)
    · have e1 : (true && !(frL o false false y).f.asked) = true := rfl
      rw [if_pos e1]
      unfold noteS
      rw [show ([askE (frL o false false y).o.id] : List Et).length = 1 from rfl, if_pos hrm]
      refine ⟨h.d, ⟨some (false, false), ?_⟩, by show (v.T ++ [askE o.id]).length ≤ n + 1; rw [List.length_append]; have := h.len; simp; omega, fun x hx => ?_⟩
      · show fol v.L (askE o.id) o.id = _
        unfold fol
        rw [show (askE o.id).id = o.id from rfl, Gd.updO_same, if_neg (by intro e2; cases e2), hy]
        rfl
      · show fol v.L (askE o.id) x = none
        unfold fol
        rw [show (askE o.id).id = o.id from rfl, Gd.updO_other _ _ hx]
        exact h.oth x hx
    · have e1 : ¬ (true && !(frL o true false y).f.asked) = true := by simp [frL, frF]
      rw [if_neg e1]
      exact h.le (by omega)
  · unfold sendS noteS
    split
    · split <;> exact ⟨rfl, rfl, rfl⟩
    · exact ⟨rfl, rfl, rfl⟩
/-- It begins. -/
theorem One.new {o : Od} (hm : mayO o = true) (orders room tries : Int) (hr : 5 ≤ roomV room) :
    begE (newCh orders room tries) o = 0 ∧ One (begS (newCh orders room tries) o) o (decide (o.steps.length = 0)) false 5 ∧ begA (newCh orders room tries) o = nextF o (frF o.steps.length false false) ∧ (begS (newCh orders room tries) o).room = roomV room ∧ (begS (newCh orders room tries) o).t = clampT tries ∧ (begS (newCh orders room tries) o).h o.id = clampT tries + 1 := by
  have h3 := (mayO_of hm).2.2.2.2.2.1
  have hid := (mayO_of hm).1
  have hw : wayN (newCh orders room tries).L = 0 := by
    have : idsC noL = [] := List.filter_eq_nil_iff.2 (fun x _ => by show ¬ (noL x).isSome = true; exact fun e => by cases e)
    show ((idsC noL).filter (way1 noL)).length = 0
    rw [this]
    rfl
  have hmost : 1 ≤ (newCh orders room tries).most := (newCh_good orders room tries).m1
  have hrm : roomC (newCh orders room tries) (o.steps.length + 1) = true := by
    unfold roomC
    rw [decide_eq_true_eq]
    show (((([] : List Et)).length : Nat) : Int) + _ ≤ roomV room
    simp only [List.length_nil]
    omega
  have hE : begE (newCh orders room tries) o = 0 := by
    unfold begE
    rw [show (newCh orders room tries).down = false from rfl, if_neg (by decide), hm, if_neg (by decide), show (newCh orders room tries).L o.id = none from rfl, if_neg (by decide), hw, if_neg (by omega)]
    unfold noE
    rw [hrm]
    rfl
  obtain ⟨-, hd, hl, hL⟩ := begV_good (newCh_good orders room tries) hE
  have o1 : One (begV (newCh orders room tries) o) o false false 4 := by
    refine ⟨hd, ⟨none, by rw [hl]; rfl⟩, ?_, fun x hx => ?_⟩
    · show ([] ++ begT o).length ≤ 4
      rw [List.nil_append, begT_len]
      omega
    · rw [hL, Gd.updO_other _ _ hx]
      rfl
  have o2 := o1.setH (agnH (begV (newCh orders room tries) o).t (begV (newCh orders room tries) o).h o.id)
  have hov : overF (begL o).o (begL o).f = false := over_fr hm false false
  have key := o2.send hm (y := none) hl (by show ((4 + 1 : Nat) : Int) ≤ roomV room; omega)
  unfold begS begA
  rw [hE, if_pos rfl, if_pos rfl]
  unfold goS goA
  rw [hov]
  simp only [Bool.false_eq_true, if_false]
  refine ⟨trivial, by have := key.1; rw [Bool.false_or] at this; exact this, ?_, key.2.2.1, key.2.2.2.1, ?_⟩
  · have e := key.2.1
    unfold sendA at e ⊢
    exact e
  · have e := key.2.2.2.2
    show (sendS _ (frL o false false none)).h o.id = _
    have e1 : (sendS (agnC (begV (newCh orders room tries) o) (begL o).o.id) (frL o false false none)).h = agnH (begV (newCh orders room tries) o).t (begV (newCh orders room tries) o).h o.id := e
    rw [e1]
    have h0 : (begV (newCh orders room tries) o).h o.id = clampT tries + 1 := by
      show hangH (clampT tries) (fun _ => 0) o.id o.id = _
      unfold hangH
      rw [if_pos (by unfold hangB isI; simp; exact hid), Bl.upd_same]
    unfold agnH
    split
    · exact h0
    · rw [Bl.upd_same]; rfl
/-- It is turned. -/
theorem One.turn {v : Ch} {o : Od} {a : Bool} {n : Nat} (hm : mayO o = true) (h : One v o a false n) {y : Option (Bool × Bool)} (hy : v.L o.id = some (frL o a false y)) (hr : ((n + 1 : Nat) : Int) ≤ v.room) :
    One (sgS v (frL o a false y) 5 []) o a true (n + 1) ∧ sgA v (frL o a false y) 5 [] = nextF o (frF o.steps.length a true) ∧ (sgS v (frL o a false y) 5 []).room = v.room := by
  have hrm := room_of (k := 1) h.len hr
  have hov : overF (folL (frL o a false y) 5 []).o (folL (frL o a false y) 5 []).f = false := over_fr hm a true
  obtain ⟨r, hN, -⟩ := next_tn hm a
  have hp : prepB (folL (frL o a false y) 5 []) = false := by
    unfold prepB
    rw [show nextF (folL (frL o a false y) 5 []).o (folL (frL o a false y) 5 []).f = msgM o 10 1 :: msgM o 10 2 :: r from hN]
    rfl
  unfold sgS sgA goS goA
  rw [hrm, if_pos rfl, if_pos rfl, hov]
  simp only [Bool.false_eq_true, if_false]
  unfold sendS sendA
  rw [hp]
  simp only [Bool.false_and, Bool.false_eq_true, if_false]
  refine ⟨⟨h.d, ⟨none, ?_⟩, ?_, fun x hx => ?_⟩, rfl, rfl⟩
  · show fol v.L ⟨5, o.id, []⟩ o.id = _
    unfold fol
    rw [Gd.updO_same, if_neg (by intro e2; cases e2), hy]
    rfl
  · show (v.T ++ [_]).length ≤ n + 1
    rw [List.length_append]
    have := h.len
    simp
    omega
  · show fol v.L ⟨5, o.id, []⟩ x = none
    unfold fol
    rw [Gd.updO_other _ _ hx]
    exact h.oth x hx
theorem One.st {v : Ch} {o : Od} {a t : Bool} {n : Nat} (hm : mayO o = true) (h : One v o a t n) : stC v o.id = if t = true then 4 else if a = true then 2 else 1 := by
  obtain ⟨y, hy⟩ := h.l
  unfold stC
  rw [hy]
  exact st_fr hm a t
end Go.Proofs.YthfgmpooehkhgaaGreatDoor
/-
  DeskLets, plainly: orders without steps that are handed in one behind another.
-/
namespace Go.Proofs.YthfgmpooehkhgaaGreatDoor
open Go.RowKit Sg Bl

/-! How many of a range. -/
def ltO (x : Int) : Od := ⟨x, 0, 1, 0, 1, []⟩
/-- .. as it is led: asked for. -/
def ltL (x : Int) : Lk := frL (ltO x) true false (some (false, false))
theorem lt_may {x : Int} (h1 : 1 ≤ x) (h2 : x ≤ 999) : mayO (ltO x) = true := by
  have h : oidB x = true := by unfold oidB; rw [decide_eq_true_eq]; exact ⟨h1, h2⟩
  unfold mayO
  rw [show (ltO x).id = x from rfl, h]
  rfl
/-- The first b of them are led. -/
def Lt (b : Nat) : Int → Option Lk := fun x => if 1 ≤ x ∧ x ≤ (b : Int) then some (ltL x) else none
/-- A chief that leads L, behind so many lines. -/
structure RG (M : Int) (L : Int → Option Lk) (n : Nat) (v : Ch) : Prop where
  d : v.down = false
  l : v.L = L
  n : v.T.length ≤ n
  r : v.room = 4096
  m : v.most = M
section
variable {M : Int} {L : Int → Option Lk} {n : Nat} {v : Ch}
theorem RG.new (h1 : 1 ≤ M) (h2 : M ≤ 64) : RG M (Lt 0) 0 (newCh M 4096 3) := by
  refine ⟨rfl, ?_, Nat.le_refl 0, rfl, ?_⟩
  · funext x
    show none = Lt 0 x
    unfold Lt
    rw [if_neg (by omega)]
  · show min (max M 1) 64 = M
    omega
theorem RG.room (h : RG M L n v) {k : Nat} (hk : n + k ≤ 4096) : roomC v k = true := by
  unfold roomC
  have := h.n
  rw [h.r, decide_eq_true_eq]
  omega
theorem RG.begin (h : RG M L n v) {x : Int} (h1 : 1 ≤ x) (h2 : x ≤ 999) (hL : L x = none) (hw : (wayN L : Int) < M) (hn : n + 2 ≤ 4096) :
    begE v (ltO x) = 0 ∧ RG M (Gd.updO L x (some (ltL x))) (n + 2) (begS v (ltO x)) ∧ (begA v (ltO x)).length = 2 := by
  have hm := lt_may h1 h2
  have hvL : v.L (ltO x).id = none := by rw [h.l]; exact hL
  have hE : begE v (ltO x) = 0 := by
    unfold begE
    rw [h.d, hm, hvL, h.l, h.m]
    simp only [Bool.false_eq_true, Bool.true_eq_false, Option.isSome_none, if_false]
    rw [if_neg (by omega)]
    unfold noE
    rw [h.room (show n + ((ltO x).steps.length + 1) ≤ 4096 by show n + 1 ≤ 4096; omega), if_pos rfl]
  have hl : (begV v (ltO x)).L = Gd.updO v.L x (some (begL (ltO x))) := fol_begin hvL
  have hov : overF (begL (ltO x)).o (begL (ltO x)).f = false := over_fr hm false false
  have hN : nextF (begL (ltO x)).o (begL (ltO x)).f = prepL (ltO x) := next_fr hm false
  have hp : prepB (begL (ltO x)) = true := by
    unfold prepB
    rw [hN]
    rfl
  have hT : (begV v (ltO x)).T.length ≤ n + 1 := by
    show (v.T ++ begT (ltO x)).length ≤ n + 1
    rw [List.length_append, begT_len]
    have := h.n
    show v.T.length + (0 + 1) ≤ n + 1
    omega
  have hrm : roomC (begV v (ltO x)) 1 = true := by
    unfold roomC
    rw [show (begV v (ltO x)).room = 4096 from h.r, decide_eq_true_eq]
    omega
  have hrm2 : roomC (agnC (begV v (ltO x)) (begL (ltO x)).o.id) 1 = true := hrm
  have hS : begS v (ltO x) = addC (agnC (begV v (ltO x)) (ltO x).id) [askE x] := by
    unfold begS
    rw [hE, if_pos rfl]
    unfold goS
    rw [hov]
    simp only [Bool.false_eq_true, if_false]
    unfold sendS
    rw [hp, show (begL (ltO x)).f.asked = false from rfl]
    simp only [Bool.not_false, Bool.and_self, if_true]
    unfold noteS
    rw [show [askE (begL (ltO x)).o.id].length = 1 from rfl, hrm2, if_pos rfl]
    rfl
  refine ⟨hE, ?_, ?_⟩
  · rw [hS]
    refine ⟨h.d, ?_, ?_, h.r, h.m⟩
    · show fol (begV v (ltO x)).L (askE x) = _
      rw [hl]
      unfold fol
      rw [show (askE x).id = x from rfl, Gd.updO_same, updO_twice, h.l]
      rfl
    · show ((begV v (ltO x)).T ++ [askE x]).length ≤ n + 2
      rw [List.length_append]
      simp
      omega
  · unfold begA
    rw [hE, if_pos rfl]
    unfold goA
    rw [hov]
    simp only [Bool.false_eq_true, if_false]
    unfold sendA
    rw [hp, hrm, hN]
    rfl
/-- How one stands. -/
theorem RG.st (h : RG M L n v) {x : Int} {l : Lk} (hL : L x = some l) : stC v x = stF l.o l.f ∧ lkD v x = l := by
  have hvL : v.L x = some l := by rw [h.l]; exact hL
  unfold stC lkD
  rw [hvL]
  exact ⟨rfl, rfl⟩
end
end Go.Proofs.YthfgmpooehkhgaaGreatDoor
/-
  ChiefLasts, plainly: facts that may be stay such.
-/
namespace Go.Proofs.YthfgmpooehkhgaaGreatDoor
open Go.RowKit Sg Bl

/-- Facts of an order of n steps that may be; asked, and not turned, only where all is done. -/
structure Mx (n : Nat) (f : Fa) : Prop where
  n3 : n ≤ 3
  dl : f.dn.length = n
  ul : f.un.length = n
  d : decF f = true
  dn : donF f = true
  un : undF f = true
  ask : f.asked = true → f.turned = false → allB f.dn = true
theorem Mx.may {o : Od} {f : Fa} (hm : mayO o = true) (h : Mx o.steps.length f) : mayF o f = true := by
  unfold mayF
  rw [hm, h.d, h.dn, h.un, decide_eq_true h.dl, decide_eq_true h.ul]
  rfl
section
variable {n : Nat} {f : Fa}
theorem Mx.asked (h : Mx n f) (ha : allB f.dn = true) (hy : f.yes = false) (ht : f.turned = false) : Mx n { f with asked := true } := by
  obtain ⟨h0, h1, h2, h3, h4, h5, h6⟩ := h
  obtain ⟨dn, un, a, y, t, k0, k1, s, d0, d1, ac⟩ := f
  cases hy
  cases ht
  exact ⟨h0, h1, h2, h3, h4, h5, fun _ _ => ha⟩
theorem Mx.yes (h : Mx n f) (ha : f.asked = true) (hy : f.yes = false) (ht : f.turned = false) : Mx n { f with yes := true } := by
  obtain ⟨h0, h1, h2, h3, h4, h5, h6⟩ := h
  obtain ⟨dn, un, a, y, t, k0, k1, s, d0, d1, ac⟩ := f
  cases hy
  cases ht
  cases ha
  exact ⟨h0, h1, h2, rfl, h6 rfl rfl, h5, fun _ _ => h6 rfl rfl⟩
theorem stays_not : ∀ {l : List Bool}, l.length ≤ 3 → Sg.hasB l true = false → staysB l true = true
  | [], _, _ => rfl
  | [false], _, _ => rfl
  | [false, false], _, _ => rfl
  | [false, false, false], _, _ => rfl
  | true :: _, _, h => by simp [Sg.hasB] at h
  | [false, true], _, h => by simp [Sg.hasB] at h
  | false :: true :: _ :: [], _, h => by simp [Sg.hasB] at h
  | [false, false, true], _, h => by simp [Sg.hasB] at h
  | _ :: _ :: _ :: _ :: _, h, _ => by simp at h
theorem Mx.turn (h : Mx n f) (hy : f.yes = false) (ht : f.turned = false) : Mx n { f with turned := true } := by
  obtain ⟨h0, h1, h2, h3, h4, h5, h6⟩ := h
  obtain ⟨dn, un, a, y, t, k0, k1, s, d0, d1, ac⟩ := f
  cases hy
  cases ht
  refine ⟨h0, h1, h2, ?_, rfl, ?_, fun _ e => by cases e⟩
  · unfold decF at h3 ⊢
    simp at h3 ⊢
    exact h3.1.1
  · unfold undF at h5 ⊢
    simp at h5 ⊢
    exact stays_not (by simpa using Nat.le_trans (Nat.le_of_eq h2) h0) h5
theorem Mx.k0 (h : Mx n f) (hd : (f.yes || f.turned) = true) : Mx n { f with k0 := true } := by
  obtain ⟨h0, h1, h2, h3, h4, h5, h6⟩ := h
  obtain ⟨dn, un, a, y, t, k0, k1, s, d0, d1, ac⟩ := f
  refine ⟨h0, h1, h2, ?_, h4, h5, h6⟩
  cases y <;> cases t <;> first | exact h3 | cases hd
theorem Mx.k1 (h : Mx n f) (hd : (f.yes || f.turned) = true) : Mx n { f with k1 := true } := by
  obtain ⟨h0, h1, h2, h3, h4, h5, h6⟩ := h
  obtain ⟨dn, un, a, y, t, k0, k1, s, d0, d1, ac⟩ := f
  refine ⟨h0, h1, h2, ?_, h4, h5, h6⟩
  cases y <;> cases t <;> first | exact h3 | cases hd
theorem Mx.d0 (h : Mx n f) (hd : (f.yes || f.turned) = true) : Mx n { f with k0 := true, d0 := true } := by
  obtain ⟨h0, h1, h2, h3, h4, h5, h6⟩ := h
  obtain ⟨dn, un, a, y, t, k0, k1, s, d0, d1, ac⟩ := f
  refine ⟨h0, h1, h2, ?_, h4, h5, h6⟩
  cases y <;> cases t <;> first | exact h3 | cases hd
theorem Mx.d1 (h : Mx n f) (hd : (f.yes || f.turned) = true) : Mx n { f with k1 := true, d1 := true } := by
  obtain ⟨h0, h1, h2, h3, h4, h5, h6⟩ := h
  obtain ⟨dn, un, a, y, t, k0, k1, s, d0, d1, ac⟩ := f
  refine ⟨h0, h1, h2, ?_, h4, h5, h6⟩
  cases y <;> cases t <;> first | exact h3 | cases hd
theorem Mx.ship (h : Mx n f) (hy : f.yes = true) : Mx n { f with ship := true } := by
  obtain ⟨h0, h1, h2, h3, h4, h5, h6⟩ := h
  obtain ⟨dn, un, a, y, t, k0, k1, s, d0, d1, ac⟩ := f
  cases hy
  refine ⟨h0, h1, h2, ?_, h4, h5, h6⟩
  cases t
  · exact h3
  · unfold decF at h3
    simp at h3
theorem Mx.acc (h : Mx n f) : Mx n { f with acc := true } := ⟨h.n3, h.dl, h.ul, h.d, h.dn, h.un, h.ask⟩
/-- A step is done, the first that is not. -/
theorem stays_set : ∀ {l : List Bool} {i : Nat}, l.length ≤ 3 → i < l.length → idxB l false = i → staysB l false = true → staysB (l.set i true) false = true := by
  intro l i hl hi
  match l, hl with
  | [], _ => cases hi
  | [a], _ => obtain rfl : i = 0 := by simpa using hi
              cases a <;> decide
  | [a, b], _ =>
    have : i = 0 ∨ i = 1 := by simp at hi; omega
    rcases this with rfl | rfl <;> cases a <;> cases b <;> decide
  | [a, b, c], _ =>
    have : i = 0 ∨ i = 1 ∨ i = 2 := by simp at hi; omega
    rcases this with rfl | rfl | rfl <;> cases a <;> cases b <;> cases c <;> decide
  | _ :: _ :: _ :: _ :: _, h => simp at h
theorem Mx.done (h : Mx n f) {i : Nat} (hi : i < n) (ha : f.asked = false) (hy : f.yes = false) (ht : f.turned = false) (hx : idxB f.dn false = i) : Mx n { f with dn := f.dn.set i true } := by
  obtain ⟨h0, h1, h2, h3, h4, h5, h6⟩ := h
  obtain ⟨dn, un, a, y, t, k0, k1, s, d0, d1, ac⟩ := f
  cases hy
  cases ht
  cases ha
  exact ⟨h0, by simpa using h1, h2, h3, stays_set (by simpa using Nat.le_trans (Nat.le_of_eq h1) h0) (by simpa using Nat.lt_of_lt_of_eq hi h1.symm) hx h4, h5, fun e => by cases e⟩
/-- A step is undone, all behind it are. -/
theorem unst_set : ∀ {l : List Bool} {i : Nat}, l.length ≤ 3 → i < l.length → Sg.hasB (l.drop (i + 1)) false = false → staysB l true = true → staysB (l.set i true) true = true := by
  intro l i hl hi
  match l, hl with
  | [], _ => cases hi
  | [a], _ => obtain rfl : i = 0 := by simpa using hi
              cases a <;> decide
  | [a, b], _ =>
    have : i = 0 ∨ i = 1 := by simp at hi; omega
    rcases this with rfl | rfl <;> cases a <;> cases b <;> decide
  | [a, b, c], _ =>
    have : i = 0 ∨ i = 1 ∨ i = 2 := by simp at hi; omega
    rcases this with rfl | rfl | rfl <;> cases a <;> cases b <;> cases c <;> decide
  | _ :: _ :: _ :: _ :: _, h => simp at h
theorem Mx.undone (h : Mx n f) {i : Nat} (hi : i < n) (ht : f.turned = true) (hx : Sg.hasB (f.un.drop (i + 1)) false = false) : Mx n { f with un := f.un.set i true } := by
  obtain ⟨h0, h1, h2, h3, h4, h5, h6⟩ := h
  obtain ⟨dn, un, a, y, t, k0, k1, s, d0, d1, ac⟩ := f
  cases ht
  exact ⟨h0, h1, by simpa using h2, h3, h4, unst_set (by simpa using Nat.le_trans (Nat.le_of_eq h2) h0) (by simpa using Nat.lt_of_lt_of_eq hi h2.symm) hx h5, fun _ e => by cases e⟩
end
end Go.Proofs.YthfgmpooehkhgaaGreatDoor
/-
  ChiefLasts, plainly: an entry that is written fits what may be.
-/
namespace Go.Proofs.YthfgmpooehkhgaaGreatDoor
open Go.RowKit Sg Bl

/-- What must be so that an entry of an order that is led may be written. -/
def OkS (l : Lk) (k : Nat) (n : List Int) : Prop :=
  match k with
  | 2 => l.f.asked = false ∧ l.f.yes = false ∧ l.f.turned = false ∧ ∃ i : Nat, n = [(i : Int)] ∧ i < l.f.dn.length ∧ idxB l.f.dn false = i
  | 3 => allB l.f.dn = true ∧ l.f.yes = false ∧ l.f.turned = false
  | 4 => l.f.asked = true ∧ l.f.yes = false ∧ l.f.turned = false
  | 5 => l.f.yes = false ∧ l.f.turned = false
  | 6 => l.f.turned = true ∧ ∃ i : Nat, n = [(i : Int)] ∧ i < l.f.un.length ∧ Sg.hasB (l.f.un.drop (i + 1)) false = false
  | 7 => (l.f.yes || l.f.turned) = true
  | 8 => (l.f.yes || l.f.turned) = true
  | 9 => l.f.yes = true
  | 10 => True
  | _ => False
theorem folL_mx {l : Lk} {k : Nat} {n : List Int} {s : Nat} (h : Mx s l.f) (ho : OkS l k n) : (folL l k n).o = l.o ∧ Mx s (folL l k n).f := by
  match k, ho with
  | 2, ⟨h1, h2, h3, i, e1, e2, e3⟩ =>
    subst e1
    exact ⟨rfl, h.done (by rw [h.dl] at e2; exact e2) h1 h2 h3 e3⟩
  | 3, ⟨h1, h2, h3⟩ => exact ⟨rfl, h.asked h1 h2 h3⟩
  | 4, ⟨h1, h2, h3⟩ => exact ⟨rfl, h.yes h1 h2 h3⟩
  | 5, ⟨h1, h2⟩ => exact ⟨rfl, h.turn h1 h2⟩
  | 6, ⟨h1, i, e1, e2, e3⟩ =>
    subst e1
    exact ⟨rfl, h.undone (by rw [h.ul] at e2; exact e2) h1 e3⟩
  | 7, h1 =>
    refine ⟨rfl, ?_⟩
    show Mx s (if n.getD 0 0 = 1 then _ else _)
    split
    · exact h.k0 h1
    · exact h.k1 h1
  | 8, h1 =>
    refine ⟨rfl, ?_⟩
    show Mx s (if n.getD 0 0 = 1 then _ else _)
    split
    · exact h.d0 h1
    · exact h.d1 h1
  | 9, h1 => exact ⟨rfl, h.ship h1⟩
  | 10, _ => exact ⟨rfl, h.acc⟩
end Go.Proofs.YthfgmpooehkhgaaGreatDoor
/-
  A chief, plainly: up again.
-/
namespace Go.Proofs.YthfgmpooehkhgaaGreatDoor
open Go.RowKit Sg Bl

/-- Its bell is hung. -/
def hgC (v : Ch) (id : Int) : Ch := setH v (hangH v.t v.h id)
/-- One order, as wake takes it. -/
def wkC (v : Ch) (id : Int) : Ch := match v.L id with
  | none => v
  | some l => if overF l.o l.f = true then v else hgC (if l.wt = true then sgS v l 5 [] else v) id
/-- As its journal says, no bell yet. -/
def rvC (v : Ch) : Ch := ⟨v.most, v.room, v.t, v.T, v.T.length, false, runT v.T, fun _ => 0⟩
def upC (v : Ch) : Ch := if v.down = true then (idsC (runT v.T)).foldl wkC (rvC v) else v
/-- While the first n entries are followed. -/
def rvN (v : Ch) (n : Nat) : Ch := ⟨v.most, v.room, v.t, v.T, v.T.length, false, runT (v.T.take n), fun _ => 0⟩
theorem rvN_all (v : Ch) : rvN v v.T.length = rvC v := by
  unfold rvN rvC
  rw [List.take_length]
theorem rvN_step {v : Ch} {n : Nat} {e : Et} (h : v.T[n]? = some e) : (rvN v (n + 1)).L = fol (rvN v n).L e := by
  obtain ⟨hlt, he⟩ := List.getElem?_eq_some_iff.1 h
  show runT (v.T.take (n + 1)) = fol (runT (v.T.take n)) e
  unfold runT
  rw [List.take_succ_eq_append_getElem hlt, List.foldl_append, he]
  rfl
theorem rvN_fit {v : Ch} (g : GoodCh v) {n : Nat} {e : Et} (h : v.T[n]? = some e) : FitE (rvN v n).L e ∧ GoodM (rvN v n).L := by
  obtain ⟨hlt, he⟩ := List.getElem?_eq_some_iff.1 h
  have h1 := fits_take g.ok (n + 1)
  rw [List.take_succ_eq_append_getElem hlt, he] at h1
  obtain ⟨h2, h3⟩ := fits_app.1 h1
  exact ⟨h3.1, noL_good.fols h2⟩
theorem rvC_good {v : Ch} (g : GoodCh v) : GoodCh (rvC v) :=
  ⟨g.m1, g.m2, g.r1, g.r2, g.len, Nat.le_refl _, g.ok, (fun e => by cases e), fun _ => rfl, noL_good.fols g.ok, fun id e => absurd rfl e⟩
end Go.Proofs.YthfgmpooehkhgaaGreatDoor
/-
  Contract of the chief's follow, where the entry's row lies apart only if it has numbers (drafts/gen_che.py writes this text out of CfK and CfL).
-/
namespace Go.Proofs.YthfgmpooehkhgaaGreatDoor
open Go.ChangeShapes Go.WideShapes Go.ChangeAt Go.RowKit Go.Maps Sg Bl

section
variable {B : Nat} {S : Nat → Prop} {w : World} {a : Nat} {l : Lk} {sa : Option Addr} {sc : Nat} {da : Option Addr} {dc : Nat} {ua : Option Addr} {uc : Nat} {tp : Option Nat}
theorem lfollow_any2 (k : LdV B S w a l sa sc da dc ua uc tp) {id' : Int} (g : GoodL id' l) (hS : ∀ i, S i → i < w.heap.size) {kk : Nat} {n : List Int} (hk : kk ≤ 10) (h0 : kk ≠ 0) (f : FitL l kk n) (id : Int) {na : Option Addr} {nc : Nat} (hn : Ints w na n) (hnS : n ≠ [] → ∀ ad, na = some ad → ¬ S ad.block) :
    Calls Tryz.prog 151 #[.pointer (some ⟨a, 0, none⟩), .agg #[.string (kC kk), .int .i64 id, .slice na n.length nc]] w (LFol B S w a (folL l kk n)) := by
  obtain h | h | h | h | h | h | h | h | h | h : kk = 1 ∨ kk = 2 ∨ kk = 3 ∨ kk = 4 ∨ kk = 5 ∨ kk = 6 ∨ kk = 7 ∨ kk = 8 ∨ kk = 9 ∨ kk = 10 := by omega
  all_goals subst h
  · obtain ⟨h1, i, x, y, rfl⟩ := f.step rfl
    obtain ⟨b, o, rfl, hc⟩ := ints_at hn
    exact lfol1 k h1 g.dl g.ul id i x y b o nc (hc 1 x rfl) (hc 2 y rfl) (hnS (by simp) _ rfl) hS
  · obtain ⟨i, rfl, hi⟩ := f.done rfl
    obtain ⟨b, o, rfl, hc⟩ := ints_at hn
    exact lfol2 k id i hi b o nc (hc 0 _ rfl)
  · obtain rfl := f.none (.inl rfl)
    exact lfol3 k id na nc
  · obtain rfl := f.none (.inr (.inl rfl))
    exact lfol4 k id na nc
  · obtain rfl := f.none (.inr (.inr (.inl rfl)))
    exact lfol5 k id na nc
  · obtain ⟨i, rfl, hi⟩ := f.undone rfl
    obtain ⟨b, o, rfl, hc⟩ := ints_at hn
    exact lfol6 k id i hi b o nc (hc 0 _ rfl)
  · rcases f.node (.inl rfl) with rfl | rfl
    · obtain ⟨b, o, rfl, hc⟩ := ints_at hn
      exact lfol7_1 k id b o nc (hc 0 _ rfl) (hnS (by simp) _ rfl)
    · obtain ⟨b, o, rfl, hc⟩ := ints_at hn
      exact lfol7_2 k id b o nc (hc 0 _ rfl) (hnS (by simp) _ rfl)
  · rcases f.node (.inr rfl) with rfl | rfl
    · obtain ⟨b, o, rfl, hc⟩ := ints_at hn
      exact lfol8_1 k id b o nc (hc 0 _ rfl) (hnS (by simp) _ rfl)
    · obtain ⟨b, o, rfl, hc⟩ := ints_at hn
      exact lfol8_2 k id b o nc (hc 0 _ rfl) (hnS (by simp) _ rfl)
  · obtain rfl := f.none (.inr (.inr (.inr (.inl rfl))))
    exact lfol9 k id na nc
  · obtain rfl := f.none (.inr (.inr (.inr (.inr rfl))))
    exact lfol10 k id na nc
end
section
variable {B : Nat} {O : Pt → Nat → Prop} {w : World} {p : Nat} {v : Ch} {q : Nat} {r : Value} {b bt : Nat} {loc : Int → Option Nat} {Lq : List ByteArray}
set_option maxRecDepth 100000 in
set_option maxHeartbeats 2000000 in
theorem cfollow_old2 (k : CkV B O w p v q r b bt loc Lq) (gm : GoodM v.L) {e : Et} (f : FitE v.L e) (hk0 : e.k ≠ 0) {na : Option Addr} {nc : Nat} (hn : Ints w na e.n) (hnE : e.n ≠ [] → ∀ ad, na = some ad → ¬ Eo O ad.block) :
    Calls Tryz.prog 89 #[.pointer (some ⟨p, 0, none⟩), .agg #[.string (kC e.k), .int .i64 e.id, .slice na e.n.length nc]] w fun x w' => (∃ y, x = .returned y) ∧ CStp B O w p (putL v (fol v.L e)) q b bt loc Lq w' := by
  obtain ⟨l, hl, fl⟩ := f.old hk0
  obtain ⟨a, ha, sa, sc, da, dc, ua, uc, tp, kl⟩ := k.ld e.id l hl
  have hfo : fol v.L e = Gd.updO v.L e.id (some (folL l e.k e.n)) := by unfold fol; rw [if_neg hk0, hl]; rfl
  rw [hfo]
  obtain ⟨W, hW⟩ : ∃ W, W = w.alloc (.cells #[.string (kC e.k), .int .i64 e.id, .slice na e.n.length nc] 104) := ⟨_, rfl⟩
  have hbW : Below w.heap.size w W := by rw [hW]; exact (Below.refl _ _).alloc (Nat.le_refl _) _
  obtain ⟨b0, b1, b2⟩ := three_new w (.string (kC e.k)) (.int .i64 e.id) (.slice na e.n.length nc) 104
  rw [← hW] at b0 b1 b2
  have kW := k.on hbW
  obtain ⟨-, -, -, c3, -⟩ := kW.cell3
  have hw := wf_id f.ok.i1 f.ok.i2
  have hb3 := k.bd
  have LF : Hid (∀ u, Below W.heap.size W u → (Instr.lookup 92 (.map (some b)) (.int .i64 e.id) false).run Tryz.prog u = .ok (.pointer (some ⟨a, 0, none⟩)) u ∧ Calls Tryz.prog 151 #[.pointer (some ⟨a, 0, none⟩), .agg #[.string (kC e.k), .int .i64 e.id, .slice na e.n.length nc]] u fun x w' => (∃ y, x = .returned y) ∧ CStp B O w p (putL v (Gd.updO v.L e.id (some (folL l e.k e.n)))) q b bt loc Lq w' ∧ w'.cell? ⟨p, 3, none⟩ = some (.map (some b)) ∧ w'.cell? ⟨w.heap.size, 0, none⟩ = some (.string (kC e.k)) ∧ w'.cell? ⟨w.heap.size, 1, none⟩ = some (.int .i64 e.id) ∧ w'.cell? ⟨w.heap.size, 2, none⟩ = some (.slice na e.n.length nc)) := fun u hu => by
    have ku := kW.on hu
    have hwu := bel_on' hbW hu
    have hL := ku.look hw
    rw [ha] at hL
    refine ⟨hL, ?_⟩
    refine (lfollow_any2 (kl.on hwu) (gm _ _ hl) (fun i e2 => (ku.bd _ _ e2).2) f.ok.k hk0 fl e.id (hn.below hwu) (fun hne ad e2 e3 => hnE hne ad e2 ⟨_, e3⟩)).mono ?_
    rintro x w' ⟨h1, h2, h3⟩
    have k2 := ku.lstep hl ha h2 h3
    have hE : Rg.Kept (fun i _ => Eo O i) w w' := (Rg.Kept.of_below hwu).trans (h3.mono (fun i _ e2 => ⟨_, e2⟩))
    have nw : ∀ _ : Obj, ¬ O (.ld e.id) w.heap.size := fun _ e2 => by have := (hb3 _ _ e2).2; omega
    refine ⟨h1, ⟨_, r, loc, k2, fun i e2 => st_grow hwu.size e2, hE, fun _ _ h => h⟩, k2.cell3.2.2.2.1, kept_cellR h3 nw (cellL b0 hu), kept_cellR h3 nw (cellL b1 hu), kept_cellR h3 nw (cellL b2 hu)⟩
  have hK := kC_begin hk0
  have hL0 := (LF.out W (Below.refl _ _)).1
  have hL1 := (LF.out W.drew (Below.refl _ _).drew).1
  have HW := hide hW
  generalize kC e.k = K at *
  generalize e.id = ei at *
  generalize e.n.length = en at *
  generalize putL v (Gd.updO v.L ei (some (folL l e.k e.n))) = v' at *
  clear k kW hbW hW f fl hl ha kl hfo hn hnE gm hw hb3
  go_enter Tryz.func89, Tryz.ntmps89
  go_wp2_with fail
  rw [← HW.out]
  go_region_held3 (fun w' => w'.cell? ⟨p, 3, none⟩ = some (.map (some b)) ∧ w'.cell? ⟨w.heap.size, 0, none⟩ = some (.string K) ∧ w'.cell? ⟨w.heap.size, 1, none⟩ = some (.int .i64 ei) ∧ w'.cell? ⟨w.heap.size, 2, none⟩ = some (.slice na en nc)) (go_keep) (first
    | (go_at_call 151; refine ((LF.out _ (by first | exact Below.refl _ _ | exact (Below.refl _ _).drew)).2).mono ?_; clear LF; rintro x u1 ⟨⟨y, rfl⟩, hx, h1, h2, h3, h4⟩; clear c3 b0 b1 b2; have c3 := h1; have b0 := h2; have b1 := h3; have b2 := h4; have HX := hide hx; clear hx h1 h2 h3 h4))
  go_wp2
  go_end0
  exact ⟨⟨_, rfl⟩, HX.out⟩
theorem cfollow_any2 (k : CkV B O w p v q r b bt loc Lq) (gm : GoodM v.L) {e : Et} (f : FitE v.L e) {na : Option Addr} {nc : Nat} (hn : Ints w na e.n) (hnE : e.n ≠ [] → ∀ ad, na = some ad → ¬ Eo O ad.block) :
    Calls Tryz.prog 89 #[.pointer (some ⟨p, 0, none⟩), .agg #[.string (kC e.k), .int .i64 e.id, .slice na e.n.length nc]] w fun x w' => (∃ y, x = .returned y) ∧ CStp B O w p (putL v (fol v.L e)) q b bt loc Lq w' := by
  by_cases hk0 : e.k = 0
  · obtain ⟨hno, x0, x1, x2, x3, hen⟩ := f.new hk0
    have hfo : fol v.L e = Gd.updO v.L e.id (some (newL e.id e.n)) := by unfold fol; rw [if_pos hk0]
    rw [hfo, hen, hk0]
    rw [hen] at hn
    obtain ⟨nb, no, rfl, _⟩ := ints_at hn
    exact cfollow_new k gm f.ok.i1 f.ok.i2 hno hn (hnE (by rw [hen]; simp) _ rfl)
  · exact cfollow_old2 k gm f hk0 hn hnE
end
end Go.Proofs.YthfgmpooehkhgaaGreatDoor
