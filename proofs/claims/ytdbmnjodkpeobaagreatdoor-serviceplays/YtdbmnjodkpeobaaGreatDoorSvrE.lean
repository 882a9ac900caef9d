/-
  The reference's service: Start.
-/
import Derived.Test.YtdbmnjodkpeobaaGreatDoorSvrD
import Derived.Deep.RegionHeld3
import Derived.Deep.CutBlock
namespace Go.Proofs.YtdbmnjodkpeobaaGreatDoor
open Go.ChangeShapes Go.WideShapes Go.ChangeAt Go.RowKit Go.Maps

/-- What Start's loop has behind i entries. -/
structure RSt (B : Nat) (E : Nat → Prop) (u2 wr : World) (p : Nat) (v : Sv) (q : Nat) (r : Value) (pb : Nat) (i : Nat) : Prop where
  k : RsV B E wr p ⟨v.node, v.hold, v.room, v.T, false, (v.T.take i).foldl stp (ini v.hold)⟩ q r pb
  kp : Rg.Kept (fun k _ => E k) u2 wr
theorem take_fold {T : List En} {e : En} {i : Nat} (h : T[i]? = some e) (t : St) : (T.take (i + 1)).foldl stp t = stp ((T.take i).foldl stp t) e := by
  rw [List.take_add_one, h, List.foldl_append]
  rfl
/-- The entries as they lie beside the service. -/
theorem ents_at {B N : Nat} {E : Nat → Prop} {w u : World} {a : Option Addr} {xs : List Ev} (h : EntsF N w a xs) (hk : Rg.Kept (fun k _ => E k) w u) (hE : ∀ k, E k → k < N) (_hB : B ≤ N) {i : Nat} {x : Ev} (hx : xs[i]? = some x) :
    ∃ g off, a = some ⟨g, off, none⟩ ∧ (u.cell? ⟨g, off + i * 3, none⟩ = some (.string x.k) ∧ u.cell? ⟨g, off + i * 3 + 1, none⟩ = some (.int .i64 x.id) ∧ u.cell? ⟨g, off + i * 3 + 2, none⟩ = some (.slice x.av x.l.length x.cv)) ∧ Ints u x.av x.l ∧ (x.l ≠ [] → ∀ ad, x.av = some ad → N ≤ ad.block) := by
  rcases h with h | ⟨g, off, ha, hg, hc⟩
  · subst h; simp at hx
  obtain ⟨⟨h1, h2, h3⟩, h4, _⟩ := hc i x hx
  have no : ∀ (o : Obj), ¬ E g := fun _ e => by have := hE _ e; omega
  refine ⟨g, off, ha, ⟨kept_cellR hk no h1, kept_cellR hk no h2, kept_cellR hk no h3⟩, ?_, fun hne ad e => ?_⟩
  · rcases h4 with h4 | ⟨b, o', hb1, hb2, hb3, hb4⟩
    · exact .inl h4
    · exact .inr ⟨b, o', hb1, fun i hi => kept_cellR hk (fun _ e => by have : b < N := hE _ e; omega) (hb4 i hi)⟩
  · rcases h4 with h4 | ⟨b, o', hb1, hb2, _⟩
    · exact absurd h4 hne
    · rw [hb1] at e; cases e; exact hb2
theorem stp1 (t : St) (id a : Int) : stp t ⟨1, id, a⟩ = ⟨Hd.takeL t.left t.h id a, Hd.takeH t.left t.h id a, Hd.upd t.s id 1⟩ := rfl
theorem stp2 (t : St) (id a : Int) : stp t ⟨2, id, a⟩ = ⟨t.left, t.h, Hd.upd t.s id 2⟩ := rfl
theorem stp3 (t : St) (id a : Int) : stp t ⟨3, id, a⟩ = ⟨Hd.backL t.left t.h id, Hd.backH t.h id, Hd.upd t.s id 3⟩ := rfl
section
variable {B : Nat} {E : Nat → Prop} {u2 wr : World} {p : Nat} {v : Sv} {q : Nat} {r : Value} {pb : Nat}
theorem RSt.on {u : World} {i : Nat} (h : RSt B E u2 wr p v q r pb i) (hb : Below wr.heap.size wr u) : RSt B E u2 u p v q r pb i := ⟨h.k.on hb, h.kp.trans (Rg.Kept.of_below hb)⟩
end
def RsRel (B : Nat) (E : Nat → Prop) (u2 : World) (p : Nat) (v : Sv) (q : Nat) (r : Value) (pb len : Nat) (i : Value) (wr : World) : Prop :=
  ∃ j : Nat, i = .int .i64 j ∧ j ≤ len ∧ Hid (RSt B E u2 wr p v q r pb j)

theorem rsstart_up {B : Nat} {E : Nat → Prop} {w : World} {p : Nat} {v : Sv} (k : Rs B E w p v) (hd : v.down = false) :
    Calls Tryz.prog 13 #[.pointer (some ⟨p, 0, none⟩)] w fun e w' => (∃ x, e = .returned x) ∧ Below w.heap.size w w' := by
  obtain ⟨_, _, q, r, pb, k0⟩ := k
  obtain ⟨-, -, c2, -⟩ := k0.cells
  obtain ⟨⟨-, -, -, j3⟩, -⟩ := k0.jr.cells
  rw [hd] at j3
  clear k0 hd
  go_enter Tryz.func13, Tryz.ntmps13
  go_wp2
  refine bodyPost_ret (results_none rfl _ _ _) rfl ?_
  exact ⟨⟨_, rfl⟩, Below.refl _ _⟩
set_option maxRecDepth 100000 in
set_option maxHeartbeats 4000000 in
theorem rsstart_down {w0 w : World} {E : Nat → Prop} {p : Nat} {v : Sv} (hg0 : Gl w0) (hw : Below w0.heap.size w0 w) (k : Rs w0.heap.size E w p v) (hd : v.down = true) :
    Calls Tryz.prog 13 #[.pointer (some ⟨p, 0, none⟩)] w fun e w' => (∃ x, e = .returned x) ∧ Rs w0.heap.size (growE E w w') w' p (upS v) ∧ Rg.Kept (fun k _ => E k) w w' := by
  obtain ⟨hE, hG, q, r, pb, k0⟩ := id k
  have hB := k.low
  have hln : (v.T.map lnE).length = v.T.length := List.length_map _
  have hok : ∀ x ∈ v.T.map lnE, Ok x := fun x hx => by obtain ⟨e, he, rfl⟩ := List.mem_map.1 hx; exact ok_en (hG.ok e he)
  have hwh := whole_ok _ hok
  have hst : v.st = ini v.hold := by have := hG.st_; rw [hd] at this; exact this
  have j := k0.jr
  obtain ⟨-, -, c2, -⟩ := k0.cells
  obtain ⟨⟨-, -, -, j3⟩, -⟩ := j.cells
  rw [hd] at j j3
  have R : Calls Tryz.prog 30 #[.pointer (some ⟨q, 0, none⟩)] w fun e w' => (∃ x, e = .returned x) ∧ ∃ r', RsV w0.heap.size (growE E w w') w' p ⟨v.node, v.hold, v.room, v.T, false, v.st⟩ q r' pb ∧ Rg.Kept (fun k _ => E k) w w' := by
    refine (R.recover_down hg0 hw j).mono ?_
    rintro e w' ⟨h1, r', h2, h3⟩
    rw [hwh, List.take_length, hln] at h2
    exact ⟨⟨_, h1⟩, r', k0.jstep h2 h3⟩
  have HA : Hid (∀ u r', RsV w0.heap.size (growE E w u) u p ⟨v.node, v.hold, v.room, v.T, false, v.st⟩ q r' pb → Rg.Kept (fun k _ => E k) w u → u.cell? ⟨p, 2, none⟩ = some (.pointer (some ⟨q, 0, none⟩)) ∧ Calls Tryz.prog 31 #[.pointer (some ⟨q, 0, none⟩)] u (RAllF u (v.T.map lnE))) := fun u r' h1 h2 => ⟨h1.cells.2.2.1, rallF_any hg0 (hw.trans (k.bel h2)) h1.jr⟩
  have HGD := hide hG
  have HE := hide hE
  have HBB := hide hB
  have HWH := hide hwh
  have HLN := hide hln
  have HST := hide hst
  have HD := hide hd
  have HP := hide k0.ep
  clear hg0 hw k k0 hE hB hln hok hwh hst j hG hd
  go_enter Tryz.func13, Tryz.ntmps13
  go_wp2_with fail
  refine R.mono ?_
  clear R
  rintro e u1 ⟨⟨x, rfl⟩, r', h1, h2⟩
  clear c2 j3
  obtain ⟨c2, A⟩ := HA.out u1 r' h1 h2
  have H1 := hide h1
  have H2 := hide h2
  clear h1 h2 HA
  go_wp2_with fail
  refine A.mono ?_
  clear A c2
  rintro e u2 ⟨ys, a, c, rfl, hyl, hrd, hen, hb2⟩
  have hyn : ys.length = v.T.length := by rw [hyl, HWH.out, HLN.out]
  have HYN := hide hyn
  have HRD := hide hrd
  have HEN := hide hen
  obtain ⟨E1, hE1⟩ : ∃ E1, growE E w u1 = E1 := ⟨_, rfl⟩
  rw [hE1] at H1
  have hs1 := H2.out.size
  have HE1 : Hid (∀ k, E1 k → w0.heap.size ≤ k ∧ k < u1.heap.size) := by show ∀ k, _; rw [← hE1]; exact grow_in HE.out HBB.out hs1
  have HEX := hide hE1
  have HS0 : Hid (RSt w0.heap.size E1 u2 u2 p v q r' pb 0) := ⟨by have := H1.out.on hb2; rw [HST.out] at this; exact this, Rg.Kept.refl _ _⟩
  have HB2 := hide hb2
  have hl4 : ys.length ≤ 4096 := by rw [hyn, ← HLN.out]; exact H1.out.jr.2.2.2.2.1
  have HLE : Hid (w0.heap.size ≤ u1.heap.size) := by show _ ≤ _; have := HBB.out; omega
  clear hyl hrd hen hb2 hyn hE1 hs1
  obtain ⟨n, hn⟩ : ∃ n, ys.length = n := ⟨_, rfl⟩
  rw [hn] at hl4 HYN
  rw [hn]
  have HN := hide hn
  clear hn
  go_wp2_with fail
  go_loopw [23] (fun i wr => RsRel w0.heap.size E1 u2 p v q r' pb n i wr) (fun i _ => n - (intOf i).toNat)
  case atStart => exact ⟨0, rfl, Nat.zero_le _, HS0⟩
  case round =>
    obtain ⟨j, rfl, hj, HS⟩ := hrel
    clear HS0
    by_cases hlt : j < n
    rotate_left
    · have ql : ¬ (j : Int) < (n : Int) := by omega
      obtain rfl : j = n := by omega
      have HF : Hid (Rs w0.heap.size (growE E w wr) wr p (upS v) ∧ Rg.Kept (fun k _ => E k) w wr) := by
        have h3 := HS.out.k
        have h4 := HS.out.kp
        have h5 : Rg.Kept (fun k _ => E k) w wr := by
          refine kept_grow H2.out ?_
          rw [HEX.out]
          exact (Rg.Kept.of_below HB2.out).trans h4
        have e1 : upS v = ⟨v.node, v.hold, v.room, v.T, false, runT v.hold v.T⟩ := by unfold upS; rw [if_pos HD.out]
        rw [HYN.out, List.take_length] at h3
        refine ⟨⟨grow_in HE.out HBB.out h5.size, upS_good HGD.out, q, r', pb, ?_⟩, h5⟩
        rw [e1]
        refine h3.wide (fun i e => ?_)
        rw [← HEX.out] at e
        have := HB2.out.size
        have := h4.size
        exact e.imp (fun e => e) (fun e => ⟨e.1, by omega⟩)
      go_wp2
      go_end0
      exact ⟨⟨_, rfl⟩, HF.out⟩
    have ql : (j : Int) < (n : Int) := by omega
    obtain ⟨y, hy⟩ : ∃ y, ys[j]? = some y := ⟨ys[j]'(by rw [HN.out]; exact hlt), List.getElem?_eq_getElem _⟩
    obtain ⟨en, hen⟩ : ∃ en, v.T[j]? = some en := ⟨v.T[j]'(by rw [← HYN.out]; exact hlt), List.getElem?_eq_getElem _⟩
    have he : OkE en := HGD.out.ok en (List.mem_of_getElem? hen)
    have hpar := HRD.out j y hy
    have hgd : (v.T.map lnE).getD j ByteArray.empty = lnE en := by rw [List.getD_eq_getElem?_getD, List.getElem?_map, hen]; rfl
    rw [hgd] at hpar
    obtain ⟨p1, p2, p3⟩ := en_parse he hpar
    obtain ⟨g, off, rfl, ⟨g0, g1, g2⟩, hin, hblk⟩ := ents_at HEN.out HS.out.kp (fun k e => (HE1.out k e).2) HLE.out hy
    rw [p1] at g0
    rw [p2] at g1
    rw [p3] at g2 hin hblk
    have HFD : Hid (∀ u, RsV w0.heap.size E1 u p ⟨v.node, v.hold, v.room, v.T, false, stp ((v.T.take j).foldl stp (ini v.hold)) en⟩ q r' pb → Rg.Kept (fun k _ => E1 k) wr u → RSt w0.heap.size E1 u2 u p v q r' pb (j + 1)) := fun u h3 h4 => ⟨by rw [take_fold hen]; exact h3, HS.out.kp.trans h4⟩
    have hk0 := HS.out.k
    generalize (v.T.take j).foldl stp (ini v.hold) = t at hk0 HFD
    clear hpar hgd hen hy p1 p2 p3 HS
    obtain ⟨av, cv⟩ : ∃ av, y.av = av := ⟨_, rfl⟩
    rw [cv] at g2 hin hblk
    clear cv
    generalize y.cv = cv at g2
    obtain ⟨ec, ei, ea⟩ := en
    obtain ⟨I, hI⟩ : ∃ I : Nat, ei = I := ⟨ei.toNat, by have := he.id; simp only at this; omega⟩
    subst hI
    have hI2 : (I : Int) < 1000 := by have := he.id; simp only at this; omega
    have hI3 : I < 1000 := by omega
    obtain ⟨W, hW⟩ : ∃ W, W = wr.alloc (.cells #[.string (kB ec), .int .i64 I, .slice av (nB ⟨ec, I, ea⟩).length cv] 70) := ⟨_, rfl⟩
    have hbW : Below wr.heap.size wr W := by rw [hW]; exact (Below.refl _ _).alloc (Nat.le_refl _) _
    have hbD : Below W.heap.size W W.drew := (Below.refl _ _).drew
    have kW := hk0.on hbW
    have kWD := kW.on hbD
    have aW := hin.below hbW
    have hKW : Rg.Kept (fun k _ => E1 k) wr W := Rg.Kept.of_below hbW
    have hlp : pb < wr.heap.size := hk0.rb.lt
    clear hk0 hin
    have hc := he.c
    simp only at hc g0 g1 g2
    rcases hc with rfl | rfl | rfl
    · have T := Hd.rtake_any kWD.rb kWD.gd I ea
      obtain ⟨-, -, -, c3⟩ := kW.cells
      simp only [kB, nB, if_true, List.length_singleton] at hW aW g0 g2 hblk
      obtain ⟨b, o5, rfl, c5⟩ : ∃ b off, av = some ⟨b, off, none⟩ ∧ W.cell? ⟨b, off, none⟩ = some (.int .i64 ea) := by
        rcases aW with h | ⟨b, off, h1, h2⟩
        · cases h
        · exact ⟨b, off, h1, by simpa using h2 0 (by simp)⟩
      have hbl := hblk (by simp) _ rfl
      obtain ⟨b0, b1, b2⟩ := three_new wr (.string ⟨#[100, 105, 100]⟩) (.int .i64 I) (.slice (some ⟨b, o5, none⟩) 1 cv) 70
      rw [← hW] at b0 b1 b2
      have NX : Hid (∀ u, Hd.Rb w0.heap.size u pb (Hd.takeL t.left t.h I ea) (Hd.takeH t.left t.h I ea) → Rg.Kept (Hd.Own1 pb) W.drew u → RsV w0.heap.size E1 u p ⟨v.node, v.hold, v.room, v.T, false, ⟨Hd.takeL t.left t.h I ea, Hd.takeH t.left t.h I ea, t.s⟩⟩ q r' pb ∧ Rg.Kept (fun k _ => E1 k) wr u ∧ (u.cell? ⟨p, 3, none⟩ = some (.pointer (some ⟨pb, 0, none⟩)) ∧ u.cell? ⟨wr.heap.size, 1, none⟩ = some (.int .i64 I) ∧ u.cell? ⟨wr.heap.size, 2, none⟩ = some (.slice (some ⟨b, o5, none⟩) 1 cv) ∧ u.cell? ⟨b, o5, none⟩ = some (.int .i64 ea))) := fun u h1 h2 => by
        obtain ⟨h3, h4⟩ := kWD.bstep h1 (kWD.gd.take I ea) h2
        have e1 : W.heap[wr.heap.size]? = some (.cells #[.string ⟨#[100, 105, 100]⟩, .int .i64 I, .slice (some ⟨b, o5, none⟩) 1 cv] 70 (0, 0)) := by rw [hW]; exact World.alloc_heap_new wr _
        have e2 := h2.block _ _ ((hbD.block _ (Array.getElem?_eq_some_iff.1 e1).1).trans e1) (fun e => by have e : wr.heap.size = pb := e; omega)
        have hne : b ≠ pb := fun e => by have := (HE1.out _ kW.eb).2; simp only at hbl; omega
        obtain ⟨-, -, -, z3⟩ := h3.cells
        refine ⟨h3, hKW.trans ((Rg.Kept.of_below hbD).trans h4), z3, by rw [cell_of e2]; rfl, by rw [cell_of e2]; rfl, ?_⟩
        exact kept_cellR h2 (fun _ e => hne e) (cellL c5 hbD)
      have HWW := hide hW
      clear kW kWD aW hlp hKW hbW hbD hW he hblk hbl
      go_wp2_with fail
      rw [← HWW.out]
      go_region_held3 (fun w' => w'.cell? ⟨p, 3, none⟩ = some (.pointer (some ⟨pb, 0, none⟩)) ∧ w'.cell? ⟨wr.heap.size, 1, none⟩ = some (.int .i64 I) ∧ w'.cell? ⟨wr.heap.size, 2, none⟩ = some (.slice (some ⟨b, o5, none⟩) 1 cv) ∧ w'.cell? ⟨b, o5, none⟩ = some (.int .i64 ea)) (go_keep) (first
        | (go_at_call 32; refine T.mono ?_; clear T; rintro e v1 ⟨rfl, hk1, ho1⟩; clear c3 b1 b2 c5; obtain ⟨k1, hEw, c3, b1, b2, c5⟩ := NX.out v1 hk1 ho1; have HK1 := hide k1; have HE1w := hide hEw; clear hk1 ho1 k1 hEw))
      generalize Hd.takeE t.left t.h I ea = x
      clear c5 b2 c3 NX HWW b0 g0 g1 g2
      have c4 := HK1.out.cellI hI3
      have f4 := HK1.out.frozen (4 + I)
      obtain ⟨k2, hE2⟩ := HK1.out.sstep hI3 1
      have HK2 := hide k2
      have HE2 := hide (HE1w.out.trans hE2)
      clear k2 hE2
      dsimp only at c4 HK2
      generalize t.s (I : Int) = sx at c4
      go_wp2_with fail
      go_region
      all_goals go_wp2
      all_goals go_roundw
      case rel => exact ⟨j + 1, by go_num, by omega, (HFD.out _ HK2.out HE2.out).on (Below.refl _ _).drew⟩
      case measure => simp [intOf]; omega
    · obtain ⟨-, -, -, c3⟩ := kW.cells
      simp only [kB, nB, if_true, if_neg (show ¬ (2 : Nat) = 1 by decide), List.length_nil] at hW aW g0 g2 hblk
      obtain ⟨b0, b1, b2⟩ := three_new wr (.string ⟨#[99, 97, 110, 116]⟩) (.int .i64 I) (.slice av 0 cv) 70
      rw [← hW] at b0 b1 b2
      have HK1 := hide kW
      have HE1w := hide hKW
      have HWW := hide hW
      clear kW kWD aW hlp hKW hbW hbD hW he hblk
      go_upto_region 10 with fail
      rw [← HWW.out]
      clear c3 b2 b0 g0 g1 g2
      have c4 := HK1.out.cellI hI3
      have f4 := HK1.out.frozen (4 + I)
      obtain ⟨k2, hE2⟩ := HK1.out.sstep hI3 2
      have HK2 := hide k2
      have HE2 := hide (HE1w.out.trans hE2)
      clear k2 hE2
      dsimp only at c4 HK2
      generalize t.s (I : Int) = sx at c4
      go_wp2_with fail
      go_region
      all_goals go_wp2
      all_goals go_roundw
      case rel => exact ⟨j + 1, by go_num, by omega, (HFD.out _ HK2.out HE2.out).on (Below.refl _ _).drew⟩
      case measure => simp [intOf]; omega
    · have T := Hd.rback_any kWD.rb kWD.gd I
      obtain ⟨-, -, -, c3⟩ := kW.cells
      simp only [kB, nB, if_neg (show ¬ (3 : Nat) = 1 by decide), if_neg (show ¬ (3 : Nat) = 2 by decide), List.length_nil] at hW aW g0 g2 hblk
      obtain ⟨b0, b1, b2⟩ := three_new wr (.string ⟨#[117, 110, 100, 105, 100]⟩) (.int .i64 I) (.slice av 0 cv) 70
      rw [← hW] at b0 b1 b2
      have NX : Hid (∀ u, Hd.Rb w0.heap.size u pb (Hd.backL t.left t.h I) (Hd.backH t.h I) → Rg.Kept (Hd.Own1 pb) W.drew u → RsV w0.heap.size E1 u p ⟨v.node, v.hold, v.room, v.T, false, ⟨Hd.backL t.left t.h I, Hd.backH t.h I, t.s⟩⟩ q r' pb ∧ Rg.Kept (fun k _ => E1 k) wr u ∧ (u.cell? ⟨p, 3, none⟩ = some (.pointer (some ⟨pb, 0, none⟩)) ∧ u.cell? ⟨wr.heap.size, 1, none⟩ = some (.int .i64 I))) := fun u h1 h2 => by
        obtain ⟨h3, h4⟩ := kWD.bstep h1 (kWD.gd.back I) h2
        have e1 : W.heap[wr.heap.size]? = some (.cells #[.string ⟨#[117, 110, 100, 105, 100]⟩, .int .i64 I, .slice av 0 cv] 70 (0, 0)) := by rw [hW]; exact World.alloc_heap_new wr _
        have e2 := h2.block _ _ ((hbD.block _ (Array.getElem?_eq_some_iff.1 e1).1).trans e1) (fun e => by have e : wr.heap.size = pb := e; omega)
        obtain ⟨-, -, -, z3⟩ := h3.cells
        exact ⟨h3, hKW.trans ((Rg.Kept.of_below hbD).trans h4), z3, by rw [cell_of e2]; rfl⟩
      have HWW := hide hW
      clear kW kWD aW hlp hKW hbW hbD hW he hblk
      go_wp2_with fail
      rw [← HWW.out]
      go_region_held3 (fun w' => w'.cell? ⟨p, 3, none⟩ = some (.pointer (some ⟨pb, 0, none⟩)) ∧ w'.cell? ⟨wr.heap.size, 1, none⟩ = some (.int .i64 I)) (go_keep) (first
        | (go_at_call 33; refine T.mono ?_; clear T; rintro e v1 ⟨rfl, hk1, ho1⟩; clear c3 b1; obtain ⟨k1, hEw, c3, b1⟩ := NX.out v1 hk1 ho1; have HK1 := hide k1; have HE1w := hide hEw; clear hk1 ho1 k1 hEw))
      generalize Hd.backE t.h I = x
      clear c3 NX HWW b0 b2 g0 g1 g2
      have c4 := HK1.out.cellI hI3
      have f4 := HK1.out.frozen (4 + I)
      obtain ⟨k2, hE2⟩ := HK1.out.sstep hI3 3
      have HK2 := hide k2
      have HE2 := hide (HE1w.out.trans hE2)
      clear k2 hE2
      dsimp only at c4 HK2
      generalize t.s (I : Int) = sx at c4
      go_wp2_with fail
      go_region
      all_goals go_wp2
      all_goals go_roundw
      case rel => exact ⟨j + 1, by go_num, by omega, (HFD.out _ HK2.out HE2.out).on (Below.refl _ _).drew⟩
      case measure => simp [intOf]; omega
end Go.Proofs.YtdbmnjodkpeobaaGreatDoor
