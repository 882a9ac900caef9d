/-
  JournalTold: what a journal tells may be spoilt.
-/
import Derived.Test.YthjcedbjjphleaaDoorJrnJ
import Derived.Deep.RegionHeld3
namespace Go.Proofs.YthjcedbjjphleaaDoor
open Go.ChangeShapes Go.WideShapes Go.ChangeAt Go.RowKit

/-- The numbers from place j on lie as they were read, in a block that lies from B on. -/
def NumsFrom (B : Nat) (a : Option Addr) (l : List Int) (j : Nat) (w : World) : Prop :=
  l = [] ∨ ∃ b off, a = some ⟨b, off, none⟩ ∧ B ≤ b ∧ (∃ cs, w.heap[b]? = some (.cells cs 3 (0, 0))) ∧ ∀ i, j ≤ i → i < l.length → w.cell? ⟨b, off + i, none⟩ = some (.int .i64 (l.getD i 0))
theorem numsFrom_of {B : Nat} {w : World} {a : Option Addr} {l : List Int} (h : IntsF B w a l) : NumsFrom B a l 0 w := by
  rcases h with h | ⟨b, off, h1, h2, h3, h4⟩
  · exact .inl h
  · exact .inr ⟨b, off, h1, h2, h3, fun i _ hi => h4 i hi⟩
theorem NumsFrom.at {B : Nat} {w : World} {a : Option Addr} {l : List Int} {j : Nat} (h : NumsFrom B a l j w) (hj : j < l.length) :
    ∃ b off, a = some ⟨b, off, none⟩ ∧ B ≤ b ∧ (∃ cs, w.heap[b]? = some (.cells cs 3 (0, 0))) ∧ ∀ i, j ≤ i → i < l.length → w.cell? ⟨b, off + i, none⟩ = some (.int .i64 (l.getD i 0)) := by
  rcases h with h | h
  · subst h; simp at hj
  · exact h

set_option maxRecDepth 100000 in
set_option maxHeartbeats 4000000 in
theorem journalTold_walk (k0 : ByteArray) (id0 : Int) (a0 : Option Addr) (len0 cap0 : Nat) (z0 : List Int) (w : World) (wk0 : k0.size ≤ maxLen) (_wi0 : (Lit.int .i64 id0).wf = true) (w0 : IsRow .i64 w a0 len0 cap0 z0) (hg : Gl w) :
    Calls Tryd.prog 7 #[.agg #[.string k0, .int .i64 id0, .slice a0 len0 cap0]] w fun e w' => e = .returned (.bool true) ∧ Below w.heap.size w w' := by
  obtain ⟨l, rfl, hl, hi⟩ := w0.ints
  clear w0 _wi0
  have HG : Hid (Gl w) := hg
  have HI : Hid (Ints w a0 l) := hi
  have HL : Hid (l.length ≤ 9223372036854775807) := hl
  have HK0 : Hid (k0.size ≤ maxLen) := wk0
  clear hg hi hl wk0
  obtain ⟨V, hV⟩ : ∃ V, V = w.alloc (.cells #[.string k0, .int .i64 id0, .slice a0 l.length cap0] 24) := ⟨_, rfl⟩
  have hbV : Below w.heap.size w V := by rw [hV]; exact (Below.refl _ _).alloc (Nat.le_refl _) _
  have hVs : V.heap.size = w.heap.size + 1 := by rw [hV]; simp
  obtain ⟨W, hW⟩ : ∃ W, W = V.alloc (.cells #[.int .i64 9, .slice none 0 0, .int .i64 0, .bool false] 48) := ⟨_, rfl⟩
  have hbW : Below V.heap.size V W := by rw [hW]; exact (Below.refl _ _).alloc (Nat.le_refl _) _
  have J0 := Jr.new V w.heap.size (by omega) 9 (by omega) (by omega)
  rw [← hW, hVs] at J0
  have HJ0 : Hid (Jr w.heap.size W (w.heap.size + 1) (.slice none 0 0) 9 [] 0 false) := J0
  have HB : Hid (Below w.heap.size w W) := bel_on' hbV hbW
  have C0 : W.cell? ⟨w.heap.size, 0, none⟩ = some (.string k0) := cellL (by rw [hV]; simp) hbW
  have C1 : W.cell? ⟨w.heap.size, 1, none⟩ = some (.int .i64 id0) := cellL (by rw [hV]; simp) hbW
  have C2 : W.cell? ⟨w.heap.size, 2, none⟩ = some (.slice a0 l.length cap0) := cellL (by rw [hV]; simp) hbW
  have HN := new_any 9 V
  rw [show roomV 9 = 9 from rfl, hVs, hV] at HN
  have HWW : Hid (W = (w.alloc (.cells #[.string k0, .int .i64 id0, .slice a0 l.length cap0] 24)).alloc (.cells #[.int .i64 9, .slice none 0 0, .int .i64 0, .bool false] 48)) := by show W = _; rw [hW, hV]
  have AWK := fun u (hu : Below w.heap.size w u) => jawake_any u (HG.out.on hu)
  clear hV hW J0 hbV hbW hVs
  have kc : ∀ (u : World) (v : Value), Off (w.heap.size + 1) (.slice none 0 0) v W u → (u.cell? ⟨w.heap.size, 0, none⟩ = some (.string k0) ∧ u.cell? ⟨w.heap.size, 1, none⟩ = some (.int .i64 id0) ∧ u.cell? ⟨w.heap.size, 2, none⟩ = some (.slice a0 l.length cap0)) ∧ Below w.heap.size w u := fun u v ho =>
    ⟨⟨ho.cell C0 (by show w.heap.size ≠ _; omega) (by simp [Value.ownBlock]), ho.cell C1 (by show w.heap.size ≠ _; omega) (by simp [Value.ownBlock]), ho.cell C2 (by show w.heap.size ≠ _; omega) (by simp [Value.ownBlock])⟩, HB.out.trans (HJ0.out.bel ho)⟩
  have HKC := hide kc
  clear kc
  by_cases h20 : (l.length : Int) > 20
  · go_enter Tryd.func7, Tryd.ntmps7
    go_wp2_with fail
    refine HN.mono ?_
    rintro e u1 ⟨rfl, rfl⟩
    go_wp2_with fail
    rw [← HWW.out]
    refine (AWK _ HB.out).mono ?_
    rintro e u2 ⟨rfl, hb2⟩
    go_wp2
    go_ret
    exact ⟨rfl, bel_on' HB.out hb2⟩
  by_cases h50 : (k0.size : Int) > 50
  · go_enter Tryd.func7, Tryd.ntmps7
    go_wp2_with fail
    refine HN.mono ?_
    rintro e u1 ⟨rfl, rfl⟩
    go_wp2_with fail
    rw [← HWW.out]
    refine (AWK _ HB.out).mono ?_
    rintro e u2 ⟨rfl, hb2⟩
    go_wp2
    go_ret
    exact ⟨rfl, bel_on' HB.out hb2⟩
  have A := add_any HJ0.out k0 id0 a0 l cap0 HK0.out (HI.out.below HB.out) HL.out (HG.out.on HB.out)
  cases hm : mayB k0 id0 l
  · have e0 : addE 9 [] false k0 id0 l = 1 := by unfold addE; rw [if_neg (by decide), hm, if_neg (by decide)]
    rw [e0, HWW.out] at A
    go_enter Tryd.func7, Tryd.ntmps7
    go_wp2_with fail
    refine HN.mono ?_
    rintro e u1 ⟨rfl, rfl⟩
    go_wp2_with fail
    refine A.mono ?_
    rintro e u2 ⟨v2, rfl, hj2, ho2⟩
    rw [← HWW.out] at ho2
    have HB2 := hide (HKC.out u2 v2 ho2).2
    clear hj2 ho2 A
    go_wp2_with fail
    refine (AWK _ HB2.out).mono ?_
    rintro e u3 ⟨rfl, hb3⟩
    go_wp2
    go_ret
    exact ⟨rfl, bel_on' HB2.out hb3⟩
  have e0 : addE 9 [] false k0 id0 l = 0 := by unfold addE; rw [if_neg (by decide), if_pos hm, if_neg (by simp)]
  have e1 : addL 9 [] false k0 id0 l = [lineV k0 id0 l] := by unfold addL; rw [if_pos e0]; rfl
  obtain ⟨X, hX⟩ : ∃ X, lineV k0 id0 l = X := ⟨_, rfl⟩
  have HPX : Hid (ParseR X k0 id0 l 0) := by
    show ParseR X k0 id0 l 0
    rw [← hX]; unfold lineV; rw [if_pos hm]; exact parse_line hm
  have HWX : Hid ((wholeD fun s => Classical.propDecidable (Ok s)) [X] = 1) := whole_all [X] (fun x hx => by have e : x = X := (by simpa using hx); subst e; exact ⟨_, _, _, HPX.out⟩)
  rw [e0, e1, hX, HWW.out] at A
  clear e0 e1 hX hm
  go_enter Tryd.func7, Tryd.ntmps7
  go_wp2_with fail
  refine HN.mono ?_
  rintro e u1 ⟨rfl, rfl⟩
  go_wp2_with fail
  refine A.mono ?_
  rintro e u2 ⟨v2, rfl, hj2, ho2⟩
  rw [← HWW.out] at ho2
  obtain ⟨⟨d0, d1, d2⟩, hb2⟩ := HKC.out u2 v2 ho2
  have HB2 := hide hb2
  have HJ2 := hide hj2
  have D0 := hide d0
  have D1 := hide d1
  have D2 := hide d2
  have T2 := told_any HG.out hb2 hj2 3
  rw [HWX.out] at T2
  clear hj2 ho2 A d0 d1 d2 hb2
  go_wp2_with fail
  refine T2.mono ?_
  rintro e u3 ⟨xs, a3, c3, rfl, hxl, -, hrd, hrow, hgd, hb3⟩
  obtain ⟨x, rfl⟩ : ∃ x, xs = [x] := by
    match xs, hxl with
    | [x], _ => exact ⟨x, rfl⟩
  obtain ⟨ek, ei, el, -⟩ := ParseR.uniq (hrd 0 x rfl) HPX.out
  obtain ⟨g, rfl, hg1, ⟨csg, hcg⟩, hcx⟩ := ev_cells hrow (by simp)
  obtain ⟨x0, x1, x2⟩ := hcx 0 x rfl
  simp only [Nat.zero_mul, Nat.add_zero, Nat.zero_add] at x0 x1 x2
  rw [el] at x2
  have hgx := hgd x (by simp)
  unfold Good at hgx
  rw [el] at hgx
  have HB3 := hide hb3
  have HGX := hide hgx
  clear hrow hrd hgd hcx T2 ek ei el hxl hb3 hgx
  have HCG := hide hcg
  have HNF : Hid (NumsFrom u2.heap.size x.av l 0 u3) := numsFrom_of HGX.out.1
  have HCV := hide HGX.out.2.2
  clear x0 x1
  go_wp2_with fail
  go_loopw [35] (fun i wr => ∃ j : Nat, i = .int .i64 j ∧ j ≤ l.length ∧ Hid (Below u2.heap.size u2 wr) ∧ Hid (wr.heap[g]? = some (.cells csg 24 (0, 0))) ∧ wr.cell? ⟨g, 2, none⟩ = some (.slice x.av l.length x.cv) ∧ Hid (NumsFrom u2.heap.size x.av l j wr)) (fun i _ => l.length - (intOf i).toNat)
  case atStart => exact ⟨0, rfl, Nat.zero_le _, HB3, HCG, x2, HNF⟩
  case round =>
    clear HNF HCG HB3 x2 hcg
    obtain ⟨j, rfl, hj, HBr, HCg, cg2, HNf⟩ := hrel
    by_cases hlt : j < l.length
    · have ql : (j : Int) < (l.length : Int) := by omega
      obtain ⟨b, off, hav, hub, ⟨cs, hcs⟩, hcells⟩ := HNf.out.at hlt
      have hgb : g ≠ b := fun e => by
        subst e
        rw [HCg.out] at hcs
        simp only [Option.some.injEq, Obj.cells.injEq] at hcs
        exact typ_ne1.1 hcs.2.1.symm
      have cj := hcells j (Nat.le_refl _) hlt
      have fj : wr.frozen? ⟨b, off + j, none⟩ = false := frozen_of_row _ _ _ _ _ hcs
      have HST : Hid (∀ val, Below u2.heap.size u2 (wr.setCell ⟨b, off + j, none⟩ val) ∧ (wr.setCell ⟨b, off + j, none⟩ val).heap[g]? = some (.cells csg 24 (0, 0)) ∧ (wr.setCell ⟨b, off + j, none⟩ val).cell? ⟨g, 2, none⟩ = some (.slice x.av l.length x.cv) ∧ NumsFrom u2.heap.size x.av l (j + 1) (wr.setCell ⟨b, off + j, none⟩ val)) := fun val => by
        have h1 : (wr.setCell ⟨b, off + j, none⟩ val).heap[g]? = wr.heap[g]? := Below.heap_setCell _ _ _ _ hgb
        refine ⟨HBr.out.setCell (p := ⟨b, off + j, none⟩) hub _, h1.trans HCg.out, (World.cell?_of_block (a := ⟨g, 2, none⟩) h1).trans cg2, .inr ⟨b, off, hav, hub, ⟨_, heap_setCell_same _ _ _ _ _ _ hcs⟩, fun i hi hil => ?_⟩⟩
        rw [World.cell?_setCell_other _ _ _ _ (by intro e; simp at e <;> omega)]
        exact hcells i (by omega) hil
      clear hcells hcs hgb
      go_wp2
      go_roundw
      case rel => exact ⟨j + 1, by go_num, by omega, (HST.out _).1, (HST.out _).2.1, (HST.out _).2.2.1, (HST.out _).2.2.2⟩
      case measure => simp [intOf]; omega
    · have ql : ¬ (j : Int) < (l.length : Int) := by omega
      have HJr := hide (HJ2.out.on HBr.out)
      have HBw := hide (bel_on' HB2.out HBr.out)
      go_wp2_with fail
      refine (lines_any HJr.out).mono ?_
      rintro e u4 ⟨a4, c4, rfl, ho4, hb4⟩
      obtain ⟨g4, hg4, hgl, ⟨cs4, hc4⟩, c40⟩ : ∃ g, a4 = some ⟨g, 0, none⟩ ∧ wr.heap.size ≤ g ∧ (∃ cs, u4.heap[g]? = some (.cells cs 9 (0, 0))) ∧ u4.cell? ⟨g, 0, none⟩ = some (.string X) := by
        have hc := fun g hg => ho4.cells (g := g) hg
        rcases ho4.2 with ⟨_, h1⟩ | ⟨g, cap, cur, e, hb, hcur, _⟩
        · simp at h1
        · cases e
          have c1 := hc g rfl 0 (.string X) rfl
          rw [st_add] at c1
          exact ⟨g, rfl, hb, ⟨cur, hcur⟩, c1⟩
      subst hg4
      have f40 : u4.frozen? ⟨g4, 0, none⟩ = false := frozen_of_row _ _ _ _ _ hc4
      have HB5 : Hid (Below u2.heap.size u2 (u4.setCell ⟨g4, 0, none⟩ (.string ⟨#[120]⟩))) := by
        show Below u2.heap.size u2 _
        exact (bel_on' HBr.out hb4).setCell (p := ⟨g4, 0, none⟩) (Nat.le_trans HBr.out.size hgl) _
      clear ho4 hb4 hc4 cg2
      go_wp2_with fail
      obtain ⟨u5, hu5⟩ : ∃ u5, u5 = u4.setCell ⟨g4, 0, none⟩ (.string ⟨#[120]⟩) := ⟨_, rfl⟩
      rw [← hu5] at HB5 ⊢
      clear hu5 c40 f40
      have d0 := cellL D0.out HB5.out
      have d1 := cellL D1.out HB5.out
      have d2 := cellL D2.out HB5.out
      have HJ5 := hide (HJ2.out.on HB5.out)
      have HBw5 := hide (bel_on' HB2.out HB5.out)
      have CELL : Hid (∀ u, Below u5.heap.size u5 u → (u.cell? ⟨w.heap.size, 0, none⟩ = some (.string k0) ∧ u.cell? ⟨w.heap.size, 1, none⟩ = some (.int .i64 id0) ∧ u.cell? ⟨w.heap.size, 2, none⟩ = some (.slice a0 l.length cap0)) ∧ Below w.heap.size w u) := fun u hu => ⟨⟨cellL d0 hu, cellL d1 hu, cellL d2 hu⟩, bel_on' HBw5.out hu⟩
      have TA : Hid (∀ u, Below u5.heap.size u5 u → Calls Tryd.prog 12 #[.pointer (some ⟨w.heap.size + 1, 0, none⟩), .int .i64 3] u fun e w' => ∃ y a c, e = .returned (.slice a 1 c) ∧ Ents w' a [y] ∧ (y.k = k0 ∧ y.id = id0 ∧ y.l = l) ∧ Below u.heap.size u w') := fun u hu => by
        have T := told_any HG.out (bel_on' HBw5.out hu) (HJ5.out.on hu) 3
        rw [HWX.out] at T
        refine T.mono ?_
        rintro e w' ⟨ys, a, c, rfl, hyl, -, hrd, hrow, hgd, hb⟩
        obtain ⟨y, rfl⟩ : ∃ y, ys = [y] := by
          match ys, hyl with
          | [y], _ => exact ⟨y, rfl⟩
        obtain ⟨ek, ei, el, -⟩ := ParseR.uniq (hrd 0 y rfl) HPX.out
        exact ⟨y, a, c, rfl, ents_of hrow hgd, ⟨ek, ei, el⟩, hb⟩
      have SA : Hid (∀ u b a c y, Ents u a [y] → (y.k = k0 ∧ y.id = id0 ∧ y.l = l) → Below w.heap.size w u → u.heap[b]? = some (.cells #[.string k0, .int .i64 id0, .slice a0 l.length cap0] 24 (0, 0)) → Calls Tryd.prog 19 #[.slice a 1 c, .slice (some ⟨b, 0, none⟩) 1 1] u fun e w' => e = .returned (.bool true) ∧ Below u.heap.size u w') := fun u b a c y hy hyk hu hb => by
        refine jsame_any a (some ⟨b, 0, none⟩) [y] [⟨k0, id0, l, a0, cap0⟩] c 1 u (by simp) hy (.inr ⟨b, 0, rfl, fun i x hx => ?_⟩) ⟨rfl, fun i x z hx hz => ?_⟩
        · have h0 : i = 0 := by
            have := (List.getElem?_eq_some_iff.1 hx).1
            simp at this; omega
          subst h0
          simp at hx
          subst hx
          refine ⟨⟨by rw [cell_of hb]; rfl, by rw [cell_of hb]; rfl, by rw [cell_of hb]; rfl⟩, HI.out.below hu, by show l.length ≤ _; omega⟩
        · have h0 : i = 0 := by
            have := (List.getElem?_eq_some_iff.1 hx).1
            simp at this; omega
          subst h0
          simp at hx hz
          subst hx hz
          exact hyk
      have TAA := TA.out u5.drew (Below.refl _ _).drew
      have TAB := TA.out (u5.alloc (.cells #[.string k0, .int .i64 id0, .slice a0 l.length cap0] 24)).drew ((Below.refl u5.heap.size u5).alloc (Nat.le_refl _) _).drew
      have HDR : Hid (Below u5.heap.size u5 u5.drew) := (Below.refl _ _).drew
      have HDA : Hid (Below u5.heap.size u5 (u5.alloc (.cells #[.string k0, .int .i64 id0, .slice a0 l.length cap0] 24)).drew) := ((Below.refl u5.heap.size u5).alloc (Nat.le_refl _) _).drew
      have HBLK : Hid ((u5.alloc (.cells #[.string k0, .int .i64 id0, .slice a0 l.length cap0] 24)).drew.heap[u5.heap.size]? = some (.cells #[.string k0, .int .i64 id0, .slice a0 l.length cap0] 24 (0, 0))) := World.alloc_heap_new u5 _
      go_region_held3 (fun w' => w'.cell? ⟨w.heap.size, 0, none⟩ = some (.string k0) ∧ w'.cell? ⟨w.heap.size, 1, none⟩ = some (.int .i64 id0) ∧ w'.cell? ⟨w.heap.size, 2, none⟩ = some (.slice a0 l.length cap0)) (go_keep) (first
        | (go_at_call 12; with_reducible refine TAA.mono ?_; clear TAA TAB; rintro e u6 ⟨y, a6, c6, rfl, hen, hyk, hb6⟩; have HB6 := hide (bel_on' HDR.out hb6); obtain ⟨⟨d0, d1, d2⟩, hw6⟩ := CELL.out u6 HB6.out; have SAA := SA.out (u6.alloc (.cells #[.string k0, .int .i64 id0, .slice a0 l.length cap0] 24)) u6.heap.size a6 c6 y (hen.below ((Below.refl _ _).alloc (Nat.le_refl _) _)) hyk (hw6.alloc hw6.size _) (World.alloc_heap_new u6 _); have HB6A := hide (HB6.out.alloc HB6.out.size (.cells #[.string k0, .int .i64 id0, .slice a0 l.length cap0] 24)); clear hen hyk hb6 hw6)
        | (go_at_call 12; with_reducible refine TAB.mono ?_; clear TAA TAB; rintro e u6 ⟨y, a6, c6, rfl, hen, hyk, hb6⟩; have HB6 := hide (bel_on' HDA.out hb6); obtain ⟨⟨d0, d1, d2⟩, hw6⟩ := CELL.out u6 HB6.out; have SAB := SA.out u6 u5.heap.size a6 c6 y hen hyk hw6 ((hb6.block u5.heap.size (by simp)).trans HBLK.out); clear hen hyk hb6 hw6)
        | (go_at_call 19; with_reducible refine SAA.mono ?_; clear SAA; rintro e u7 ⟨rfl, hb7⟩; have HB7 := hide (bel_on' HB6A.out hb7); obtain ⟨⟨d0, d1, d2⟩, hw7⟩ := CELL.out u7 HB7.out; have AW7 := AWK u7 hw7; have HW7 := hide hw7; clear hb7 hw7)
        | (go_at_call 19; with_reducible refine SAB.mono ?_; clear SAB; rintro e u7 ⟨rfl, hb7⟩; have HB7 := hide (bel_on' HB6.out hb7); obtain ⟨⟨d0, d1, d2⟩, hw7⟩ := CELL.out u7 HB7.out; have AW7 := AWK u7 hw7; have HW7 := hide hw7; clear hb7 hw7)
        | (go_at_call 16; with_reducible refine AW7.mono ?_; clear AW7; rintro e u8 ⟨rfl, hb8⟩; have HB8 := hide (bel_on' HB7.out hb8); obtain ⟨⟨d0, d1, d2⟩, hw8⟩ := CELL.out u8 HB8.out; have HW8 := hide hw8; clear hb8 hw8))
      all_goals (go_wp2; go_ret; exact ⟨rfl, HW8.out⟩)
end Go.Proofs.YthjcedbjjphleaaDoor
