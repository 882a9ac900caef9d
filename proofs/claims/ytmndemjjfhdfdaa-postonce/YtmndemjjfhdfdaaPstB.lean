/-
  Contracts of post's Take, Double, All; those of a nil post.
-/
import Derived.Test.YtmndemjjfhdfdaaPstA
namespace Go.Proofs.Ytmndemjjfhdfdaa
open Go.ChangeShapes Go.WideShapes Go.ChangeAt Go.RowKit Go.Shelf

/-- The seven cells of a message's box. -/
theorem box7 {W : World} {q : Nat} {m : Mg} (h : W.heap[q]? = some (.cells #[.int .i64 m.k, .int .i64 m.fr, .int .i64 m.to, .int .i64 m.id, .int .i64 m.st, .int .i64 m.a, .int .i64 m.b] 35 (0, 0))) :
    W.cell? ⟨q, 0, none⟩ = some (.int .i64 m.k) ∧ W.cell? ⟨q, 1, none⟩ = some (.int .i64 m.fr) ∧ W.cell? ⟨q, 2, none⟩ = some (.int .i64 m.to) ∧ W.cell? ⟨q, 3, none⟩ = some (.int .i64 m.id) ∧ W.cell? ⟨q, 4, none⟩ = some (.int .i64 m.st) ∧ W.cell? ⟨q, 5, none⟩ = some (.int .i64 m.a) ∧ W.cell? ⟨q, 6, none⟩ = some (.int .i64 m.b) := by
  refine ⟨?_, ?_, ?_, ?_, ?_, ?_, ?_⟩ <;> rw [cell_of h] <;> rfl
theorem frz7 {W : World} {q : Nat} {cs : Array Value} {t : TypeId} (h : W.heap[q]? = some (.cells cs t (0, 0))) :
    W.frozen? ⟨q, 0, none⟩ = false ∧ W.frozen? ⟨q, 1, none⟩ = false ∧ W.frozen? ⟨q, 2, none⟩ = false ∧ W.frozen? ⟨q, 3, none⟩ = false ∧ W.frozen? ⟨q, 4, none⟩ = false ∧ W.frozen? ⟨q, 5, none⟩ = false ∧ W.frozen? ⟨q, 6, none⟩ = false := by
  refine ⟨?_, ?_, ?_, ?_, ?_, ?_, ?_⟩ <;> exact frozen_of_row _ _ _ _ _ h
/-- Seven stores into a message's box. -/
theorem put7 {W W' : World} {q : Nat} {m m' : Mg} (h : W.heap[q]? = some (.cells #[.int .i64 m.k, .int .i64 m.fr, .int .i64 m.to, .int .i64 m.id, .int .i64 m.st, .int .i64 m.a, .int .i64 m.b] 35 (0, 0))) (hW : W' = W.setCells q 0 (mgC m')) : W'.heap[q]? = some (.cells #[.int .i64 m'.k, .int .i64 m'.fr, .int .i64 m'.to, .int .i64 m'.id, .int .i64 m'.st, .int .i64 m'.a, .int .i64 m'.b] 35 (0, 0)) ∧ Rg.Kept (fun k _ => k = q) W W' := by
  subst hW
  refine ⟨set7 h m', ?_⟩
  obtain ⟨⟨r1, r2, r3, r4⟩, r5⟩ := setCells_rest q (mgC m') 0 W
  exact ⟨r1, r2, r3, by rw [r4]; exact Nat.le_refl _, fun i o hi hx => (r5 i hx).trans hi⟩
theorem results_ct {P : Program} {fn : Func} {p q : Tmp} {ty : TypeId} (h : fn.results = #[.cell p ty, .tmp q]) (tmps : Array Value) (w : World) (g : Nat) (t : TypeId) (cs : Array Value) (fr : Nat × Nat) (d : TypeDesc)
    (hp : tmps.getD p undef = .pointer (some ⟨g, 0, none⟩)) (hg : w.heap[g]? = some (.cells cs t fr)) (hu : P.underlying ty = some d) (hd : (match d with | .struct _ | .array _ _ => true | _ => false) = true) (hi : (P.info? ty).map (·.size) = some cs.size) :
    (results fn tmps).run P w = .ok (.tuple #[.agg cs, tmps.getD q undef]) w := by
  have hp' : tmps[p]?.getD undef = .pointer (some ⟨g, 0, none⟩) := by simpa using hp
  simp [results, h, hp', asAddr, run_loadVar_row w g t ty cs fr d hg hu hd hi]
theorem atnil_any (i : Int) (w : World) : Calls Try.prog 23 #[.pointer none, .int .i64 i] w fun e w' => e = .returned (.tuple #[.agg #[.int .i64 zeroM.k, .int .i64 zeroM.fr, .int .i64 zeroM.to, .int .i64 zeroM.id, .int .i64 zeroM.st, .int .i64 zeroM.a, .int .i64 zeroM.b], .bool false]) ∧ Below w.heap.size w w' := by
  have HI := hide (AtI.first w i)
  go_enter Try.func23, Try.ntmps23
  go_wp2
  refine bodyPost_ret (results_two Try.results23 _ _ _ _ _ _ _ _ _ rfl HI.out.2.1 Try.underlying35 rfl (by kernel_rfl) rfl Try.isAgg4 HI.out.2.2.1.cell) rfl ?_
  exact ⟨rfl, HI.out.2.2.2.1⟩

/-- The box of Take's first answer. -/
def tkW (w : World) : World := w.alloc (.cells #[.int .i64 0, .int .i64 0, .int .i64 0, .int .i64 0, .int .i64 0, .int .i64 0, .int .i64 0] 35)

set_option maxRecDepth 100000 in
set_option maxHeartbeats 4000000 in
theorem ttake_any {B : Nat} {E : Nat → Prop} {w : World} {p : Nat} {s : Ps} (k : Pt B E w p s) (i : Int) :
    Calls Try.prog 14 #[.pointer (some ⟨p, 0, none⟩), .int .i64 i] w fun e w' => e = .returned (.tuple #[.agg #[.int .i64 (atPs s.l i).k, .int .i64 (atPs s.l i).fr, .int .i64 (atPs s.l i).to, .int .i64 (atPs s.l i).id, .int .i64 (atPs s.l i).st, .int .i64 (atPs s.l i).a, .int .i64 (atPs s.l i).b], .bool (inP s.l i)]) ∧ Pt B E w' p (takPs s i) ∧ Rg.Kept (fun i _ => E i) w w' := by
  have hb0 : Below w.heap.size w (tkW w) := bel_al (Below.refl _ _) _
  have hx0 : (tkW w).heap[w.heap.size]? = some (.cells #[.int .i64 zeroM.k, .int .i64 zeroM.fr, .int .i64 zeroM.to, .int .i64 zeroM.id, .int .i64 zeroM.st, .int .i64 zeroM.a, .int .i64 zeroM.b] 35 (0, 0)) := World.alloc_heap_new _ _
  have A := at_any (k.on hb0) i
  obtain ⟨m, hm⟩ : ∃ m, atPs s.l i = m := ⟨_, rfl⟩
  rw [hm] at A ⊢
  clear hm
  have HK := hide k
  have HB0 := hide hb0
  have HX0 := hide hx0
  unfold tkW at A
  by_cases hin : inP s.l i = true
  · obtain ⟨j, rfl⟩ : ∃ j : Nat, i = j := ⟨i.toNat, by have := (inP_iff.1 hin).1; omega⟩
    have hj : j < s.l.length := by have := (inP_iff.1 hin).2; omega
    have HT : Hid (takPs s j = ⟨s.most, s.l.eraseIdx j, s.lost⟩) := by show _ = _; unfold takPs; rw [if_pos hin]; rfl
    have HGT := hide (k.good.tak j)
    rw [hin] at A ⊢
    have HC : Hid (∀ u, Below w.heap.size w u → Calls Try.prog 22 #[.pointer (some ⟨p, 0, none⟩), .int .i64 j] u fun e w' => e = .returned (.tuple #[]) ∧ Pt B E w' p (takPs s j) ∧ Rg.Kept (fun i _ => E i) w w' ∧ Rg.Kept (fun i _ => E i) u w') := fun u hb => by
      obtain ⟨h1, h2, h3, v, hv⟩ := HK.out.on hb
      refine (tcut_any h2 hv hj).mono ?_
      rintro e w' ⟨rfl, ⟨v', hv'⟩, hk⟩
      have hk2 := (Rg.Kept.of_below hb).trans hk
      refine ⟨rfl, ⟨fun i e => ⟨(h1 i e).1, Nat.lt_of_lt_of_le (h1 i e).2 hk.size⟩, h2, HGT.out, v', ?_⟩, hk2, hk⟩
      rw [HT.out]
      exact hv'
    clear k hin HGT HT hb0 hx0
    go_enter Try.func14, Try.ntmps14
    go_wp2_with fail
    refine A.mono ?_
    rintro e w1 ⟨rfl, hb⟩
    have hb : Below (tkW w).heap.size (tkW w) w1 := hb
    have HB1 := hide (bel_on' HB0.out hb)
    have hx1 := (hb.block _ (Array.getElem?_eq_some_iff.1 HX0.out).1).trans HX0.out
    have HX1 := hide hx1
    have C := HC.out (w1.alloc (.cells #[.int .i64 m.k, .int .i64 m.fr, .int .i64 m.to, .int .i64 m.id, .int .i64 m.st, .int .i64 m.a, .int .i64 m.b] 35)) (bel_al HB1.out _)
    clear A hb hx1 HC
    go_wp2_with fail
    refine C.mono ?_
    rintro e w2 ⟨rfl, hP, hk2, hk3⟩
    have hz := HB1.out.size
    have hx2 := hk3.block _ _ ((Below.heap_alloc w1 (.cells #[.int .i64 m.k, .int .i64 m.fr, .int .i64 m.to, .int .i64 m.id, .int .i64 m.st, .int .i64 m.a, .int .i64 m.b] 35) _ (Array.getElem?_eq_some_iff.1 HX1.out).1).trans HX1.out) (fun e => by have := (HK.out.1 _ e).2; omega)
    have hm2 := hk3.block _ _ (World.alloc_heap_new w1 (.cells #[.int .i64 m.k, .int .i64 m.fr, .int .i64 m.to, .int .i64 m.id, .int .i64 m.st, .int .i64 m.a, .int .i64 m.b] 35)) (fun e => by have := (HK.out.1 _ e).2; omega)
    obtain ⟨b0, b1, b2, b3, b4, b5, b6⟩ := box7 hm2
    obtain ⟨r0, r1, r2, r3, r4, r5, r6⟩ := box7 hx2
    obtain ⟨f0, f1, f2, f3, f4, f5, f6⟩ := frz7 hx2
    have HX2 := hide hx2
    have HP2 := hide hP
    have HK2 := hide hk2
    have HF := hide (put7 (m' := m) hx2 rfl)
    unfold mgC at HF
    simp only [World.setCells, Nat.reduceAdd] at HF
    clear C hx2 hm2 hP hk2 hk3 hz
    go_wp2
    refine bodyPost_ret (results_ct Try.results14 _ _ _ _ _ _ _ rfl HF.out.1 Try.underlying35 rfl (by kernel_rfl)) rfl ?_
    refine ⟨rfl, HP2.out.kept HF.out.2 (fun i _ e e2 => ?_), kept_more HK2.out HF.out.2 (fun i _ e => .inr (Nat.le_of_eq e.symm))⟩
    have := (HK.out.1 i e).2
    omega
  · have hin : inP s.l i = false := by simpa using hin
    have HT : Hid (takPs s i = s) := by show _ = _; unfold takPs; rw [hin]; rfl
    rw [hin] at A ⊢
    rw [HT.out]
    clear k hin HT hb0 hx0
    go_enter Try.func14, Try.ntmps14
    go_wp2_with fail
    refine A.mono ?_
    rintro e w1 ⟨rfl, hb⟩
    have hb : Below (tkW w).heap.size (tkW w) w1 := hb
    have HB1 := hide (bel_on' HB0.out hb)
    have hx1 := (hb.block _ (Array.getElem?_eq_some_iff.1 HX0.out).1).trans HX0.out
    have hz := HB1.out.size
    have hlt := (Array.getElem?_eq_some_iff.1 hx1).1
    have hx2 := (Below.heap_alloc w1 (.cells #[.int .i64 m.k, .int .i64 m.fr, .int .i64 m.to, .int .i64 m.id, .int .i64 m.st, .int .i64 m.a, .int .i64 m.b] 35) _ hlt).trans hx1
    obtain ⟨r0, r1, r2, r3, r4, r5, r6⟩ := box7 hx1
    obtain ⟨f0, f1, f2, f3, f4, f5, f6⟩ := frz7 hx1
    have HF := hide (put7 (m' := m) hx1 rfl)
    unfold mgC at HF
    simp only [World.setCells, Nat.reduceAdd] at HF
    clear A hb hx1 hx2
    go_wp2
    refine bodyPost_ret (results_ct Try.results14 _ _ _ _ _ _ _ rfl ((Below.heap_alloc _ _ _ (Array.getElem?_eq_some_iff.1 HF.out.1).1).trans HF.out.1) Try.underlying35 rfl (by kernel_rfl)) rfl ?_
    refine ⟨rfl, ((HK.out.on HB1.out).kept HF.out.2 (fun i _ e e2 => ?_)).on (bel_al (Below.refl _ _) _), (kept_more (Rg.Kept.of_below HB1.out) HF.out.2 (fun i _ e => .inr (Nat.le_of_eq e.symm))).trans (Rg.Kept.alloc _)⟩
    have := (HK.out.1 i e).2
    omega

set_option maxRecDepth 100000 in
set_option maxHeartbeats 4000000 in
theorem tdbl_any {B : Nat} {E : Nat → Prop} {w : World} {p : Nat} {s : Ps} (k : Pt B E w p s) (i : Int) :
    Calls Try.prog 16 #[.pointer (some ⟨p, 0, none⟩), .int .i64 i] w fun e w' => e = .returned (.bool (inP s.l i)) ∧ Pt B (growE E w w') w' p (dblPs s i) ∧ Rg.Kept (fun i _ => E i) w w' := by
  have A := at_any k i
  obtain ⟨m, hm⟩ : ∃ m, atPs s.l i = m := ⟨_, rfl⟩
  rw [hm] at A
  have HM := hide hm
  clear hm
  have HK := hide k
  by_cases hin : inP s.l i = true
  · have HT : Hid (dblPs s i = putPs s [m]) := by show _ = _; unfold dblPs; rw [if_pos hin, HM.out]; rfl
    rw [hin] at A ⊢
    rw [HT.out]
    have HC : Hid (∀ u, Below w.heap.size w u → Calls Try.prog 12 #[.pointer (some ⟨p, 0, none⟩), .slice (some ⟨u.heap.size, 0, none⟩) 1 1] (u.alloc (.cells #[.int .i64 m.k, .int .i64 m.fr, .int .i64 m.to, .int .i64 m.id, .int .i64 m.st, .int .i64 m.a, .int .i64 m.b] 35)) fun e w' => e = .returned (.tuple #[]) ∧ Pt B (growE E w w') w' p (putPs s [m]) ∧ Rg.Kept (fun i _ => E i) w w') := fun u hb => by
      have hb2 := bel_al hb (.cells #[.int .i64 m.k, .int .i64 m.fr, .int .i64 m.to, .int .i64 m.id, .int .i64 m.st, .int .i64 m.a, .int .i64 m.b] 35)
      refine (tput_any (HK.out.on hb2) (mgs_one u m) (c := 1) (fun _ ad e he => ?_) (by simp)).mono ?_
      · cases e
        have h1 := (HK.out.1 _ he).2
        have h2 := hb.size
        dsimp only at h1
        omega
      · rintro e w' ⟨rfl, hP, hk⟩
        have hk2 := (Rg.Kept.of_below hb2).trans hk
        exact ⟨rfl, hP.wide (fun i e => e.imp id (fun e => ⟨Nat.le_trans hb2.size e.1, e.2⟩)) (grow_in HK.out hk2), hk2⟩
    clear k hin HT HM
    go_enter Try.func16, Try.ntmps16
    go_wp2_with fail
    refine A.mono ?_
    rintro e w1 ⟨rfl, hb⟩
    have C := HC.out (w1.alloc (.cells #[.int .i64 m.k, .int .i64 m.fr, .int .i64 m.to, .int .i64 m.id, .int .i64 m.st, .int .i64 m.a, .int .i64 m.b] 35)) (bel_al hb _)
    rw [World.size_alloc] at C
    clear A hb HC
    go_wp2_with fail
    refine C.mono ?_
    rintro e w2 ⟨rfl, hP, hk2⟩
    have HP2 := hide hP
    have HK2 := hide hk2
    clear C hP hk2
    go_wp2
    go_ret
    exact ⟨rfl, HP2.out, HK2.out⟩
  · have hin : inP s.l i = false := by simpa using hin
    have HT : Hid (dblPs s i = s) := by show _ = _; unfold dblPs; rw [hin]; rfl
    rw [hin] at A ⊢
    rw [HT.out]
    clear k hin HT HM
    go_enter Try.func16, Try.ntmps16
    go_wp2_with fail
    refine A.mono ?_
    rintro e w1 ⟨rfl, hb⟩
    have HB1 := hide hb
    clear A hb
    go_wp2
    go_ret
    exact ⟨rfl, ((HK.out.on HB1.out).on (bel_al (Below.refl _ _) _)).grow HK.out.low, Rg.Kept.of_below (bel_al HB1.out _)⟩
theorem ttakenil_any (i : Int) (w : World) : Calls Try.prog 14 #[.pointer none, .int .i64 i] w fun e w' => e = .returned (.tuple #[.agg #[.int .i64 zeroM.k, .int .i64 zeroM.fr, .int .i64 zeroM.to, .int .i64 zeroM.id, .int .i64 zeroM.st, .int .i64 zeroM.a, .int .i64 zeroM.b], .bool false]) ∧ Below w.heap.size w w' := by
  have hb0 : Below w.heap.size w (tkW w) := bel_al (Below.refl _ _) _
  have hx0 : (tkW w).heap[w.heap.size]? = some (.cells #[.int .i64 zeroM.k, .int .i64 zeroM.fr, .int .i64 zeroM.to, .int .i64 zeroM.id, .int .i64 zeroM.st, .int .i64 zeroM.a, .int .i64 zeroM.b] 35 (0, 0)) := World.alloc_heap_new _ _
  have A := atnil_any i (tkW w)
  have HB0 := hide hb0
  have HX0 := hide hx0
  unfold tkW at A
  clear hb0 hx0
  go_enter Try.func14, Try.ntmps14
  go_wp2_with fail
  refine A.mono ?_
  rintro e w1 ⟨rfl, hb⟩
  have hb : Below (tkW w).heap.size (tkW w) w1 := hb
  have HB1 := hide (bel_on' HB0.out hb)
  have hx1 := (hb.block _ (Array.getElem?_eq_some_iff.1 HX0.out).1).trans HX0.out
  have hlt := (Array.getElem?_eq_some_iff.1 hx1).1
  obtain ⟨r0, r1, r2, r3, r4, r5, r6⟩ := box7 hx1
  obtain ⟨f0, f1, f2, f3, f4, f5, f6⟩ := frz7 hx1
  have HF := hide (put7 (m' := zeroM) hx1 rfl)
  unfold mgC at HF
  simp only [World.setCells, Nat.reduceAdd] at HF
  clear A hb hx1
  go_wp2
  refine bodyPost_ret (results_ct Try.results14 _ _ _ _ _ _ _ rfl ((Below.heap_alloc _ _ _ (Array.getElem?_eq_some_iff.1 HF.out.1).1).trans HF.out.1) Try.underlying35 rfl (by kernel_rfl)) rfl ?_
  exact ⟨rfl, ((kept_more (E := fun _ _ => False) (Rg.Kept.of_below HB1.out) HF.out.2 (fun i _ e => .inr (Nat.le_of_eq e.symm))).trans (Rg.Kept.alloc _)).bel (Nat.le_refl _) (fun _ _ h => h.elim)⟩
theorem tdblnil_any (i : Int) (w : World) : Calls Try.prog 16 #[.pointer none, .int .i64 i] w fun e w' => e = .returned (.bool false) ∧ Below w.heap.size w w' := by
  have A := atnil_any i w
  go_enter Try.func16, Try.ntmps16
  go_wp2_with fail
  refine A.mono ?_
  rintro e w1 ⟨rfl, hb⟩
  have HB1 := hide hb
  clear A hb
  go_wp2
  go_ret
  exact ⟨rfl, bel_al HB1.out _⟩
/-- An iterator over the messages L, all of whose blocks lie at N or above: its box lies at Bi. -/
def EachM (N : Nat) (W : World) (Bi : Nat) (L : List Mg) : Prop :=
  N ≤ Bi ∧ ∃ a c, W.heap[Bi]? = some (.cells #[.slice a L.length c] 30 (0, 0)) ∧ Mgs W a L ∧ ∀ ad, a = some ad → N ≤ ad.block ∧ ad.block < W.heap.size
theorem tall_any {B : Nat} {E : Nat → Prop} {w : World} {p : Nat} {s : Ps} (k : Pt B E w p s) :
    Calls Try.prog 24 #[.pointer (some ⟨p, 0, none⟩)] w fun e w' => ∃ Bi, e = .returned (.func (.func 28) #[] #[.pointer (some ⟨Bi, 0, none⟩)]) ∧ Below w.heap.size w w' ∧ EachM w.heap.size w' Bi s.l := by
  obtain ⟨-, -, hG, v, hv⟩ := k
  obtain ⟨av, cv, rfl, -⟩ := row_slice hv.2.1
  have c1 := hv.cell1
  have C := cln_any (c := cv) (show s.l.length ≤ 1000000 by have h1 := hG.len; have h2 := hG.m2; omega) (row_mgs hv.2.1) (fun e => by
    subst e
    obtain ⟨h1, h2⟩ := row_none hv.2.1
    exact ⟨List.eq_nil_of_length_eq_zero h1, h2⟩)
  clear hv hG
  go_enter Try.func24, Try.ntmps24
  go_wp2_with fail
  refine C.mono ?_
  rintro e w1 ⟨a1, e1, rfl, hc1, hn1, hr1, hb1⟩
  have HR := hide hr1
  have HB := hide hb1
  have EA := each_any a1 s.l.length e1 w1
  clear C hr1 hb1 hn1 hc1
  go_wp2_with fail
  refine EA.mono ?_
  rintro e w2 ⟨rfl, hw2⟩
  have HW := hide hw2
  clear EA hw2
  go_wp2
  go_ret
  refine ⟨_, rfl, ?_⟩
  rw [HW.out]
  refine ⟨bel_al HB.out _, HB.out.size, a1, e1, World.alloc_heap_new _ _, (row_mgs HR.out).below (bel_al (Below.refl _ _) _), fun ad e => ?_⟩
  subst e
  have := HR.out.lt ad.block rfl
  simp
  omega
theorem tallnil_any (w : World) :
    Calls Try.prog 24 #[.pointer none] w fun e w' => ∃ Bi, e = .returned (.func (.func 28) #[] #[.pointer (some ⟨Bi, 0, none⟩)]) ∧ Below w.heap.size w w' ∧ EachM w.heap.size w' Bi [] := by
  have EA := each_any none 0 0 w
  go_enter Try.func24, Try.ntmps24
  go_wp2_with fail
  refine EA.mono ?_
  rintro e w2 ⟨rfl, hw2⟩
  have HW := hide hw2
  clear EA hw2
  go_wp2
  go_ret
  refine ⟨_, rfl, ?_⟩
  rw [HW.out]
  exact ⟨bel_al (Below.refl _ _) _, Nat.le_refl _, none, 0, World.alloc_heap_new _ _, .inl rfl, fun ad e => by cases e⟩
end Go.Proofs.Ytmndemjjfhdfdaa
