/-
  Contracts of post's at, Take, Double, All.
-/
import Derived.Test.YtmndemjjfhdfdaaPstI
import Derived.Laws.ResultCell
import Derived.Laws.Rows
namespace Go.Proofs.Ytmndemjjfhdfdaa
open Go.ChangeShapes Go.WideShapes Go.ChangeAt Go.RowKit Go.Shelf

attribute [local go_sem] Oper.semAt_some

/-- The boxes of at: the place that is asked for, both answers. -/
def atW (w : World) (i : Int) : World := ((w.alloc (.cells #[.int .i64 i] 3)).alloc (.cells #[.int .i64 0, .int .i64 0, .int .i64 0, .int .i64 0, .int .i64 0, .int .i64 0, .int .i64 0] 35)).alloc (.cells #[.bool false] 4)
/-- What at's loop has: the boxes, as they stand. -/
def AtI (w : World) (i : Int) (m : Mg) (b : Bool) (W : World) : Prop :=
  Boxed W w.heap.size 3 (.int .i64 i) ∧ W.heap[w.heap.size + 1]? = some (.cells #[.int .i64 m.k, .int .i64 m.fr, .int .i64 m.to, .int .i64 m.id, .int .i64 m.st, .int .i64 m.a, .int .i64 m.b] 35 (0, 0)) ∧ Boxed W (w.heap.size + 1 + 1) 4 (.bool b) ∧ Below w.heap.size w W ∧ w.heap.size + 3 ≤ W.heap.size
theorem AtI.own {w : World} {i : Int} {X : Nat} {m : Mg} {b : Bool} (hX : w.heap.size ≤ X) : OwnFrom X (fun (_ : List (Mg × Nat)) W => AtI w i m b W) := fun _ W W' row hs hg hr => by
  obtain ⟨h1, h2, h3, h6, h7⟩ := hs
  refine ⟨(cells_stay hg hr h1).trans h1, (cells_stay hg hr h2).trans h2, (cells_stay hg hr h3).trans h3, ?_, Nat.le_trans h7 hg.size⟩
  exact h6.grown hg h6.size (fun k e => Nat.le_trans hX (hr k e).1)
theorem AtI.first (w : World) (i : Int) : AtI w i zeroM false (atW w i) := by
  unfold atW
  have z : (w.alloc (.cells #[.int .i64 i] 3)).heap.size = w.heap.size + 1 := by simp
  have h2 := World.alloc_heap_new (w.alloc (.cells #[.int .i64 i] 3)) (.cells #[.int .i64 0, .int .i64 0, .int .i64 0, .int .i64 0, .int .i64 0, .int .i64 0, .int .i64 0] 35)
  have h3 := World.alloc_heap_new ((w.alloc (.cells #[.int .i64 i] 3)).alloc (.cells #[.int .i64 0, .int .i64 0, .int .i64 0, .int .i64 0, .int .i64 0, .int .i64 0, .int .i64 0] 35)) (.cells #[.bool false] 4)
  rw [World.size_alloc, World.size_alloc] at h3
  rw [World.size_alloc] at h2
  refine ⟨?_, ?_, h3, bel_al (bel_al (bel_al (Below.refl _ _) _) _) _, by simp⟩
  · exact (Below.heap_alloc _ _ _ (by simp; omega)).trans ((Below.heap_alloc _ _ _ (by simp)).trans (World.alloc_heap_new w _))
  · exact (Below.heap_alloc _ _ _ (by simp)).trans h2

theorem results_two {P : Program} {fn : Func} {p q : Tmp} {ty ty2 : TypeId} (h : fn.results = #[.cell p ty, .cell q ty2]) (tmps : Array Value) (w : World) (g g2 : Nat) (t : TypeId) (cs : Array Value) (fr : Nat × Nat) (d : TypeDesc) (v : Value)
    (hp : tmps.getD p undef = .pointer (some ⟨g, 0, none⟩)) (hg : w.heap[g]? = some (.cells cs t fr)) (hu : P.underlying ty = some d) (hd : (match d with | .struct _ | .array _ _ => true | _ => false) = true) (hi : (P.info? ty).map (·.size) = some cs.size)
    (hq : tmps.getD q undef = .pointer (some ⟨g2, 0, none⟩)) (ha : ∀ w, (isAgg ty2).run P w = .ok false w) (hc : w.cell? ⟨g2, 0, none⟩ = some v) :
    (results fn tmps).run P w = .ok (.tuple #[.agg cs, v]) w := by
  have hp' : tmps[p]?.getD undef = .pointer (some ⟨g, 0, none⟩) := by simpa using hp
  have hq' : tmps[q]?.getD undef = .pointer (some ⟨g2, 0, none⟩) := by simpa using hq
  have hl : (loadVar ty2 ⟨g2, 0, none⟩).run P w = .ok v w := by
    unfold loadVar
    rw [Sem.run_bind, ha w]
    simp [go_sem, hc]
  simp [results, h, hp', hq', asAddr, run_loadVar_row w g t ty cs fr d hg hu hd hi, hl]
/-- A round's frame: the box of the message that came lies at q. -/
def AtA (w : World) (p : Nat) (i : Int) (sv : Value) (x : Mg × Nat) (q : Nat) : Act :=
  { tmps := #[.pointer (some ⟨p, 0, none⟩), .int .i64 i, undef, .pointer (some ⟨w.heap.size, 0, none⟩), .pointer (some ⟨w.heap.size + 1, 0, none⟩), .pointer (some ⟨w.heap.size + 1 + 1, 0, none⟩), .int .i64 x.2, .pointer (some ⟨q, 0, none⟩), .pointer (some ⟨p, 0, none⟩), .bool false, undef, .pointer (some ⟨p, 0, none⟩), .pointer (some ⟨p, 0, none⟩), .pointer (some ⟨p, 1, none⟩), sv, .func (.func 28) #[] #[.pointer (some ⟨w.heap.size + 1 + 1 + 1, 0, none⟩)], .int .i64 x.2, .agg #[.int .i64 x.1.k, .int .i64 x.1.fr, .int .i64 x.1.to, .int .i64 x.1.id, .int .i64 x.1.st, .int .i64 x.1.a, .int .i64 x.1.b], undef, undef, undef, undef, undef], defers := [] }
def AtX (w : World) (p : Nat) (i : Int) (sv : Value) (x : Mg × Nat) (a' : Act) (W : World) : Prop :=
  ∃ q, w.heap.size + 1 + 1 + 1 ≤ q ∧ W.heap[q]? = some (.cells #[.int .i64 x.1.k, .int .i64 x.1.fr, .int .i64 x.1.to, .int .i64 x.1.id, .int .i64 x.1.st, .int .i64 x.1.a, .int .i64 x.1.b] 35 (0, 0)) ∧ a' = AtA w p i sv x q
theorem set7 {W : World} {g : Nat} {m : Mg} (h : W.heap[g]? = some (.cells #[.int .i64 m.k, .int .i64 m.fr, .int .i64 m.to, .int .i64 m.id, .int .i64 m.st, .int .i64 m.a, .int .i64 m.b] 35 (0, 0))) (m' : Mg) : (W.setCells g 0 (mgC m')).heap[g]? = some (.cells #[.int .i64 m'.k, .int .i64 m'.fr, .int .i64 m'.to, .int .i64 m'.id, .int .i64 m'.st, .int .i64 m'.a, .int .i64 m'.b] 35 (0, 0)) := by
  have e0 := heap_setCell_same W g 0 _ _ (.int .i64 m'.k) h
  have e1 := heap_setCell_same _ g 1 _ _ (.int .i64 m'.fr) e0
  have e2 := heap_setCell_same _ g 2 _ _ (.int .i64 m'.to) e1
  have e3 := heap_setCell_same _ g 3 _ _ (.int .i64 m'.id) e2
  have e4 := heap_setCell_same _ g 4 _ _ (.int .i64 m'.st) e3
  have e5 := heap_setCell_same _ g 5 _ _ (.int .i64 m'.a) e4
  have e6 := heap_setCell_same _ g 6 _ _ (.int .i64 m'.b) e5
  unfold mgC
  simp only [World.setCells]
  simpa using e6
/-- Both answers are stored. -/
theorem AtI.set {w W : World} {i : Int} {m m' : Mg} {b b' : Bool} (h : AtI w i m b W) {W' : World} (hW : W' = (W.setCells (w.heap.size + 1) 0 (mgC m')).setCell ⟨w.heap.size + 1 + 1, 0, none⟩ (.bool b')) :
    AtI w i m' b' W' ∧ Rg.Kept (fun k _ => k = w.heap.size + 1 ∨ k = w.heap.size + 1 + 1) W W' := by
  subst hW
  obtain ⟨h1, h2, h3, h6, h7⟩ := h
  have c1 := set7 h2 m'
  obtain ⟨⟨r1, r2, r3, r4⟩, r5⟩ := setCells_rest (w.heap.size + 1) (mgC m') 0 W
  obtain ⟨V, hV⟩ : ∃ V, W.setCells (w.heap.size + 1) 0 (mgC m') = V := ⟨_, rfl⟩
  rw [hV] at c1 r1 r2 r3 r4 r5 ⊢
  have hb : Boxed V (w.heap.size + 1 + 1) 4 (.bool b) := (r5 _ (by omega)).trans h3
  refine ⟨⟨?_, ?_, hb.set _, ?_, ?_⟩, ⟨r1, r2, r3, by simp [r4], fun k o hk hx => ?_⟩⟩
  · exact (Below.heap_setCell _ _ _ _ (show w.heap.size ≠ w.heap.size + 1 + 1 by omega)).trans ((r5 _ (by omega)).trans h1)
  · exact (Below.heap_setCell _ _ _ _ (show w.heap.size + 1 ≠ w.heap.size + 1 + 1 by omega)).trans c1
  · refine ⟨r1.trans h6.os, r2.trans h6.tape, r3.trans h6.output, by simp [r4]; exact h6.size, fun k hk => ?_⟩
    exact (Below.heap_setCell _ _ _ _ (show k ≠ w.heap.size + 1 + 1 by omega)).trans ((r5 _ (by omega)).trans (h6.block k hk))
  · simp [r4]; exact h7
  · exact (Below.heap_setCell _ _ _ _ (show k ≠ w.heap.size + 1 + 1 from fun e => hx (.inr e))).trans ((r5 _ (fun e => hx (.inl e))).trans hk)

theorem AtI.fin {w V : World} {i : Int} {m : Mg} {b : Bool} {D : Nat} (h : AtI w i m b V) (hD : w.heap.size + 4 ≤ D) (o : Obj) :
    (V.putObj D o).heap[w.heap.size + 1]? = some (.cells #[.int .i64 m.k, .int .i64 m.fr, .int .i64 m.to, .int .i64 m.id, .int .i64 m.st, .int .i64 m.a, .int .i64 m.b] 35 (0, 0)) ∧ (V.putObj D o).cell? ⟨w.heap.size + 1 + 1, 0, none⟩ = some (.bool b) ∧ Below w.heap.size w (V.putObj D o) := by
  obtain ⟨h1, h2, h3, h6, h7⟩ := h
  have h3' : Boxed (V.putObj D o) (w.heap.size + 1 + 1) 4 (.bool b) := (World.putObj_heap_other (by omega)).trans h3
  exact ⟨(World.putObj_heap_other (by omega)).trans h2, h3'.cell, h6.trans ⟨rfl, rfl, rfl, by simp, fun k hk => World.putObj_heap_other (by omega)⟩⟩

set_option maxRecDepth 100000 in
set_option maxHeartbeats 4000000 in
theorem at_any {B : Nat} {E : Nat → Prop} {w : World} {p : Nat} {s : Ps} (k : Pt B E w p s) (i : Int) :
    Calls Try.prog 23 #[.pointer (some ⟨p, 0, none⟩), .int .i64 i] w fun e w' => e = .returned (.tuple #[.agg #[.int .i64 (atPs s.l i).k, .int .i64 (atPs s.l i).fr, .int .i64 (atPs s.l i).to, .int .i64 (atPs s.l i).id, .int .i64 (atPs s.l i).st, .int .i64 (atPs s.l i).a, .int .i64 (atPs s.l i).b], .bool (inP s.l i)]) ∧ Below w.heap.size w w' := by
  refine (callsIn_wide (n := 5)).1 ?_
  obtain ⟨-, -, hG, v, hv⟩ := k
  obtain ⟨av, cv, rfl, -⟩ := row_slice hv.2.1
  have hU := AtI.first w i
  have hbU := hU.2.2.2.1
  have c1 := cellL hv.cell1 hbU
  have HM := hide ((row_mgs hv.2.1).below hbU)
  have HZ : Hid ((atW w i).heap.size = w.heap.size + 3) := by show _ = _; unfold atW; simp
  have HEB := (callsIn_wide (n := 4)).2 (each_any av s.l.length cv (atW w i))
  have HU := hide hU
  unfold atW at c1 HEB
  have hpl := hv.lt
  have HL : Hid (s.l.length ≤ 9223372036854775807) := by have h1 := hG.len; have h2 := hG.m2; show _ ≤ _; omega
  have HAV : Hid (∀ ad, av = some ad → ad.block < w.heap.size) := fun ad e => by
    subst e
    exact (hv.2.1.lt ad.block rfl).2
  clear hv hU hbU
  refine callsIn_of_wp_marks Try.func23 rfl trivial ?_ rfl
  simp only [Try.ntmps23, List.size_toArray, List.length_cons, List.length_nil, Nat.reduceAdd, Nat.reduceSub, Array.replicate_succ, Array.replicate_zero, List.push_toArray, List.append_toArray, List.nil_append, List.cons_append]
  gi_wp2_with fail
  refine ⟨trivial, HEB.mono ?_⟩
  rintro e w1 ⟨rfl, hw1⟩
  clear HEB c1
  change w1 = (atW w i).alloc _ at hw1
  have hb : Below (atW w i).heap.size (atW w i) w1 := by rw [hw1]; exact bel_al (Below.refl _ _) _
  have hz1 : w1.heap.size = w.heap.size + 4 := by rw [hw1, World.size_alloc, HZ.out]
  have hI0 : AtI w i zeroM false w1 := Rg.own_grows (s := ([] : List (Mg × Nat))) (AtI.own (Nat.le_refl _)) HU.out hb
  have hbx : w1.heap[w.heap.size + 3]? = some (.cells #[.slice av s.l.length cv] 30 (0, 0)) := by rw [hw1, ← HZ.out]; exact World.alloc_heap_new _ _
  have ES := each_seq (F := fun k _ => k = w.heap.size + 1 ∨ k = w.heap.size + 1 + 1) hbx (HM.out.below hb) HL.out (fun ad e => ⟨fun _ h => by have := HAV.out ad e; omega, by have := HAV.out ad e; omega⟩) (fun _ h => by omega)
  clear hb hw1 hbx HU HM
  gi_wp2_with fail
  refine Rg2.range_acts (E := fun k _ => k = w.heap.size + 1 ∨ k = w.heap.size + 1 + 1) (enc := encM) (L := s.l.zipIdx) (I := fun pre W => AtI w i zeroM false W ∧ ∀ x ∈ pre, (x.2 : Int) ≠ i)
    (Ix := fun c' pre W => c' = .ret ∧ ∃ ys x, pre = ys ++ [x] ∧ (x.2 : Int) = i ∧ AtI w i x.1 true W) (Ax := AtX w p i (.slice av s.l.length cv))
    (gf := 28) (lb := #[.pointer (some ⟨w.heap.size + 3, 0, none⟩)]) rfl (enters_of Try.func28 (by kernel_rfl) rfl) ES (fun k o h1 h2 h3 => by omega) (fun _ => rfl)
    ?oi (fun c' W0 W W' row hs hg hr => ?ix) (fun x a' => ?ax) ⟨hI0, by simp⟩ ?assign ?body ?done ?stop
  case oi =>
    intro pre W W' row hs hg hr
    exact ⟨AtI.own (X := w1.heap.size) (by omega) pre W W' row hs.1 hg hr, hs.2⟩
  case ix =>
    obtain ⟨e1, ys, x, e2, e3, hT⟩ := hs
    exact ⟨e1, ys, x, e2, e3, AtI.own (X := w1.heap.size) (by omega) ys W W' row hT hg hr⟩
  case ax =>
    rintro _ W W' row ⟨q, hq0, hq, hs⟩ hg hr
    exact ⟨q, hq0, (cells_stay hg hr hq).trans hq, hs⟩
  case assign =>
    intro l pre x W K hI hK
    have HK := hK (AtA w p i (.slice av s.l.length cv) x W.heap.size) (W.alloc (.cells #[.int .i64 x.1.k, .int .i64 x.1.fr, .int .i64 x.1.to, .int .i64 x.1.id, .int .i64 x.1.st, .int .i64 x.1.a, .int .i64 x.1.b] 35)) (Rg.Kept.alloc _) ⟨Rg.own_grows (s := pre) (AtI.own (Nat.le_refl _)) hI.1 (bel_al (Below.refl _ _) _), hI.2⟩ ⟨_, by have := hI.1.2.2.2.2; omega, World.alloc_heap_new _ _, rfl⟩
    clear hK
    unfold AtA at HK
    unfold encM
    gi_wp2
    exact HK
  case body =>
    rintro l pre x a' W ⟨hI, hpre⟩ ⟨q, hq0, hq, rfl⟩ hpq
    have ci := hI.1.cell
    have HIT := hide hI
    have HPRE := hide hpre
    have d0 : W.cell? ⟨q, 0, none⟩ = some (.int .i64 x.1.k) := by rw [cell_of hq]; rfl
    have d1 : W.cell? ⟨q, 1, none⟩ = some (.int .i64 x.1.fr) := by rw [cell_of hq]; rfl
    have d2 : W.cell? ⟨q, 2, none⟩ = some (.int .i64 x.1.to) := by rw [cell_of hq]; rfl
    have d3 : W.cell? ⟨q, 3, none⟩ = some (.int .i64 x.1.id) := by rw [cell_of hq]; rfl
    have d4 : W.cell? ⟨q, 4, none⟩ = some (.int .i64 x.1.st) := by rw [cell_of hq]; rfl
    have d5 : W.cell? ⟨q, 5, none⟩ = some (.int .i64 x.1.a) := by rw [cell_of hq]; rfl
    have d6 : W.cell? ⟨q, 6, none⟩ = some (.int .i64 x.1.b) := by rw [cell_of hq]; rfl
    clear hI hpre hq hpq
    unfold AtA
    by_cases hx : (x.2 : Int) = i
    · have HS := hide (HIT.out.set (m' := x.1) (b' := true) rfl)
      unfold mgC at HS
      simp only [World.setCells, Nat.reduceAdd] at HS
      have hr := HIT.out.2.1
      have z0 : W.cell? ⟨w.heap.size + 1, 0, none⟩ = some (.int .i64 0) := by rw [cell_of hr]; rfl
      have z1 : W.cell? ⟨w.heap.size + 1, 1, none⟩ = some (.int .i64 0) := by rw [cell_of hr]; rfl
      have z2 : W.cell? ⟨w.heap.size + 1, 2, none⟩ = some (.int .i64 0) := by rw [cell_of hr]; rfl
      have z3 : W.cell? ⟨w.heap.size + 1, 3, none⟩ = some (.int .i64 0) := by rw [cell_of hr]; rfl
      have z4 : W.cell? ⟨w.heap.size + 1, 4, none⟩ = some (.int .i64 0) := by rw [cell_of hr]; rfl
      have z5 : W.cell? ⟨w.heap.size + 1, 5, none⟩ = some (.int .i64 0) := by rw [cell_of hr]; rfl
      have z6 : W.cell? ⟨w.heap.size + 1, 6, none⟩ = some (.int .i64 0) := by rw [cell_of hr]; rfl
      have zb := HIT.out.2.2.1.cell
      have fb := HIT.out.2.2.1.frozen
      have fr : ∀ j, W.frozen? ⟨w.heap.size + 1, j, none⟩ = false := fun j => frozen_of_row _ _ _ _ _ hr
      have f0 := fr 0
      have f1 := fr 1
      have f2 := fr 2
      have f3 := fr 3
      have f4 := fr 4
      have f5 := fr 5
      have f6 := fr 6
      have HX := hide hx
      clear hr fr
      gi_wp2
      exact ⟨HS.out.2, rfl, pre, x, rfl, HX.out, HS.out.1⟩
    · gi_wp2
      refine ⟨Rg.Kept.refl _ _, HIT.out, fun y hy => ?_⟩
      rw [List.mem_append, List.mem_singleton] at hy
      rcases hy with hy | rfl
      · exact HPRE.out y hy
      · exact hx
  case done =>
    rintro D W hD ⟨hI, hno⟩ hK
    have HE : Hid (atPs s.l i = zeroM ∧ inP s.l i = false) := by
      have h1 : inP s.l i = false := inP_no (fun ⟨h2, h3⟩ => by
        obtain ⟨j, rfl⟩ : ∃ j : Nat, i = j := ⟨i.toNat, by omega⟩
        have hj : j < s.l.length := by omega
        exact hno (s.l[j], j) (List.mem_iff_getElem?.2 ⟨j, by rw [List.getElem?_zipIdx, List.getElem?_eq_getElem hj]; simp⟩) rfl)
      exact ⟨atPs_no h1, h1⟩
    have HS := hide (hI.set (m' := zeroM) (b' := false) rfl)
    unfold mgC zeroM at HS
    simp only [World.setCells, Nat.reduceAdd] at HS
    have hr := hI.2.1
    have z0 : W.cell? ⟨w.heap.size + 1, 0, none⟩ = some (.int .i64 0) := by rw [cell_of hr]; rfl
    have z1 : W.cell? ⟨w.heap.size + 1, 1, none⟩ = some (.int .i64 0) := by rw [cell_of hr]; rfl
    have z2 : W.cell? ⟨w.heap.size + 1, 2, none⟩ = some (.int .i64 0) := by rw [cell_of hr]; rfl
    have z3 : W.cell? ⟨w.heap.size + 1, 3, none⟩ = some (.int .i64 0) := by rw [cell_of hr]; rfl
    have z4 : W.cell? ⟨w.heap.size + 1, 4, none⟩ = some (.int .i64 0) := by rw [cell_of hr]; rfl
    have z5 : W.cell? ⟨w.heap.size + 1, 5, none⟩ = some (.int .i64 0) := by rw [cell_of hr]; rfl
    have z6 : W.cell? ⟨w.heap.size + 1, 6, none⟩ = some (.int .i64 0) := by rw [cell_of hr]; rfl
    have zb := hI.2.2.1.cell
    have fb := hI.2.2.1.frozen
    have fr : ∀ j, W.frozen? ⟨w.heap.size + 1, j, none⟩ = false := fun j => frozen_of_row _ _ _ _ _ hr
    have f0 := fr 0
    have f1 := fr 1
    have f2 := fr 2
    have f3 := fr 3
    have f4 := fr 4
    have f5 := fr 5
    have f6 := fr 6
    have HKD := hide hK
    have HKV := hide (HS.out.2.block D _ hK (by omega))
    clear hr fr hno hI
    gi_wp2
    obtain ⟨r1, r2, r3⟩ := HS.out.1.fin (D := D) (by omega) (.deferred none)
    refine ⟨by simp, .inl ⟨_, _, rfl, run_takeDeferred HKV.out, ?_⟩⟩
    refine ⟨_, results_two Try.results23 _ _ _ _ _ _ _ _ _ rfl r1 Try.underlying35 rfl (by kernel_rfl) rfl Try.isAgg4 r2, ?_⟩
    rw [HE.out.1, HE.out.2]
    exact ⟨rfl, r3⟩
  case stop =>
    rintro D c' pre W hD - hpr ⟨rfl, ys, x, rfl, hxi, hI⟩ hK
    have HE : Hid (atPs s.l i = x.1 ∧ inP s.l i = true) := by
      obtain ⟨m, j⟩ := x
      dsimp only at hxi ⊢
      subst hxi
      have h1 : (m, j) ∈ s.l.zipIdx := hpr.subset (by simp)
      have h2 : s.l[j]? = some m := by
        obtain ⟨k, hk⟩ := List.mem_iff_getElem?.1 h1
        rw [List.getElem?_zipIdx] at hk
        cases h3 : s.l[k]? with
        | none => rw [h3] at hk; simp at hk
        | some y =>
          rw [h3] at hk
          simp at hk
          obtain ⟨rfl, rfl⟩ := hk
          exact h3
      exact ⟨atPs_nat h2, inP_nat (List.getElem?_eq_some_iff.1 h2).1⟩
    obtain ⟨r1, r2, r3⟩ := hI.fin (D := D) (by omega) (.deferred none)
    clear hpr hxi
    gi_wp2
    refine ⟨by simp, .inl ⟨_, _, rfl, run_takeDeferred hK, ?_⟩⟩
    refine ⟨_, results_two Try.results23 _ _ _ _ _ _ _ _ _ rfl r1 Try.underlying35 rfl (by kernel_rfl) rfl Try.isAgg4 r2, ?_⟩
    rw [HE.out.1, HE.out.2]
    exact ⟨rfl, r3⟩
end Go.Proofs.Ytmndemjjfhdfdaa
