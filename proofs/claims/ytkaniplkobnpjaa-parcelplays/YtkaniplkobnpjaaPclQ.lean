/-
  Contracts of parcel's Went and Ids.
-/
import Derived.Test.YtkaniplkobnpjaaPclI
import Derived.Maps.OwnIn
namespace Go.Proofs.Ytkaniplkobnpjaa
open Go.ChangeShapes Go.WideShapes Go.ChangeAt Go.RowKit Go.Shelf Go.Maps

attribute [local go_sem] Oper.semAt_some

theorem cells_stay {W W' : World} {row : Option Nat} {X : Nat} (hg : W.grownBy W' row) (hr : ∀ r, row = some r → X ≤ r ∧ ∃ o : Obj, W.heap[r]? = some o ∧ o.isCells = false) {k : Nat} {cs : Array Value} {t : TypeId} {f : Nat × Nat} (h : W.heap[k]? = some (.cells cs t f)) : W'.heap[k]? = W.heap[k]? :=
  hg.block k (Array.getElem?_eq_some_iff.1 h).1 (fun e => by
    obtain ⟨_, o, ho, hc⟩ := hr k e.symm
    rw [h] at ho
    cases ho
    cases hc)
/-- What Went's loop has, pre having come: the boxes of item and sum. -/
def WI (w : World) (item : Int) (pre : List (Int × Int × Int)) (W : World) : Prop :=
  Boxed W w.heap.size 3 (.int .i64 item) ∧ Boxed W (w.heap.size + 1) 3 (.int .i64 (wentP pre item)) ∧ Below w.heap.size w W ∧ w.heap.size + 2 ≤ W.heap.size
theorem WI.own {w : World} {item : Int} {X : Nat} (hX : w.heap.size ≤ X) : OwnFrom X (WI w item) := fun pre W W' row hs hg hr => by
  obtain ⟨h1, h3, h6, h7⟩ := hs
  refine ⟨(cells_stay hg hr h1).trans h1, (cells_stay hg hr h3).trans h3, ?_, Nat.le_trans h7 hg.size⟩
  exact h6.grown hg h6.size (fun k e => Nat.le_trans hX (hr k e).1)

/-- The frame of a round of Went's: the box of what came lies at q. -/
def WA (w : World) (pv : Option Addr) (item : Int) (x : Int × Int × Int) (q : Nat) : Act :=
  { tmps := #[.pointer pv, .int .i64 item, undef, .pointer (some ⟨w.heap.size, 0, none⟩), .int .i64 0, .pointer (some ⟨w.heap.size + 1, 0, none⟩), undef, .pointer (some ⟨q, 0, none⟩), .pointer pv, .func (.func 25) #[] #[.pointer (some ⟨w.heap.size + 1 + 1, 0, none⟩)], .int .i64 x.1, .agg #[.int .i64 x.2.1, .int .i64 x.2.2], undef, undef, undef, undef, undef, undef, undef, undef, undef], defers := [] }
def WX (w : World) (pv : Option Addr) (item : Int) (x : Int × Int × Int) (a' : Act) (W : World) : Prop :=
  ∃ q, W.heap[q]? = some (.cells #[.int .i64 x.2.1, .int .i64 x.2.2] 54 (0, 0)) ∧ a' = WA w pv item x q
theorem typ_neL : 54 ≠ 3 := by decide
theorem went_pre {L pre : List (Int × Int × Int)} (g : GoodC L) (h : pre <+: L) (item : Int) : 0 ≤ wentP pre item ∧ wentP pre item ≤ 1000000000000 := by
  obtain ⟨r, rfl⟩ := h
  have h1 := g.went item
  have h2 := wentP_pre (l := pre) (l' := r) (fun p hp => by have := (g.at_ p (List.mem_append_right _ hp)).2.2; omega) item
  have h3 := (wentP_bd (l := pre) (fun p hp => by have := (g.at_ p (List.mem_append_left _ hp)).2.2; omega) item).1
  omega

set_option maxRecDepth 100000 in
set_option maxHeartbeats 4000000 in
theorem went_gen (pv : Option Addr) (L : List (Int × Int × Int)) (hL : GoodC L) (w : World) (item : Int)
    (hS : ∀ (U : World) (Bi : Nat), Below w.heap.size w U → w.heap.size + 2 ≤ Bi → U.heap[Bi]? = some (.cells #[.pointer pv] 23 (0, 0)) → Rg2.SeqA Try.prog (fun k _ => k = w.heap.size + 1) 25 #[.pointer (some ⟨Bi, 0, none⟩)] encA L U) :
    Calls Try.prog 12 #[.pointer pv, .int .i64 item] w fun e w' => e = .returned (.int .i64 (wentP L item)) ∧ Below w.heap.size w w' := by
  refine (callsIn_wide (n := 5)).1 ?_
  obtain ⟨U, hU⟩ : ∃ U, U = (w.alloc (.cells #[.int .i64 item] 3)).alloc (.cells #[.int .i64 0] 3) := ⟨_, rfl⟩
  have hbU : Below w.heap.size w U := by rw [hU]; exact ((Below.refl _ _).alloc (Nat.le_refl _) _).alloc (by simp) _
  have hsz : U.heap.size = w.heap.size + 2 := by rw [hU]; simp
  have hbn : Boxed U w.heap.size 3 (.int .i64 item) := by rw [hU]; exact (Below.heap_alloc _ _ _ (by simp)).trans (World.alloc_heap_new w _)
  have hbl : Boxed U (w.heap.size + 1) 3 (.int .i64 0) := by
    have h2 := World.alloc_heap_new (w.alloc (.cells #[.int .i64 item] 3)) (.cells #[.int .i64 0] 3)
    rw [World.size_alloc] at h2
    rw [hU]; exact h2
  have HAU := (callsIn_wide (n := 4)).2 (all_any pv U)
  have HUW := hide hU
  have HL := hide hL
  have HS := hide hS
  rw [hU] at HAU
  clear hU hS hL
  have hnf : ∀ (u : World) (b : Nat), (binOp BinOp.eql 57 (.func (.func 25) #[] #[.pointer (some ⟨b, 0, none⟩)]) .nilFunc).run Try.prog u = .ok (.bool false) u := fun _ _ => by kernel_rfl
  refine callsIn_of_wp_marks Try.func12 rfl trivial ?_ rfl
  simp only [Try.ntmps12, List.size_toArray, List.length_cons, List.length_nil, Nat.reduceAdd, Nat.reduceSub, Array.replicate_succ, Array.replicate_zero, List.push_toArray, List.append_toArray, List.nil_append, List.cons_append]
  gi_wp2_with fail
  refine ⟨trivial, HAU.mono ?_⟩
  rintro e w1 ⟨rfl, hw1⟩
  rw [← HUW.out] at hw1
  clear HAU
  have hb : Below U.heap.size U w1 := by rw [hw1]; exact bel_al (Below.refl _ _) _
  have hB1 : Below w.heap.size w w1 := bel_on' hbU hb
  have hN1 : w1.heap.size = w.heap.size + 3 := by rw [hw1, World.size_alloc, hsz]
  have hb11 : Boxed w1 (w.heap.size + 1) 3 (.int .i64 0) := (hb.block _ (by omega)).trans hbl
  have hbn1 : Boxed w1 w.heap.size 3 (.int .i64 item) := (hb.block _ (by omega)).trans hbn
  have h0 : WI w item [] w1 := ⟨hbn1, hb11, hB1, by omega⟩
  have ES := HS.out w1 (w.heap.size + 2) hB1 (Nat.le_refl _) (by rw [hw1, ← hsz]; exact World.alloc_heap_new _ _)
  clear hbl hbn hb hbU hb11 hbn1 hw1 HS
  gi_wp2_with fail
  refine Rg2.range_acts (E := fun k _ => k = w.heap.size + 1) (enc := encA) (L := L) (I := WI w item) (Ix := fun _ _ _ => False) (Ax := WX w pv item)
    (gf := 25) (lb := #[.pointer (some ⟨w.heap.size + 2, 0, none⟩)]) rfl (enters_of Try.func25 (by kernel_rfl) rfl) ES (fun k o h1 h2 h3 => by omega) (fun _ => rfl)
    (WI.own (by omega)) (fun c' W0 W W' row hs hg hr => hs) (fun x a' => ?ax) h0 ?assign ?body ?done ?stop
  case ax =>
    rintro _ W W' row ⟨q, hq, hs⟩ hg hr
    exact ⟨q, (cells_stay hg hr hq).trans hq, hs⟩
  case assign =>
    intro l pre x W K hI hK
    obtain ⟨x0, x1, x2⟩ := x
    have HK := hK (WA w pv item (x0, x1, x2) W.heap.size) (W.alloc (.cells #[.int .i64 x1, .int .i64 x2] 54)) (Rg.Kept.alloc _) (Rg.own_grows (WI.own (Nat.le_refl _)) hI (bel_al (Below.refl _ _) _)) ⟨_, World.alloc_heap_new _ _, rfl⟩
    clear hK
    unfold WA at HK
    unfold encA pairV
    dsimp only at HK ⊢
    gi_wp2
    exact HK
  case body =>
    rintro l pre ⟨x0, x1, x2⟩ a' W ⟨hbn, hbl, hB, hNW⟩ ⟨q, hq, rfl⟩ hpq
    have hcl := hbl.cell
    have hfl := hbl.frozen
    have hcn := hbn.cell
    have d0 : W.cell? ⟨q, 0, none⟩ = some (.int .i64 x1) := by rw [cell_of hq]; rfl
    have d1 : W.cell? ⟨q, 1, none⟩ = some (.int .i64 x2) := by rw [cell_of hq]; rfl
    have b1 := went_pre HL.out ((List.prefix_append pre [(x0, x1, x2)]).trans hpq) item
    have b2 := went_pre HL.out hpq item
    have b3 := (HL.out.at_ (x0, x1, x2) (by obtain ⟨r, hr⟩ := hpq; rw [← hr]; simp)).2.2
    rw [wentP_app, wentP_one] at b2
    dsimp only at b3
    obtain ⟨S, hSv⟩ : ∃ S, wentP pre item = S := ⟨_, rfl⟩
    have HSV := hide hSv
    rw [hSv] at hcl b1 b2
    have HBX := hide hbl
    have HBN := hide hbn
    have HB := hide hB
    clear hbl hbn hq hpq hSv hB
    unfold WA
    by_cases hx : x1 = item
    · have qx : (x1 == item) = true := by simp [hx]
      rw [if_pos hx] at b2
      obtain ⟨b11, b12⟩ := b1
      obtain ⟨b21, b22⟩ := b2
      have HX := hide hx
      clear hx
      gi_wp2
      refine ⟨Rg.Kept.setCell _ (fun _ => rfl), ?_, ?_, HB.out.setCell (p := ⟨w.heap.size + 1, 0, none⟩) (by show w.heap.size ≤ w.heap.size + 1; omega) _, by simpa using hNW⟩
      · exact (Below.heap_setCell _ _ _ _ (show w.heap.size ≠ w.heap.size + 1 by omega)).trans HBN.out
      · rw [wentP_app, wentP_one, if_pos HX.out, HSV.out]
        exact HBX.out.set _
    · have qx : (x1 == item) = false := by simp [hx]
      have HX := hide hx
      clear b2 hx
      gi_wp2
      refine ⟨Rg.Kept.refl _ _, HBN.out, ?_, HB.out, hNW⟩
      rw [wentP_app, wentP_one, if_neg HX.out, Int.add_zero]
      exact HBX.out
  case done =>
    rintro D W hD hT hK
    obtain ⟨hbn, hbl, hB, -⟩ := hT
    have hcl := hbl.cell
    gi_wp2
    refine ⟨by simp, .inl ⟨_, _, rfl, run_takeDeferred hK, ?_⟩⟩
    refine ⟨_, results_tmp rfl _ _ _, ?_⟩
    exact ⟨rfl, hB.trans ⟨rfl, rfl, rfl, by simp, fun k hk => World.putObj_heap_other (by omega)⟩⟩
  case stop =>
    rintro D c' pre W hD - hpr h hK
    exact h.elim
theorem pwent_any {B : Nat} {E : Nat → Prop} {w : World} {p : Nat} {l : List (Int × Int × Int)} (k : Pc B E w p l) (item : Int) :
    Calls Try.prog 12 #[.pointer (some ⟨p, 0, none⟩), .int .i64 item] w fun e w' => e = .returned (.int .i64 (wentP l item)) ∧ Below w.heap.size w w' :=
  went_gen _ l k.good w item (fun _ _ hU hB hb => all_seq (k.on hU) hb (fun i _ e h => by have := (k.1 i e).2; omega) (fun _ h => by omega))
theorem pwentnil_any (w : World) (item : Int) :
    Calls Try.prog 12 #[.pointer none, .int .i64 item] w fun e w' => e = .returned (.int .i64 0) ∧ Below w.heap.size w w' :=
  went_gen none [] GoodC.new w item (fun _ _ _ _ hb => allnil_seq hb)

/-- What Ids' loop has, pre having come: the box of ids, the row. -/
def TI (w : World) (N1 : Nat) (pre : List (Int × Int × Int)) (W : World) : Prop :=
  (∃ v, Boxed W w.heap.size 40 v ∧ W.ownsRow N1 3 1 v pre.length ((idsP pre).map (Value.int .i64))) ∧ Below w.heap.size w W ∧ N1 ≤ W.heap.size
theorem TI.own {w : World} {N1 X : Nat} (hX : w.heap.size ≤ X) : OwnFrom X (TI w N1) := fun pre W W' row hs hg hr => by
  obtain ⟨⟨v, h1, h2⟩, h6, h7⟩ := hs
  refine ⟨⟨v, (cells_stay hg hr h1).trans h1, row_stays h2 (fun k cs _ hc => cells_stay hg hr hc)⟩, ?_, Nat.le_trans h7 hg.size⟩
  exact h6.grown hg h6.size (fun k e => Nat.le_trans hX (hr k e).1)
theorem typ_neI : 40 ≠ 3 := by decide
/-- What is handed back: the row of xs, the call's own. -/
def OwnInts (w : World) (xs : List Int) (e : Ending) (w' : World) : Prop :=
  ∃ a c, e = .returned (.slice a xs.length c) ∧ xs.length ≤ c ∧ w'.ownsRow w.heap.size 3 1 (.slice a xs.length c) xs.length (xs.map (Value.int .i64)) ∧ Below w.heap.size w w'
theorem ids_end {w W : World} {N1 D : Nat} {L : List (Int × Int × Int)} {a : Option Addr} {c : Nat} (hN : w.heap.size ≤ N1) (hD : N1 ≤ D) (hK : W.heap[D]? = some (.deferred (some []))) (hrow : W.ownsRow N1 3 1 (.slice a L.length c) L.length ((idsP L).map (Value.int .i64))) (hT : TI w N1 L W) :
    OwnInts w (idsP L) (.returned (.slice a L.length c)) (W.putObj D (.deferred none)) := by
  obtain ⟨_, h6, h7⟩ := hT
  have h8 := ownsRow_putObj hrow (.deferred none) hK rfl
  unfold OwnInts
  rw [idsP_len]
  refine ⟨a, c, rfl, ?_, ⟨h8.1, ?_⟩, h6.trans ⟨rfl, rfl, rfl, by simp, fun k hk => World.putObj_heap_other (by omega)⟩⟩
  · obtain ⟨a', c', e, hc⟩ := row_slice hrow
    cases e
    exact hc
  · rcases h8.2 with h | ⟨g, cap, cur, h1, h2, h3⟩
    · exact .inl h
    · exact .inr ⟨g, cap, cur, h1, Nat.le_trans hN h2, h3⟩
/-- What a round may turn. -/
def EI (w : World) (N1 : Nat) (k : Nat) (o : Obj) : Prop := k = w.heap.size ∨ (N1 ≤ k ∧ o.isCells = true)
/-- A number appended. -/
theorem ids_step {w W w4 : World} {N1 : Nat} {pre : List (Int × Int × Int)} {x : Int × Int × Int} {v v' : Value} (hN1 : w.heap.size + 1 ≤ N1) (hNW : N1 ≤ W.heap.size)
    (hbx : Boxed W w.heap.size 40 v) (hrow : W.ownsRow N1 3 1 v pre.length ((idsP pre).map (Value.int .i64))) (hB : Below w.heap.size w W)
    {o : Obj} (hg : (W.alloc o).grownBy w4 v.ownBlock) (hown : w4.ownsRow N1 3 1 v' (pre.length + 1) ((idsP pre).map (Value.int .i64) ++ [.int .i64 x.1])) :
    Boxed w4 w.heap.size 40 v ∧ TI w N1 (pre ++ [x]) (w4.setCell ⟨w.heap.size, 0, none⟩ v') ∧ Rg.Kept (EI w N1) W (w4.setCell ⟨w.heap.size, 0, none⟩ v') := by
  have hvb : ∀ k, v.ownBlock = some k → N1 ≤ k ∧ ∃ cs, W.heap[k]? = some (Obj.cells cs 3 (0, 0)) := fun k e => by
    refine ⟨(hrow.lt k e).1, ?_⟩
    rcases hrow.2 with ⟨rfl, _⟩ | ⟨g, cap, cur, rfl, _, hc, _⟩
    · simp [Value.ownBlock] at e
    · simp [Value.ownBlock] at e; subst e; exact ⟨cur, hc⟩
  have k4 : ∀ k, k < W.heap.size → v.ownBlock ≠ some k → w4.heap[k]? = W.heap[k]? := fun k hk hne => by
    rw [hg.block k (by simp; omega) (fun e => hne e.symm)]
    exact Below.heap_alloc _ _ _ hk
  have hbx4 : Boxed w4 w.heap.size 40 v := (k4 _ hbx.lt (fun e => by have := (hvb _ e).1; omega)).trans hbx
  have k5 : ∀ k, k < W.heap.size → v.ownBlock ≠ some k → k ≠ w.heap.size → (w4.setCell ⟨w.heap.size, 0, none⟩ v').heap[k]? = W.heap[k]? := fun k hk hne hk1 => by
    rw [Below.heap_setCell _ _ _ _ (show k ≠ (⟨w.heap.size, 0, none⟩ : Addr).block from hk1)]
    exact k4 k hk hne
  have hsz : W.heap.size ≤ w4.heap.size := by have := hg.size; simp at this; omega
  have e1 : (idsP (pre ++ [x])).map (Value.int .i64) = (idsP pre).map (Value.int .i64) ++ [.int .i64 x.1] := by simp [idsP]
  refine ⟨hbx4, ⟨⟨v', hbx4.set v', ?_⟩, ?_, by simp; omega⟩, ⟨hg.os, hg.tape, hg.output, by simpa using hsz, fun k o hk hx => ?_⟩⟩
  · rw [e1, List.length_append, List.length_singleton]
    refine row_stays hown (fun k cs _ hc => Below.heap_setCell _ _ _ _ (fun e => ?_))
    subst e
    rw [show w4.heap[w.heap.size]? = _ from hbx4] at hc
    simp only [Option.some.injEq, Obj.cells.injEq] at hc
    exact typ_neI hc.2.1
  · exact ⟨hg.os.trans hB.os, hg.tape.trans hB.tape, hg.output.trans hB.output, by have := hB.size; simp; omega, fun k hk => (k5 k (by have := hB.size; omega) (fun e => by have := (hvb k e).1; omega) (by omega)).trans (hB.block k hk)⟩
  · refine (k5 k (Array.getElem?_eq_some_iff.1 hk).1 (fun e => ?_) (fun e => hx (.inl e))).trans hk
    obtain ⟨h1, cs, hcs⟩ := hvb k e
    rw [hk] at hcs
    cases hcs
    exact hx (.inr ⟨h1, rfl⟩)

set_option maxRecDepth 100000 in
set_option maxHeartbeats 4000000 in
theorem ids_gen (pv : Option Addr) (L : List (Int × Int × Int)) (hL : L.length ≤ 1000) (w : World)
    (hS : ∀ (U : World) (Bi N1 : Nat), Below w.heap.size w U → w.heap.size + 1 ≤ Bi → Bi < N1 → U.heap[Bi]? = some (.cells #[.pointer pv] 23 (0, 0)) → Rg2.SeqA Try.prog (EI w N1) 25 #[.pointer (some ⟨Bi, 0, none⟩)] encA L U) :
    Calls Try.prog 15 #[.pointer pv] w (OwnInts w (idsP L)) := by
  refine (callsIn_wide (n := 5)).1 ?_
  obtain ⟨U, hU⟩ : ∃ U, U = w.alloc (.cells #[.slice none 0 0] 40) := ⟨_, rfl⟩
  have hbU : Below w.heap.size w U := by rw [hU]; exact bel_al (Below.refl _ _) _
  have hsz : U.heap.size = w.heap.size + 1 := by rw [hU]; simp
  have hbl : Boxed U w.heap.size 40 (.slice none 0 0) := by rw [hU]; exact World.alloc_heap_new w _
  have HAU := (callsIn_wide (n := 4)).2 (all_any pv U)
  have HUW := hide hU
  have HS := hide hS
  rw [hU] at HAU
  clear hU hS
  have hnf : ∀ (u : World) (b : Nat), (binOp BinOp.eql 57 (.func (.func 25) #[] #[.pointer (some ⟨b, 0, none⟩)]) .nilFunc).run Try.prog u = .ok (.bool false) u := fun _ _ => by kernel_rfl
  refine callsIn_of_wp_marks Try.func15 rfl trivial ?_ rfl
  simp only [Try.ntmps15, List.size_toArray, List.length_cons, List.length_nil, Nat.reduceAdd, Nat.reduceSub, Array.replicate_succ, Array.replicate_zero, List.push_toArray, List.append_toArray, List.nil_append, List.cons_append]
  gi_wp2_with fail
  refine ⟨trivial, HAU.mono ?_⟩
  rintro e w1 ⟨rfl, hw1⟩
  rw [← HUW.out] at hw1
  clear HAU
  have hb : Below U.heap.size U w1 := by rw [hw1]; exact bel_al (Below.refl _ _) _
  have hB1 : Below w.heap.size w w1 := bel_on' hbU hb
  have hN1 : w1.heap.size = w.heap.size + 2 := by rw [hw1, World.size_alloc, hsz]
  have hb11 : Boxed w1 w.heap.size 40 (.slice none 0 0) := (hb.block _ (by omega)).trans hbl
  have h0 : TI w w1.heap.size [] w1 := ⟨⟨_, hb11, World.ownsRow_nil _ _ _ _⟩, hB1, Nat.le_refl _⟩
  have ES := HS.out w1 (w.heap.size + 1) w1.heap.size hB1 (Nat.le_refl _) (by omega) (by rw [hw1, ← hsz]; exact World.alloc_heap_new _ _)
  obtain ⟨i0, hi, hz0, hz1, hz2⟩ := info_parts Try.infoNum
  clear hbl hb hbU hb11 hw1 HS
  gi_wp2_with fail
  refine Rg2.range_acts (E := EI w w1.heap.size) (enc := encA) (L := L) (I := TI w w1.heap.size) (Ix := fun _ _ _ => False)
    (Ax := fun x a' _ => a' = { tmps := #[.pointer pv, undef, .slice none 0 0, .pointer (some ⟨w.heap.size, 0, none⟩), .int .i64 x.1, .pointer pv, .func (.func 25) #[] #[.pointer (some ⟨w.heap.size + 1, 0, none⟩)], .int .i64 x.1, .agg #[.int .i64 x.2.1, .int .i64 x.2.2], undef, undef, undef, undef, undef], defers := [] })
    (gf := 25) (lb := #[.pointer (some ⟨w.heap.size + 1, 0, none⟩)]) rfl (enters_of Try.func25 (by kernel_rfl) rfl) ES (fun k o h1 h2 h3 => ?he) (fun _ => rfl)
    (TI.own (by omega)) (fun c' W0 W W' row hs hg hr => hs) (fun x a' => ?ax) h0 ?assign ?body ?done ?stop
  case he =>
    rcases h3 with h3 | ⟨_, h3⟩
    · omega
    · rw [h2] at h3; cases h3
  case ax =>
    intro _ W W' row hs hg hr
    exact hs
  case assign =>
    intro l pre x W K hI hK
    obtain ⟨x0, x1, x2⟩ := x
    have HK := hK _ _ (Rg.Kept.refl _ _) hI rfl
    clear hK
    unfold encA pairV
    dsimp only at HK ⊢
    gi_wp2
    exact HK
  case body =>
    rintro l pre x a' W ⟨⟨v, hbl, hrow⟩, hB, hNW⟩ rfl hpq
    obtain ⟨av, cv, rfl, -⟩ := row_slice hrow
    have hcl := hbl.cell
    have hpl : pre.length ≤ 1000 := by have := hpq.length_le; simp at this; omega
    have hN2 : w.heap.size + 1 ≤ w1.heap.size := by omega
    clear hpq
    gi_wp2_with (gi_at_builtin; refine wpListIn_append_own_at _ rfl (.tmp 9) (.tmp 11) 40 rfl w1.heap.size 3 i0 _ 1 8 Try.underlying40 hi hz0 hz1 hz2 rfl (by decide) (.slice av pre.length cv) pre.length ((idsP pre).map (Value.int .i64)) rfl (hrow.alloc _) ⟨W.heap.size, 0, none⟩ 1 1 [.int .i64 x.1] rfl rfl (cell_one_newI _ _ _) (by simp [Value.oneCell']) (by unfold maxLen; omega) (by omega) (by simp; omega) ?_; intro v' w4 hown' hgrow _ _; obtain ⟨a4, c4, rfl, -⟩ := row_slice hown'; obtain ⟨hb4, hT4, hp4⟩ := ids_step (x := x) hN2 hNW hbl hrow hB hgrow hown'; have hc4 := hb4.cell; have hf4 := hb4.frozen)
    exact ⟨hp4, hT4⟩
  case done =>
    rintro D W hD hT hK
    obtain ⟨⟨v, hbl, hrow⟩, -⟩ := id hT
    obtain ⟨av, cv, rfl, -⟩ := row_slice hrow
    have hcl := hbl.cell
    gi_wp2
    refine ⟨by simp, .inl ⟨_, _, rfl, run_takeDeferred hK, ?_⟩⟩
    refine ⟨_, results_tmp rfl _ _ _, ?_⟩
    exact ids_end (by omega) hD hK hrow hT
  case stop =>
    rintro D c' pre W hD - hpr h hK
    exact h.elim
theorem pids_any {B : Nat} {E : Nat → Prop} {w : World} {p : Nat} {l : List (Int × Int × Int)} (k : Pc B E w p l) :
    Calls Try.prog 15 #[.pointer (some ⟨p, 0, none⟩)] w (OwnInts w (idsP l)) :=
  ids_gen _ l k.good.len w (fun _ _ N1 hU hB hN hb => all_seq (k.on hU) hb (fun i _ e h => by
    have := (k.1 i e).2
    rcases h with h | ⟨h, _⟩ <;> omega) (fun _ h => by rcases h with h | ⟨h, _⟩ <;> omega))
theorem pidsnil_any (w : World) : Calls Try.prog 15 #[.pointer none] w (OwnInts w []) :=
  ids_gen none [] (by simp) w (fun _ _ _ _ _ _ hb => allnil_seq hb)
end Go.Proofs.Ytkaniplkobnpjaa
