/-
  Contracts: the law's plan and back: what Plan and Back tell, at most n of it.
-/
import Derived.Test.YtlcjfpmhfaaaaaaFlwP
import Derived.Test.YtlcjfpmhfaaaaaaFlwA
import Derived.Maps.OwnIn
namespace Go.Proofs.Ytlcjfpmhfaaaaaa
open Go.ChangeShapes Go.WideShapes Go.ChangeAt Go.RowKit Go.Shelf

attribute [local go_sem] Oper.semAt_some

theorem cells_stay {W W' : World} {row : Option Nat} {X : Nat} (hg : W.grownBy W' row) (hr : ∀ r, row = some r → X ≤ r ∧ ∃ o : Obj, W.heap[r]? = some o ∧ o.isCells = false) {k : Nat} {cs : Array Value} {t : TypeId} {f : Nat × Nat} (h : W.heap[k]? = some (.cells cs t f)) : W'.heap[k]? = W.heap[k]? :=
  hg.block k (Array.getElem?_eq_some_iff.1 h).1 (fun e => by
    obtain ⟨_, o, ho, hc⟩ := hr k e.symm
    rw [h] at ho
    cases ho
    cases hc)
/-- What the loop has, pre having come: the boxes of l and n, the row. -/
def TA (w : World) (n N1 : Nat) (pre : List (Int × Int)) (W : World) : Prop :=
  (∃ v, Boxed W (w.heap.size + 2) 25 v ∧ W.ownsRow N1 34 2 v pre.length (stCells pre)) ∧ Boxed W (w.heap.size + 1) 3 (.int .i64 (n : Int)) ∧ pre.length ≤ n ∧ Below w.heap.size w W ∧ N1 ≤ W.heap.size
theorem TA.own {w : World} {n N1 X : Nat} (hX : w.heap.size ≤ X) : OwnFrom X (TA w n N1) := fun pre W W' row hs hg hr => by
  obtain ⟨⟨v, h1, h2⟩, h3, h4, h6, h7⟩ := hs
  refine ⟨⟨v, (cells_stay hg hr h1).trans h1, row_stays h2 (fun k cs _ hc => cells_stay hg hr hc)⟩, (cells_stay hg hr h3).trans h3, h4, ?_, Nat.le_trans h7 hg.size⟩
  exact h6.grown hg h6.size (fun k e => Nat.le_trans hX (hr k e).1)
theorem typ_neA : 3 ≠ 34 ∧ 25 ≠ 34 := by decide
theorem cell_two_newA (w : World) (x y : Value) (t : TypeId) : ∀ j u, [x, y][j]? = some u → (w.alloc (.cells #[x, y] t)).cell? ((⟨w.heap.size, 0, none⟩ : Addr).add j) = some u := by
  intro j u hj
  rw [st_add', Nat.zero_add]
  have e : (w.alloc (.cells #[x, y] t)).heap[w.heap.size]? = some (.cells #[x, y] t (0, 0)) := World.alloc_heap_new w _
  rw [cell_of e]
  simpa using hj
theorem stCells_snoc (l : List (Int × Int)) (x : Int × Int) : stCells (l ++ [x]) = stCells l ++ [.int .i64 x.1, .int .i64 x.2] := by simp [stCells]

/-- What is handed back: the row of xs, the call's own. -/
def OwnActs (w : World) (xs : List (Int × Int)) (e : Ending) (w' : World) : Prop :=
  ∃ a c, e = .returned (.slice a xs.length c) ∧ xs.length ≤ c ∧ w'.ownsRow w.heap.size 34 2 (.slice a xs.length c) xs.length (stCells xs) ∧ Below w.heap.size w w'
theorem tell_end {w W : World} {n N1 D : Nat} {xs ys : List (Int × Int)} {a : Option Addr} {c : Nat} (hN : w.heap.size ≤ N1) (hD : N1 ≤ D) (hK : W.heap[D]? = some (.deferred (some []))) (hrow : W.ownsRow N1 34 2 (.slice a xs.length c) xs.length (stCells xs)) (hT : TA w n N1 xs W) (he : xs = ys) :
    OwnActs w ys (.returned (.slice a xs.length c)) (W.putObj D (.deferred none)) := by
  subst he
  obtain ⟨_, _, _, h6, h7⟩ := hT
  have h8 := ownsRow_putObj hrow (.deferred none) hK rfl
  refine ⟨a, c, rfl, ?_, ⟨h8.1, ?_⟩, h6.trans ⟨rfl, rfl, rfl, by simp, fun k hk => World.putObj_heap_other (by omega)⟩⟩
  · obtain ⟨a', c', e, hc⟩ := row_slice hrow
    cases e
    exact hc
  · rcases h8.2 with h | ⟨g, cap, cur, h1, h2, h3⟩
    · exact .inl h
    · exact .inr ⟨g, cap, cur, h1, Nat.le_trans hN h2, h3⟩

/-- An act appended. -/
theorem tell_step {w W w4 : World} {n N1 : Nat} {pre : List (Int × Int)} {x : Int × Int} {v v' : Value} (hN1 : w.heap.size + 3 ≤ N1) (hNW : N1 ≤ W.heap.size)
    (hbx : Boxed W (w.heap.size + 2) 25 v) (hrow : W.ownsRow N1 34 2 v pre.length (stCells pre)) (hbn : Boxed W (w.heap.size + 1) 3 (.int .i64 (n : Int))) (hlt : pre.length < n) (hB : Below w.heap.size w W)
    {o : Obj} (hg : (W.alloc o).grownBy w4 v.ownBlock) (hown : w4.ownsRow N1 34 2 v' (pre.length + 1) (stCells pre ++ [.int .i64 x.1, .int .i64 x.2])) :
    Boxed w4 (w.heap.size + 2) 25 v ∧ TA w n N1 (pre ++ [x]) (w4.setCell ⟨w.heap.size + 2, 0, none⟩ v') ∧ Kept 34 (fun k => k = w.heap.size + 2) W (w4.setCell ⟨w.heap.size + 2, 0, none⟩ v') := by
  have hvb : ∀ k, v.ownBlock = some k → N1 ≤ k ∧ ∃ cs, W.heap[k]? = some (Obj.cells cs 34 (0, 0)) := fun k e => by
    refine ⟨(hrow.lt k e).1, ?_⟩
    rcases hrow.2 with ⟨rfl, _⟩ | ⟨g, cap, cur, rfl, _, hc, _⟩
    · simp [Value.ownBlock] at e
    · simp [Value.ownBlock] at e; subst e; exact ⟨cur, hc⟩
  have k4 : ∀ k, k < W.heap.size → v.ownBlock ≠ some k → w4.heap[k]? = W.heap[k]? := fun k hk hne => by
    rw [hg.block k (by simp; omega) (fun e => hne e.symm)]
    exact Below.heap_alloc _ _ _ hk
  have hbx4 : Boxed w4 (w.heap.size + 2) 25 v := (k4 _ hbx.lt (fun e => by have := (hvb _ e).1; omega)).trans hbx
  have k5 : ∀ k, k < W.heap.size → v.ownBlock ≠ some k → k ≠ w.heap.size + 2 → (w4.setCell ⟨w.heap.size + 2, 0, none⟩ v').heap[k]? = W.heap[k]? := fun k hk hne hk1 => by
    rw [Below.heap_setCell _ _ _ _ (show k ≠ (⟨w.heap.size + 2, 0, none⟩ : Addr).block from hk1)]
    exact k4 k hk hne
  have hsz : W.heap.size ≤ w4.heap.size := by have := hg.size; simp at this; omega
  refine ⟨hbx4, ⟨⟨v', hbx4.set v', ?_⟩, ?_, by simp; omega, ?_, by simp; omega⟩, ⟨hg.os, hg.tape, hg.output, by simpa using hsz, fun k o hk hx hc => ?_⟩⟩
  · rw [stCells_snoc, List.length_append, List.length_singleton]
    refine row_stays hown (fun k cs _ hc => Below.heap_setCell _ _ _ _ (fun e => ?_))
    subst e
    rw [show w4.heap[w.heap.size + 2]? = _ from hbx4] at hc
    simp only [Option.some.injEq, Obj.cells.injEq] at hc
    exact typ_neA.2 hc.2.1
  · exact (k5 _ hbn.lt (fun e => by have := (hvb _ e).1; omega) (by omega)).trans hbn
  · exact ⟨hg.os.trans hB.os, hg.tape.trans hB.tape, hg.output.trans hB.output, by have := hB.size; simp; omega, fun k hk => (k5 k (by have := hB.size; omega) (fun e => by have := (hvb k e).1; omega) (by omega)).trans (hB.block k hk)⟩
  · refine (k5 k (Array.getElem?_eq_some_iff.1 hk).1 (fun e => ?_) hx).trans hk
    obtain ⟨_, cs, hcs⟩ := hvb k e
    rw [hk] at hcs
    cases hcs
    exact hc _ _ rfl

set_option maxRecDepth 100000 in
set_option maxHeartbeats 4000000 in
theorem plan_law (o : Od) (a : Option Addr) (c : Nat) (w : World) (ha : Sts w a o.steps) (hl : o.steps.length ≤ 9223372036854775807) (n : Nat) (hn : n ≤ 1000) :
    Calls Try.prog 13 #[.agg #[.int .i64 o.id, .int .i64 o.item, .int .i64 o.qty, .int .i64 o.client, .int .i64 o.price, .slice a o.steps.length c], .int .i64 n] w (OwnActs w ((planL o).take n)) := by
  refine (callsIn_wide (n := 5)).1 ?_
  obtain ⟨U, hU⟩ : ∃ U, U = ((w.alloc (.cells #[.int .i64 o.id, .int .i64 o.item, .int .i64 o.qty, .int .i64 o.client, .int .i64 o.price, .slice a o.steps.length c] 24)).alloc (.cells #[.int .i64 n] 3)).alloc (.cells #[.slice none 0 0] 25) := ⟨_, rfl⟩
  have hbU : Below w.heap.size w U := by rw [hU]; exact (((Below.refl _ _).alloc (Nat.le_refl _) _).alloc (by simp) _).alloc (by simp; omega) _
  have hsz : U.heap.size = w.heap.size + 3 := by rw [hU]; simp
  have hal := allocs_at [.cells #[.int .i64 o.id, .int .i64 o.item, .int .i64 o.qty, .int .i64 o.client, .int .i64 o.price, .slice a o.steps.length c] 24 (0, 0), .cells #[.int .i64 n] 3 (0, 0), .cells #[.slice none 0 0] 25 (0, 0)] w
  have hbn : Boxed U (w.heap.size + 1) 3 (.int .i64 (n : Int)) := by rw [hU]; exact hal 1 _ rfl
  have hbl : Boxed U (w.heap.size + 2) 25 (.slice none 0 0) := by rw [hU]; exact hal 2 _ rfl
  have HAU := (callsIn_wide (n := 4)).2 (plan_any o a c U (ha.below hbU) hl)
  have HUW := hide hU
  have HL := hide hl
  rw [hU] at HAU
  clear hU ha hl hal
  have hnf : ∀ (u : World) (b : Nat), (binOp BinOp.eql 44 (.func (.func 40) #[] #[.pointer (some ⟨b, 0, none⟩)]) .nilFunc).run Try.prog u = .ok (.bool false) u := fun _ _ => by kernel_rfl
  refine callsIn_of_wp_marks Try.func13 rfl trivial ?_ rfl
  simp only [Try.ntmps13, List.size_toArray, List.length_cons, List.length_nil, Nat.reduceAdd, Nat.reduceSub, Array.replicate_succ, Array.replicate_zero, List.push_toArray, List.append_toArray, List.nil_append, List.cons_append]
  gi_wp2_with fail
  refine ⟨trivial, HAU.mono ?_⟩
  rintro e w1 ⟨Bp, rfl, hb, hsq⟩
  rw [← HUW.out] at hb hsq
  clear HAU
  have hB1 : Below w.heap.size w w1 := bel_on' hbU hb
  have hN1 : w.heap.size + 3 ≤ w1.heap.size := by have := hb.size; omega
  have hb11 : Boxed w1 (w.heap.size + 2) 25 (.slice none 0 0) := (hb.block _ (by omega)).trans hbl
  have hbn1 : Boxed w1 (w.heap.size + 1) 3 (.int .i64 (n : Int)) := (hb.block _ (by omega)).trans hbn
  have h0 : TA w n w1.heap.size [] w1 := ⟨⟨_, hb11, World.ownsRow_nil _ _ _ _⟩, hbn1, Nat.zero_le _, hB1, Nat.le_refl _⟩
  have ES := hsq (fun k => k = w.heap.size + 2) (fun k h => by omega)
  obtain ⟨i0, hi, hz0, hz1, hz2⟩ := info_parts Try.infoAct
  clear hbl hbn hb hbU hb11 hbn1 hsq
  gi_wp2_with fail
  refine range_acts (t := 34) (X := fun k => k = w.heap.size + 2) (enc := encA) (L := planL o) (I := TA w n w1.heap.size) (Ix := fun c' pre W => c' = .exit 0 ∧ ∃ ys x, pre = ys ++ [x] ∧ ys.length = n ∧ TA w n w1.heap.size ys W)
    (Ax := fun x a' W => ∃ Bx, W.heap[Bx]? = some (.cells #[.int .i64 x.1, .int .i64 x.2] 34 (0, 0)) ∧ a' = { tmps := #[.agg #[.int .i64 o.id, .int .i64 o.item, .int .i64 o.qty, .int .i64 o.client, .int .i64 o.price, .slice a o.steps.length c], .int .i64 (n : Int), .pointer (some ⟨w.heap.size, 0, none⟩), .pointer (some ⟨w.heap.size + 1, 0, none⟩), .slice none 0 0, .pointer (some ⟨w.heap.size + 2, 0, none⟩), .func (.func 40) #[] #[.pointer (some ⟨Bp, 0, none⟩)], .pointer (some ⟨Bx, 0, none⟩), .agg #[.int .i64 o.id, .int .i64 o.item, .int .i64 o.qty, .int .i64 o.client, .int .i64 o.price, .slice a o.steps.length c], .func (.func 40) #[] #[.pointer (some ⟨Bp, 0, none⟩)], .func (.func 40) #[] #[.pointer (some ⟨Bp, 0, none⟩)], .bool false, .func (.func 40) #[] #[.pointer (some ⟨Bp, 0, none⟩)], encA x, undef, undef, undef, undef, undef, undef, undef, undef, undef], defers := [] })
    (gf := 40) (lb := #[.pointer (some ⟨Bp, 0, none⟩)]) rfl (enters_of Try.func40 (by kernel_rfl) rfl) ES (fun k h => by omega) rfl
    (TA.own (by omega)) (fun c' W0 W W' row hs hg hr => ?ix) (fun x a' => ?ax) h0 ?assign ?body ?done ?stop
  case ix =>
    obtain ⟨e1, ys, x, e2, e3, hT⟩ := hs
    exact ⟨e1, ys, x, e2, e3, TA.own (by omega) ys W W' row hT hg hr⟩
  case ax =>
    intro _ W W' row hs hg hr
    obtain ⟨Bx, h1, h2⟩ := hs
    exact ⟨Bx, (cells_stay hg hr h1).trans h1, h2⟩
  case assign =>
    intro l pre x W K hI hK
    have hbA : Below W.heap.size W (W.alloc (.cells #[.int .i64 x.1, .int .i64 x.2] 34)) := (Below.refl _ _).alloc (Nat.le_refl _) _
    have HK := hK { tmps := #[.agg #[.int .i64 o.id, .int .i64 o.item, .int .i64 o.qty, .int .i64 o.client, .int .i64 o.price, .slice a o.steps.length c], .int .i64 (n : Int), .pointer (some ⟨w.heap.size, 0, none⟩), .pointer (some ⟨w.heap.size + 1, 0, none⟩), .slice none 0 0, .pointer (some ⟨w.heap.size + 2, 0, none⟩), .func (.func 40) #[] #[.pointer (some ⟨Bp, 0, none⟩)], .pointer (some ⟨W.heap.size, 0, none⟩), .agg #[.int .i64 o.id, .int .i64 o.item, .int .i64 o.qty, .int .i64 o.client, .int .i64 o.price, .slice a o.steps.length c], .func (.func 40) #[] #[.pointer (some ⟨Bp, 0, none⟩)], .func (.func 40) #[] #[.pointer (some ⟨Bp, 0, none⟩)], .bool false, .func (.func 40) #[] #[.pointer (some ⟨Bp, 0, none⟩)], encA x, undef, undef, undef, undef, undef, undef, undef, undef, undef], defers := [] } _ (Kept.of_below hbA) (own_grows (TA.own (X := w1.heap.size) (by omega)) hI hbA) ⟨W.heap.size, World.alloc_heap_new W _, rfl⟩
    clear hK
    unfold encA at HK ⊢
    gi_wp2
    exact HK
  case body =>
    rintro l pre x a' W ⟨⟨v, hbl, hrow⟩, hbn, hle, hB, hNW⟩ ⟨Bx, hbx, rfl⟩ hpq
    obtain ⟨av, cv, rfl, -⟩ := row_slice hrow
    have hcl := hbl.cell
    have hcn := hbn.cell
    have e0 : W.cell? ⟨Bx, 0, none⟩ = some (.int .i64 x.1) := by rw [cell_of hbx]; rfl
    have e1 : W.cell? ⟨Bx, 1, none⟩ = some (.int .i64 x.2) := by rw [cell_of hbx]; rfl
    clear hpq
    unfold encA
    by_cases hge : pre.length < n
    · have q1 : ¬ (pre.length : Int) ≥ (n : Int) := by omega
      gi_wp2_with (gi_at_builtin; refine wpListIn_append_own_at _ rfl (.tmp 18) (.tmp 20) 25 rfl w1.heap.size 34 i0 _ 2 16 Try.underlying25 hi hz0 hz1 hz2 rfl (by decide) (.slice av pre.length cv) pre.length (stCells pre) rfl (hrow.alloc _) ⟨W.heap.size, 0, none⟩ 1 1 [.int .i64 x.1, .int .i64 x.2] rfl rfl (cell_two_newA _ _ _ _) (by simp [Value.oneCell']) (by unfold maxLen; omega) (by omega) (by simp; omega) ?_; intro v' w4 hown' hgrow _ _; obtain ⟨a4, c4, rfl, -⟩ := row_slice hown'; obtain ⟨hb4, hT4, hp4⟩ := tell_step hN1 hNW hbl hrow hbn hge hB hgrow hown'; have hc4 := hb4.cell; have hf4 := hb4.frozen)
      exact ⟨hp4, hT4⟩
    · have q1 : (pre.length : Int) ≥ (n : Int) := by omega
      gi_wp2
      exact ⟨Kept.refl _ _ _, rfl, pre, x, rfl, by omega, ⟨⟨_, hbl, hrow⟩, hbn, hle, hB, hNW⟩⟩
  case done =>
    rintro D W hD hT hK
    obtain ⟨⟨v, hbl, hrow⟩, -⟩ := id hT
    obtain ⟨av, cv, rfl, -⟩ := row_slice hrow
    have hcl := hbl.cell
    have HLE := hide hT.2.2.1
    gi_wp2
    refine ⟨by simp, .inl ⟨_, _, rfl, run_takeDeferred hK, ?_⟩⟩
    refine ⟨_, results_tmp rfl _ _ _, ?_⟩
    exact tell_end (by omega) hD hK hrow hT (List.take_of_length_le HLE.out).symm
  case stop =>
    rintro D c' pre W hD - hpr ⟨rfl, ys, x, rfl, hyn, hT⟩ hK
    obtain ⟨⟨v, hbl, hrow⟩, -⟩ := id hT
    obtain ⟨av, cv, rfl, -⟩ := row_slice hrow
    have hcl := hbl.cell
    have HYS : Hid (ys = (planL o).take n) := by
      show ys = _
      obtain ⟨r, hr⟩ := hpr
      rw [← hr, ← hyn, List.append_assoc, List.take_left]
    clear hyn hpr
    gi_wp2
    refine ⟨by simp, .inl ⟨_, _, rfl, run_takeDeferred hK, ?_⟩⟩
    refine ⟨_, results_tmp rfl _ _ _, ?_⟩
    exact tell_end (by omega) hD hK hrow hT HYS.out

set_option maxRecDepth 100000 in
set_option maxHeartbeats 4000000 in
theorem back_law (o : Od) (a : Option Addr) (c : Nat) (w : World) (ha : Sts w a o.steps) (hl : o.steps.length ≤ 9223372036854775807) (n : Nat) (hn : n ≤ 1000) :
    Calls Try.prog 14 #[.agg #[.int .i64 o.id, .int .i64 o.item, .int .i64 o.qty, .int .i64 o.client, .int .i64 o.price, .slice a o.steps.length c], .int .i64 n] w (OwnActs w ((backL o).take n)) := by
  refine (callsIn_wide (n := 5)).1 ?_
  obtain ⟨U, hU⟩ : ∃ U, U = ((w.alloc (.cells #[.int .i64 o.id, .int .i64 o.item, .int .i64 o.qty, .int .i64 o.client, .int .i64 o.price, .slice a o.steps.length c] 24)).alloc (.cells #[.int .i64 n] 3)).alloc (.cells #[.slice none 0 0] 25) := ⟨_, rfl⟩
  have hbU : Below w.heap.size w U := by rw [hU]; exact (((Below.refl _ _).alloc (Nat.le_refl _) _).alloc (by simp) _).alloc (by simp; omega) _
  have hsz : U.heap.size = w.heap.size + 3 := by rw [hU]; simp
  have hal := allocs_at [.cells #[.int .i64 o.id, .int .i64 o.item, .int .i64 o.qty, .int .i64 o.client, .int .i64 o.price, .slice a o.steps.length c] 24 (0, 0), .cells #[.int .i64 n] 3 (0, 0), .cells #[.slice none 0 0] 25 (0, 0)] w
  have hbn : Boxed U (w.heap.size + 1) 3 (.int .i64 (n : Int)) := by rw [hU]; exact hal 1 _ rfl
  have hbl : Boxed U (w.heap.size + 2) 25 (.slice none 0 0) := by rw [hU]; exact hal 2 _ rfl
  have HAU := (callsIn_wide (n := 4)).2 (back_any o a c U (ha.below hbU) hl)
  have HUW := hide hU
  have HL := hide hl
  rw [hU] at HAU
  clear hU ha hl hal
  have hnf : ∀ (u : World) (b : Nat), (binOp BinOp.eql 44 (.func (.func 40) #[] #[.pointer (some ⟨b, 0, none⟩)]) .nilFunc).run Try.prog u = .ok (.bool false) u := fun _ _ => by kernel_rfl
  refine callsIn_of_wp_marks Try.func14 rfl trivial ?_ rfl
  simp only [Try.ntmps14, List.size_toArray, List.length_cons, List.length_nil, Nat.reduceAdd, Nat.reduceSub, Array.replicate_succ, Array.replicate_zero, List.push_toArray, List.append_toArray, List.nil_append, List.cons_append]
  gi_wp2_with fail
  refine ⟨trivial, HAU.mono ?_⟩
  rintro e w1 ⟨Bp, rfl, hb, hsq⟩
  rw [← HUW.out] at hb hsq
  clear HAU
  have hB1 : Below w.heap.size w w1 := bel_on' hbU hb
  have hN1 : w.heap.size + 3 ≤ w1.heap.size := by have := hb.size; omega
  have hb11 : Boxed w1 (w.heap.size + 2) 25 (.slice none 0 0) := (hb.block _ (by omega)).trans hbl
  have hbn1 : Boxed w1 (w.heap.size + 1) 3 (.int .i64 (n : Int)) := (hb.block _ (by omega)).trans hbn
  have h0 : TA w n w1.heap.size [] w1 := ⟨⟨_, hb11, World.ownsRow_nil _ _ _ _⟩, hbn1, Nat.zero_le _, hB1, Nat.le_refl _⟩
  have ES := hsq (fun k => k = w.heap.size + 2) (fun k h => by omega)
  obtain ⟨i0, hi, hz0, hz1, hz2⟩ := info_parts Try.infoAct
  clear hbl hbn hb hbU hb11 hbn1 hsq
  gi_wp2_with fail
  refine range_acts (t := 34) (X := fun k => k = w.heap.size + 2) (enc := encA) (L := backL o) (I := TA w n w1.heap.size) (Ix := fun c' pre W => c' = .exit 0 ∧ ∃ ys x, pre = ys ++ [x] ∧ ys.length = n ∧ TA w n w1.heap.size ys W)
    (Ax := fun x a' W => ∃ Bx, W.heap[Bx]? = some (.cells #[.int .i64 x.1, .int .i64 x.2] 34 (0, 0)) ∧ a' = { tmps := #[.agg #[.int .i64 o.id, .int .i64 o.item, .int .i64 o.qty, .int .i64 o.client, .int .i64 o.price, .slice a o.steps.length c], .int .i64 (n : Int), .pointer (some ⟨w.heap.size, 0, none⟩), .pointer (some ⟨w.heap.size + 1, 0, none⟩), .slice none 0 0, .pointer (some ⟨w.heap.size + 2, 0, none⟩), .func (.func 40) #[] #[.pointer (some ⟨Bp, 0, none⟩)], .pointer (some ⟨Bx, 0, none⟩), .agg #[.int .i64 o.id, .int .i64 o.item, .int .i64 o.qty, .int .i64 o.client, .int .i64 o.price, .slice a o.steps.length c], .func (.func 40) #[] #[.pointer (some ⟨Bp, 0, none⟩)], .func (.func 40) #[] #[.pointer (some ⟨Bp, 0, none⟩)], .bool false, .func (.func 40) #[] #[.pointer (some ⟨Bp, 0, none⟩)], encA x, undef, undef, undef, undef, undef, undef, undef, undef, undef], defers := [] })
    (gf := 40) (lb := #[.pointer (some ⟨Bp, 0, none⟩)]) rfl (enters_of Try.func40 (by kernel_rfl) rfl) ES (fun k h => by omega) rfl
    (TA.own (by omega)) (fun c' W0 W W' row hs hg hr => ?ix) (fun x a' => ?ax) h0 ?assign ?body ?done ?stop
  case ix =>
    obtain ⟨e1, ys, x, e2, e3, hT⟩ := hs
    exact ⟨e1, ys, x, e2, e3, TA.own (by omega) ys W W' row hT hg hr⟩
  case ax =>
    intro _ W W' row hs hg hr
    obtain ⟨Bx, h1, h2⟩ := hs
    exact ⟨Bx, (cells_stay hg hr h1).trans h1, h2⟩
  case assign =>
    intro l pre x W K hI hK
    have hbA : Below W.heap.size W (W.alloc (.cells #[.int .i64 x.1, .int .i64 x.2] 34)) := (Below.refl _ _).alloc (Nat.le_refl _) _
    have HK := hK { tmps := #[.agg #[.int .i64 o.id, .int .i64 o.item, .int .i64 o.qty, .int .i64 o.client, .int .i64 o.price, .slice a o.steps.length c], .int .i64 (n : Int), .pointer (some ⟨w.heap.size, 0, none⟩), .pointer (some ⟨w.heap.size + 1, 0, none⟩), .slice none 0 0, .pointer (some ⟨w.heap.size + 2, 0, none⟩), .func (.func 40) #[] #[.pointer (some ⟨Bp, 0, none⟩)], .pointer (some ⟨W.heap.size, 0, none⟩), .agg #[.int .i64 o.id, .int .i64 o.item, .int .i64 o.qty, .int .i64 o.client, .int .i64 o.price, .slice a o.steps.length c], .func (.func 40) #[] #[.pointer (some ⟨Bp, 0, none⟩)], .func (.func 40) #[] #[.pointer (some ⟨Bp, 0, none⟩)], .bool false, .func (.func 40) #[] #[.pointer (some ⟨Bp, 0, none⟩)], encA x, undef, undef, undef, undef, undef, undef, undef, undef, undef], defers := [] } _ (Kept.of_below hbA) (own_grows (TA.own (X := w1.heap.size) (by omega)) hI hbA) ⟨W.heap.size, World.alloc_heap_new W _, rfl⟩
    clear hK
    unfold encA at HK ⊢
    gi_wp2
    exact HK
  case body =>
    rintro l pre x a' W ⟨⟨v, hbl, hrow⟩, hbn, hle, hB, hNW⟩ ⟨Bx, hbx, rfl⟩ hpq
    obtain ⟨av, cv, rfl, -⟩ := row_slice hrow
    have hcl := hbl.cell
    have hcn := hbn.cell
    have e0 : W.cell? ⟨Bx, 0, none⟩ = some (.int .i64 x.1) := by rw [cell_of hbx]; rfl
    have e1 : W.cell? ⟨Bx, 1, none⟩ = some (.int .i64 x.2) := by rw [cell_of hbx]; rfl
    clear hpq
    unfold encA
    by_cases hge : pre.length < n
    · have q1 : ¬ (pre.length : Int) ≥ (n : Int) := by omega
      gi_wp2_with (gi_at_builtin; refine wpListIn_append_own_at _ rfl (.tmp 18) (.tmp 20) 25 rfl w1.heap.size 34 i0 _ 2 16 Try.underlying25 hi hz0 hz1 hz2 rfl (by decide) (.slice av pre.length cv) pre.length (stCells pre) rfl (hrow.alloc _) ⟨W.heap.size, 0, none⟩ 1 1 [.int .i64 x.1, .int .i64 x.2] rfl rfl (cell_two_newA _ _ _ _) (by simp [Value.oneCell']) (by unfold maxLen; omega) (by omega) (by simp; omega) ?_; intro v' w4 hown' hgrow _ _; obtain ⟨a4, c4, rfl, -⟩ := row_slice hown'; obtain ⟨hb4, hT4, hp4⟩ := tell_step hN1 hNW hbl hrow hbn hge hB hgrow hown'; have hc4 := hb4.cell; have hf4 := hb4.frozen)
      exact ⟨hp4, hT4⟩
    · have q1 : (pre.length : Int) ≥ (n : Int) := by omega
      gi_wp2
      exact ⟨Kept.refl _ _ _, rfl, pre, x, rfl, by omega, ⟨⟨_, hbl, hrow⟩, hbn, hle, hB, hNW⟩⟩
  case done =>
    rintro D W hD hT hK
    obtain ⟨⟨v, hbl, hrow⟩, -⟩ := id hT
    obtain ⟨av, cv, rfl, -⟩ := row_slice hrow
    have hcl := hbl.cell
    have HLE := hide hT.2.2.1
    gi_wp2
    refine ⟨by simp, .inl ⟨_, _, rfl, run_takeDeferred hK, ?_⟩⟩
    refine ⟨_, results_tmp rfl _ _ _, ?_⟩
    exact tell_end (by omega) hD hK hrow hT (List.take_of_length_le HLE.out).symm
  case stop =>
    rintro D c' pre W hD - hpr ⟨rfl, ys, x, rfl, hyn, hT⟩ hK
    obtain ⟨⟨v, hbl, hrow⟩, -⟩ := id hT
    obtain ⟨av, cv, rfl, -⟩ := row_slice hrow
    have hcl := hbl.cell
    have HYS : Hid (ys = (backL o).take n) := by
      show ys = _
      obtain ⟨r, hr⟩ := hpr
      rw [← hr, ← hyn, List.append_assoc, List.take_left]
    clear hyn hpr
    gi_wp2
    refine ⟨by simp, .inl ⟨_, _, rfl, run_takeDeferred hK, ?_⟩⟩
    refine ⟨_, results_tmp rfl _ _ _, ?_⟩
    exact tell_end (by omega) hD hK hrow hT HYS.out
end Go.Proofs.Ytlcjfpmhfaaaaaa
