/-
  Contract of the law's ids: what bell's Ids tells, at most n of it.
-/
import Derived.Test.YtdjdlifacbmbcaaBelL
namespace Go.Proofs.Ytdjdlifacbmbcaa
open Go.ChangeShapes Go.WideShapes Go.ChangeAt Go.RowKit Go.Shelf Go.Maps

attribute [local go_sem] Oper.semAt_some

theorem cells_stay {W W' : World} {row : Option Nat} {X : Nat} (hg : W.grownBy W' row) (hr : ∀ r, row = some r → X ≤ r ∧ ∃ o : Obj, W.heap[r]? = some o ∧ o.isCells = false) {k : Nat} {cs : Array Value} {t : TypeId} {f : Nat × Nat} (h : W.heap[k]? = some (.cells cs t f)) : W'.heap[k]? = W.heap[k]? :=
  hg.block k (Array.getElem?_eq_some_iff.1 h).1 (fun e => by
    obtain ⟨_, o, ho, hc⟩ := hr k e.symm
    rw [h] at ho
    cases ho
    cases hc)
/-- What the loop has, pre having come: the boxes of n and l, the row. -/
def TI (w : World) (n N1 : Nat) (pre : List Int) (W : World) : Prop :=
  (∃ v, Boxed W (w.heap.size + 1) 33 v ∧ W.ownsRow N1 3 1 v pre.length (pre.map (Value.int .i64))) ∧ Boxed W w.heap.size 3 (.int .i64 (n : Int)) ∧ pre.length ≤ n ∧ Below w.heap.size w W ∧ N1 ≤ W.heap.size
theorem TI.own {w : World} {n N1 X : Nat} (hX : w.heap.size ≤ X) : OwnFrom X (TI w n N1) := fun pre W W' row hs hg hr => by
  obtain ⟨⟨v, h1, h2⟩, h3, h4, h6, h7⟩ := hs
  refine ⟨⟨v, (cells_stay hg hr h1).trans h1, row_stays h2 (fun k cs _ hc => cells_stay hg hr hc)⟩, (cells_stay hg hr h3).trans h3, h4, ?_, Nat.le_trans h7 hg.size⟩
  exact h6.grown hg h6.size (fun k e => Nat.le_trans hX (hr k e).1)
theorem typ_neI : 33 ≠ 3 := by decide
theorem cell_one_newI (w : World) (x : Value) (t : TypeId) : ∀ j u, [x][j]? = some u → (w.alloc (.cells #[x] t)).cell? ((⟨w.heap.size, 0, none⟩ : Addr).add j) = some u := by
  intro j u hj
  rw [st_add', Nat.zero_add]
  have e : (w.alloc (.cells #[x] t)).heap[w.heap.size]? = some (.cells #[x] t (0, 0)) := World.alloc_heap_new w _
  rw [cell_of e]
  simpa using hj

/-- What is handed back: the row of xs, the call's own. -/
def OwnInts (w : World) (xs : List Int) (e : Ending) (w' : World) : Prop :=
  ∃ a c, e = .returned (.slice a xs.length c) ∧ xs.length ≤ c ∧ w'.ownsRow w.heap.size 3 1 (.slice a xs.length c) xs.length (xs.map (Value.int .i64)) ∧ Below w.heap.size w w'
theorem ids_end {w W : World} {n N1 D : Nat} {xs ys : List Int} {a : Option Addr} {c : Nat} (hN : w.heap.size ≤ N1) (hD : N1 ≤ D) (hK : W.heap[D]? = some (.deferred (some []))) (hrow : W.ownsRow N1 3 1 (.slice a xs.length c) xs.length (xs.map (Value.int .i64))) (hT : TI w n N1 xs W) (he : xs = ys) :
    OwnInts w ys (.returned (.slice a xs.length c)) (W.putObj D (.deferred none)) := by
  subst he
  obtain ⟨_, _, _, h6, h7⟩ := hT
  have h8 := ownsRow_putObj hrow (.deferred none) hK rfl
  refine ⟨a, c, rfl, ?_, ⟨h8.1, ?_⟩, h6.trans ⟨rfl, rfl, rfl, by simp, fun k hk => World.putObj_heap_other (by omega)⟩⟩
  · obtain ⟨a', c', e, hc⟩ := row_slice hrow
    cases e
    exact hc
  · rcases h8.2 with h | ⟨g, cap, cur, h1, h2, h3⟩
    · exact .inl h
    · exact .inr ⟨g, cap, cur, h1, Nat.le_trans hN h2, h3⟩
/-- What a round may turn. -/
def EI (w : World) (N1 : Nat) (k : Nat) (o : Obj) : Prop := k = w.heap.size + 1 ∨ (N1 ≤ k ∧ ∃ cs f, o = .cells cs 3 f)
/-- A number appended. -/
theorem ids_step {w W w4 : World} {n N1 : Nat} {pre : List Int} {x : Int} {v v' : Value} (hN1 : w.heap.size + 2 ≤ N1) (hNW : N1 ≤ W.heap.size)
    (hbx : Boxed W (w.heap.size + 1) 33 v) (hrow : W.ownsRow N1 3 1 v pre.length (pre.map (Value.int .i64))) (hbn : Boxed W w.heap.size 3 (.int .i64 (n : Int))) (hlt : pre.length < n) (hB : Below w.heap.size w W)
    {o : Obj} (hg : (W.alloc o).grownBy w4 v.ownBlock) (hown : w4.ownsRow N1 3 1 v' (pre.length + 1) (pre.map (Value.int .i64) ++ [.int .i64 x])) :
    Boxed w4 (w.heap.size + 1) 33 v ∧ TI w n N1 (pre ++ [x]) (w4.setCell ⟨w.heap.size + 1, 0, none⟩ v') ∧ Rg.Kept (EI w N1) W (w4.setCell ⟨w.heap.size + 1, 0, none⟩ v') := by
  have hvb : ∀ k, v.ownBlock = some k → N1 ≤ k ∧ ∃ cs, W.heap[k]? = some (Obj.cells cs 3 (0, 0)) := fun k e => by
    refine ⟨(hrow.lt k e).1, ?_⟩
    rcases hrow.2 with ⟨rfl, _⟩ | ⟨g, cap, cur, rfl, _, hc, _⟩
    · simp [Value.ownBlock] at e
    · simp [Value.ownBlock] at e; subst e; exact ⟨cur, hc⟩
  have k4 : ∀ k, k < W.heap.size → v.ownBlock ≠ some k → w4.heap[k]? = W.heap[k]? := fun k hk hne => by
    rw [hg.block k (by simp; omega) (fun e => hne e.symm)]
    exact Below.heap_alloc _ _ _ hk
  have hbx4 : Boxed w4 (w.heap.size + 1) 33 v := (k4 _ hbx.lt (fun e => by have := (hvb _ e).1; omega)).trans hbx
  have k5 : ∀ k, k < W.heap.size → v.ownBlock ≠ some k → k ≠ w.heap.size + 1 → (w4.setCell ⟨w.heap.size + 1, 0, none⟩ v').heap[k]? = W.heap[k]? := fun k hk hne hk1 => by
    rw [Below.heap_setCell _ _ _ _ (show k ≠ (⟨w.heap.size + 1, 0, none⟩ : Addr).block from hk1)]
    exact k4 k hk hne
  have hsz : W.heap.size ≤ w4.heap.size := by have := hg.size; simp at this; omega
  refine ⟨hbx4, ⟨⟨v', hbx4.set v', ?_⟩, ?_, by simp; omega, ?_, by simp; omega⟩, ⟨hg.os, hg.tape, hg.output, by simpa using hsz, fun k o hk hx => ?_⟩⟩
  · rw [List.map_append, List.length_append, List.length_singleton]
    refine row_stays hown (fun k cs _ hc => Below.heap_setCell _ _ _ _ (fun e => ?_))
    subst e
    rw [show w4.heap[w.heap.size + 1]? = _ from hbx4] at hc
    simp only [Option.some.injEq, Obj.cells.injEq] at hc
    exact typ_neI hc.2.1
  · exact (k5 _ hbn.lt (fun e => by have := (hvb _ e).1; omega) (by omega)).trans hbn
  · exact ⟨hg.os.trans hB.os, hg.tape.trans hB.tape, hg.output.trans hB.output, by have := hB.size; simp; omega, fun k hk => (k5 k (by have := hB.size; omega) (fun e => by have := (hvb k e).1; omega) (by omega)).trans (hB.block k hk)⟩
  · refine (k5 k (Array.getElem?_eq_some_iff.1 hk).1 (fun e => ?_) (fun e => hx (.inl e))).trans hk
    obtain ⟨h1, cs, hcs⟩ := hvb k e
    rw [hk] at hcs
    cases hcs
    exact hx (.inr ⟨h1, _, _, rfl⟩)

set_option maxRecDepth 100000 in
set_option maxHeartbeats 4000000 in
theorem blids_any (pv : Option Addr) (L : List Int) (hL : L.length ≤ 1000000) (w : World) (n : Nat) (hn : n ≤ 1000)
    (hI : ∀ U : World, Below w.heap.size w U → Calls Try.prog 25 #[.pointer pv] U (SeqV U L)) :
    Calls Try.prog 19 #[.pointer pv, .int .i64 n] w (OwnInts w (L.take n)) := by
  refine (callsIn_wide (n := 5)).1 ?_
  obtain ⟨U, hU⟩ : ∃ U, U = (w.alloc (.cells #[.int .i64 n] 3)).alloc (.cells #[.slice none 0 0] 33) := ⟨_, rfl⟩
  have hbU : Below w.heap.size w U := by rw [hU]; exact ((Below.refl _ _).alloc (Nat.le_refl _) _).alloc (by simp) _
  have hsz : U.heap.size = w.heap.size + 2 := by rw [hU]; simp
  have hbn : Boxed U w.heap.size 3 (.int .i64 (n : Int)) := by rw [hU]; exact (Below.heap_alloc _ _ _ (by simp)).trans (World.alloc_heap_new w _)
  have hbl : Boxed U (w.heap.size + 1) 33 (.slice none 0 0) := by
    have h2 := World.alloc_heap_new (w.alloc (.cells #[.int .i64 n] 3)) (.cells #[.slice none 0 0] 33)
    rw [World.size_alloc] at h2
    rw [hU]; exact h2
  have HAU := (callsIn_wide (n := 4)).2 (hI U hbU)
  have HUW := hide hU
  have HL := hide hL
  rw [hU] at HAU
  clear hU hI hL
  have hnf : ∀ (u : World) (b : Nat), (binOp BinOp.eql 48 (.func (.func 29) #[] #[.pointer (some ⟨b, 0, none⟩)]) .nilFunc).run Try.prog u = .ok (.bool false) u := fun _ _ => by kernel_rfl
  refine callsIn_of_wp_marks Try.func19 rfl trivial ?_ rfl
  simp only [Try.ntmps19, List.size_toArray, List.length_cons, List.length_nil, Nat.reduceAdd, Nat.reduceSub, Array.replicate_succ, Array.replicate_zero, List.push_toArray, List.append_toArray, List.nil_append, List.cons_append]
  gi_wp2_with fail
  refine ⟨trivial, HAU.mono ?_⟩
  rintro e w1 ⟨Bp, v0, rfl, hb, hit, hbi, hvr⟩
  rw [← HUW.out] at hb hbi hvr
  clear HAU
  have hB1 : Below w.heap.size w w1 := bel_on' hbU hb
  have hN1 : w.heap.size + 2 ≤ w1.heap.size := by have := hb.size; omega
  have hb11 : Boxed w1 (w.heap.size + 1) 33 (.slice none 0 0) := (hb.block _ (by omega)).trans hbl
  have hbn1 : Boxed w1 w.heap.size 3 (.int .i64 (n : Int)) := (hb.block _ (by omega)).trans hbn
  have h0 : TI w n w1.heap.size [] w1 := ⟨⟨_, hb11, World.ownsRow_nil _ _ _ _⟩, hbn1, Nat.zero_le _, hB1, Nat.le_refl _⟩
  have hno : NoE (EI w w1.heap.size) Bp v0 := ⟨fun cs f h4 => by rcases h4 with h4 | ⟨h4, _⟩ <;> omega, fun k hk o h4 => by have := hvr k hk; rcases h4 with h4 | ⟨h4, _⟩ <;> omega⟩
  have ES := bell_seq (E := EI w w1.heap.size) HL.out hit hno (fun k o h1 h4 => by
    rcases h4 with h4 | ⟨_, h4⟩
    · omega
    · exact h4)
  obtain ⟨i0, hi, hz0, hz1, hz2⟩ := info_parts Try.infoNum
  clear hbl hbn hb hbU hb11 hbn1 hit hbi hvr hno
  gi_wp2_with fail
  refine Rg.range_acts (E := EI w w1.heap.size) (enc := encI) (L := L) (I := TI w n w1.heap.size) (Ix := fun c' pre W => c' = .exit 0 ∧ ∃ ys x, pre = ys ++ [x] ∧ ys.length = n ∧ TI w n w1.heap.size ys W)
    (Ax := fun x a' _ => a' = { tmps := #[.pointer pv, .int .i64 (n : Int), undef, .pointer (some ⟨w.heap.size, 0, none⟩), .slice none 0 0, .pointer (some ⟨w.heap.size + 1, 0, none⟩), .func (.func 29) #[] #[.pointer (some ⟨Bp, 0, none⟩)], .int .i64 x, .pointer pv, .func (.func 29) #[] #[.pointer (some ⟨Bp, 0, none⟩)], .func (.func 29) #[] #[.pointer (some ⟨Bp, 0, none⟩)], .bool false, .func (.func 29) #[] #[.pointer (some ⟨Bp, 0, none⟩)], .int .i64 x, undef, undef, undef, undef, undef, undef, undef, undef, undef], defers := [] })
    (gf := 29) (lb := #[.pointer (some ⟨Bp, 0, none⟩)]) rfl (enters_of Try.func29 (by kernel_rfl) rfl) ES (fun k o h1 h2 h3 => ?he) rfl
    (TI.own (by omega)) (fun c' W0 W W' row hs hg hr => ?ix) (fun x a' => ?ax) h0 ?assign ?body ?done ?stop
  case he =>
    rcases h3 with h3 | ⟨_, h3⟩
    · omega
    · obtain ⟨cs, f, h3⟩ := h3; rw [h3] at h2; cases h2
  case ix =>
    obtain ⟨e1, ys, x, e2, e3, hT⟩ := hs
    exact ⟨e1, ys, x, e2, e3, TI.own (by omega) ys W W' row hT hg hr⟩
  case ax =>
    intro _ W W' row hs hg hr
    exact hs
  case assign =>
    intro l pre x W K hI hK
    have HK := hK { tmps := #[.pointer pv, .int .i64 (n : Int), undef, .pointer (some ⟨w.heap.size, 0, none⟩), .slice none 0 0, .pointer (some ⟨w.heap.size + 1, 0, none⟩), .func (.func 29) #[] #[.pointer (some ⟨Bp, 0, none⟩)], .int .i64 x, .pointer pv, .func (.func 29) #[] #[.pointer (some ⟨Bp, 0, none⟩)], .func (.func 29) #[] #[.pointer (some ⟨Bp, 0, none⟩)], .bool false, .func (.func 29) #[] #[.pointer (some ⟨Bp, 0, none⟩)], .int .i64 x, undef, undef, undef, undef, undef, undef, undef, undef, undef], defers := [] } _ (Rg.Kept.refl _ _) hI rfl
    clear hK
    unfold encI at HK ⊢
    gi_wp2
    exact HK
  case body =>
    rintro l pre x a' W ⟨⟨v, hbl, hrow⟩, hbn, hle, hB, hNW⟩ rfl hpq
    obtain ⟨av, cv, rfl, -⟩ := row_slice hrow
    have hcl := hbl.cell
    have hcn := hbn.cell
    clear hpq
    by_cases hge : pre.length < n
    · have q1 : ¬ (pre.length : Int) ≥ (n : Int) := by omega
      gi_wp2_with (gi_at_builtin; refine wpListIn_append_own_at _ rfl (.tmp 18) (.tmp 20) 33 rfl w1.heap.size 3 i0 _ 1 8 Try.underlying33 hi hz0 hz1 hz2 rfl (by decide) (.slice av pre.length cv) pre.length (pre.map (Value.int .i64)) rfl (hrow.alloc _) ⟨W.heap.size, 0, none⟩ 1 1 [.int .i64 x] rfl rfl (cell_one_newI _ _ _) (by simp [Value.oneCell']) (by unfold maxLen; omega) (by omega) (by simp; omega) ?_; intro v' w4 hown' hgrow _ _; obtain ⟨a4, c4, rfl, -⟩ := row_slice hown'; obtain ⟨hb4, hT4, hp4⟩ := ids_step hN1 hNW hbl hrow hbn hge hB hgrow hown'; have hc4 := hb4.cell; have hf4 := hb4.frozen)
      exact ⟨hp4, hT4⟩
    · have q1 : (pre.length : Int) ≥ (n : Int) := by omega
      gi_wp2
      exact ⟨Rg.Kept.refl _ _, rfl, pre, x, rfl, by omega, ⟨⟨_, hbl, hrow⟩, hbn, hle, hB, hNW⟩⟩
  case done =>
    rintro D W hD hT hK
    obtain ⟨⟨v, hbl, hrow⟩, -⟩ := id hT
    obtain ⟨av, cv, rfl, -⟩ := row_slice hrow
    have hcl := hbl.cell
    have HLE := hide hT.2.2.1
    gi_wp2
    refine ⟨by simp, .inl ⟨_, _, rfl, run_takeDeferred hK, ?_⟩⟩
    refine ⟨_, results_tmp rfl _ _ _, ?_⟩
    exact ids_end (by omega) hD hK hrow hT (List.take_of_length_le HLE.out).symm
  case stop =>
    rintro D c' pre W hD - hpr ⟨rfl, ys, x, rfl, hyn, hT⟩ hK
    obtain ⟨⟨v, hbl, hrow⟩, -⟩ := id hT
    obtain ⟨av, cv, rfl, -⟩ := row_slice hrow
    have hcl := hbl.cell
    have HYS : Hid (ys = L.take n) := by
      show ys = _
      obtain ⟨r, hr⟩ := hpr
      rw [← hr, ← hyn, List.append_assoc, List.take_left]
    clear hyn hpr
    gi_wp2
    refine ⟨by simp, .inl ⟨_, _, rfl, run_takeDeferred hK, ?_⟩⟩
    refine ⟨_, results_tmp rfl _ _ _, ?_⟩
    exact ids_end (by omega) hD hK hrow hT HYS.out
end Go.Proofs.Ytdjdlifacbmbcaa
