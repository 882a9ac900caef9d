/-
  Contract of the law's all: what post's All tells, at most n of it.
-/
import Derived.Test.YtmndemjjfhdfdaaPstB
namespace Go.Proofs.Ytmndemjjfhdfdaa
open Go.ChangeShapes Go.WideShapes Go.ChangeAt Go.RowKit Go.Shelf

attribute [local go_sem] Oper.semAt_some

/-- What the loop has, pre having come: the boxes of n, of the answer, of l; the row. -/
def AlI (w : World) (n N1 : Nat) (pre : List (Mg × Nat)) (W : World) : Prop :=
  (∃ v, Boxed W (w.heap.size + 1 + 1) 30 v ∧ W.ownsRow N1 35 7 v pre.length (mgCells (pre.map Prod.fst))) ∧ Boxed W w.heap.size 3 (.int .i64 (n : Int)) ∧ Boxed W (w.heap.size + 1) 30 (.slice none 0 0) ∧ pre.length ≤ n ∧ Below w.heap.size w W ∧ N1 ≤ W.heap.size
theorem AlI.own {w : World} {n N1 X : Nat} (hX : w.heap.size ≤ X) : OwnFrom X (AlI w n N1) := fun pre W W' row hs hg hr => by
  obtain ⟨⟨v, h1, h2⟩, h3, h5, h4, h6, h7⟩ := hs
  refine ⟨⟨v, (cells_stay hg hr h1).trans h1, row_stays h2 (fun k cs _ hc => cells_stay hg hr hc)⟩, (cells_stay hg hr h3).trans h3, (cells_stay hg hr h5).trans h5, h4, ?_, Nat.le_trans h7 hg.size⟩
  exact h6.grown hg h6.size (fun k e => Nat.le_trans hX (hr k e).1)
theorem typ_neL : 30 ≠ 35 := by decide
theorem results_one {P : Program} {fn : Func} {q : Tmp} {ty2 : TypeId} (h : fn.results = #[.cell q ty2]) (tmps : Array Value) (w : World) (g2 : Nat) (v : Value)
    (hq : tmps.getD q undef = .pointer (some ⟨g2, 0, none⟩)) (ha : ∀ w, (isAgg ty2).run P w = .ok false w) (hc : w.cell? ⟨g2, 0, none⟩ = some v) :
    (results fn tmps).run P w = .ok v w := by
  have hq' : tmps[q]?.getD undef = .pointer (some ⟨g2, 0, none⟩) := by simpa using hq
  have hl : (loadVar ty2 ⟨g2, 0, none⟩).run P w = .ok v w := by
    unfold loadVar
    rw [Sem.run_bind, ha w]
    simp [go_sem, hc]
  simp [results, h, hq', asAddr, hl]
theorem all_end {w W : World} {n N1 D : Nat} {pre : List (Mg × Nat)} {ys : List Mg} {a : Option Addr} {c : Nat} (hN : w.heap.size + 3 ≤ N1) (hD : N1 ≤ D) (hK : W.heap[D]? = some (.deferred (some []))) (hbx : Boxed W (w.heap.size + 1 + 1) 30 (.slice a pre.length c)) (hrow : W.ownsRow N1 35 7 (.slice a pre.length c) pre.length (mgCells (pre.map Prod.fst))) (hT : AlI w n N1 pre W) (he : pre.map Prod.fst = ys) :
    ((W.setCell ⟨w.heap.size + 1, 0, none⟩ (.slice a pre.length c)).heap[D]? = some (.deferred (some []))) ∧ ((W.setCell ⟨w.heap.size + 1, 0, none⟩ (.slice a pre.length c)).putObj D (.deferred none)).cell? ⟨w.heap.size + 1, 0, none⟩ = some (.slice a pre.length c) ∧
    OwnM w ys (.returned (.slice a pre.length c)) ((W.setCell ⟨w.heap.size + 1, 0, none⟩ (.slice a pre.length c)).putObj D (.deferred none)) := by
  subst he
  obtain ⟨_, _, h5, _, h6, h7⟩ := hT
  have hK2 : (W.setCell ⟨w.heap.size + 1, 0, none⟩ (.slice a pre.length c)).heap[D]? = some (.deferred (some [])) := (Below.heap_setCell _ _ _ _ (show D ≠ w.heap.size + 1 by omega)).trans hK
  have hb2 : Boxed ((W.setCell ⟨w.heap.size + 1, 0, none⟩ (.slice a pre.length c)).putObj D (.deferred none)) (w.heap.size + 1) 30 (.slice a pre.length c) := (World.putObj_heap_other (by omega)).trans (h5.set _)
  have hr2 : (W.setCell ⟨w.heap.size + 1, 0, none⟩ (.slice a pre.length c)).ownsRow N1 35 7 (.slice a pre.length c) pre.length (mgCells (pre.map Prod.fst)) := row_stays hrow (fun k cs hk hc => Below.heap_setCell _ _ _ _ (show k ≠ w.heap.size + 1 by omega))
  have h8 := ownsRow_putObj hr2 (.deferred none) hK2 rfl
  obtain ⟨a', c', e, hc⟩ := row_slice hrow
  cases e
  refine ⟨hK2, hb2.cell, a, c, by rw [List.length_map], by rw [List.length_map]; exact hc, fun e => ?_, ?_, h6.trans ⟨rfl, rfl, rfl, by simp, fun k hk => (World.putObj_heap_other (by omega)).trans (Below.heap_setCell _ _ _ _ (show k ≠ w.heap.size + 1 by omega))⟩⟩
  · subst e
    obtain ⟨g1, g2⟩ := row_none hrow
    rw [List.map_eq_nil_iff]
    exact ⟨List.eq_nil_of_length_eq_zero g1, g2⟩
  · rw [List.length_map]
    refine ⟨h8.1, ?_⟩
    rcases h8.2 with h | ⟨g, cap, cur, h1, h2, h3⟩
    · exact .inl h
    · exact .inr ⟨g, cap, cur, h1, by omega, h3⟩
/-- What a round may turn. -/
def EL (w : World) (N1 : Nat) (k : Nat) (o : Obj) : Prop := k = w.heap.size + 1 + 1 ∨ (N1 ≤ k ∧ o.isCells = true)
/-- A message appended. -/
theorem all_step {w W w4 : World} {n N1 : Nat} {pre : List (Mg × Nat)} {x : Mg × Nat} {v v' : Value} (hN1 : w.heap.size + 3 ≤ N1) (hT : AlI w n N1 pre W)
    (hbx : Boxed W (w.heap.size + 1 + 1) 30 v) (hrow : W.ownsRow N1 35 7 v pre.length (mgCells (pre.map Prod.fst))) (hlt : pre.length < n)
    {o : Obj} (hg : (W.alloc o).grownBy w4 v.ownBlock) (hown : w4.ownsRow N1 35 7 v' (pre.length + 1) (mgCells (pre.map Prod.fst) ++ mgCells [x.1])) :
    Boxed w4 (w.heap.size + 1 + 1) 30 v ∧ AlI w n N1 (pre ++ [x]) (w4.setCell ⟨w.heap.size + 1 + 1, 0, none⟩ v') ∧ Rg.Kept (EL w N1) W (w4.setCell ⟨w.heap.size + 1 + 1, 0, none⟩ v') := by
  obtain ⟨-, hbn, hbr, -, hB, hNW⟩ := hT
  have hvb : ∀ k, v.ownBlock = some k → N1 ≤ k ∧ ∃ cs, W.heap[k]? = some (Obj.cells cs 35 (0, 0)) := fun k e => by
    refine ⟨(hrow.lt k e).1, ?_⟩
    rcases hrow.2 with ⟨rfl, _⟩ | ⟨g, cap, cur, rfl, _, hc, _⟩
    · simp [Value.ownBlock] at e
    · simp [Value.ownBlock] at e; subst e; exact ⟨cur, hc⟩
  have k4 : ∀ k, k < W.heap.size → v.ownBlock ≠ some k → w4.heap[k]? = W.heap[k]? := fun k hk hne => by
    rw [hg.block k (by simp; omega) (fun e => hne e.symm)]
    exact Below.heap_alloc _ _ _ hk
  have hbx4 : Boxed w4 (w.heap.size + 1 + 1) 30 v := (k4 _ hbx.lt (fun e => by have := (hvb _ e).1; omega)).trans hbx
  have k5 : ∀ k, k < W.heap.size → v.ownBlock ≠ some k → k ≠ w.heap.size + 1 + 1 → (w4.setCell ⟨w.heap.size + 1 + 1, 0, none⟩ v').heap[k]? = W.heap[k]? := fun k hk hne hk1 => by
    rw [Below.heap_setCell _ _ _ _ (show k ≠ (⟨w.heap.size + 1 + 1, 0, none⟩ : Addr).block from hk1)]
    exact k4 k hk hne
  have hsz : W.heap.size ≤ w4.heap.size := by have := hg.size; simp at this; omega
  refine ⟨hbx4, ⟨⟨v', hbx4.set v', ?_⟩, ?_, ?_, by simp; omega, ?_, by simp; omega⟩, ⟨hg.os, hg.tape, hg.output, by simpa using hsz, fun k o hk hx => ?_⟩⟩
  · rw [List.map_append, List.length_append, List.length_singleton, mgCells_append]
    refine row_stays hown (fun k cs _ hc => Below.heap_setCell _ _ _ _ (fun e => ?_))
    subst e
    rw [show w4.heap[w.heap.size + 1 + 1]? = _ from hbx4] at hc
    simp only [Option.some.injEq, Obj.cells.injEq] at hc
    exact typ_neL hc.2.1
  · exact (k5 _ hbn.lt (fun e => by have := (hvb _ e).1; omega) (by omega)).trans hbn
  · exact (k5 _ hbr.lt (fun e => by have := (hvb _ e).1; omega) (by omega)).trans hbr
  · exact ⟨hg.os.trans hB.os, hg.tape.trans hB.tape, hg.output.trans hB.output, by have := hB.size; simp; omega, fun k hk => (k5 k (by have := hB.size; omega) (fun e => by have := (hvb k e).1; omega) (by omega)).trans (hB.block k hk)⟩
  · refine (k5 k (Array.getElem?_eq_some_iff.1 hk).1 (fun e => ?_) (fun e => hx (.inl e))).trans hk
    obtain ⟨h1, cs, hcs⟩ := hvb k e
    rw [hk] at hcs
    cases hcs
    exact hx (.inr ⟨h1, rfl⟩)
/-- A round's frame: the box of the message that came lies at q. -/
def AlA (w : World) (pv : Option Addr) (n Bp : Nat) (x : Mg × Nat) (q : Nat) : Act :=
  { tmps := #[.pointer pv, .int .i64 (n : Int), undef, .pointer (some ⟨w.heap.size, 0, none⟩), .pointer (some ⟨w.heap.size + 1, 0, none⟩), .pointer (some ⟨w.heap.size + 1 + 1, 0, none⟩), .func (.func 28) #[] #[.pointer (some ⟨Bp, 0, none⟩)], .int .i64 x.2, .pointer (some ⟨q, 0, none⟩), .pointer pv, .func (.func 28) #[] #[.pointer (some ⟨Bp, 0, none⟩)], .func (.func 28) #[] #[.pointer (some ⟨Bp, 0, none⟩)], .bool false, .func (.func 28) #[] #[.pointer (some ⟨Bp, 0, none⟩)], .int .i64 x.2, .agg #[.int .i64 x.1.k, .int .i64 x.1.fr, .int .i64 x.1.to, .int .i64 x.1.id, .int .i64 x.1.st, .int .i64 x.1.a, .int .i64 x.1.b], undef, undef, undef, undef, undef, undef, undef, undef, undef, undef, undef, undef, undef], defers := [] }
def AlX (w : World) (pv : Option Addr) (n Bp N1 : Nat) (x : Mg × Nat) (a' : Act) (W : World) : Prop :=
  ∃ q, N1 ≤ q ∧ W.heap[q]? = some (.cells #[.int .i64 x.1.k, .int .i64 x.1.fr, .int .i64 x.1.to, .int .i64 x.1.id, .int .i64 x.1.st, .int .i64 x.1.a, .int .i64 x.1.b] 35 (0, 0)) ∧ a' = AlA w pv n Bp x q
theorem zip_at {L : List Mg} {pre : List (Mg × Nat)} {x : Mg × Nat} (h : pre ++ [x] <+: L.zipIdx) : x.2 = pre.length ∧ L[pre.length]? = some x.1 := by
  obtain ⟨r, hr⟩ := h
  have h1 : L.zipIdx[pre.length]? = some x := by rw [← hr]; simp
  rw [List.getElem?_zipIdx] at h1
  cases h2 : L[pre.length]? with
  | none => rw [h2] at h1; simp at h1
  | some y =>
    rw [h2] at h1
    simp at h1
    subst h1
    exact ⟨rfl, rfl⟩
theorem zip_map {L : List Mg} {pre : List (Mg × Nat)} (h : pre <+: L.zipIdx) : pre.map Prod.fst = L.take pre.length := by
  obtain ⟨r, hr⟩ := h
  have h1 : L.zipIdx.map Prod.fst = L := by simp
  rw [← hr, List.map_append] at h1
  have h2 : (pre.map Prod.fst).length = pre.length := by simp
  rw [← h1, ← h2, List.take_left]

set_option maxRecDepth 100000 in
set_option maxHeartbeats 4000000 in
theorem lall_any (pv : Option Addr) (L : List Mg) (hL : L.length ≤ 1000000) (w : World) (n : Nat) (hn : n ≤ 1000)
    (hI : ∀ U : World, Below w.heap.size w U → Calls Try.prog 24 #[.pointer pv] U fun e w' => ∃ Bi, e = .returned (.func (.func 28) #[] #[.pointer (some ⟨Bi, 0, none⟩)]) ∧ Below U.heap.size U w' ∧ EachM U.heap.size w' Bi L) :
    Calls Try.prog 19 #[.pointer pv, .int .i64 n] w (OwnM w (L.take n)) := by
  refine (callsIn_wide (n := 5)).1 ?_
  obtain ⟨U, hU⟩ : ∃ U, U = ((w.alloc (.cells #[.int .i64 n] 3)).alloc (.cells #[.slice none 0 0] 30)).alloc (.cells #[.slice none 0 0] 30) := ⟨_, rfl⟩
  have hbU : Below w.heap.size w U := by rw [hU]; exact bel_al (bel_al (bel_al (Below.refl _ _) _) _) _
  have hsz : U.heap.size = w.heap.size + 3 := by rw [hU]; simp
  have hbn : Boxed U w.heap.size 3 (.int .i64 (n : Int)) := by rw [hU]; exact (Below.heap_alloc _ _ _ (by simp; omega)).trans ((Below.heap_alloc _ _ _ (by simp)).trans (World.alloc_heap_new w _))
  have hbr : Boxed U (w.heap.size + 1) 30 (.slice none 0 0) := by
    have h2 := World.alloc_heap_new (w.alloc (.cells #[.int .i64 n] 3)) (.cells #[.slice none 0 0] 30)
    rw [World.size_alloc] at h2
    rw [hU]; exact (Below.heap_alloc _ _ _ (by simp)).trans h2
  have hbl : Boxed U (w.heap.size + 1 + 1) 30 (.slice none 0 0) := by
    have h2 := World.alloc_heap_new ((w.alloc (.cells #[.int .i64 n] 3)).alloc (.cells #[.slice none 0 0] 30)) (.cells #[.slice none 0 0] 30)
    rw [World.size_alloc, World.size_alloc] at h2
    rw [hU]; exact h2
  have HAU := (callsIn_wide (n := 4)).2 (hI U hbU)
  have HUW := hide hU
  have HL := hide hL
  rw [hU] at HAU
  clear hU hI hL
  have hnf : ∀ (u : World) (b : Nat), (binOp BinOp.eql 55 (.func (.func 28) #[] #[.pointer (some ⟨b, 0, none⟩)]) .nilFunc).run Try.prog u = .ok (.bool false) u := fun _ _ => by kernel_rfl
  refine callsIn_of_wp_marks Try.func19 rfl trivial ?_ rfl
  simp only [Try.ntmps19, List.size_toArray, List.length_cons, List.length_nil, Nat.reduceAdd, Nat.reduceSub, Array.replicate_succ, Array.replicate_zero, List.push_toArray, List.append_toArray, List.nil_append, List.cons_append]
  gi_wp2_with fail
  refine ⟨trivial, HAU.mono ?_⟩
  rintro e w1 ⟨Bp, rfl, hb, hsq⟩
  rw [← HUW.out] at hb hsq
  clear HAU
  have hB1 : Below w.heap.size w w1 := bel_on' hbU hb
  have hN1 : w.heap.size + 3 ≤ w1.heap.size := by have := hb.size; omega
  have hl1 : Boxed w1 (w.heap.size + 1 + 1) 30 (.slice none 0 0) := (hb.block _ (by omega)).trans hbl
  have hr1 : Boxed w1 (w.heap.size + 1) 30 (.slice none 0 0) := (hb.block _ (by omega)).trans hbr
  have hn1 : Boxed w1 w.heap.size 3 (.int .i64 (n : Int)) := (hb.block _ (by omega)).trans hbn
  have h0 : AlI w n w1.heap.size [] w1 := ⟨⟨_, hl1, World.ownsRow_nil _ _ _ _⟩, hn1, hr1, Nat.zero_le _, hB1, Nat.le_refl _⟩
  obtain ⟨hBi, av, cv, hbi, hmi, hai⟩ := hsq
  have ES := each_seq (F := EL w w1.heap.size) hbi hmi (Nat.le_trans HL.out (by decide)) (fun ad e => ⟨fun o h => by have := hai ad e; rcases h with h | ⟨h, _⟩ <;> omega, (hai ad e).2⟩) (fun o h => by
    have h1 := (Array.getElem?_eq_some_iff.1 hbi).1
    rcases h with h | ⟨h, _⟩ <;> omega)
  obtain ⟨i0, hi, hz0, hz1, hz2⟩ := info_parts Try.infoMsg
  clear hbl hbr hbn hb hbU hl1 hr1 hn1 hbi hmi hai
  gi_wp2_with fail
  refine Rg2.range_acts (E := EL w w1.heap.size) (enc := encM) (L := L.zipIdx) (I := AlI w n w1.heap.size) (Ix := fun c' pre W => c' = .exit 0 ∧ ∃ ys x, pre = ys ++ [x] ∧ ys.length = n ∧ AlI w n w1.heap.size ys W) (Ax := AlX w pv n Bp w1.heap.size)
    (gf := 28) (lb := #[.pointer (some ⟨Bp, 0, none⟩)]) rfl (enters_of Try.func28 (by kernel_rfl) rfl) ES (fun k o h1 h2 h3 => ?he) (fun _ => rfl)
    (AlI.own (by omega)) (fun c' W0 W W' row hs hg hr => ?ix) (fun x a' => ?ax) h0 ?assign ?body ?done ?stop
  case he =>
    rcases h3 with h3 | ⟨_, h3⟩
    · omega
    · rw [h2] at h3; cases h3
  case ix =>
    obtain ⟨e1, ys, x, e2, e3, hT⟩ := hs
    exact ⟨e1, ys, x, e2, e3, AlI.own (by omega) ys W W' row hT hg hr⟩
  case ax =>
    rintro _ W W' row ⟨q, hq0, hq, hs⟩ hg hr
    exact ⟨q, hq0, (cells_stay hg hr hq).trans hq, hs⟩
  case assign =>
    intro l pre x W K hI hK
    have HK := hK (AlA w pv n Bp x W.heap.size) (W.alloc (.cells #[.int .i64 x.1.k, .int .i64 x.1.fr, .int .i64 x.1.to, .int .i64 x.1.id, .int .i64 x.1.st, .int .i64 x.1.a, .int .i64 x.1.b] 35)) (Rg.Kept.alloc _) (Rg.own_grows (AlI.own (Nat.le_refl _)) hI (bel_al (Below.refl _ _) _)) ⟨_, hI.2.2.2.2.2, World.alloc_heap_new _ _, rfl⟩
    clear hK
    unfold AlA at HK
    unfold encM
    gi_wp2
    exact HK
  case body =>
    rintro l pre x a' W hT ⟨q, hq0, hq, rfl⟩ hpq
    obtain ⟨⟨v, hbl, hrow⟩, hbn, hbr, hle, hB, hNW⟩ := id hT
    obtain ⟨av, cv, rfl, -⟩ := row_slice hrow
    have hcl := hbl.cell
    have hcn := hbn.cell
    have hx2 := (zip_at hpq).1
    obtain ⟨d0, d1, d2, d3, d4, d5, d6⟩ := box7 hq
    have HT := hide hT
    have HROW := hide hrow
    have HBL := hide hbl
    have HQ := hide hpq
    clear hq hpq hrow hbl hbn hbr hB hT
    obtain ⟨m, j⟩ := x
    dsimp only at hx2 d0 d1 d2 d3 d4 d5 d6
    subst hx2
    unfold AlA
    by_cases hge : pre.length < n
    · have q1 : ¬ (pre.length : Int) ≥ (n : Int) := by omega
      have q2 : ((pre.length : Int) != (pre.length : Int)) = false := by simp
      have HMN := hide (mgs_news (mgs_one W m))
      dsimp only
      gi_wp2_with (gi_at_builtin; refine wpListIn_append_own_at _ rfl (.tmp 24) (.tmp 26) 30 rfl w1.heap.size 35 i0 _ 7 56 Try.underlying30 hi hz0 hz1 hz2 rfl (by decide) (.slice av pre.length cv) pre.length (mgCells (pre.map Prod.fst)) rfl (HROW.out.alloc _) ⟨W.heap.size, 0, none⟩ 1 1 (mgCells [m]) rfl rfl HMN.out (fun u hu => mgCells_one hu) (by unfold maxLen; omega) (by omega) (by simp; omega) ?_; intro v' w4 hown' hgrow _ _; obtain ⟨a4, c4, rfl, -⟩ := row_slice hown'; obtain ⟨hb4, hT4, hp4⟩ := all_step (x := (m, pre.length)) hN1 HT.out HBL.out HROW.out hge hgrow hown'; have hc4 := hb4.cell; have hf4 := hb4.frozen; have HT4 := hide hT4; have HP4 := hide hp4; clear hT4 hp4 hb4 hgrow hown')
      exact ⟨HP4.out, HT4.out⟩
    · have q1 : (pre.length : Int) ≥ (n : Int) := by omega
      dsimp only
      gi_wp2
      exact ⟨Rg.Kept.refl _ _, rfl, pre, _, rfl, by omega, HT.out⟩
  case done =>
    rintro D W hD hT hK
    obtain ⟨⟨v, hbl, hrow⟩, hbn, hbr, hle, hB, hNW⟩ := id hT
    obtain ⟨av, cv, rfl, -⟩ := row_slice hrow
    have hcl := hbl.cell
    have hcr := hbr.cell
    have hfr := hbr.frozen
    have HLE := hide hle
    have HEND := hide (all_end hN1 hD hK hbl hrow hT (ys := L.take n) (by
      rw [zip_map (List.prefix_refl _), List.length_zipIdx, List.take_length]
      rw [List.length_zipIdx] at hle
      exact (List.take_of_length_le hle).symm))
    rw [List.length_zipIdx] at HEND hcl
    clear hbl hrow hbn hbr hB hT hle
    gi_wp2
    refine ⟨by simp, .inl ⟨_, _, rfl, run_takeDeferred HEND.out.1, ?_⟩⟩
    refine ⟨_, results_one Try.results19 _ _ _ _ rfl Try.isAgg30 HEND.out.2.1, ?_⟩
    exact HEND.out.2.2
  case stop =>
    rintro D c' pre W hD - hpr ⟨rfl, ys, x, rfl, hyn, hT⟩ hK
    obtain ⟨⟨v, hbl, hrow⟩, hbn, hbr, hle, hB, hNW⟩ := id hT
    obtain ⟨av, cv, rfl, -⟩ := row_slice hrow
    have hcl := hbl.cell
    have hcr := hbr.cell
    have hfr := hbr.frozen
    have HEND := hide (all_end hN1 hD hK hbl hrow hT (ys := L.take n) (by rw [zip_map ((List.prefix_append ys [x]).trans hpr), hyn]))
    clear hbl hrow hbn hbr hB hT hle hyn hpr
    gi_wp2
    refine ⟨by simp, .inl ⟨_, _, rfl, run_takeDeferred HEND.out.1, ?_⟩⟩
    refine ⟨_, results_one Try.results19 _ _ _ _ rfl Try.isAgg30 HEND.out.2.1, ?_⟩
    exact HEND.out.2.2
theorem tlall_any {B : Nat} {E : Nat → Prop} {w : World} {p : Nat} {s : Ps} (k : Pt B E w p s) (n : Nat) (hn : n ≤ 1000) :
    Calls Try.prog 19 #[.pointer (some ⟨p, 0, none⟩), .int .i64 n] w (OwnM w (s.l.take n)) :=
  lall_any _ s.l (by have h1 := k.good.len; have h2 := k.good.m2; omega) w n hn (fun U hU => tall_any (k.on hU))
theorem tlallnil_any (w : World) (n : Nat) (hn : n ≤ 1000) : Calls Try.prog 19 #[.pointer none, .int .i64 n] w (OwnM w []) := by
  have := lall_any none [] (by simp) w n hn (fun U _ => tallnil_any U)
  rwa [List.take_nil] at this

set_option maxRecDepth 100000 in
set_option maxHeartbeats 4000000 in
theorem tawake_any (w : World) : Calls Try.prog 9 #[] w fun e w' => e = .returned (.bool true) ∧ Below w.heap.size w w' := by
  have HN := tnew_any 1 w
  go_enter Try.func9, Try.ntmps9
  go_wp2_with fail
  refine HN.mono ?_
  rintro e u1 ⟨rfl, k1, b1⟩
  have HB1 := hide b1
  have HK1 := hide k1
  clear HN b1 k1
  have hb2 := bel_al (Below.refl u1.heap.size u1) (.cells #[.int .i64 0, .int .i64 0, .int .i64 0, .int .i64 1, .int .i64 0, .int .i64 0, .int .i64 0, .int .i64 0, .int .i64 0, .int .i64 0, .int .i64 2, .int .i64 0, .int .i64 0, .int .i64 0] 35)
  have P2 := tput_any (HK1.out.on hb2) (mgs_new u1 [⟨0, 0, 0, 1, 0, 0, 0⟩, ⟨0, 0, 0, 2, 0, 0, 0⟩] _ rfl) (c := 2) (fun _ ad e he => by cases e; have := HB1.out.size; have h3 := (HK1.out.1 _ he).2; dsimp only at h3; omega) (by simp)
  rw [show putPs (newPs 1) [⟨0, 0, 0, 1, 0, 0, 0⟩, ⟨0, 0, 0, 2, 0, 0, 0⟩] = ⟨1, [⟨0, 0, 0, 2, 0, 0, 0⟩], 1⟩ from rfl] at P2
  have HB2 := hide (HK1.out.on hb2)
  have HBB := hide (bel_al HB1.out (.cells #[.int .i64 0, .int .i64 0, .int .i64 0, .int .i64 1, .int .i64 0, .int .i64 0, .int .i64 0, .int .i64 0, .int .i64 0, .int .i64 0, .int .i64 2, .int .i64 0, .int .i64 0, .int .i64 0] 35))
  clear hb2
  go_wp2_with fail
  refine P2.mono ?_
  rintro e u3 ⟨rfl, k3, o3⟩
  have HB3 := hide (HBB.out.trans (HB2.out.bel o3))
  have HK3 := hide k3
  have T3 := ttake_any k3 0
  rw [show atPs [⟨0, 0, 0, 2, 0, 0, 0⟩] 0 = ⟨0, 0, 0, 2, 0, 0, 0⟩ from rfl, show inP [⟨0, 0, 0, 2, 0, 0, 0⟩] 0 = true from rfl, show takPs ⟨1, [⟨0, 0, 0, 2, 0, 0, 0⟩], 1⟩ 0 = ⟨1, [], 1⟩ from rfl] at T3
  dsimp only at T3
  clear k3 o3 P2 HB2 HBB HB1 HK1
  go_wp2_with fail
  refine T3.mono ?_
  rintro e u4 ⟨rfl, k4, o4⟩
  have HB4 := hide (HB3.out.trans (HK3.out.bel o4))
  have HK4 := hide k4
  clear k4 o4 T3 HB3 HK3
  go_wp2_with (first
    | (go_at_call 21; refine (tlost_any (HK4.out.on (bel_al (Below.refl _ _) _))).mono ?_; rintro e w5 ⟨rfl, rfl⟩)
    | (go_at_call 20; refine (tlen_any (HK4.out.on (bel_al (Below.refl _ _) _))).mono ?_; rintro e w5 ⟨rfl, rfl⟩))
  go_ret
  exact ⟨rfl, bel_al HB4.out _⟩
end Go.Proofs.Ytmndemjjfhdfdaa
