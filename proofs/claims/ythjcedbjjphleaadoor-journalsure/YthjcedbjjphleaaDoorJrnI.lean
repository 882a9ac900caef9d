/-
  Contract: the law's all: what a journal tells, at most n of it.
-/
import Derived.Test.YthjcedbjjphleaaDoorRGood
import Derived.Test.YthjcedbjjphleaaDoorJrnH
import Derived.Maps.OwnIn
namespace Go.Proofs.YthjcedbjjphleaaDoor
open Go.ChangeShapes Go.WideShapes Go.ChangeAt Go.RowKit Go.Shelf

attribute [local go_sem] Oper.semAt_some

/-- The cells of a row of entries. -/
def evCells (xs : List Ev) : List Value := xs.flatMap fun x => [.string x.k, .int .i64 x.id, .slice x.av x.l.length x.cv]
theorem evCells_len (xs : List Ev) : (evCells xs).length = xs.length * 3 := by
  induction xs with
  | nil => rfl
  | cons x r ih => simp only [evCells, List.flatMap_cons, List.length_append, List.length_cons, List.length_nil] at ih ⊢; omega
theorem evCells_snoc (xs : List Ev) (x : Ev) : evCells (xs ++ [x]) = evCells xs ++ [.string x.k, .int .i64 x.id, .slice x.av x.l.length x.cv] := by simp [evCells]

theorem Tryd.infoEnt : (Tryd.prog.info? 24).map (fun i => (i.zero, i.size, i.bytes)) = some (some (.agg #[.string ByteArray.empty, .int .i64 0, .slice none 0 0]), 3, 48) := by kernel_rfl

/-- What the loop of all has, pre having come: the boxes of l and n, the row, where the numbers lie. -/
def TI (w : World) (n N1 : Nat) (pre : List Ev) (W : World) : Prop :=
  (∃ v, Boxed W (w.heap.size + 1) 33 v ∧ W.ownsRow N1 24 3 v pre.length (evCells pre) ∧ (pre = [] → v = .slice none 0 0)) ∧ Boxed W w.heap.size 3 (.int .i64 (n : Int)) ∧ pre.length ≤ n ∧ (∀ x ∈ pre, Good N1 x W) ∧ Below w.heap.size w W ∧ N1 ≤ W.heap.size

theorem cells_stay {W W' : World} {row : Option Nat} {X : Nat} (hg : W.grownBy W' row) (hr : ∀ r, row = some r → X ≤ r ∧ ∃ o : Obj, W.heap[r]? = some o ∧ o.isCells = false) {k : Nat} {cs : Array Value} {t : TypeId} {f : Nat × Nat} (h : W.heap[k]? = some (.cells cs t f)) : W'.heap[k]? = W.heap[k]? :=
  hg.block k (Array.getElem?_eq_some_iff.1 h).1 (fun e => by
    obtain ⟨_, o, ho, hc⟩ := hr k e.symm
    rw [h] at ho
    cases ho
    cases hc)
theorem row_stays {W W' : World} {base : Nat} {e : TypeId} {s : Nat} {v : Value} {n : Nat} {xs : List Value} (h : W.ownsRow base e s v n xs) (hk : ∀ (k : Nat) (cs : Array Value), W.heap[k]? = some (.cells cs e (0, 0)) → W'.heap[k]? = W.heap[k]?) : W'.ownsRow base e s v n xs := by
  obtain ⟨h1, h2⟩ := h
  refine ⟨h1, ?_⟩
  rcases h2 with h2 | ⟨g, cap, cur, hv, hg, hc, rest⟩
  · exact .inl h2
  · exact .inr ⟨g, cap, cur, hv, hg, (hk g cur hc).trans hc, rest⟩
theorem Good.own (N1 X : Nat) (x : Ev) : OwnFrom X (fun (_ : Unit) W => Good N1 x W) := fun _ _ _ _ hs hg hr =>
  ⟨hs.1.moveF (fun _ _ ⟨_, hc⟩ => cells_stay hg hr hc), hs.2⟩
theorem TI.own {w : World} {n N1 X : Nat} (hX : w.heap.size ≤ X) : OwnFrom X (TI w n N1) := fun pre W W' row hs hg hr => by
  obtain ⟨⟨v, h1, h2, hnl⟩, h3, h4, h5, h6, h7⟩ := hs
  refine ⟨⟨v, (cells_stay hg hr h1).trans h1, row_stays h2 (fun k cs hc => cells_stay hg hr hc), hnl⟩, (cells_stay hg hr h3).trans h3, h4, fun x hx => Good.own N1 X x () W W' row (h5 x hx) hg hr, ?_, Nat.le_trans h7 hg.size⟩
  exact h6.grown hg h6.size (fun k e => Nat.le_trans hX (hr k e).1)

theorem typ_ne1 : 3 ≠ 24 ∧ 3 ≠ 33 ∧ 24 ≠ 33 := by decide

theorem keep_putObj' {B X n₀ n₁ : Nat} {W : World} {l : Nat} (hB : B ≤ X) (hX : X ≤ n₁) (hl : n₁ ≤ l) (o' : Obj) : Keep B n₀ n₁ W (W.putObj l o') :=
  ⟨⟨rfl, rfl, rfl, by simp, fun k hk => World.putObj_heap_other (by omega)⟩, fun k _ hk => World.putObj_heap_other (by omega)⟩

theorem cell_three_new (w : World) (x y z : Value) (t : TypeId) : ∀ j u, [x, y, z][j]? = some u → (w.alloc (.cells #[x, y, z] t)).cell? ((⟨w.heap.size, 0, none⟩ : Addr).add j) = some u := by
  intro j u hj
  rw [st_add, Nat.zero_add]
  have e : (w.alloc (.cells #[x, y, z] t)).heap[w.heap.size]? = some (.cells #[x, y, z] t (0, 0)) := World.alloc_heap_new w _
  rw [cell_of e]
  simpa using hj
theorem row_slice {W : World} {base : Nat} {e : TypeId} {s : Nat} {v : Value} {n : Nat} {xs : List Value} (h : W.ownsRow base e s v n xs) : ∃ a c, v = .slice a n c := by
  rcases h.2 with ⟨rfl, rfl⟩ | ⟨g, cap, cur, rfl, _⟩
  · exact ⟨_, _, rfl⟩
  · exact ⟨_, _, rfl⟩
theorem Rd.init {xs : List Ev} {x : Ev} {L : List ByteArray} (h : Rd (xs ++ [x]) L) : Rd xs L := fun i y hy => h i y (by
  have : i < xs.length := by
    by_cases hi : i < xs.length
    · exact hi
    · rw [List.getElem?_eq_none (by omega)] at hy; cases hy
  rw [List.getElem?_append_left this]; exact hy)

/-- What all hands back. -/
theorem told_end {w W : World} {n N1 D m : Nat} {xs : List Ev} {L : List ByteArray} {a : Option Addr} {c : Nat} (hN : w.heap.size ≤ N1) (hD : N1 ≤ D) (hK : W.heap[D]? = some (.deferred (some []))) (hrow : W.ownsRow N1 24 3 (.slice a xs.length c) xs.length (evCells xs)) (hT : TI w n N1 xs W) (hnl : xs = [] → Value.slice a xs.length c = .slice none 0 0) (hm : xs.length = m) (hrd : Rd xs L) :
    ∃ xs' a' c', Ending.returned (.slice a xs.length c) = .returned (.slice a' xs'.length c') ∧ xs'.length = m ∧ (xs' = [] → Value.slice a' xs'.length c' = .slice none 0 0) ∧ Rd xs' L ∧ (W.putObj D (.deferred none)).ownsRow w.heap.size 24 3 (.slice a' xs'.length c') xs'.length (evCells xs') ∧ (∀ x ∈ xs', Good w.heap.size x (W.putObj D (.deferred none))) ∧ Below w.heap.size w (W.putObj D (.deferred none)) := by
  obtain ⟨_, _, _, h5, h6, h7⟩ := hT
  have h8 := ownsRow_putObj hrow (.deferred none) hK rfl
  refine ⟨xs, a, c, rfl, hm, hnl, hrd, ⟨h8.1, ?_⟩, fun x hx => ?_, h6.trans ⟨rfl, rfl, rfl, by simp, fun k hk => World.putObj_heap_other (by omega)⟩⟩
  · rcases h8.2 with h | ⟨g, cap, cur, h1, h2, h3⟩
    · exact .inl h
    · exact .inr ⟨g, cap, cur, h1, Nat.le_trans hN h2, h3⟩
  · have hg := (Good.own N1 0 x).putObj (s := ()) (.deferred none) (h5 x hx) (Nat.zero_le D) hK rfl
    exact ⟨hg.1.lower hN, hg.2⟩

/-- An entry appended. -/
theorem told_step {w w0 W w4 : World} {n N1 : Nat} {pre : List Ev} {x : Ev} {v v' : Value} (hBw : w0.heap.size ≤ w.heap.size) (hN1 : w.heap.size + 2 ≤ N1) (hNW : N1 ≤ W.heap.size)
    (hbx : Boxed W (w.heap.size + 1) 33 v) (hrow : W.ownsRow N1 24 3 v pre.length (evCells pre)) (hbn : Boxed W w.heap.size 3 (.int .i64 (n : Int))) (hlt : pre.length < n) (hgd : ∀ y ∈ pre, Good N1 y W) (hB : Below w.heap.size w W) (hgx : Good N1 x W)
    {o : Obj} (hg : (W.alloc o).grownBy w4 v.ownBlock) (hown : w4.ownsRow N1 24 3 v' (pre.length + 1) (evCells pre ++ [.string x.k, .int .i64 x.id, .slice x.av x.l.length x.cv])) :
    Boxed w4 (w.heap.size + 1) 33 v ∧ TI w n N1 (pre ++ [x]) (w4.setCell ⟨w.heap.size + 1, 0, none⟩ v') ∧ KeepsFrom N1 W (w4.setCell ⟨w.heap.size + 1, 0, none⟩ v') ∧ Keep w0.heap.size (w.heap.size + 2) N1 W (w4.setCell ⟨w.heap.size + 1, 0, none⟩ v') := by
  have hvb : ∀ k, v.ownBlock = some k → N1 ≤ k ∧ ∃ cs, W.heap[k]? = some (Obj.cells cs 24 (0, 0)) := fun k e => by
    refine ⟨(hrow.lt k e).1, ?_⟩
    rcases hrow.2 with ⟨rfl, _⟩ | ⟨g, cap, cur, rfl, _, hc, _⟩
    · simp [Value.ownBlock] at e
    · simp [Value.ownBlock] at e; subst e; exact ⟨cur, hc⟩
  have k4 : ∀ k, k < W.heap.size → v.ownBlock ≠ some k → w4.heap[k]? = W.heap[k]? := fun k hk hne => by
    rw [hg.block k (by simp; omega) (fun e => hne e.symm)]
    exact Below.heap_alloc _ _ _ hk
  have hbx4 : Boxed w4 (w.heap.size + 1) 33 v := (k4 _ hbx.lt (fun e => by have := (hvb _ e).1; omega)).trans hbx
  have k5 : ∀ k, k < W.heap.size → v.ownBlock ≠ some k → k ≠ w.heap.size + 1 → (w4.setCell ⟨w.heap.size + 1, 0, none⟩ v').heap[k]? = W.heap[k]? := fun k hk hne hk1 => by
    rw [Below.heap_setCell _ _ _ _ (show k ≠ (⟨w.heap.size + 1, 0, none⟩ : Addr).block from hk1)]
    exact k4 k hk hne
  have ki : ∀ k : Nat, (∃ cs, W.heap[k]? = some (Obj.cells cs 3 (0, 0))) → (w4.setCell ⟨w.heap.size + 1, 0, none⟩ v').heap[k]? = W.heap[k]? := fun k ⟨cs, hc⟩ => by
    refine k5 k (Array.getElem?_eq_some_iff.1 hc).1 (fun e => ?_) (fun e => ?_)
    · obtain ⟨_, cs', hc'⟩ := hvb k e
      rw [hc] at hc'
      simp only [Option.some.injEq, Obj.cells.injEq] at hc'
      exact typ_ne1.1 hc'.2.1
    · subst e
      rw [show W.heap[w.heap.size + 1]? = _ from hbx] at hc
      simp only [Option.some.injEq, Obj.cells.injEq] at hc
      exact typ_ne1.2.1 hc.2.1.symm
  have hsz : W.heap.size ≤ w4.heap.size := by have := hg.size; simp at this; omega
  refine ⟨hbx4, ⟨⟨v', hbx4.set v', ?_, (fun e => by simp at e)⟩, ?_, by simp; omega, ?_, ?_, by simp; omega⟩, ⟨by simpa using hsz, fun k o hk ho hc => ?_⟩, ⟨⟨hg.os, hg.tape, hg.output, by simpa using hsz, fun k hk => ?_⟩, fun k hk hk1 => ?_⟩⟩
  · rw [evCells_snoc, List.length_append, List.length_singleton]
    refine row_stays hown (fun k cs hc => Below.heap_setCell _ _ _ _ (fun e => ?_))
    subst e
    rw [show w4.heap[w.heap.size + 1]? = _ from hbx4] at hc
    simp only [Option.some.injEq, Obj.cells.injEq] at hc
    exact typ_ne1.2.2 hc.2.1.symm
  · exact (ki _ ⟨_, hbn⟩).trans hbn
  · intro y hy
    rcases List.mem_append.1 hy with hy | hy
    · exact ⟨(hgd y hy).1.moveF (fun k _ hc => ki k hc), (hgd y hy).2⟩
    · have : y = x := by simpa using hy
      subst this
      exact ⟨hgx.1.moveF (fun k _ hc => ki k hc), hgx.2⟩
  · exact ⟨hg.os.trans hB.os, hg.tape.trans hB.tape, hg.output.trans hB.output, by have := hB.size; simp; omega, fun k hk => (k5 k (by have := hB.size; omega) (fun e => by have := (hvb k e).1; omega) (by omega)).trans (hB.block k hk)⟩
  · have hkl := (Array.getElem?_eq_some_iff.1 ho).1
    rw [k5 k hkl (fun e => ?_) (by omega)]
    · exact ho
    · obtain ⟨_, cs, hcs⟩ := hvb k e
      rw [ho] at hcs
      cases hcs
      cases hc
  · exact k5 k (by have := hB.size; omega) (fun e => by have := (hvb k e).1; omega) (by omega)
  · exact k5 k (by omega) (fun e => by have := (hvb k e).1; omega) (by omega)

set_option maxRecDepth 100000 in
set_option maxHeartbeats 4000000 in
theorem told_gen {w0 : World} (hg0 : Gl w0) {w : World} (hw : Below w0.heap.size w0 w) (q : Option Addr) (L : List ByteArray) (hl : L.length ≤ 4096) (hx : ∀ x ∈ L, x.size ≤ 63)
    (HA : ∀ u, Below w.heap.size w u → CallsIn Fence.wide 4 Tryd.prog 23 #[.pointer q] u (AllR u L)) (n : Nat) :
    Calls Tryd.prog 12 #[.pointer q, .int .i64 n] w fun e w' => ∃ xs a c, e = .returned (.slice a xs.length c) ∧ xs.length = min n ((wholeD fun s => Classical.propDecidable (Ok s)) L) ∧ (xs = [] → Value.slice a xs.length c = .slice none 0 0) ∧ Rd xs L ∧
      w'.ownsRow w.heap.size 24 3 (.slice a xs.length c) xs.length (evCells xs) ∧ (∀ x ∈ xs, Good w.heap.size x w') ∧ Below w.heap.size w w' := by
  refine (callsIn_wide (n := 5)).1 ?_
  have HG : Hid (Gl w0) := hg0
  have HW : Hid (Below w0.heap.size w0 w) := hw
  obtain ⟨U, hU⟩ : ∃ U, U = (w.alloc (.cells #[.int .i64 n] 3)).alloc (.cells #[.slice none 0 0] 33) := ⟨_, rfl⟩
  have hbU : Below w.heap.size w U := by rw [hU]; exact ((Below.refl _ _).alloc (Nat.le_refl _) _).alloc (by simp) _
  have hsz : U.heap.size = w.heap.size + 2 := by rw [hU]; simp
  have hbn : Boxed U w.heap.size 3 (.int .i64 (n : Int)) := by
    show U.heap[w.heap.size]? = _
    rw [hU]
    show ((w.heap.push _).push _)[w.heap.size]? = _
    simp [Array.getElem?_push]
  have hbl : Boxed U (w.heap.size + 1) 33 (.slice none 0 0) := by
    show U.heap[w.heap.size + 1]? = _
    rw [hU]
    show ((w.heap.push _).push _)[w.heap.size + 1]? = _
    rw [Array.getElem?_push]
    simp
  have HAU := HA U hbU
  have HUW : Hid (U = (w.alloc (.cells #[.int .i64 n] 3)).alloc (.cells #[.slice none 0 0] 33)) := hU
  rw [hU] at HAU
  clear hg0 hw hU HA
  have hnf : ∀ (u : World) (b : Nat), (binOp BinOp.eql 54 (.func (.func 43) #[] #[.pointer (some ⟨b, 0, none⟩)]) .nilFunc).run Tryd.prog u = .ok (.bool false) u := fun _ _ => by kernel_rfl
  refine callsIn_of_wp_marks Tryd.func12 rfl trivial ?_ rfl
  simp only [Tryd.ntmps12, List.size_toArray, List.length_cons, List.length_nil, Nat.reduceAdd, Nat.reduceSub, Array.replicate_succ, Array.replicate_zero, List.push_toArray, List.append_toArray, List.nil_append, List.cons_append]
  gi_wp2_with fail
  refine ⟨trivial, HAU.mono ?_⟩
  rintro e w1 ⟨a, c, Bs, rfl, hcb, hla, hbs, hb⟩
  rw [← HUW.out] at hla hbs hb
  clear HAU
  have hB1 : Below w.heap.size w w1 := bel_on' hbU hb
  have hBw : w0.heap.size ≤ w.heap.size := HW.out.size
  have hN1 : w.heap.size + 2 ≤ w1.heap.size := by have := hb.size; omega
  have hb11 : Boxed w1 (w.heap.size + 1) 33 (.slice none 0 0) := (hb.block _ (by omega)).trans hbl
  have hbn1 : Boxed w1 w.heap.size 3 (.int .i64 (n : Int)) := (hb.block _ (by omega)).trans hbn
  have h0 : TI w n w1.heap.size [] w1 := ⟨⟨_, hb11, World.ownsRow_nil _ _ _ _, fun _ => rfl⟩, hbn1, Nat.zero_le _, (fun x hx => by cases hx), hB1, Nat.le_refl _⟩
  have ES := entries_tells 4 (by omega) Bs U.heap.size w1.heap.size w0 HG.out a c L hl hx w1 hcb hla (bel_on' HW.out hB1) (Nat.le_refl _)
  rw [hsz] at ES
  obtain ⟨i0, hi, hz0, hz1, hz2⟩ := info_parts Tryd.infoEnt
  clear hbl hbn hcb hla hb hbU hb11 hbn1
  gi_wp2_with fail
  refine range_tells (I := TI w n w1.heap.size) (Ix := fun c pre W => c = .exit 0 ∧ ∃ ys x, pre = ys ++ [x] ∧ ys.length = n ∧ TI w n w1.heap.size ys W)
    (Ax := fun x a' W => ∃ Bx, W.heap[Bx]? = some (.cells #[.string x.k, .int .i64 x.id, .slice x.av x.l.length x.cv] 24 (0, 0)) ∧
      a' = { tmps := #[.pointer q, .int .i64 (n : Int), undef, .pointer (some ⟨w.heap.size, 0, none⟩), .slice none 0 0, .pointer (some ⟨w.heap.size + 1, 0, none⟩), .func (.func 43) #[] #[.pointer (some ⟨Bs, 0, none⟩)], .pointer (some ⟨Bx, 0, none⟩), .pointer q, .func (.func 43) #[] #[.pointer (some ⟨Bs, 0, none⟩)], .func (.func 43) #[] #[.pointer (some ⟨Bs, 0, none⟩)], .bool false, .func (.func 43) #[] #[.pointer (some ⟨Bs, 0, none⟩)], x.enc, undef, undef, undef, undef, undef, undef, undef, undef, undef], defers := [] })
    rfl (by omega) (gf := 43) (lb := #[.pointer (some ⟨Bs, 0, none⟩)]) rfl trivial (enters_of Tryd.func43 (by kernel_rfl) rfl) ES
    (fun h k => h.trans k) (fun W l o o' hl' ho hc => keep_putObj' hBw (by omega) hl' o') (fun _ => rfl)
    (TI.own (by omega)) (fun c W0 W W' row hs hg hr => ?ix) (fun x a' => ?ax) (Good.own _ _) h0 ?assign ?body ?done ?stop
  case ix =>
    obtain ⟨e1, ys, x, e2, e3, hT⟩ := hs
    exact ⟨e1, ys, x, e2, e3, TI.own (by omega) ys W W' row hT hg hr⟩
  case ax =>
    intro _ W W' row hs hg hr
    obtain ⟨Bx, h1, h2⟩ := hs
    exact ⟨Bx, (cells_stay hg hr h1).trans h1, h2⟩
  case assign =>
    intro l pre x W K hI hG hK
    have hW7 := hI.2.2.2.2
    have hbA : Below W.heap.size W (W.alloc (.cells #[.string x.k, .int .i64 x.id, .slice x.av x.l.length x.cv] 24)) := (Below.refl _ _).alloc (Nat.le_refl _) _
    have HK := hK { tmps := #[.pointer q, .int .i64 (n : Int), undef, .pointer (some ⟨w.heap.size, 0, none⟩), .slice none 0 0, .pointer (some ⟨w.heap.size + 1, 0, none⟩), .func (.func 43) #[] #[.pointer (some ⟨Bs, 0, none⟩)], .pointer (some ⟨W.heap.size, 0, none⟩), .pointer q, .func (.func 43) #[] #[.pointer (some ⟨Bs, 0, none⟩)], .func (.func 43) #[] #[.pointer (some ⟨Bs, 0, none⟩)], .bool false, .func (.func 43) #[] #[.pointer (some ⟨Bs, 0, none⟩)], x.enc, undef, undef, undef, undef, undef, undef, undef, undef, undef], defers := [] } _
      ((KeepsOthers.alloc _ _).from _) (Keep.of_below hbA (by have := hW7.1.size; omega) hW7.2) (ownFrom_grows (TI.own (X := w1.heap.size) (by omega)) hI hbA) (ownFrom_grows (Good.own _ w1.heap.size x) (s := ()) hG hbA) ⟨W.heap.size, World.alloc_heap_new W _, rfl⟩
    clear hK
    unfold Ev.enc at HK ⊢
    gi_wp2
    exact HK
  case body =>
    rintro l pre x a' W ⟨⟨v, hbl, hrow, hnl⟩, hbn, hle, hgd, hB, hNW⟩ ⟨Bx, hbx, rfl⟩ hG hlt
    obtain ⟨av, cv, rfl⟩ := row_slice hrow
    have hcl := hbl.cell
    have hcn := hbn.cell
    have e0 : W.cell? ⟨Bx, 0, none⟩ = some (.string x.k) := by rw [cell_of hbx]; rfl
    have e1 : W.cell? ⟨Bx, 1, none⟩ = some (.int .i64 x.id) := by rw [cell_of hbx]; rfl
    have e2 : W.cell? ⟨Bx, 2, none⟩ = some (.slice x.av x.l.length x.cv) := by rw [cell_of hbx]; rfl
    unfold Ev.enc
    by_cases hge : pre.length < n
    · have q1 : ¬ (pre.length : Int) ≥ (n : Int) := by omega
      gi_wp2_with (gi_at_builtin; refine wpListIn_append_own_at _ rfl (.tmp 18) (.tmp 20) 33 rfl w1.heap.size 24 i0 _ 3 48 Tryd.underlying33 hi hz0 hz1 hz2 rfl (by decide) (.slice av pre.length cv) pre.length (evCells pre) rfl (hrow.alloc _) ⟨W.heap.size, 0, none⟩ 1 1 [.string x.k, .int .i64 x.id, .slice x.av x.l.length x.cv] rfl rfl (cell_three_new _ _ _ _ _) (by simp [Value.oneCell']) (by unfold maxLen; omega) (by omega) (by simp; omega) ?_; intro v' w4 hown' hgrow _ _; obtain ⟨a4, c4, rfl⟩ := row_slice hown'; obtain ⟨hb4, hT4, hk4, hp4⟩ := told_step hBw hN1 hNW hbl hrow hbn hge hgd hB hG hgrow hown'; have hc4 := hb4.cell; have hf4 := hb4.frozen)
      exact ⟨hk4, hp4, hT4⟩
    · have q1 : (pre.length : Int) ≥ (n : Int) := by omega
      gi_wp2
      exact ⟨KeepsFrom.refl _ _, rfl, pre, x, rfl, by omega, ⟨⟨_, hbl, hrow, hnl⟩, hbn, hle, hgd, hB, hNW⟩⟩
  case done =>
    rintro D xs W hD ⟨hlen, hrd⟩ hT hK
    have HLN : Hid (xs.length = (wholeD fun s => Classical.propDecidable (Ok s)) L) := hlen
    clear hlen
    obtain ⟨⟨v, hbl, hrow, hnl⟩, -⟩ := id hT
    obtain ⟨av, cv, rfl⟩ := row_slice hrow
    have hcl := hbl.cell
    have hle := hT.2.2.1
    gi_wp2
    refine ⟨by simp, .inl ⟨_, _, rfl, run_takeDeferred hK, ?_⟩⟩
    obtain ⟨xs', a', c', z1, z2⟩ := told_end (m := min n ((wholeD fun s => Classical.propDecidable (Ok s)) L)) (by omega) hD hK hrow hT hnl (by have := HLN.out; omega) hrd
    refine ⟨_, results_tmp rfl _ _ _, ?_⟩
    exact ⟨xs', a', c', z1, z2⟩
  case stop =>
    rintro D c pre W hD ⟨-, hwl, hrd⟩ ⟨rfl, ys, x, rfl, hyn, hT⟩ hK
    obtain ⟨⟨v, hbl, hrow, hnl⟩, -⟩ := id hT
    obtain ⟨av, cv, rfl⟩ := row_slice hrow
    have hcl := hbl.cell
    simp at hwl
    have HLN : Hid (ys.length = n) := hyn
    clear hyn
    gi_wp2
    refine ⟨by simp, .inl ⟨_, _, rfl, run_takeDeferred hK, ?_⟩⟩
    obtain ⟨xs', a', c', z1, z2⟩ := told_end (m := min n ((wholeD fun s => Classical.propDecidable (Ok s)) L)) (by omega) hD hK hrow hT hnl (by have := HLN.out; omega) hrd.init
    refine ⟨_, results_tmp rfl _ _ _, ?_⟩
    exact ⟨xs', a', c', z1, z2⟩

theorem told_any {w0 : World} (hg0 : Gl w0) {w : World} (hw : Below w0.heap.size w0 w) {p : Nat} {v : Value} {room : Int} {L : List ByteArray} {sure : Nat} {down : Bool} (h : Jr w0.heap.size w p v room L sure down) (n : Nat) :
    Calls Tryd.prog 12 #[.pointer (some ⟨p, 0, none⟩), .int .i64 n] w fun e w' => ∃ xs a c, e = .returned (.slice a xs.length c) ∧ xs.length = min n ((wholeD fun s => Classical.propDecidable (Ok s)) L) ∧ (xs = [] → Value.slice a xs.length c = .slice none 0 0) ∧ Rd xs L ∧
      w'.ownsRow w.heap.size 24 3 (.slice a xs.length c) xs.length (evCells xs) ∧ (∀ x ∈ xs, Good w.heap.size x w') ∧ Below w.heap.size w w' :=
  told_gen hg0 hw _ L h.2.2.2.2.1 (fun x hx => (h.2.2.2.2.2 x hx).2) (fun _ hu => all_in 4 (by omega) (h.on hu)) n
theorem told_nil {w0 : World} (hg0 : Gl w0) {w : World} (hw : Below w0.heap.size w0 w) (n : Nat) :
    Calls Tryd.prog 12 #[.pointer none, .int .i64 n] w fun e w' => e = .returned (.slice none 0 0) ∧ Below w.heap.size w w' :=
  (told_gen hg0 hw none [] (by simp) (by simp) (fun u _ => all_nil_in 4 (by omega) u) n).mono fun e w' ⟨xs, a, c, h1, h2, h3, _, _, _, h6⟩ => by
    have h0 : xs.length = 0 := by rw [h2]; show min n 0 = 0; omega
    rw [h3 (List.eq_nil_of_length_eq_zero h0)] at h1
    exact ⟨h1, h6⟩
end Go.Proofs.YthjcedbjjphleaaDoor
