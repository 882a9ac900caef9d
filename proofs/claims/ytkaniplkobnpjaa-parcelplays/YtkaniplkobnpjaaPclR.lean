/-
  The reference's book of parcels in memory: its block, its row of parcels. Contract of its Find.
-/
import Derived.Test.YtkaniplkobnpjaaPclA
import Derived.Test.YtkaniplkobnpjaaRf7
namespace Go.Proofs.Ytkaniplkobnpjaa
open Go.ChangeShapes Go.WideShapes Go.ChangeAt Go.RowKit Go.Maps

theorem Try.infoPcl : (Try.prog.info? 35).map (fun i => (i.zero, i.size, i.bytes)) = some (some (.agg #[.int .i64 0, .int .i64 0, .int .i64 0]), 3, 24) := by kernel_rfl
/-- A row of parcels, as cells. -/
def tcells (l : List (Int × Int × Int)) : List Value := l.flatMap fun x => [.int .i64 x.1, .int .i64 x.2.1, .int .i64 x.2.2]
theorem tcells_app (l m : List (Int × Int × Int)) : tcells (l ++ m) = tcells l ++ tcells m := by simp [tcells]
theorem tcells_len (l : List (Int × Int × Int)) : (tcells l).length = l.length * 3 := by
  induction l with
  | nil => rfl
  | cons x l ih => rw [show tcells (x :: l) = [.int .i64 x.1, .int .i64 x.2.1, .int .i64 x.2.2] ++ tcells l by simp [tcells]]; simp [ih]; omega
theorem tcells_at : ∀ (l : List (Int × Int × Int)) (i : Nat) (x : Int × Int × Int), l[i]? = some x → (tcells l)[i * 3]? = some (.int .i64 x.1) ∧ (tcells l)[i * 3 + 1]? = some (.int .i64 x.2.1) ∧ (tcells l)[i * 3 + 2]? = some (.int .i64 x.2.2)
  | [], i, x, h => by simp at h
  | y :: r, 0, x, h => by simp at h; subst h; simp [tcells]
  | y :: r, i + 1, x, h => by
    have ih := tcells_at r i x (by simpa using h)
    have e : tcells (y :: r) = [.int .i64 y.1, .int .i64 y.2.1, .int .i64 y.2.2] ++ tcells r := by simp [tcells]
    rw [e, show (i + 1) * 3 = i * 3 + 3 by omega]
    refine ⟨?_, ?_, ?_⟩
    · rw [List.getElem?_append_right (by simp)]; simpa using ih.1
    · rw [List.getElem?_append_right (by simp)]; simpa using ih.2.1
    · rw [List.getElem?_append_right (by simp)]; simpa using ih.2.2
/-- The slice at a reads as the parcels l. -/
def Tri (w : World) (a : Option Addr) (l : List (Int × Int × Int)) : Prop :=
  l = [] ∨ ∃ b, a = some ⟨b, 0, none⟩ ∧ ∀ (i : Nat) (x : Int × Int × Int), l[i]? = some x → w.cell? ⟨b, i * 3, none⟩ = some (.int .i64 x.1) ∧ w.cell? ⟨b, i * 3 + 1, none⟩ = some (.int .i64 x.2.1) ∧ w.cell? ⟨b, i * 3 + 2, none⟩ = some (.int .i64 x.2.2)
theorem Tri.below {w w' : World} {a : Option Addr} {l : List (Int × Int × Int)} (h : Tri w a l) (hb : Below w.heap.size w w') : Tri w' a l := by
  rcases h with h | ⟨b, ha, hc⟩
  · exact .inl h
  · exact .inr ⟨b, ha, fun i x hx => by obtain ⟨h0, h1, h2⟩ := hc i x hx; exact ⟨cellL h0 hb, cellL h1 hb, cellL h2 hb⟩⟩
theorem row_tri {W : World} {base : Nat} {a : Option Addr} {n c : Nat} {l : List (Int × Int × Int)} (h : W.ownsRow base 35 3 (.slice a n c) n (tcells l)) (hn : n = l.length) : Tri W a l := by
  have hc := fun g hg => h.cells (g := g) hg
  rcases h.2 with ⟨_, h1⟩ | ⟨g, cap, cur, e, hb, hcur, _⟩
  · exact .inl (List.eq_nil_of_length_eq_zero (by omega))
  · cases e
    refine .inr ⟨g, rfl, fun i x hx => ?_⟩
    obtain ⟨e1, e2, e3⟩ := tcells_at l i x hx
    have c1 := hc g rfl _ _ e1
    have c2 := hc g rfl _ _ e2
    have c3 := hc g rfl _ _ e3
    rw [st_add', Nat.zero_add] at c1 c2 c3
    exact ⟨c1, c2, c3⟩
/-- The reference's book at q. -/
def RcV (B : Nat) (E : Nat → Prop) (w : World) (q : Nat) (l : List (Int × Int × Int)) (v : Value) : Prop :=
  w.heap[q]? = some (.cells #[v] 28 (0, 0)) ∧ w.ownsRow B 35 3 v l.length (tcells l) ∧ (∀ k, v.ownBlock = some k → E k)
def Rc (B : Nat) (E : Nat → Prop) (w : World) (q : Nat) (l : List (Int × Int × Int)) : Prop :=
  (∀ k, E k → B ≤ k ∧ k < w.heap.size) ∧ E q ∧ ∃ v, RcV B E w q l v
section
variable {B : Nat} {E E' : Nat → Prop} {w w' : World} {q : Nat} {l : List (Int × Int × Int)} {v : Value}
theorem RcV.kept {F : Nat → Obj → Prop} (k : RcV B E w q l v) (hq : E q) (hk : Rg.Kept F w w') (hE : ∀ k o, E k → ¬ F k o) : RcV B E w' q l v := by
  obtain ⟨h1, h2, h3⟩ := k
  refine ⟨hk.block _ _ h1 (hE _ _ hq), ⟨h2.1, ?_⟩, h3⟩
  rcases h2.2 with h | ⟨g, cap, cur, rfl, hg, hc, rest⟩
  · exact .inl h
  · exact .inr ⟨g, cap, cur, rfl, hg, hk.block _ _ hc (hE _ _ (h3 g rfl)), rest⟩
theorem Rc.low (k : Rc B E w q l) : B ≤ w.heap.size := by have := k.1 q k.2.1; omega
theorem Rc.kept {F : Nat → Obj → Prop} (k : Rc B E w q l) (hk : Rg.Kept F w w') (hE : ∀ k o, E k → ¬ F k o) : Rc B E w' q l := by
  obtain ⟨h1, h2, v, h4⟩ := k
  exact ⟨fun k e => ⟨(h1 k e).1, Nat.lt_of_lt_of_le (h1 k e).2 hk.size⟩, h2, v, h4.kept h2 hk hE⟩
theorem Rc.on (k : Rc B E w q l) (hb : Below w.heap.size w w') : Rc B E w' q l := k.kept (F := fun _ _ => False) (Rg.Kept.of_below hb) (fun _ _ _ h => h)
theorem Rc.grow {W : World} (k : Rc B E w q l) (hB : B ≤ W.heap.size) : Rc B (growE E W w) w q l := by
  obtain ⟨h1, h2, v, h3, h4, h5⟩ := k
  exact ⟨fun k e => e.elim (h1 k) (fun e => ⟨by omega, e.2⟩), .inl h2, v, h3, h4, fun k e => .inl (h5 k e)⟩
theorem Rc.bel (k : Rc B E w q l) (hk : Rg.Kept (fun i _ => E i) w w') : Below B w w' := hk.bel k.low (fun i _ e => (k.1 i e).1)
/-- Its row, as a slice. -/
theorem Rc.row (k : Rc B E w q l) : ∃ a c, w.cell? ⟨q, 0, none⟩ = some (.slice a l.length c) ∧ Tri w a l := by
  obtain ⟨-, -, v, h1, h2, -⟩ := k
  obtain ⟨a, c, rfl, -⟩ := row_slice h2
  exact ⟨a, c, by rw [cell_of h1]; rfl, row_tri h2 rfl⟩
end
theorem findP_take {l : List (Int × Int × Int)} {j : Nat} {x : Int × Int × Int} {id : Int} (h : l[j]? = some x) : findP (l.take (j + 1)) id = (findP (l.take j) id).or (if x.1 = id then some x.2 else none) := by
  rw [← take_preA h, findP_app]
  rfl

set_option maxRecDepth 100000 in
set_option maxHeartbeats 1000000 in
theorem rfind_any {B : Nat} {E : Nat → Prop} {w : World} {q : Nat} {l : List (Int × Int × Int)} (k : Rc B E w q l) (hl : l.length ≤ 1000) (id : Int) :
    Calls Try.prog 11 #[.pointer (some ⟨q, 0, none⟩), .int .i64 id] w fun e w' => ∃ z, e = .returned (.tuple #[.agg #[.int .i64 z, .int .i64 ((findP l id).getD (0, 0)).1, .int .i64 ((findP l id).getD (0, 0)).2], .bool (findP l id).isSome]) ∧ Below w.heap.size w w' := by
  have hlt := (k.1 q k.2.1).2
  obtain ⟨a, c, c0, ht⟩ := k.row
  have HT := hide ht
  obtain ⟨r, hr⟩ : ∃ r, findP l id = r := ⟨_, rfl⟩
  rw [hr]
  have HR := hide hr
  clear k ht hr
  go_enter Try.func11, Try.ntmps11
  go_wp2
  have HZ0 : Hid ((w.alloc (.cells #[.int .i64 0, .int .i64 0, .int .i64 0] 35)).heap[w.heap.size]? = some (.cells #[.int .i64 0, .int .i64 0, .int .i64 0] 35 (0, 0))) := World.alloc_heap_new _ _
  have HB0 : Hid (Below w.heap.size w (w.alloc (.cells #[.int .i64 0, .int .i64 0, .int .i64 0] 35))) := bel_al (Below.refl _ _) _
  go_loopw [13] (fun i wr => ∃ j : Nat, i = .int .i64 j ∧ j ≤ l.length ∧ Hid (findP (l.take j) id = none) ∧ Hid (Below w.heap.size w wr) ∧ Hid (wr.heap[w.heap.size]? = some (.cells #[.int .i64 0, .int .i64 0, .int .i64 0] 35 (0, 0)))) (fun i _ => l.length - (Go.RowKit.intOf i).toNat)
  case atStart => exact ⟨0, rfl, Nat.zero_le _, by rw [List.take_zero]; rfl, HB0, HZ0⟩
  case round =>
    obtain ⟨j, rfl, hj, HF, HB, HZ⟩ := hrel
    clear HZ0 HB0 c0
    have hs : w.heap.size < wr.heap.size := (Array.getElem?_eq_some_iff.1 HZ.out).1
    by_cases hjl : j < l.length
    · have qj : (j : Int) < (l.length : Int) := by omega
      obtain ⟨x, hx⟩ : ∃ x, l[j]? = some x := ⟨l[j], by simp [hjl]⟩
      rcases HT.out.below HB.out with h0 | ⟨b, rfl, hc⟩
      · subst h0; simp at hjl
      obtain ⟨d0, d1, d2⟩ := hc j x hx
      have hft := findP_take (id := id) hx
      rw [HF.out] at hft
      obtain ⟨x0, x1, x2⟩ := x
      dsimp only at d0 d1 d2 hft
      by_cases he : x0 = id
      · have qe : (x0 == id) = true := by simp [he]
        rw [if_pos he] at hft
        have hfl : findP l id = some (x1, x2) := by
          rw [← List.take_append_drop (j + 1) l, findP_app, hft]
          rfl
        rw [HR.out] at hfl
        subst hfl
        have z0 : wr.cell? ⟨w.heap.size, 0, none⟩ = some (.int .i64 0) := by rw [cell_of HZ.out]; rfl
        have z1 : wr.cell? ⟨w.heap.size, 1, none⟩ = some (.int .i64 0) := by rw [cell_of HZ.out]; rfl
        have z2 : wr.cell? ⟨w.heap.size, 2, none⟩ = some (.int .i64 0) := by rw [cell_of HZ.out]; rfl
        have y0 : wr.frozen? ⟨w.heap.size, 0, none⟩ = false := frozen_of_row _ _ _ _ _ HZ.out
        have y1 : wr.frozen? ⟨w.heap.size, 1, none⟩ = false := frozen_of_row _ _ _ _ _ HZ.out
        have y2 : wr.frozen? ⟨w.heap.size, 2, none⟩ = false := frozen_of_row _ _ _ _ _ HZ.out
        clear hc hx hft he HF HT HR
        go_wp2
        refine bodyPost_ret (v := .tuple #[.agg #[.int .i64 x0, .int .i64 x1, .int .i64 x2], .bool true]) ?_ rfl ?_
        · rw [results_cell_tmp Try.results11]
          simp [go_sem, z0, z1, z2, hs]
        · exact ⟨x0, rfl, bel_al (((HB.out.setCell (p := ⟨w.heap.size, 0, none⟩) (Nat.le_refl _) _).setCell (p := ⟨w.heap.size, 1, none⟩) (Nat.le_refl _) _).setCell (p := ⟨w.heap.size, 2, none⟩) (Nat.le_refl _) _) _⟩
      · have qe : (x0 == id) = false := by simp [he]
        rw [if_neg he] at hft
        have HF2 : Hid (findP (l.take (j + 1)) id = none) := hft
        have HB2 : Hid (Below w.heap.size w (wr.alloc (.cells #[.int .i64 x0, .int .i64 x1, .int .i64 x2] 35))) := bel_al HB.out _
        have HZ2 : Hid ((wr.alloc (.cells #[.int .i64 x0, .int .i64 x1, .int .i64 x2] 35)).heap[w.heap.size]? = some (.cells #[.int .i64 0, .int .i64 0, .int .i64 0] 35 (0, 0))) := (Below.heap_alloc _ _ _ hs).trans HZ.out
        clear hc hx hft he HF HT
        go_wp2
        go_roundw
        case rel => exact ⟨j + 1, by go_num, by omega, HF2, HB2, HZ2⟩
        case measure => simp [Go.RowKit.intOf]; omega
    · have qj : ¬ (j : Int) < (l.length : Int) := by omega
      have hfl : findP l id = none := by have := HF.out; rwa [List.take_of_length_le (by omega)] at this
      rw [HR.out] at hfl
      subst hfl
      have z0 : wr.cell? ⟨w.heap.size, 0, none⟩ = some (.int .i64 0) := by rw [cell_of HZ.out]; rfl
      have z1 : wr.cell? ⟨w.heap.size, 1, none⟩ = some (.int .i64 0) := by rw [cell_of HZ.out]; rfl
      have z2 : wr.cell? ⟨w.heap.size, 2, none⟩ = some (.int .i64 0) := by rw [cell_of HZ.out]; rfl
      have y0 : wr.frozen? ⟨w.heap.size, 0, none⟩ = false := frozen_of_row _ _ _ _ _ HZ.out
      have y1 : wr.frozen? ⟨w.heap.size, 1, none⟩ = false := frozen_of_row _ _ _ _ _ HZ.out
      have y2 : wr.frozen? ⟨w.heap.size, 2, none⟩ = false := frozen_of_row _ _ _ _ _ HZ.out
      clear HF HT HR
      go_wp2
      refine bodyPost_ret (v := .tuple #[.agg #[.int .i64 0, .int .i64 0, .int .i64 0], .bool false]) ?_ rfl ?_
      · rw [results_cell_tmp Try.results11]
        simp [go_sem, z0, z1, z2]
      · exact ⟨⟨0, rfl⟩, ((HB.out.setCell (p := ⟨w.heap.size, 0, none⟩) (Nat.le_refl _) _).setCell (p := ⟨w.heap.size, 1, none⟩) (Nat.le_refl _) _).setCell (p := ⟨w.heap.size, 2, none⟩) (Nat.le_refl _) _⟩
/-- A prefix with what stands next. -/
theorem wentP_take {l : List (Int × Int × Int)} {j : Nat} {x : Int × Int × Int} (h : l[j]? = some x) (k : Int) : wentP (l.take (j + 1)) k = wentP (l.take j) k + if x.2.1 = k then x.2.2 else 0 := by
  rw [← take_preA h, wentP_app]
  obtain ⟨x0, x1, x2⟩ := x
  rw [wentP_one]
theorem idsP_take {l : List (Int × Int × Int)} {j : Nat} {x : Int × Int × Int} (h : l[j]? = some x) : idsP (l.take (j + 1)) = idsP (l.take j) ++ [x.1] := by
  rw [← take_preA h]
  unfold idsP
  rw [List.map_append]
  rfl
set_option maxRecDepth 100000 in
set_option maxHeartbeats 1000000 in
theorem rwent_any {B : Nat} {E : Nat → Prop} {w : World} {q : Nat} {l : List (Int × Int × Int)} (k : Rc B E w q l) (g : GoodC l) (item : Int) :
    Calls Try.prog 13 #[.pointer (some ⟨q, 0, none⟩), .int .i64 item] w fun e w' => e = .returned (.int .i64 (wentP l item)) ∧ Below w.heap.size w w' := by
  have hlt := (k.1 q k.2.1).2
  obtain ⟨a, c, c0, ht⟩ := k.row
  have HT := hide ht
  have hl := g.len
  have HG := hide g
  clear k ht g
  go_enter Try.func13, Try.ntmps13
  go_wp2
  go_loopw [5, 13] (fun n i wr => ∃ j : Nat, i = .int .i64 j ∧ j ≤ l.length ∧ n = .int .i64 (wentP (l.take j) item) ∧ Hid (Below w.heap.size w wr)) (fun _ i _ => l.length - (Go.RowKit.intOf i).toNat)
  case atStart => exact ⟨0, rfl, Nat.zero_le _, by rw [List.take_zero]; rfl, Below.refl _ _⟩
  case round =>
    obtain ⟨j, rfl, hj, rfl, HB⟩ := hrel
    clear c0
    by_cases hjl : j < l.length
    · have qj : (j : Int) < (l.length : Int) := by omega
      obtain ⟨x, hx⟩ : ∃ x, l[j]? = some x := ⟨l[j], by simp [hjl]⟩
      rcases HT.out.below HB.out with h0 | ⟨b, rfl, hc⟩
      · subst h0; simp at hjl
      obtain ⟨d0, d1, d2⟩ := hc j x hx
      have hwt := wentP_take hx item
      have b1 := went_pre HG.out (List.take_prefix j l) item
      have b2 := went_pre HG.out (List.take_prefix (j + 1) l) item
      have b3 := (HG.out.at_ x (List.mem_of_getElem? hx)).2.2
      obtain ⟨x0, x1, x2⟩ := x
      dsimp only at d0 d1 d2 hwt b3
      obtain ⟨S, hS⟩ : ∃ S, wentP (l.take j) item = S := ⟨_, rfl⟩
      rw [hS] at hwt b1 ⊢
      rw [hwt] at b2
      obtain ⟨b11, b12⟩ := b1
      obtain ⟨b21, b22⟩ := b2
      have HB2 : Hid (Below w.heap.size w (wr.alloc (.cells #[.int .i64 x0, .int .i64 x1, .int .i64 x2] 35))) := bel_al HB.out _
      by_cases he : x1 = item
      · have qe : (x1 == item) = true := by simp [he]
        rw [if_pos he] at hwt b21 b22
        have HWT := hide hwt
        clear hc hx hwt he HT hS
        go_wp2
        go_roundw
        case rel => exact ⟨j + 1, by go_num, by omega, by rw [HWT.out], HB2⟩
        case measure => simp [Go.RowKit.intOf]; omega
      · have qe : (x1 == item) = false := by simp [he]
        rw [if_neg he, Int.add_zero] at hwt
        have HWT := hide hwt
        clear hc hx hwt he HT hS b21 b22
        go_wp2
        go_roundw
        case rel => exact ⟨j + 1, by go_num, by omega, by rw [HWT.out], HB2⟩
        case measure => simp [Go.RowKit.intOf]; omega
    · have qj : ¬ (j : Int) < (l.length : Int) := by omega
      have HWT : Hid (wentP (l.take j) item = wentP l item) := by show _ = _; rw [List.take_of_length_le (by omega)]
      go_wp2
      go_ret
      exact ⟨ret_int HWT.out, HB.out⟩
set_option maxRecDepth 100000 in
set_option maxHeartbeats 1000000 in
theorem rids_any {B : Nat} {E : Nat → Prop} {w : World} {q : Nat} {l : List (Int × Int × Int)} (k : Rc B E w q l) (hl : l.length ≤ 1000) :
    Calls Try.prog 16 #[.pointer (some ⟨q, 0, none⟩)] w (OwnInts w (idsP l)) := by
  have hlt := (k.1 q k.2.1).2
  obtain ⟨a, c, c0, ht⟩ := k.row
  have HT := hide ht
  clear k ht
  go_enter Try.func16, Try.ntmps16
  go_wp2
  go_loopw [3, 11] (fun v i wr => ∃ (j : Nat) (av : Option Addr) (cv : Nat), i = .int .i64 j ∧ v = .slice av (idsP (l.take j)).length cv ∧ j ≤ l.length ∧ Hid (wr.ownsRow w.heap.size 3 1 (.slice av (idsP (l.take j)).length cv) (idsP (l.take j)).length ((idsP (l.take j)).map (Value.int .i64))) ∧ Hid (Below w.heap.size w wr)) (fun _ i _ => l.length - (Go.RowKit.intOf i).toNat)
  case atStart => exact ⟨0, none, 0, rfl, by rw [List.take_zero]; rfl, Nat.zero_le _, by rw [List.take_zero]; exact World.ownsRow_nil _ _ _ _, Below.refl _ _⟩
  case round =>
    obtain ⟨j, av, cv, rfl, rfl, hj, HR, HB⟩ := hrel
    clear c0
    by_cases hjl : j < l.length
    · have qj : (j : Int) < (l.length : Int) := by omega
      obtain ⟨x, hx⟩ : ∃ x, l[j]? = some x := ⟨l[j], by simp [hjl]⟩
      rcases HT.out.below HB.out with h0 | ⟨b, rfl, hc⟩
      · subst h0; simp at hjl
      obtain ⟨d0, d1, d2⟩ := hc j x hx
      have hit := idsP_take hx
      obtain ⟨x0, x1, x2⟩ := x
      dsimp only at d0 d1 d2 hit
      have hnl : (idsP (l.take j)).length ≤ 1000000 := by rw [idsP_len, List.length_take]; omega
      obtain ⟨L, hL⟩ : ∃ L, idsP (l.take j) = L := ⟨_, rfl⟩
      rw [hL] at hit HR hnl ⊢
      have HIT := hide hit
      have HB2 : Hid (Below w.heap.size w (wr.alloc (.cells #[.int .i64 x0, .int .i64 x1, .int .i64 x2] 35))) := bel_al HB.out _
      have hr2 := HR.out.alloc (.cells #[.int .i64 x0, .int .i64 x1, .int .i64 x2] 35)
      clear hc hx hit HT hL
      go_wp2_with (at_builtin; refine append_num1 rfl (.tmp 15) (.tmp 18) rfl w.heap.size (.slice av L.length cv) L.length (L.map (Value.int .i64)) rfl hr2 x0 rfl (by simp) (by omega) HB2.out.size ?_; intro a4 c4 w4 hown4 hg4 hblk4; have HB4 : Hid (Below w.heap.size w w4) := (HB2.out.alloc HB2.out.size _).grown hg4 (HB2.out.alloc HB2.out.size _).size (fun k e => (hr2.lt k e).1); have HO4 := hide hown4; clear hown4 hg4 hblk4)
      go_roundw
      case rel =>
        refine ⟨j + 1, a4, c4, by go_num, ?_, by omega, ?_, HB4⟩
        · rw [HIT.out, List.length_append, List.length_singleton]
        · show World.ownsRow _ _ _ _ _ _ _
          rw [HIT.out, List.length_append, List.length_singleton, List.map_append]
          exact HO4.out
      case measure => simp [Go.RowKit.intOf]; omega
    · have qj : ¬ (j : Int) < (l.length : Int) := by omega
      have e : l.take j = l := List.take_of_length_le (by omega)
      rw [e] at HR ⊢
      clear e
      go_wp2
      go_ret
      obtain ⟨a', c', e1, hc⟩ := row_slice HR.out
      cases e1
      exact ⟨av, cv, rfl, hc, HR.out, HB.out⟩
end Go.Proofs.Ytkaniplkobnpjaa
