/-
  The reference's tower: its block of a thousand and one cells; contracts of Id, NewTower, Has, Hang, Cut, Ring, Again.
-/
import Derived.Test.YtdjdlifacbmbcaaBelT
namespace Go.Proofs.Ytdjdlifacbmbcaa
open Go.ChangeShapes Go.WideShapes Go.ChangeAt Go.RowKit Go.Maps

/-- The block's cells. -/
def rcs (N : Nat) (left : Int) (h : Int → Int) : List Value := .int .i64 left :: (List.range N).map (fun k : Nat => .int .i64 (h k))
theorem rcs_len (N : Nat) (left : Int) (h : Int → Int) : (rcs N left h).length = N + 1 := by simp [rcs]
theorem rcs_zero (N : Nat) (left : Int) (h : Int → Int) : (rcs N left h)[0]? = some (.int .i64 left) := rfl
theorem rcs_at {N : Nat} (left : Int) (h : Int → Int) {i : Nat} (hi : i < N) : (rcs N left h)[1 + i]? = some (.int .i64 (h i)) := by
  rw [Nat.add_comm]
  simp [rcs, hi]
theorem rcs_left (N : Nat) (left l' : Int) (h : Int → Int) : (rcs N left h).set 0 (.int .i64 l') = rcs N l' h := rfl
theorem rcs_put {N : Nat} (left : Int) (h : Int → Int) {i : Nat} (hi : i < N) (v : Int) : (rcs N left h).set (1 + i) (.int .i64 v) = rcs N left (upd h i v) := by
  rw [Nat.add_comm]
  unfold rcs
  rw [List.set_cons_succ]
  congr 1
  apply List.ext_getElem?
  intro k
  rw [List.getElem?_set]
  by_cases e : i = k
  · subst e
    simp [hi, upd]
  · rw [if_neg e]
    by_cases hk : k < N
    · simp [hk, upd]
      intro e2
      omega
    · simp [hk]
theorem rcs_new (N : Nat) : rcs N 0 (fun _ => 0) = List.replicate (N + 1) (.int .i64 0) := by
  unfold rcs
  rw [List.replicate_succ]
  congr 1
  rw [List.map_const']
  simp
theorem zeroT (w : World) : (zeroValue 46).run Try.prog w = .ok (.agg (Array.replicate 1001 (.int .i64 0))) w := by kernel_rfl
theorem build_tow (c : Int) (w : World) : (Instr.build 46 #[(0, .int .i64 c)]).run Try.prog w = .ok (.agg (rcs 1000 c (fun _ => 0)).toArray) w := by
  have e : (rcs 1000 c (fun _ => 0)).toArray = (Array.replicate 1001 (Value.int .i64 0)).setIfInBounds 0 (.int .i64 c) := by
    apply Array.ext'
    rw [Array.toList_setIfInBounds, Array.toList_replicate, ← rcs_new, rcs_left]
  have hs : (Array.replicate 1001 (Value.int .i64 0)).size = 1001 := Array.size_replicate
  rw [e]
  have hz := zeroT w
  generalize Array.replicate 1001 (Value.int .i64 0) = Z at hz hs ⊢
  clear e
  simp [Instr.build, hz, run_underlying Try.underlying46, Try.sizeOf3, Try.sizeOf44, Instr.fill, hs, Value.cells, Result.andThen]
/-- The block at q; what stands at each id. -/
def Rw (B : Nat) (w : World) (q : Nat) (t : Int) (g : Int → Int) : Prop :=
  w.heap[q]? = some (.cells (rcs 1000 t g).toArray 46 (0, 0)) ∧ B ≤ q
section
variable {B : Nat} {w w' : World} {q : Nat} {t : Int} {g : Int → Int}
theorem Rw.lt (k : Rw B w q t g) : q < w.heap.size := (Array.getElem?_eq_some_iff.1 k.1).1
theorem Rw.low (k : Rw B w q t g) : B ≤ w.heap.size := by have := k.lt; have := k.2; omega
theorem Rw.kept {E : Nat → Obj → Prop} (k : Rw B w q t g) (hk : Rg.Kept E w w') (hq : ∀ o, ¬ E q o) : Rw B w' q t g := ⟨hk.block _ _ k.1 (hq _), k.2⟩
theorem Rw.on (k : Rw B w q t g) (hb : Below w.heap.size w w') : Rw B w' q t g := k.kept (E := fun _ _ => False) (Rg.Kept.of_below hb) (fun _ h => h)
theorem Rw.bel (k : Rw B w q t g) (hk : Rg.Kept (fun i _ => i = q) w w') : Below B w w' := hk.bel k.low (fun i _ e => by have := k.2; omega)
theorem Rw.cell0 (k : Rw B w q t g) : w.cell? ⟨q, 0, none⟩ = some (.int .i64 t) := by rw [cell_of k.1, List.getElem?_toArray]; exact rcs_zero _ _ _
theorem Rw.cellI (k : Rw B w q t g) {i : Nat} (hi : i < 1000) : w.cell? ⟨q, 1 + i, none⟩ = some (.int .i64 (g i)) := by rw [cell_of k.1, List.getElem?_toArray]; exact rcs_at _ _ hi
theorem Rw.frozen (k : Rw B w q t g) (i : Nat) : w.frozen? ⟨q, i, none⟩ = false := frozen_of_row _ _ _ _ _ k.1
theorem Rw.setI (k : Rw B w q t g) {i : Nat} (hi : i < 1000) (v : Int) : Rw B (w.setCell ⟨q, 1 + i, none⟩ (.int .i64 v)) q t (upd g i v) := by
  refine ⟨?_, k.2⟩
  rw [heap_setCell_same _ _ _ _ _ _ k.1, ← rcs_put t g hi v, List.setIfInBounds_toArray]
theorem kept_setQ (w : World) (q i : Nat) (u : Value) : Rg.Kept (fun k _ => k = q) w (w.setCell ⟨q, i, none⟩ u) := Rg.Kept.setCell _ (fun _ => rfl)
end
/-- The reference's tower at q. -/
def Rt (B : Nat) (w : World) (q : Nat) (t : Int) (h : Int → Int) : Prop := Rw B w q t (fun x => h x - 1)
section
variable {B : Nat} {w w' : World} {q : Nat} {t : Int} {h : Int → Int}
theorem Rt.setI (k : Rt B w q t h) {i : Nat} (hi : i < 1000) (v : Int) : Rt B (w.setCell ⟨q, 1 + i, none⟩ (.int .i64 v)) q t (upd h i (v + 1)) := by
  have h1 := Rw.setI k hi v
  have e : upd (fun x => h x - 1) i v = fun x => upd h i (v + 1) x - 1 := by
    funext x
    by_cases hx : x = i
    · subst hx; rw [upd_same, upd_same]; omega
    · rw [upd_other _ _ hx, upd_other _ _ hx]
  rw [e] at h1
  exact h1
end
theorem box_tow (cs : Array Value) (w : World) : (Instr.box 46 (.agg cs)).run Try.prog w = .ok (.pointer (some ⟨w.heap.size, 0, none⟩)) (w.alloc (.cells cs 46)) := by
  simp [Instr.box, newVar, newRow, Value.cells, Result.andThen]
theorem wpList_build_tow {w : World} {ops : Array Oper} {rest : List Oper} {o : Oper} {a : Act} {Q : Exit → Act → World → Prop} (hg : o.guard = none) (x : Operand) (hop : o.op = Op.build 46 #[(0, x)]) (c : Int) (hx : a.eval x = .int .i64 c)
    (hK : wpList Try.prog ops Q rest (a.put o.dst (.agg (rcs 1000 c (fun _ => 0)).toArray)) w) : wpList Try.prog ops Q (o :: rest) a w := by
  refine wpList_plain hg fun K' hK' => ?_
  have hrun := build_tow c w
  generalize (rcs 1000 c (fun _ => 0)).toArray = cs at hrun hK
  unfold Oper.wp
  simp only [execOp, hop]
  simp [hx, hrun, Result.andThen]
  exact hK' _ _ hK
/-- What stands there behind j rounds. -/
def negJ (j : Nat) (x : Int) : Int := if 0 ≤ x ∧ x < j then -1 else 0
theorem negJ_zero : negJ 0 = fun _ => 0 := by funext x; unfold negJ; rw [if_neg (by omega)]
theorem negJ_step (j : Nat) : upd (negJ j) j (-1) = negJ (j + 1) := by
  funext x
  unfold negJ
  by_cases e : x = j
  · subst e; rw [upd_same, if_pos (by omega)]
  · rw [upd_other _ _ e]
    by_cases h : 0 ≤ x ∧ x < j
    · rw [if_pos h, if_pos (by omega)]
    · rw [if_neg h, if_neg (by omega)]
theorem rcs_congr {N : Nat} {t : Int} {f g : Int → Int} (e : ∀ k : Nat, k < N → f k = g k) : rcs N t f = rcs N t g := by
  unfold rcs
  congr 1
  apply List.map_congr_left
  intro k hk
  rw [e k (by simpa using hk)]
theorem Rw.done {B : Nat} {w : World} {q : Nat} {t : Int} (k : Rw B w q t (negJ 1000)) : Rt B w q t (fun _ => 0) := by
  refine ⟨?_, k.2⟩
  rw [k.1, rcs_congr (f := negJ 1000) (g := fun _ => 0 - 1) (fun i hi => by unfold negJ; rw [if_pos (by omega)]; rfl)]
theorem rid_any (id : Int) (w : World) : Calls Try.prog 23 #[.int .i64 id] w fun e w' => e = .returned (.bool (isI id)) ∧ w = w' := by
  by_cases h0 : 1 ≤ id
  · by_cases h1 : id ≤ 999
    · have hm : true = isI id := (isI_iff.2 ⟨h0, h1⟩).symm
      rw [← hm]
      clear hm
      go_enter Try.func23, Try.ntmps23
      go_wp2
      go_ret
      exact ⟨rfl, rfl⟩
    · have hm : false = isI id := by unfold isI; simp; omega
      rw [← hm]
      clear hm
      go_enter Try.func23, Try.ntmps23
      go_wp2
      go_ret
      exact ⟨rfl, rfl⟩
  · have hm : false = isI id := by unfold isI; simp; omega
    rw [← hm]
    clear hm
    go_enter Try.func23, Try.ntmps23
    go_wp2
    go_ret
    exact ⟨rfl, rfl⟩

set_option maxHeartbeats 1000000 in
theorem rtnew_any (r : Int) (w : World) : Calls Try.prog 8 #[.int .i64 r] w fun e w' => e = .returned (.pointer (some ⟨w.heap.size, 0, none⟩)) ∧ Rt w.heap.size w' w.heap.size (clampT r) (fun _ => 0) ∧ Below w.heap.size w w' := by
  obtain ⟨c, hc⟩ : ∃ c, clampT r = c := ⟨_, rfl⟩
  have hx := box_tow (rcs 1000 c (fun _ => 0)).toArray
  have key : Rw w.heap.size (w.alloc (.cells (rcs 1000 c (fun _ => 0)).toArray 46)) w.heap.size c (negJ 0) := by rw [negJ_zero]; exact ⟨World.alloc_heap_new _ _, Nat.le_refl _⟩
  rw [hc]
  have HK := hide key
  clear key
  have hcs : (r ≤ 1 ∧ c = 1) ∨ ((1 < r ∧ ¬ 20 < r) ∧ c = r) ∨ ((20 < r ∧ 1 < r) ∧ c = 20) := by
    rw [← hc]; unfold clampT
    split
    · exact .inl ⟨by omega, rfl⟩
    · split
      · by_cases e : r = 1
        · exact .inl ⟨by omega, e⟩
        · exact .inr (.inl ⟨by omega, rfl⟩)
      · exact .inr (.inr ⟨by omega, rfl⟩)
  clear hc
  rcases hcs with ⟨h1, rfl⟩ | ⟨⟨h1, h2⟩, rfl⟩ | ⟨⟨h1, h2⟩, rfl⟩
  · go_enter Try.func8, Try.ntmps8
    go_wp2_with (refine wpList_build_tow rfl _ rfl 1 rfl ?_; generalize (rcs 1000 1 (fun _ => 0)).toArray = cs at hx HK ⊢)
    go_loopw [10] (fun i wr => ∃ j : Nat, i = .int .i64 j ∧ j ≤ 1000 ∧ Hid (Rw w.heap.size wr w.heap.size 1 (negJ j)) ∧ Hid (Below w.heap.size w wr)) (fun i _ => 1000 - (intOf i).toNat)
    case atStart => exact ⟨0, rfl, Nat.zero_le _, HK, (Below.refl _ w).alloc (Nat.le_refl _) _⟩
    case round =>
      obtain ⟨j, rfl, hj, HR, HB⟩ := hrel
      by_cases hlt : j < 1000
      · have ql : (j : Int) < 1000 := by omega
        have cI := HR.out.cellI hlt
        have fI := HR.out.frozen (1 + j)
        have HR2 := hide (HR.out.setI hlt (-1))
        rw [negJ_step] at HR2
        have HB2 := hide (HB.out.trans (HR.out.bel (kept_setQ wr w.heap.size (1 + j) (.int .i64 (-1)))))
        go_wp2
        go_roundw
        case rel => exact ⟨j + 1, by go_num, by omega, HR2, HB2⟩
        case measure => simp [intOf]; omega
      · have ql : ¬ (j : Int) < 1000 := by omega
        obtain rfl : j = 1000 := by omega
        go_wp2
        go_ret
        exact ⟨rfl, HR.out.done, HB.out⟩
  · go_enter Try.func8, Try.ntmps8
    go_wp2_with (refine wpList_build_tow rfl _ rfl c rfl ?_; generalize (rcs 1000 c (fun _ => 0)).toArray = cs at hx HK ⊢)
    go_loopw [10] (fun i wr => ∃ j : Nat, i = .int .i64 j ∧ j ≤ 1000 ∧ Hid (Rw w.heap.size wr w.heap.size c (negJ j)) ∧ Hid (Below w.heap.size w wr)) (fun i _ => 1000 - (intOf i).toNat)
    case atStart => exact ⟨0, rfl, Nat.zero_le _, HK, (Below.refl _ w).alloc (Nat.le_refl _) _⟩
    case round =>
      obtain ⟨j, rfl, hj, HR, HB⟩ := hrel
      by_cases hlt : j < 1000
      · have ql : (j : Int) < 1000 := by omega
        have cI := HR.out.cellI hlt
        have fI := HR.out.frozen (1 + j)
        have HR2 := hide (HR.out.setI hlt (-1))
        rw [negJ_step] at HR2
        have HB2 := hide (HB.out.trans (HR.out.bel (kept_setQ wr w.heap.size (1 + j) (.int .i64 (-1)))))
        go_wp2
        go_roundw
        case rel => exact ⟨j + 1, by go_num, by omega, HR2, HB2⟩
        case measure => simp [intOf]; omega
      · have ql : ¬ (j : Int) < 1000 := by omega
        obtain rfl : j = 1000 := by omega
        go_wp2
        go_ret
        exact ⟨rfl, HR.out.done, HB.out⟩
  · go_enter Try.func8, Try.ntmps8
    go_wp2_with (refine wpList_build_tow rfl _ rfl 20 rfl ?_; generalize (rcs 1000 20 (fun _ => 0)).toArray = cs at hx HK ⊢)
    go_loopw [10] (fun i wr => ∃ j : Nat, i = .int .i64 j ∧ j ≤ 1000 ∧ Hid (Rw w.heap.size wr w.heap.size 20 (negJ j)) ∧ Hid (Below w.heap.size w wr)) (fun i _ => 1000 - (intOf i).toNat)
    case atStart => exact ⟨0, rfl, Nat.zero_le _, HK, (Below.refl _ w).alloc (Nat.le_refl _) _⟩
    case round =>
      obtain ⟨j, rfl, hj, HR, HB⟩ := hrel
      by_cases hlt : j < 1000
      · have ql : (j : Int) < 1000 := by omega
        have cI := HR.out.cellI hlt
        have fI := HR.out.frozen (1 + j)
        have HR2 := hide (HR.out.setI hlt (-1))
        rw [negJ_step] at HR2
        have HB2 := hide (HB.out.trans (HR.out.bel (kept_setQ wr w.heap.size (1 + j) (.int .i64 (-1)))))
        go_wp2
        go_roundw
        case rel => exact ⟨j + 1, by go_num, by omega, HR2, HB2⟩
        case measure => simp [intOf]; omega
      · have ql : ¬ (j : Int) < 1000 := by omega
        obtain rfl : j = 1000 := by omega
        go_wp2
        go_ret
        exact ⟨rfl, HR.out.done, HB.out⟩
set_option maxHeartbeats 1000000 in
theorem rthas_any {B : Nat} {w : World} {q : Nat} {t : Int} {h : Int → Int} (k : Rt B w q t h) (g : GoodT t h) (id : Int) :
    Calls Try.prog 24 #[.pointer (some ⟨q, 0, none⟩), .int .i64 id] w fun e w' => e = .returned (.bool (hasB h id)) ∧ w = w' := by
  cases hi : isI id
  · have hd : hasB h id = false := by simp [hasB, g.none hi]
    rw [hd]
    clear hd k g
    go_enter Try.func24, Try.ntmps24
    go_wp2_with (go_at_call 23; refine (rid_any _ _).mono ?_; rintro e w' ⟨rfl, rfl⟩)
    go_ret
    exact ⟨rfl, rfl⟩
  · obtain ⟨i, rfl⟩ : ∃ i : Nat, id = i := ⟨id.toNat, by have := isI_iff.1 hi; omega⟩
    have hi2 := isI_iff.1 hi
    have c := Rw.cellI k (i := i) (by omega)
    have hp := g.pos i
    obtain ⟨v, hv⟩ : ∃ v, h i - 1 = v := ⟨_, rfl⟩
    have hd : hasB h i = decide (0 ≤ v) := by unfold hasB; exact decide_eq_decide.2 (by omega)
    rw [hd]
    rw [hv] at c
    clear hv hd k g hp
    go_enter Try.func24, Try.ntmps24
    go_wp2_with (go_at_call 23; refine (rid_any _ _).mono ?_; rintro e w' ⟨rfl, rfl⟩)
    go_ret
    exact ⟨rfl, rfl⟩
end Go.Proofs.Ytdjdlifacbmbcaa
