/-
  Own texts put together: GdS, GdT.
-/
import Derived.Test.YtepclljoiccieaaGreatDoorSghpcgle
import Derived.Test.YtepclljoiccieaaGreatDoorSgmjlbfb
import Derived.Test.YtepclljoiccieaaGreatDoorSghffmmk
import Derived.Maps.OwnSet
import Derived.Deep.CutBlock
/-
  A book of goods in memory: its block of seventeen cells, its map. Contracts of stock's isId, isItem, Has, OnHand, Free.
-/
namespace Go.Proofs.YtepclljoiccieaaGreatDoor.Gd
open Go.ChangeShapes Go.WideShapes Go.ChangeAt Go.RowKit Go.Maps

theorem lawI : Keyed Tryz.prog 3 := int_keyed Tryz.underlying3
theorem wf_of {a : Int} (h1 : -9223372036854775808 ≤ a) (h2 : a ≤ 9223372036854775807) : (Lit.int .i64 a).wf = true := WalkArith.wf_i64 ⟨h1, h2⟩
theorem zeroL (w : World) : (zeroValue 151).run Tryz.prog w = .ok (pairV (0, 0)) w := by kernel_rfl

/-- A row of eight numbers. -/
def rowc (h : Int → Int) : List Value := (List.range 8).map (fun k : Nat => .int .i64 (h k))
theorem rowc_len (h : Int → Int) : (rowc h).length = 8 := by simp [rowc]
theorem rowc_at (h : Int → Int) {i : Nat} (hi : i < 8) : (rowc h)[i]? = some (.int .i64 (h i)) := by simp [rowc, hi]
theorem rowc_put (h : Int → Int) {i : Nat} (hi : i < 8) (v : Int) : (rowc h).set i (.int .i64 v) = rowc (upd h i v) := by
  unfold rowc
  apply List.ext_getElem?
  intro k
  rw [List.getElem?_set]
  by_cases e : i = k
  · subst e
    simp [hi, upd]
  · rw [if_neg e]
    by_cases hk : k < 8
    · simp [hk, upd]
      intro e2
      omega
    · simp [hk]
/-- The block's cells. -/
def bcs (on fr : Int → Int) (b : Nat) : List Value := rowc on ++ (rowc fr ++ [.map (some b)])
theorem bcs_on (on fr : Int → Int) (b : Nat) {i : Nat} (hi : i < 8) : (bcs on fr b)[i]? = some (.int .i64 (on i)) := by
  unfold bcs
  rw [List.getElem?_append_left (by rw [rowc_len]; exact hi), rowc_at _ hi]
theorem bcs_fr (on fr : Int → Int) (b : Nat) {i : Nat} (hi : i < 8) : (bcs on fr b)[8 + i]? = some (.int .i64 (fr i)) := by
  unfold bcs
  rw [List.getElem?_append_right (by rw [rowc_len]; omega), rowc_len, show 8 + i - 8 = i by omega, List.getElem?_append_left (by rw [rowc_len]; exact hi), rowc_at _ hi]
theorem bcs_map (on fr : Int → Int) (b : Nat) : (bcs on fr b)[16]? = some (.map (some b)) := by
  unfold bcs
  rw [List.getElem?_append_right (by rw [rowc_len]; omega), rowc_len, List.getElem?_append_right (by rw [rowc_len]; omega), rowc_len]
  rfl
theorem bcs_seton (on fr : Int → Int) (b : Nat) {i : Nat} (hi : i < 8) (v : Int) : (bcs on fr b).set i (.int .i64 v) = bcs (upd on i v) fr b := by
  unfold bcs
  rw [List.set_append_left _ _ (by rw [rowc_len]; exact hi), rowc_put _ hi]
theorem bcs_setfr (on fr : Int → Int) (b : Nat) {i : Nat} (hi : i < 8) (v : Int) : (bcs on fr b).set (8 + i) (.int .i64 v) = bcs on (upd fr i v) b := by
  unfold bcs
  rw [List.set_append_right _ _ (by rw [rowc_len]; omega), rowc_len, show 8 + i - 8 = i by omega, List.set_append_left _ _ (by rw [rowc_len]; exact hi), rowc_put _ hi]

/-- The book at p, its map at b, whatever it keeps to. -/
def Sk0 (B : Nat) (w : World) (p b : Nat) (s : Sb) (n : Nat) : Prop :=
  w.heap[p]? = some (.cells (bcs s.on s.fr b).toArray 67 (0, 0)) ∧ B ≤ p ∧ B ≤ b ∧ ∃ D : DataW Unit, w.ownsMap Tryz.prog 3 pairElem b n D ∧ FitsG encP D s.r
/-- The book at p, its map at b. -/
def Sk (B : Nat) (w : World) (p b : Nat) (s : Sb) (n : Nat) : Prop := Sk0 B w p b s n ∧ GoodS s
/-- The blocks that a step on it may turn. -/
def Own2 (p b : Nat) (k : Nat) (_ : Obj) : Prop := k = p ∨ k = b
section
variable {B : Nat} {w w' : World} {p b : Nat} {s : Sb} {n : Nat}
theorem Sk0.lt (k : Sk0 B w p b s n) : p < w.heap.size := (Array.getElem?_eq_some_iff.1 k.1).1
theorem Sk0.ltb (k : Sk0 B w p b s n) : b < w.heap.size := by obtain ⟨_, _, _, D, hD, _⟩ := k; exact hD.lt
theorem Sk0.low (k : Sk0 B w p b s n) : B ≤ w.heap.size := by have := k.lt; have := k.2.1; omega
theorem Sk0.ne (k : Sk0 B w p b s n) : b ≠ p := by
  rintro rfl
  obtain ⟨h1, _, _, D, ⟨es, c, hb, _⟩, _⟩ := k
  rw [h1] at hb
  cases hb
theorem Sk0.mono {n' : Nat} (k : Sk0 B w p b s n) (hn : n ≤ n') : Sk0 B w p b s n' := by
  obtain ⟨h1, h2, h3, D, h5, h6⟩ := k
  exact ⟨h1, h2, h3, D, h5.mono hn, h6⟩
theorem own_keptG {E : Nat → Obj → Prop} {P : Program} {t : TypeId} {D : DataW Unit} (h : w.ownsMap P t pairElem b n D) (k : Rg.Kept E w w') (hb : ∀ es c, ¬ E b (.map es c)) : w'.ownsMap P t pairElem b n D := by
  obtain ⟨es, c, h1, h2⟩ := h
  exact ⟨es, c, k.block _ _ h1 (hb _ _), h2⟩
theorem Sk0.kept {E : Nat → Obj → Prop} (k : Sk0 B w p b s n) (hk : Rg.Kept E w w') (hp : ∀ o, ¬ E p o) (hb : ∀ o, ¬ E b o) : Sk0 B w' p b s n := by
  obtain ⟨h1, h2, h3, D, h5, h6⟩ := k
  exact ⟨hk.block _ _ h1 (hp _), h2, h3, D, own_keptG h5 hk (fun _ _ => hb _), h6⟩
theorem Sk0.on (k : Sk0 B w p b s n) (hb : Below w.heap.size w w') : Sk0 B w' p b s n :=
  k.kept (E := fun _ _ => False) (Rg.Kept.of_below hb) (fun _ h => h) (fun _ h => h)
theorem Sk0.bel (k : Sk0 B w p b s n) (hk : Rg.Kept (Own2 p b) w w') : Below B w w' :=
  hk.bel k.low (fun i _ e => by have := k.2.1; have := k.2.2.1; rcases e with e | e <;> omega)
theorem Sk0.cellOn (k : Sk0 B w p b s n) {i : Nat} (hi : i < 8) : w.cell? ⟨p, i, none⟩ = some (.int .i64 (s.on i)) := by
  rw [cell_of k.1, List.getElem?_toArray]; exact bcs_on _ _ _ hi
theorem Sk0.cellFr (k : Sk0 B w p b s n) {i : Nat} (hi : i < 8) : w.cell? ⟨p, 8 + i, none⟩ = some (.int .i64 (s.fr i)) := by
  rw [cell_of k.1, List.getElem?_toArray]; exact bcs_fr _ _ _ hi
theorem Sk0.cellM (k : Sk0 B w p b s n) : w.cell? ⟨p, 16, none⟩ = some (.map (some b)) := by
  rw [cell_of k.1, List.getElem?_toArray]; exact bcs_map _ _ _
theorem Sk0.frozen (k : Sk0 B w p b s n) (i : Nat) : w.frozen? ⟨p, i, none⟩ = false := frozen_of_row _ _ _ _ _ k.1
theorem Sk0.setOn (k : Sk0 B w p b s n) {i : Nat} (hi : i < 8) (v : Int) : Sk0 B (w.setCell ⟨p, i, none⟩ (.int .i64 v)) p b ⟨upd s.on i v, s.fr, s.r⟩ n := by
  have hne := k.ne
  obtain ⟨h1, h2, h3, D, h5, h6⟩ := k
  refine ⟨?_, h2, h3, D, h5.setCell (a := ⟨p, i, none⟩) hne _, h6⟩
  rw [heap_setCell_same _ _ _ _ _ _ h1, ← bcs_seton s.on s.fr b hi v, List.setIfInBounds_toArray]
theorem Sk0.setFr (k : Sk0 B w p b s n) {i : Nat} (hi : i < 8) (v : Int) : Sk0 B (w.setCell ⟨p, 8 + i, none⟩ (.int .i64 v)) p b ⟨s.on, upd s.fr i v, s.r⟩ n := by
  have hne := k.ne
  obtain ⟨h1, h2, h3, D, h5, h6⟩ := k
  refine ⟨?_, h2, h3, D, h5.setCell (a := ⟨p, 8 + i, none⟩) hne _, h6⟩
  rw [heap_setCell_same _ _ _ _ _ _ h1, ← bcs_setfr s.on s.fr b hi v, List.setIfInBounds_toArray]
/-- A look-up in it. -/
theorem Sk0.look (k : Sk0 B w p b s n) {id : Int} (hw : (Lit.int .i64 id).wf = true) :
    (Instr.lookup 65 (.map (some b)) (.int .i64 id) true).run Tryz.prog w = .ok (.tuple #[pairV ((s.r id).getD (0, 0)), .bool (s.r id).isSome]) w := by
  obtain ⟨_, _, _, D, h5, h6⟩ := k
  exact look_pair_ok h5 Tryz.underlying3 Tryz.underlying65 (zeroL _) h6 hw
theorem Sk.good (k : Sk B w p b s n) : GoodS s := k.2
theorem Sk.mono {n' : Nat} (k : Sk B w p b s n) (hn : n ≤ n') : Sk B w p b s n' := ⟨k.1.mono hn, k.2⟩
theorem Sk.kept {E : Nat → Obj → Prop} (k : Sk B w p b s n) (hk : Rg.Kept E w w') (hp : ∀ o, ¬ E p o) (hb : ∀ o, ¬ E b o) : Sk B w' p b s n := ⟨k.1.kept hk hp hb, k.2⟩
theorem Sk.on (k : Sk B w p b s n) (hb : Below w.heap.size w w') : Sk B w' p b s n :=
  k.kept (E := fun _ _ => False) (Rg.Kept.of_below hb) (fun _ h => h) (fun _ h => h)
theorem Sk.bel (k : Sk B w p b s n) (hk : Rg.Kept (Own2 p b) w w') : Below B w w' := k.1.bel hk
end

theorem sisid_any (id : Int) (w : World) : Calls Tryz.prog 127 #[.int .i64 id] w fun e w' => e = .returned (.bool (isI id)) ∧ w = w' := by
  by_cases h0 : 1 ≤ id
  · by_cases h1 : id ≤ 999
    · have hm : true = isI id := (isI_iff.2 ⟨h0, h1⟩).symm
      rw [← hm]
      clear hm
      go_enter Tryz.func127, Tryz.ntmps127
      go_wp2
      go_ret
      exact ⟨rfl, rfl⟩
    · have hm : false = isI id := by unfold isI; simp; omega
      rw [← hm]
      clear hm
      go_enter Tryz.func127, Tryz.ntmps127
      go_wp2
      go_ret
      exact ⟨rfl, rfl⟩
  · have hm : false = isI id := by unfold isI; simp; omega
    rw [← hm]
    clear hm
    go_enter Tryz.func127, Tryz.ntmps127
    go_wp2
    go_ret
    exact ⟨rfl, rfl⟩
theorem isitem_any (id : Int) (w : World) : Calls Tryz.prog 64 #[.int .i64 id] w fun e w' => e = .returned (.bool (isIt id)) ∧ w = w' := by
  by_cases h0 : 0 ≤ id
  · by_cases h1 : id < 8
    · have hm : true = isIt id := (isIt_iff.2 ⟨h0, h1⟩).symm
      rw [← hm]
      clear hm
      go_enter Tryz.func64, Tryz.ntmps64
      go_wp2
      go_ret
      exact ⟨rfl, rfl⟩
    · have hm : false = isIt id := by unfold isIt; simp; omega
      rw [← hm]
      clear hm
      go_enter Tryz.func64, Tryz.ntmps64
      go_wp2
      go_ret
      exact ⟨rfl, rfl⟩
  · have hm : false = isIt id := by unfold isIt; simp; omega
    rw [← hm]
    clear hm
    go_enter Tryz.func64, Tryz.ntmps64
    go_wp2
    go_ret
    exact ⟨rfl, rfl⟩
def onV (s : Sb) (k : Int) : Int := if isIt k = true then s.on k else 0
def frV (s : Sb) (k : Int) : Int := if isIt k = true then s.fr k else 0
set_option maxHeartbeats 400000 in
theorem onhand_any {B : Nat} {w : World} {p b : Nat} {s : Sb} {n : Nat} (k : Sk B w p b s n) (x : Int) :
    Calls Tryz.prog 57 #[.pointer (some ⟨p, 0, none⟩), .int .i64 x] w fun e w' => e = .returned (.int .i64 (onV s x)) ∧ w = w' := by
  have hi := isitem_any x w
  by_cases h : isIt x = true
  · have e : onV s x = s.on x := if_pos h
    rw [e]
    rw [h] at hi
    obtain ⟨h0, h1⟩ := isIt_iff.1 h
    obtain ⟨i, rfl⟩ : ∃ i : Nat, x = i := ⟨x.toNat, by omega⟩
    have c := k.1.cellOn (i := i) (by omega)
    obtain ⟨v, hv⟩ : ∃ v, s.on i = v := ⟨_, rfl⟩
    rw [hv] at c ⊢
    clear e h k hv h0
    go_enter Tryz.func57, Tryz.ntmps57
    go_wp2_with (go_at_call 64; refine hi.mono ?_; rintro e w' ⟨rfl, rfl⟩)
    go_ret
    exact ⟨rfl, rfl⟩
  · have e : onV s x = 0 := if_neg h
    rw [e]
    rw [show isIt x = false by simpa using h] at hi
    clear e h k
    go_enter Tryz.func57, Tryz.ntmps57
    go_wp2_with (go_at_call 64; refine hi.mono ?_; rintro e w' ⟨rfl, rfl⟩)
    go_ret
    exact ⟨rfl, rfl⟩
set_option maxHeartbeats 400000 in
theorem free_any {B : Nat} {w : World} {p b : Nat} {s : Sb} {n : Nat} (k : Sk B w p b s n) (x : Int) :
    Calls Tryz.prog 26 #[.pointer (some ⟨p, 0, none⟩), .int .i64 x] w fun e w' => e = .returned (.int .i64 (frV s x)) ∧ w = w' := by
  have hi := isitem_any x w
  by_cases h : isIt x = true
  · have e : frV s x = s.fr x := if_pos h
    rw [e]
    rw [h] at hi
    obtain ⟨h0, h1⟩ := isIt_iff.1 h
    obtain ⟨i, rfl⟩ : ∃ i : Nat, x = i := ⟨x.toNat, by omega⟩
    have c := k.1.cellFr (i := i) (by omega)
    obtain ⟨v, hv⟩ : ∃ v, s.fr i = v := ⟨_, rfl⟩
    rw [hv] at c ⊢
    clear e h k hv h0
    go_enter Tryz.func26, Tryz.ntmps26
    go_wp2_with (go_at_call 64; refine hi.mono ?_; rintro e w' ⟨rfl, rfl⟩)
    go_ret
    exact ⟨rfl, rfl⟩
  · have e : frV s x = 0 := if_neg h
    rw [e]
    rw [show isIt x = false by simpa using h] at hi
    clear e h k
    go_enter Tryz.func26, Tryz.ntmps26
    go_wp2_with (go_at_call 64; refine hi.mono ?_; rintro e w' ⟨rfl, rfl⟩)
    go_ret
    exact ⟨rfl, rfl⟩
theorem onhandnil_any (x : Int) (w : World) : Calls Tryz.prog 57 #[.pointer none, .int .i64 x] w fun e w' => e = .returned (.int .i64 0) ∧ w = w' := by
  go_enter Tryz.func57, Tryz.ntmps57
  go_wp2
  go_ret
  exact ⟨rfl, rfl⟩
theorem freenil_any (x : Int) (w : World) : Calls Tryz.prog 26 #[.pointer none, .int .i64 x] w fun e w' => e = .returned (.int .i64 0) ∧ w = w' := by
  go_enter Tryz.func26, Tryz.ntmps26
  go_wp2
  go_ret
  exact ⟨rfl, rfl⟩
theorem resnil_any (id x q : Int) (w : World) : Calls Tryz.prog 105 #[.pointer none, .int .i64 id, .int .i64 x, .int .i64 q] w fun e w' => e = .returned (.int .i64 1) ∧ w = w' := by
  go_enter Tryz.func105, Tryz.ntmps105
  go_wp2
  go_ret
  exact ⟨rfl, rfl⟩
theorem unresnil_any (id : Int) (w : World) : Calls Tryz.prog 133 #[.pointer none, .int .i64 id] w fun e w' => e = .returned (.tuple #[.agg #[.int .i64 0, .int .i64 0], .int .i64 1]) ∧ Below w.heap.size w w' := by
  go_enter Tryz.func133, Tryz.ntmps133
  go_wp2
  refine bodyPost_ret (v := .tuple #[.agg #[.int .i64 0, .int .i64 0], .int .i64 1]) ?_ rfl ?_
  · rw [results_cell_tmp Tryz.results133]
    simp [go_sem]
  · exact ⟨rfl, (Below.refl _ _).alloc (Nat.le_refl _) _⟩
theorem comnil_any (id : Int) (w : World) : Calls Tryz.prog 107 #[.pointer none, .int .i64 id] w fun e w' => e = .returned (.int .i64 1) ∧ Below w.heap.size w w' := by
  go_enter Tryz.func107, Tryz.ntmps107
  go_wp2_with (go_at_call 133; refine (unresnil_any _ _).mono ?_; rintro e w1 ⟨rfl, hb1⟩)
  go_ret
  exact ⟨rfl, bel_on' hb1 ((Below.refl _ _).alloc (Nat.le_refl _) _)⟩
theorem relnil_any (id : Int) (w : World) : Calls Tryz.prog 109 #[.pointer none, .int .i64 id] w fun e w' => e = .returned (.int .i64 1) ∧ Below w.heap.size w w' := by
  go_enter Tryz.func109, Tryz.ntmps109
  go_wp2_with (go_at_call 133; refine (unresnil_any _ _).mono ?_; rintro e w1 ⟨rfl, hb1⟩)
  go_ret
  exact ⟨rfl, bel_on' hb1 ((Below.refl _ _).alloc (Nat.le_refl _) _)⟩
end Go.Proofs.YtepclljoiccieaaGreatDoor.Gd
/-
  Contracts of stock's unreserve, Commit, Release, Reserve.
-/
namespace Go.Proofs.YtepclljoiccieaaGreatDoor.Gd
open Go.ChangeShapes Go.WideShapes Go.ChangeAt Go.RowKit Go.Maps

theorem bel_al {a w : World} (h : Below a.heap.size a w) (o : Obj) : Below a.heap.size a (w.alloc o) := h.alloc h.size o

/-- What is turned behind all that lay there is no matter. -/
theorem kept_new {E : Nat → Obj → Prop} {a w1 w2 : World} (h : Rg.Kept E a w1) (k : Rg.Kept (fun i _ => i = a.heap.size) w1 w2) : Rg.Kept E a w2 :=
  ⟨k.os.trans h.os, k.tape.trans h.tape, k.output.trans h.output, Nat.le_trans h.size k.size, fun i o hi hx => k.block i o (h.block i o hi hx) (fun e => by have := (Array.getElem?_eq_some_iff.1 hi).1; omega)⟩
set_option maxHeartbeats 1000000 in
theorem unres_none {B : Nat} {w : World} {p b : Nat} {s : Sb} {n : Nat} (k : Sk0 B w p b s n) {id : Int} (hw : (Lit.int .i64 id).wf = true) (hz : s.r id = none) :
    Calls Tryz.prog 133 #[.pointer (some ⟨p, 0, none⟩), .int .i64 id] w fun e w' => e = .returned (.tuple #[.agg #[.int .i64 0, .int .i64 0], .int .i64 6]) ∧ Below w.heap.size w w' := by
  have k1 : Sk0 B (w.alloc (.cells #[.int .i64 0, .int .i64 0] 151)) p b s n := k.on (bel_al (Below.refl _ _) _)
  have c1 := k.cellM
  have hl := k1.look hw
  rw [hz] at hl
  unfold pairV at hl
  dsimp only [Option.getD, Option.isSome] at hl
  have hlt := k.lt
  clear k hz k1
  go_enter Tryz.func133, Tryz.ntmps133
  go_wp2
  refine bodyPost_ret (v := .tuple #[.agg #[.int .i64 0, .int .i64 0], .int .i64 6]) ?_ rfl ?_
  · rw [results_cell_tmp Tryz.results133]
    simp [go_sem]
  · exact ⟨rfl, bel_al (bel_al (Below.refl _ _) _) _⟩

set_option maxHeartbeats 1000000 in
theorem unres_some {B : Nat} {w : World} {p b : Nat} {s : Sb} {n : Nat} (k : Sk0 B w p b s n) {id : Int} (hw : (Lit.int .i64 id).wf = true) {x y : Int} (hz : s.r id = some (x, y)) :
    Calls Tryz.prog 133 #[.pointer (some ⟨p, 0, none⟩), .int .i64 id] w fun e w' => e = .returned (.tuple #[.agg #[.int .i64 x, .int .i64 y], .int .i64 0]) ∧ Sk0 B w' p b ⟨s.on, s.fr, updO s.r id none⟩ n ∧ Rg.Kept (Own2 p b) w w' := by
  have k1 : Sk0 B (w.alloc (.cells #[.int .i64 0, .int .i64 0] 151)) p b s n := k.on (bel_al (Below.refl _ _) _)
  have k2 : Sk0 B ((w.alloc (.cells #[.int .i64 0, .int .i64 0] 151)).alloc (.cells #[.int .i64 x, .int .i64 y] 151)) p b s n := k.on (bel_al (bel_al (Below.refl _ _) _) _)
  have c1 := k.cellM
  have hl := k1.look hw
  rw [hz] at hl
  unfold pairV at hl
  dsimp only [Option.getD, Option.isSome] at hl
  have hlt := k.lt
  have hltb := k.ltb
  have hkey := keyOf_int_mk Tryz.underlying3 hw
  have hne := k.ne
  obtain ⟨h1, h2, h3, D, hown, h6⟩ := k2
  have FIN : Hid (∀ w1, w1.ownsMap Tryz.prog 3 pairElem b n (D.del (.int .i64 id)) → ((w.alloc (.cells #[.int .i64 0, .int .i64 0] 151)).alloc (.cells #[.int .i64 x, .int .i64 y] 151)).mapTurned w1 b →
      Sk0 B w1 p b ⟨s.on, s.fr, updO s.r id none⟩ n ∧ Rg.Kept (Own2 p b) w w1 ∧ w1.heap[w.heap.size]? = some (.cells #[.int .i64 0, .int .i64 0] 151 (0, 0)) ∧ w1.heap[w.heap.size + 1]? = some (.cells #[.int .i64 x, .int .i64 y] 151 (0, 0))) := fun w1 o1 t1 => by
    have kp : Rg.Kept (fun i _ => i = b) ((w.alloc (.cells #[.int .i64 0, .int .i64 0] 151)).alloc (.cells #[.int .i64 x, .int .i64 y] 151)) w1 := Rg.Kept.grown t1.grown (fun i _ e => (by cases e; rfl))
    refine ⟨⟨kp.block _ _ h1 (fun e => hne e.symm), h2, h3, _, o1, h6.del id⟩, (Rg.Kept.of_below (bel_al (bel_al (Below.refl _ _) _) _)).trans (kp.mono (fun _ _ e => .inr e)), kp.block _ _ ?_ (by omega), kp.block _ _ ?_ (by omega)⟩
    · rw [Below.heap_alloc _ _ _ (by simp)]
      exact World.alloc_heap_new _ _
    · have := World.alloc_heap_new (w.alloc (.cells #[.int .i64 0, .int .i64 0] 151)) (.cells #[.int .i64 x, .int .i64 y] 151)
      rwa [World.size_alloc] at this
  clear h1 h2 h3 h6 k k1 hne hz
  go_enter Tryz.func133, Tryz.ntmps133
  go_wp2_with (at_delete; refine wpList_delete_own _ rfl _ _ 65 3 rfl 151 lawI Tryz.underlying65 _ b n D rfl hown _ _ rfl hkey ?_; intro w1 hown1 hturn1; obtain ⟨s1, s2, s3, s4⟩ := FIN.out w1 hown1 hturn1; have S1 := hide s1; have S2 := hide s2; have hs1 : w1.heap.size > w.heap.size := (Array.getElem?_eq_some_iff.1 s3).1; have S3 := hide s3; have d0 : w1.cell? ⟨w.heap.size, 0, none⟩ = some (.int .i64 0) := (by rw [cell_of s3]; rfl); have d1 : w1.cell? ⟨w.heap.size, 1, none⟩ = some (.int .i64 0) := (by rw [cell_of s3]; rfl); have d2 : w1.cell? ⟨w.heap.size + 1, 0, none⟩ = some (.int .i64 x) := (by rw [cell_of s4]; rfl); have d3 : w1.cell? ⟨w.heap.size + 1, 1, none⟩ = some (.int .i64 y) := (by rw [cell_of s4]; rfl); have f0 : w1.frozen? ⟨w.heap.size, 0, none⟩ = false := frozen_of_row _ _ _ _ _ s3; have f1 : w1.frozen? ⟨w.heap.size, 1, none⟩ = false := frozen_of_row _ _ _ _ _ s3; clear s1 s2 s3 s4 hown hown1 hturn1)
  refine bodyPost_ret (v := .tuple #[.agg #[.int .i64 x, .int .i64 y], .int .i64 0]) ?_ rfl ?_
  · rw [results_cell_tmp Tryz.results133]
    simp [go_sem, d0, d1]
  · have kq : Rg.Kept (fun i _ => i = w.heap.size) w1 ((w1.setCell ⟨w.heap.size, 0, none⟩ (.int .i64 x)).setCell ⟨w.heap.size, 1, none⟩ (.int .i64 y)) := (Rg.Kept.setCell _ (fun _ => rfl)).trans (Rg.Kept.setCell _ (fun _ => rfl))
    refine ⟨rfl, S1.out.kept kq (fun _ e => by omega) (fun _ e => by omega), ?_⟩
    exact kept_new S2.out kq

set_option maxHeartbeats 1000000 in
theorem com_any {B : Nat} {w : World} {p b : Nat} {s : Sb} {n : Nat} (k : Sk B w p b s n) {id : Int} (hw : (Lit.int .i64 id).wf = true) :
    Calls Tryz.prog 107 #[.pointer (some ⟨p, 0, none⟩), .int .i64 id] w fun e w' => e = .returned (.int .i64 (unE s id)) ∧ Sk B w' p b (comS s id) n ∧ Rg.Kept (Own2 p b) w w' := by
  cases hz : s.r id with
  | none =>
    rw [unE_none hz, comS_none hz]
    have U := unres_none k.1 hw hz
    have HK := hide k
    clear k hz
    go_enter Tryz.func107, Tryz.ntmps107
    go_wp2_with (go_at_call 133; refine U.mono ?_; rintro e w1 ⟨rfl, hb1⟩)
    go_ret
    exact ⟨rfl, HK.out.on (bel_al hb1 _), Rg.Kept.of_below (bel_al hb1 _)⟩
  | some c =>
    obtain ⟨x, y⟩ := c
    rw [unE_some hz, comS_some hz]
    have U := unres_some k.1 hw hz
    have g2 := k.2.com id
    rw [comS_some hz] at g2
    obtain ⟨a1, a2, a3⟩ := k.2.at_ id _ hz
    have a4 := k.2.le hz
    dsimp only at a2 a3 a4 g2 ⊢
    have a5 := k.2.top x a2.1 a2.2
    have a6 := k.2.nn x a2.1 a2.2
    obtain ⟨i, rfl⟩ : ∃ i : Nat, x = i := ⟨x.toNat, by omega⟩
    have hi : (i : Int) < 8 := a2.2
    have hi8 : i < 8 := by omega
    have FIN : Hid (∀ w1, Sk0 B w1 p b ⟨s.on, s.fr, updO s.r id none⟩ n → Rg.Kept (Own2 p b) w w1 → p < w1.heap.size ∧ w1.cell? ⟨p, i, none⟩ = some (.int .i64 (s.on i)) ∧ w1.frozen? ⟨p, i, none⟩ = false ∧
        ∀ o v, Sk0 B (((w1.setCell ⟨p, i, none⟩ (.int .i64 v)).alloc o).drew) p b ⟨upd s.on i v, s.fr, updO s.r id none⟩ n ∧ Rg.Kept (Own2 p b) w (((w1.setCell ⟨p, i, none⟩ (.int .i64 v)).alloc o).drew)) := fun w1 k1 kk =>
      ⟨k1.lt, k1.cellOn hi8, k1.frozen _, fun o v => ⟨(k1.setOn hi8 v).on (bel_al (Below.refl _ _) _).drew, kk.trans ((Rg.Kept.setCell _ (fun _ => .inl rfl)).trans (Rg.Kept.of_below (bel_al (Below.refl _ _) _).drew))⟩⟩
    have HG := hide g2
    obtain ⟨v, hv⟩ : ∃ v, s.on i = v := ⟨_, rfl⟩
    obtain ⟨v2, hv2⟩ : ∃ v2, s.fr i = v2 := ⟨_, rfl⟩
    rw [hv] at FIN a4 HG ⊢
    rw [hv2] at a4
    first | rw [hv] at a5 | rw [hv2] at a5
    first | rw [hv] at a6 | rw [hv2] at a6
    clear k hz g2 a1 a2 hv hv2 hi8
    skip
    go_enter Tryz.func107, Tryz.ntmps107
    go_wp2_with (go_at_call 133; refine U.mono ?_; rintro e w1 ⟨rfl, hs1, hk1⟩; obtain ⟨q1, q2, q3, q4⟩ := FIN.out w1 hs1 hk1; have Q4 := hide q4; clear q4 hs1 hk1 U)
    go_region
    go_wp2
    go_ret
    exact ⟨rfl, ⟨(Q4.out _ _).1, HG.out⟩, (Q4.out _ _).2⟩

set_option maxHeartbeats 1000000 in
theorem rel_any {B : Nat} {w : World} {p b : Nat} {s : Sb} {n : Nat} (k : Sk B w p b s n) {id : Int} (hw : (Lit.int .i64 id).wf = true) :
    Calls Tryz.prog 109 #[.pointer (some ⟨p, 0, none⟩), .int .i64 id] w fun e w' => e = .returned (.int .i64 (unE s id)) ∧ Sk B w' p b (relS s id) n ∧ Rg.Kept (Own2 p b) w w' := by
  cases hz : s.r id with
  | none =>
    rw [unE_none hz, relS_none hz]
    have U := unres_none k.1 hw hz
    have HK := hide k
    clear k hz
    go_enter Tryz.func109, Tryz.ntmps109
    go_wp2_with (go_at_call 133; refine U.mono ?_; rintro e w1 ⟨rfl, hb1⟩)
    go_ret
    exact ⟨rfl, HK.out.on (bel_al hb1 _), Rg.Kept.of_below (bel_al hb1 _)⟩
  | some c =>
    obtain ⟨x, y⟩ := c
    rw [unE_some hz, relS_some hz]
    have U := unres_some k.1 hw hz
    have g2 := k.2.rel id
    rw [relS_some hz] at g2
    obtain ⟨a1, a2, a3⟩ := k.2.at_ id _ hz
    have a4 := k.2.le hz
    dsimp only at a2 a3 a4 g2 ⊢
    have a5 := k.2.top x a2.1 a2.2
    have a6 := k.2.nn x a2.1 a2.2
    obtain ⟨i, rfl⟩ : ∃ i : Nat, x = i := ⟨x.toNat, by omega⟩
    have hi : (i : Int) < 8 := a2.2
    have hi8 : i < 8 := by omega
    have FIN : Hid (∀ w1, Sk0 B w1 p b ⟨s.on, s.fr, updO s.r id none⟩ n → Rg.Kept (Own2 p b) w w1 → p < w1.heap.size ∧ w1.cell? ⟨p, 8 + i, none⟩ = some (.int .i64 (s.fr i)) ∧ w1.frozen? ⟨p, 8 + i, none⟩ = false ∧
        ∀ o v, Sk0 B (((w1.setCell ⟨p, 8 + i, none⟩ (.int .i64 v)).alloc o).drew) p b ⟨s.on, upd s.fr i v, updO s.r id none⟩ n ∧ Rg.Kept (Own2 p b) w (((w1.setCell ⟨p, 8 + i, none⟩ (.int .i64 v)).alloc o).drew)) := fun w1 k1 kk =>
      ⟨k1.lt, k1.cellFr hi8, k1.frozen _, fun o v => ⟨(k1.setFr hi8 v).on (bel_al (Below.refl _ _) _).drew, kk.trans ((Rg.Kept.setCell _ (fun _ => .inl rfl)).trans (Rg.Kept.of_below (bel_al (Below.refl _ _) _).drew))⟩⟩
    have HG := hide g2
    obtain ⟨v, hv⟩ : ∃ v, s.fr i = v := ⟨_, rfl⟩
    obtain ⟨v2, hv2⟩ : ∃ v2, s.on i = v2 := ⟨_, rfl⟩
    rw [hv] at FIN a4 HG ⊢
    rw [hv2] at a4
    first | rw [hv] at a5 | rw [hv2] at a5
    first | rw [hv] at a6 | rw [hv2] at a6
    clear k hz g2 a1 a2 hv hv2 hi8
    skip
    go_enter Tryz.func109, Tryz.ntmps109
    go_wp2_with (go_at_call 133; refine U.mono ?_; rintro e w1 ⟨rfl, hs1, hk1⟩; obtain ⟨q1, q2, q3, q4⟩ := FIN.out w1 hs1 hk1; have Q4 := hide q4; clear q4 hs1 hk1 U)
    go_region
    go_wp2
    go_ret
    exact ⟨rfl, ⟨(Q4.out _ _).1, HG.out⟩, (Q4.out _ _).2⟩

/-- m[id] = lot{x, y} among several assignments. -/
theorem put_any {B : Nat} {w0 w : World} {p b : Nat} {s : Sb} {n : Nat} (k : Sk0 B w p b s n) {id : Int} (hw : (Lit.int .i64 id).wf = true) {x y : Int} (hz : s.r id = none) (hn : n < 1000000) (kk : Rg.Kept (Own2 p b) w0 w) :
    ∃ (st : Int) (w1 w2 : World), (Instr.mapEntry 65 (.map (some b)) (.int .i64 id)).run Tryz.prog w = .ok (.tuple #[.agg #[.int .i64 0, .int .i64 0], .int .i64 st]) w1 ∧ (Instr.entryStore 65 (.map (some b)) (.int .i64 st) (.agg #[.int .i64 x, .int .i64 y])).run Tryz.prog w1 = .ok () w2 ∧
      Sk0 B w2 p b ⟨s.on, s.fr, updO s.r id (some (x, y))⟩ (n + 1) ∧ Rg.Kept (Own2 p b) w0 w2 := by
  have hne := k.ne
  obtain ⟨h1, h2, h3, D, h5, h6⟩ := k
  obtain ⟨st, w1, w2, hr1, hr2, ho, ht⟩ := own_entry h5 lawI Tryz.underlying65 (by unfold maxLen; omega) (zeroL _) (keyOf_int_mk Tryz.underlying3 hw) (pairElem_mk (x, y)) (by rw [(h6.2 id).2, hz]; rfl)
  have kp : Rg.Kept (fun i _ => i = b) w w2 := Rg.Kept.grown ht.grown (fun i _ e => (by cases e; rfl))
  exact ⟨st, w1, w2, hr1, hr2, ⟨kp.block _ _ h1 (fun e => hne e.symm), h2, h3, _, ho, h6.put id (x, y)⟩, kk.trans (kp.mono (fun _ _ e => .inr e))⟩

set_option maxHeartbeats 1000000 in
theorem res_any {B : Nat} {w : World} {p b : Nat} {s : Sb} {n : Nat} (k : Sk B w p b s n) {id : Int} (hw : (Lit.int .i64 id).wf = true) (it q : Int) (hn : n < 1000000) :
    Calls Tryz.prog 105 #[.pointer (some ⟨p, 0, none⟩), .int .i64 id, .int .i64 it, .int .i64 q] w fun e w' => e = .returned (.int .i64 (resE s id it q)) ∧ Sk B w' p b (resS s id it q) (n + 1) ∧ Rg.Kept (Own2 p b) w w' := by
  have no : ∀ c, resE s id it q = c → c ≠ 0 → ∀ w', Below w.heap.size w w' → Sk B w' p b (resS s id it q) (n + 1) := fun c e hc w' hb => by
    rw [resS_no (by omega)]
    exact (k.on hb).mono (by omega)
  by_cases hi : isI id = true
  · by_cases hx : isIt it = true
    · by_cases hq : 1 ≤ q ∧ q ≤ 1000000000
      · have hm : may q = true := may_iff.2 (by omega)
        have hq0 : (q == 0) = false := by simp; omega
        have c1 := k.1.cellM
        have hl := k.1.look hw
        have hlt := k.1.lt
        cases hz : s.r id with
        | some c =>
          have e0 : resE s id it q = 8 := by unfold resE; rw [if_pos ⟨hi, hx, hq⟩, hz]; rfl
          obtain ⟨x, y⟩ := c
          rw [hz] at hl
          unfold pairV at hl
          dsimp only [Option.getD, Option.isSome] at hl
          have NO := hide (no 8 e0 (by omega))
          rw [e0]
          clear no e0 k hz
          go_enter Tryz.func105, Tryz.ntmps105
          go_wp2_with (first
        | (go_at_call 127; refine (sisid_any _ _).mono ?_; rintro e w' ⟨rfl, rfl⟩)
        | (go_at_call 64; refine (isitem_any _ _).mono ?_; rintro e w' ⟨rfl, rfl⟩)
        | (go_at_call 128; refine (may_any _ _).mono ?_; rintro e w' ⟨rfl, rfl⟩))
          go_ret
          exact ⟨rfl, NO.out _ (bel_al (Below.refl _ _) _), Rg.Kept.of_below (bel_al (Below.refl _ _) _)⟩
        | none =>
          rw [hz] at hl
          unfold pairV at hl
          dsimp only [Option.getD, Option.isSome] at hl
          obtain ⟨g0, g1⟩ := isIt_iff.1 hx
          have hnn := k.2.nn it g0 g1
          have hml : may (s.fr it) = true := may_iff.2 ⟨hnn, by have := k.2.frle g0 g1; have := k.2.top it g0 g1; omega⟩
          obtain ⟨i, rfl⟩ : ∃ i : Nat, it = i := ⟨it.toNat, by omega⟩
          have hi8 : i < 8 := by omega
          have cf := k.1.cellFr hi8
          have ff := k.1.frozen (8 + i)
          by_cases hle : q ≤ s.fr i
          · have e0 : resE s id i q = 0 := by unfold resE; rw [if_pos ⟨hi, hx, hq⟩, hz, if_neg (by simp), if_pos hle]
            have hsv : subV (s.fr i) q = s.fr i - q := by simp [subV, hml, hm, hle]
            have hse : subE (s.fr i) q = 0 := by simp [subE, hml, hm, hle]
            have S := hide (fun u => sub_any (s.fr i) q u)
            rw [hsv, hse] at S
            have g2 := k.2.res id i q
            rw [e0, resS_ok e0]
            rw [resS_ok e0] at g2
            obtain ⟨v, hv⟩ : ∃ v, s.fr i = v := ⟨_, rfl⟩
            rw [hv] at S cf hle hnn g2 ⊢
            have HG := hide g2
            have FIN := fun W (ks : Sk0 B W p b ⟨s.on, upd s.fr i (v - q), s.r⟩ n) (kk : Rg.Kept (Own2 p b) w W) => put_any ks hw (x := (i : Int)) (y := q) hz (by omega) kk
            obtain ⟨st, W2, W3, hr1, hr2, fin⟩ := FIN (((w.setCell ⟨p, 8 + i, none⟩ (.int .i64 (v - q))).alloc (.cells #[.int .i64 0, .int .i64 0] 151)).drew) ((k.1.setFr hi8 (v - q)).on (bel_al (Below.refl _ _) _).drew) ((Rg.Kept.setCell _ (fun _ => .inl rfl)).trans (Rg.Kept.of_below (bel_al (Below.refl _ _) _).drew))
            have HF := hide fin
            have hiI : (i : Int) < 8 := g1
            clear FIN fin no hsv hse e0 hml hi8 g2 k hz hv g0 g1
            go_enter Tryz.func105, Tryz.ntmps105
            go_wp2_with (first
        | (go_at_call 127; refine (sisid_any _ _).mono ?_; rintro e w' ⟨rfl, rfl⟩)
        | (go_at_call 64; refine (isitem_any _ _).mono ?_; rintro e w' ⟨rfl, rfl⟩)
        | (go_at_call 128; refine (may_any _ _).mono ?_; rintro e w' ⟨rfl, rfl⟩)
        | (go_at_call 129; refine (S.out _).mono ?_; rintro e w' ⟨rfl, rfl⟩))
            go_region
            go_wp2
            go_ret
            exact ⟨rfl, ⟨HF.out.1, HG.out⟩, HF.out.2⟩
          · have e0 : resE s id i q = 9 := by unfold resE; rw [if_pos ⟨hi, hx, hq⟩, hz, if_neg (by simp), if_neg hle]
            have hsv : subV (s.fr i) q = 0 := by simp [subV, hle]
            have hse : subE (s.fr i) q = 9 := by simp [subE, hml, hm, hle]
            have S := hide (fun u => sub_any (s.fr i) q u)
            rw [hsv, hse] at S
            have NO := hide (no 9 e0 (by omega))
            rw [e0]
            obtain ⟨v, hv⟩ : ∃ v, s.fr i = v := ⟨_, rfl⟩
            rw [hv] at S cf
            clear no hsv hse e0 hml hi8 hle k hz hnn hv
            go_enter Tryz.func105, Tryz.ntmps105
            go_wp2_with (first
        | (go_at_call 127; refine (sisid_any _ _).mono ?_; rintro e w' ⟨rfl, rfl⟩)
        | (go_at_call 64; refine (isitem_any _ _).mono ?_; rintro e w' ⟨rfl, rfl⟩)
        | (go_at_call 128; refine (may_any _ _).mono ?_; rintro e w' ⟨rfl, rfl⟩)
        | (go_at_call 129; refine (S.out _).mono ?_; rintro e w' ⟨rfl, rfl⟩))
            go_ret
            exact ⟨rfl, NO.out _ (bel_al (Below.refl _ _) _), Rg.Kept.of_below (bel_al (Below.refl _ _) _)⟩
      · have e0 : resE s id it q = 1 := by unfold resE; rw [if_neg (fun e => hq e.2.2)]
        have NO := hide (no 1 e0 (by omega))
        rw [e0]
        clear no e0 k
        by_cases hm : may q = true
        · have hq0 : (q == 0) = true := by have := may_iff.1 hm; simp; omega
          clear hq
          go_enter Tryz.func105, Tryz.ntmps105
          go_wp2_with (first
        | (go_at_call 127; refine (sisid_any _ _).mono ?_; rintro e w' ⟨rfl, rfl⟩)
        | (go_at_call 64; refine (isitem_any _ _).mono ?_; rintro e w' ⟨rfl, rfl⟩)
        | (go_at_call 128; refine (may_any _ _).mono ?_; rintro e w' ⟨rfl, rfl⟩))
          go_ret
          exact ⟨rfl, NO.out _ (Below.refl _ _), Rg.Kept.refl _ _⟩
        · have hm0 : may q = false := by simpa using hm
          clear hq hm
          go_enter Tryz.func105, Tryz.ntmps105
          go_wp2_with (first
        | (go_at_call 127; refine (sisid_any _ _).mono ?_; rintro e w' ⟨rfl, rfl⟩)
        | (go_at_call 64; refine (isitem_any _ _).mono ?_; rintro e w' ⟨rfl, rfl⟩)
        | (go_at_call 128; refine (may_any _ _).mono ?_; rintro e w' ⟨rfl, rfl⟩))
          go_ret
          exact ⟨rfl, NO.out _ (Below.refl _ _), Rg.Kept.refl _ _⟩
    · have hx0 : isIt it = false := by simpa using hx
      have e0 : resE s id it q = 1 := by unfold resE; rw [if_neg (fun e => hx e.2.1)]
      have NO := hide (no 1 e0 (by omega))
      rw [e0]
      clear no e0 k hx
      go_enter Tryz.func105, Tryz.ntmps105
      go_wp2_with (first
        | (go_at_call 127; refine (sisid_any _ _).mono ?_; rintro e w' ⟨rfl, rfl⟩)
        | (go_at_call 64; refine (isitem_any _ _).mono ?_; rintro e w' ⟨rfl, rfl⟩)
        | (go_at_call 128; refine (may_any _ _).mono ?_; rintro e w' ⟨rfl, rfl⟩))
      go_ret
      exact ⟨rfl, NO.out _ (Below.refl _ _), Rg.Kept.refl _ _⟩
  · have hi0 : isI id = false := by simpa using hi
    have e0 : resE s id it q = 1 := by unfold resE; rw [if_neg (fun e => hi e.1)]
    have NO := hide (no 1 e0 (by omega))
    rw [e0]
    clear no e0 k hi
    go_enter Tryz.func105, Tryz.ntmps105
    go_wp2_with (first
        | (go_at_call 127; refine (sisid_any _ _).mono ?_; rintro e w' ⟨rfl, rfl⟩)
        | (go_at_call 64; refine (isitem_any _ _).mono ?_; rintro e w' ⟨rfl, rfl⟩)
        | (go_at_call 128; refine (may_any _ _).mono ?_; rintro e w' ⟨rfl, rfl⟩))
    go_ret
    exact ⟨rfl, NO.out _ (Below.refl _ _), Rg.Kept.refl _ _⟩
end Go.Proofs.YtepclljoiccieaaGreatDoor.Gd
