/-
  A book of goods in memory: its block of seventeen cells, its map. Contracts of stock's isId, isItem, Has, OnHand, Free.
-/
import Derived.Test.YtkdonlhdjgpjiaaSckM
import Derived.Test.YtkdonlhdjgpjiaaRg
import Derived.Test.YtkdonlhdjgpjiaaMapE
import Derived.Maps.OwnSet
import Derived.Deep.CutBlock
namespace Go.Proofs.Ytkdonlhdjgpjiaa
open Go.ChangeShapes Go.WideShapes Go.ChangeAt Go.RowKit Go.Maps

theorem lawI : Keyed Try.prog 3 := int_keyed Try.underlying3
theorem wf_of {a : Int} (h1 : -9223372036854775808 ≤ a) (h2 : a ≤ 9223372036854775807) : (Lit.int .i64 a).wf = true := WalkArith.wf_i64 ⟨h1, h2⟩
theorem zeroL (w : World) : (zeroValue 56).run Try.prog w = .ok (pairV (0, 0)) w := by kernel_rfl

/-- A row of eight numbers. -/
def rowc (h : Int → Int) : List Value := (List.range 8).map (fun k : Nat => .int .i64 (h k))
theorem rowc_len (h : Int → Int) : (rowc h).length = 8 := by simp [rowc]
theorem rowc_at (h : Int → Int) {i : Nat} (hi : i < 8) : (rowc h)[i]? = some (.int .i64 (h i)) := by simp [rowc, hi]
theorem rowc_put (h : Int → Int) {i : Nat} (hi : i < 8) (v : Int) : (rowc h).set i (.int .i64 v) = rowc (upd h i v) := by
  unfold rowc
  apply List.ext_getElem?
  intro k
  rw [List.getElem?_set]
  by_cases e : i = k
  · subst e
    simp [hi, upd]
  · rw [if_neg e]
    by_cases hk : k < 8
    · simp [hk, upd]
      intro e2
      omega
    · simp [hk]
/-- The block's cells. -/
def bcs (on fr : Int → Int) (b : Nat) : List Value := rowc on ++ (rowc fr ++ [.map (some b)])
theorem bcs_on (on fr : Int → Int) (b : Nat) {i : Nat} (hi : i < 8) : (bcs on fr b)[i]? = some (.int .i64 (on i)) := by
  unfold bcs
  rw [List.getElem?_append_left (by rw [rowc_len]; exact hi), rowc_at _ hi]
theorem bcs_fr (on fr : Int → Int) (b : Nat) {i : Nat} (hi : i < 8) : (bcs on fr b)[8 + i]? = some (.int .i64 (fr i)) := by
  unfold bcs
  rw [List.getElem?_append_right (by rw [rowc_len]; omega), rowc_len, show 8 + i - 8 = i by omega, List.getElem?_append_left (by rw [rowc_len]; exact hi), rowc_at _ hi]
theorem bcs_map (on fr : Int → Int) (b : Nat) : (bcs on fr b)[16]? = some (.map (some b)) := by
  unfold bcs
  rw [List.getElem?_append_right (by rw [rowc_len]; omega), rowc_len, List.getElem?_append_right (by rw [rowc_len]; omega), rowc_len]
  rfl
theorem bcs_seton (on fr : Int → Int) (b : Nat) {i : Nat} (hi : i < 8) (v : Int) : (bcs on fr b).set i (.int .i64 v) = bcs (upd on i v) fr b := by
  unfold bcs
  rw [List.set_append_left _ _ (by rw [rowc_len]; exact hi), rowc_put _ hi]
theorem bcs_setfr (on fr : Int → Int) (b : Nat) {i : Nat} (hi : i < 8) (v : Int) : (bcs on fr b).set (8 + i) (.int .i64 v) = bcs on (upd fr i v) b := by
  unfold bcs
  rw [List.set_append_right _ _ (by rw [rowc_len]; omega), rowc_len, show 8 + i - 8 = i by omega, List.set_append_left _ _ (by rw [rowc_len]; exact hi), rowc_put _ hi]

/-- The book at p, its map at b, whatever it keeps to. -/
def Sk0 (B : Nat) (w : World) (p b : Nat) (s : Sb) (n : Nat) : Prop :=
  w.heap[p]? = some (.cells (bcs s.on s.fr b).toArray 53 (0, 0)) ∧ B ≤ p ∧ B ≤ b ∧ ∃ D : DataW Unit, w.ownsMap Try.prog 3 pairElem b n D ∧ FitsG encP D s.r
/-- The book at p, its map at b. -/
def Sk (B : Nat) (w : World) (p b : Nat) (s : Sb) (n : Nat) : Prop := Sk0 B w p b s n ∧ GoodS s
/-- The blocks that a step on it may turn. -/
def Own2 (p b : Nat) (k : Nat) (_ : Obj) : Prop := k = p ∨ k = b
section
variable {B : Nat} {w w' : World} {p b : Nat} {s : Sb} {n : Nat}
theorem Sk0.lt (k : Sk0 B w p b s n) : p < w.heap.size := (Array.getElem?_eq_some_iff.1 k.1).1
theorem Sk0.ltb (k : Sk0 B w p b s n) : b < w.heap.size := by obtain ⟨_, _, _, D, hD, _⟩ := k; exact hD.lt
theorem Sk0.low (k : Sk0 B w p b s n) : B ≤ w.heap.size := by have := k.lt; have := k.2.1; omega
theorem Sk0.ne (k : Sk0 B w p b s n) : b ≠ p := by
  rintro rfl
  obtain ⟨h1, _, _, D, ⟨es, c, hb, _⟩, _⟩ := k
  rw [h1] at hb
  cases hb
theorem Sk0.mono {n' : Nat} (k : Sk0 B w p b s n) (hn : n ≤ n') : Sk0 B w p b s n' := by
  obtain ⟨h1, h2, h3, D, h5, h6⟩ := k
  exact ⟨h1, h2, h3, D, h5.mono hn, h6⟩
theorem own_keptG {E : Nat → Obj → Prop} {P : Program} {t : TypeId} {D : DataW Unit} (h : w.ownsMap P t pairElem b n D) (k : Rg.Kept E w w') (hb : ∀ es c, ¬ E b (.map es c)) : w'.ownsMap P t pairElem b n D := by
  obtain ⟨es, c, h1, h2⟩ := h
  exact ⟨es, c, k.block _ _ h1 (hb _ _), h2⟩
theorem Sk0.kept {E : Nat → Obj → Prop} (k : Sk0 B w p b s n) (hk : Rg.Kept E w w') (hp : ∀ o, ¬ E p o) (hb : ∀ o, ¬ E b o) : Sk0 B w' p b s n := by
  obtain ⟨h1, h2, h3, D, h5, h6⟩ := k
  exact ⟨hk.block _ _ h1 (hp _), h2, h3, D, own_keptG h5 hk (fun _ _ => hb _), h6⟩
theorem Sk0.on (k : Sk0 B w p b s n) (hb : Below w.heap.size w w') : Sk0 B w' p b s n :=
  k.kept (E := fun _ _ => False) (Rg.Kept.of_below hb) (fun _ h => h) (fun _ h => h)
theorem Sk0.bel (k : Sk0 B w p b s n) (hk : Rg.Kept (Own2 p b) w w') : Below B w w' :=
  hk.bel k.low (fun i _ e => by have := k.2.1; have := k.2.2.1; rcases e with e | e <;> omega)
theorem Sk0.cellOn (k : Sk0 B w p b s n) {i : Nat} (hi : i < 8) : w.cell? ⟨p, i, none⟩ = some (.int .i64 (s.on i)) := by
  rw [cell_of k.1, List.getElem?_toArray]; exact bcs_on _ _ _ hi
theorem Sk0.cellFr (k : Sk0 B w p b s n) {i : Nat} (hi : i < 8) : w.cell? ⟨p, 8 + i, none⟩ = some (.int .i64 (s.fr i)) := by
  rw [cell_of k.1, List.getElem?_toArray]; exact bcs_fr _ _ _ hi
theorem Sk0.cellM (k : Sk0 B w p b s n) : w.cell? ⟨p, 16, none⟩ = some (.map (some b)) := by
  rw [cell_of k.1, List.getElem?_toArray]; exact bcs_map _ _ _
theorem Sk0.frozen (k : Sk0 B w p b s n) (i : Nat) : w.frozen? ⟨p, i, none⟩ = false := frozen_of_row _ _ _ _ _ k.1
theorem Sk0.setOn (k : Sk0 B w p b s n) {i : Nat} (hi : i < 8) (v : Int) : Sk0 B (w.setCell ⟨p, i, none⟩ (.int .i64 v)) p b ⟨upd s.on i v, s.fr, s.r⟩ n := by
  have hne := k.ne
  obtain ⟨h1, h2, h3, D, h5, h6⟩ := k
  refine ⟨?_, h2, h3, D, h5.setCell (a := ⟨p, i, none⟩) hne _, h6⟩
  rw [heap_setCell_same _ _ _ _ _ _ h1, ← bcs_seton s.on s.fr b hi v, List.setIfInBounds_toArray]
theorem Sk0.setFr (k : Sk0 B w p b s n) {i : Nat} (hi : i < 8) (v : Int) : Sk0 B (w.setCell ⟨p, 8 + i, none⟩ (.int .i64 v)) p b ⟨s.on, upd s.fr i v, s.r⟩ n := by
  have hne := k.ne
  obtain ⟨h1, h2, h3, D, h5, h6⟩ := k
  refine ⟨?_, h2, h3, D, h5.setCell (a := ⟨p, 8 + i, none⟩) hne _, h6⟩
  rw [heap_setCell_same _ _ _ _ _ _ h1, ← bcs_setfr s.on s.fr b hi v, List.setIfInBounds_toArray]
/-- A look-up in it. -/
theorem Sk0.look (k : Sk0 B w p b s n) {id : Int} (hw : (Lit.int .i64 id).wf = true) :
    (Instr.lookup 51 (.map (some b)) (.int .i64 id) true).run Try.prog w = .ok (.tuple #[pairV ((s.r id).getD (0, 0)), .bool (s.r id).isSome]) w := by
  obtain ⟨_, _, _, D, h5, h6⟩ := k
  exact look_pair_ok h5 Try.underlying3 Try.underlying51 (zeroL _) h6 hw
theorem Sk.good (k : Sk B w p b s n) : GoodS s := k.2
theorem Sk.mono {n' : Nat} (k : Sk B w p b s n) (hn : n ≤ n') : Sk B w p b s n' := ⟨k.1.mono hn, k.2⟩
theorem Sk.kept {E : Nat → Obj → Prop} (k : Sk B w p b s n) (hk : Rg.Kept E w w') (hp : ∀ o, ¬ E p o) (hb : ∀ o, ¬ E b o) : Sk B w' p b s n := ⟨k.1.kept hk hp hb, k.2⟩
theorem Sk.on (k : Sk B w p b s n) (hb : Below w.heap.size w w') : Sk B w' p b s n :=
  k.kept (E := fun _ _ => False) (Rg.Kept.of_below hb) (fun _ h => h) (fun _ h => h)
theorem Sk.bel (k : Sk B w p b s n) (hk : Rg.Kept (Own2 p b) w w') : Below B w w' := k.1.bel hk
end

theorem sisid_any (id : Int) (w : World) : Calls Try.prog 24 #[.int .i64 id] w fun e w' => e = .returned (.bool (isI id)) ∧ w = w' := by
  by_cases h0 : 1 ≤ id
  · by_cases h1 : id ≤ 999
    · have hm : true = isI id := (isI_iff.2 ⟨h0, h1⟩).symm
      rw [← hm]
      clear hm
      go_enter Try.func24, Try.ntmps24
      go_wp2
      go_ret
      exact ⟨rfl, rfl⟩
    · have hm : false = isI id := by unfold isI; simp; omega
      rw [← hm]
      clear hm
      go_enter Try.func24, Try.ntmps24
      go_wp2
      go_ret
      exact ⟨rfl, rfl⟩
  · have hm : false = isI id := by unfold isI; simp; omega
    rw [← hm]
    clear hm
    go_enter Try.func24, Try.ntmps24
    go_wp2
    go_ret
    exact ⟨rfl, rfl⟩
theorem isitem_any (id : Int) (w : World) : Calls Try.prog 25 #[.int .i64 id] w fun e w' => e = .returned (.bool (isIt id)) ∧ w = w' := by
  by_cases h0 : 0 ≤ id
  · by_cases h1 : id < 8
    · have hm : true = isIt id := (isIt_iff.2 ⟨h0, h1⟩).symm
      rw [← hm]
      clear hm
      go_enter Try.func25, Try.ntmps25
      go_wp2
      go_ret
      exact ⟨rfl, rfl⟩
    · have hm : false = isIt id := by unfold isIt; simp; omega
      rw [← hm]
      clear hm
      go_enter Try.func25, Try.ntmps25
      go_wp2
      go_ret
      exact ⟨rfl, rfl⟩
  · have hm : false = isIt id := by unfold isIt; simp; omega
    rw [← hm]
    clear hm
    go_enter Try.func25, Try.ntmps25
    go_wp2
    go_ret
    exact ⟨rfl, rfl⟩
set_option maxHeartbeats 400000 in
theorem shas_any {B : Nat} {w : World} {p b : Nat} {s : Sb} {n : Nat} (k : Sk B w p b s n) {id : Int} (hw : (Lit.int .i64 id).wf = true) :
    Calls Try.prog 18 #[.pointer (some ⟨p, 0, none⟩), .int .i64 id] w fun e w' => e = .returned (.tuple #[.int .i64 ((s.r id).getD (0, 0)).1, .int .i64 ((s.r id).getD (0, 0)).2, .bool (s.r id).isSome]) ∧ Below w.heap.size w w' := by
  have c1 := k.1.cellM
  have hl := k.1.look hw
  obtain ⟨o, ho⟩ : ∃ o, (s.r id).isSome = o := ⟨_, rfl⟩
  obtain ⟨⟨x, y⟩, hc⟩ : ∃ c, (s.r id).getD (0, 0) = c := ⟨_, rfl⟩
  rw [ho, hc] at hl ⊢
  unfold pairV at hl
  clear k hc ho
  dsimp only at hl ⊢
  go_enter Try.func18, Try.ntmps18
  go_wp2
  go_region
  go_wp2
  go_ret3
  exact ⟨rfl, by first | exact (Below.refl _ _).alloc (Nat.le_refl _) _ | exact ((Below.refl _ _).alloc (Nat.le_refl _) _).drew⟩
theorem shasnil_any (id : Int) (w : World) :
    Calls Try.prog 18 #[.pointer none, .int .i64 id] w fun e w' => e = .returned (.tuple #[.int .i64 0, .int .i64 0, .bool false]) ∧ w = w' := by
  go_enter Try.func18, Try.ntmps18
  go_wp2
  go_ret3
  exact ⟨rfl, rfl⟩
def onV (s : Sb) (k : Int) : Int := if isIt k = true then s.on k else 0
def frV (s : Sb) (k : Int) : Int := if isIt k = true then s.fr k else 0
set_option maxHeartbeats 400000 in
theorem onhand_any {B : Nat} {w : World} {p b : Nat} {s : Sb} {n : Nat} (k : Sk B w p b s n) (x : Int) :
    Calls Try.prog 19 #[.pointer (some ⟨p, 0, none⟩), .int .i64 x] w fun e w' => e = .returned (.int .i64 (onV s x)) ∧ w = w' := by
  have hi := isitem_any x w
  by_cases h : isIt x = true
  · have e : onV s x = s.on x := if_pos h
    rw [e]
    rw [h] at hi
    obtain ⟨h0, h1⟩ := isIt_iff.1 h
    obtain ⟨i, rfl⟩ : ∃ i : Nat, x = i := ⟨x.toNat, by omega⟩
    have c := k.1.cellOn (i := i) (by omega)
    obtain ⟨v, hv⟩ : ∃ v, s.on i = v := ⟨_, rfl⟩
    rw [hv] at c ⊢
    clear e h k hv h0
    go_enter Try.func19, Try.ntmps19
    go_wp2_with (go_at_call 25; refine hi.mono ?_; rintro e w' ⟨rfl, rfl⟩)
    go_ret
    exact ⟨rfl, rfl⟩
  · have e : onV s x = 0 := if_neg h
    rw [e]
    rw [show isIt x = false by simpa using h] at hi
    clear e h k
    go_enter Try.func19, Try.ntmps19
    go_wp2_with (go_at_call 25; refine hi.mono ?_; rintro e w' ⟨rfl, rfl⟩)
    go_ret
    exact ⟨rfl, rfl⟩
set_option maxHeartbeats 400000 in
theorem free_any {B : Nat} {w : World} {p b : Nat} {s : Sb} {n : Nat} (k : Sk B w p b s n) (x : Int) :
    Calls Try.prog 20 #[.pointer (some ⟨p, 0, none⟩), .int .i64 x] w fun e w' => e = .returned (.int .i64 (frV s x)) ∧ w = w' := by
  have hi := isitem_any x w
  by_cases h : isIt x = true
  · have e : frV s x = s.fr x := if_pos h
    rw [e]
    rw [h] at hi
    obtain ⟨h0, h1⟩ := isIt_iff.1 h
    obtain ⟨i, rfl⟩ : ∃ i : Nat, x = i := ⟨x.toNat, by omega⟩
    have c := k.1.cellFr (i := i) (by omega)
    obtain ⟨v, hv⟩ : ∃ v, s.fr i = v := ⟨_, rfl⟩
    rw [hv] at c ⊢
    clear e h k hv h0
    go_enter Try.func20, Try.ntmps20
    go_wp2_with (go_at_call 25; refine hi.mono ?_; rintro e w' ⟨rfl, rfl⟩)
    go_ret
    exact ⟨rfl, rfl⟩
  · have e : frV s x = 0 := if_neg h
    rw [e]
    rw [show isIt x = false by simpa using h] at hi
    clear e h k
    go_enter Try.func20, Try.ntmps20
    go_wp2_with (go_at_call 25; refine hi.mono ?_; rintro e w' ⟨rfl, rfl⟩)
    go_ret
    exact ⟨rfl, rfl⟩
theorem onhandnil_any (x : Int) (w : World) : Calls Try.prog 19 #[.pointer none, .int .i64 x] w fun e w' => e = .returned (.int .i64 0) ∧ w = w' := by
  go_enter Try.func19, Try.ntmps19
  go_wp2
  go_ret
  exact ⟨rfl, rfl⟩
theorem freenil_any (x : Int) (w : World) : Calls Try.prog 20 #[.pointer none, .int .i64 x] w fun e w' => e = .returned (.int .i64 0) ∧ w = w' := by
  go_enter Try.func20, Try.ntmps20
  go_wp2
  go_ret
  exact ⟨rfl, rfl⟩
theorem resnil_any (id x q : Int) (w : World) : Calls Try.prog 16 #[.pointer none, .int .i64 id, .int .i64 x, .int .i64 q] w fun e w' => e = .returned (.int .i64 1) ∧ w = w' := by
  go_enter Try.func16, Try.ntmps16
  go_wp2
  go_ret
  exact ⟨rfl, rfl⟩
theorem unresnil_any (id : Int) (w : World) : Calls Try.prog 23 #[.pointer none, .int .i64 id] w fun e w' => e = .returned (.tuple #[.agg #[.int .i64 0, .int .i64 0], .int .i64 1]) ∧ Below w.heap.size w w' := by
  go_enter Try.func23, Try.ntmps23
  go_wp2
  refine bodyPost_ret (v := .tuple #[.agg #[.int .i64 0, .int .i64 0], .int .i64 1]) ?_ rfl ?_
  · rw [results_cell_tmp Try.results23]
    simp [go_sem]
  · exact ⟨rfl, (Below.refl _ _).alloc (Nat.le_refl _) _⟩
theorem comnil_any (id : Int) (w : World) : Calls Try.prog 12 #[.pointer none, .int .i64 id] w fun e w' => e = .returned (.int .i64 1) ∧ Below w.heap.size w w' := by
  go_enter Try.func12, Try.ntmps12
  go_wp2_with (go_at_call 23; refine (unresnil_any _ _).mono ?_; rintro e w1 ⟨rfl, hb1⟩)
  go_ret
  exact ⟨rfl, bel_on' hb1 ((Below.refl _ _).alloc (Nat.le_refl _) _)⟩
theorem relnil_any (id : Int) (w : World) : Calls Try.prog 14 #[.pointer none, .int .i64 id] w fun e w' => e = .returned (.int .i64 1) ∧ Below w.heap.size w w' := by
  go_enter Try.func14, Try.ntmps14
  go_wp2_with (go_at_call 23; refine (unresnil_any _ _).mono ?_; rintro e w1 ⟨rfl, hb1⟩)
  go_ret
  exact ⟨rfl, bel_on' hb1 ((Below.refl _ _).alloc (Nat.le_refl _) _)⟩
end Go.Proofs.Ytkdonlhdjgpjiaa
