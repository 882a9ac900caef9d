/-
  A book of money in memory: its block of ten cells, its two maps. Contracts of purse's has, Money, Allowed, Till, Paid; those of a nil book.
-/
import Derived.Test.YtpahgoehpkohiaaPrsS
import Derived.Deep.RegionHeld3
namespace Go.Proofs.Ytpahgoehpkohiaa
open Go.ChangeShapes Go.WideShapes Go.ChangeAt Go.RowKit Go.Maps

/-- The block's cells. -/
def bcs (f : Int → Int) (b c : Nat) : List Value := rowc f ++ [.map (some b), .map (some c)]
theorem bcs_f (f : Int → Int) (b c : Nat) {i : Nat} (hi : i < 8) : (bcs f b c)[i]? = some (.int .i64 (f i)) := by
  unfold bcs
  rw [List.getElem?_append_left (by rw [rowc_len]; exact hi), rowc_at _ hi]
theorem bcs_a (f : Int → Int) (b c : Nat) : (bcs f b c)[8]? = some (.map (some b)) := by
  unfold bcs
  rw [List.getElem?_append_right (by rw [rowc_len]; omega), rowc_len]
  rfl
theorem bcs_d (f : Int → Int) (b c : Nat) : (bcs f b c)[9]? = some (.map (some c)) := by
  unfold bcs
  rw [List.getElem?_append_right (by rw [rowc_len]; omega), rowc_len]
  rfl
theorem bcs_set (f : Int → Int) (b c : Nat) {i : Nat} (hi : i < 8) (v : Int) : (bcs f b c).set i (.int .i64 v) = bcs (upd f i v) b c := by
  unfold bcs
  rw [List.set_append_left _ _ (by rw [rowc_len]; exact hi), rowc_put _ hi]

/-- The book at p, its maps at b and c, whatever it keeps to. -/
def Pk0 (B : Nat) (w : World) (p b c : Nat) (s : Qb) (n : Nat) : Prop :=
  w.heap[p]? = some (.cells (bcs s.f b c).toArray 53 (0, 0)) ∧ (B ≤ p ∧ B ≤ b ∧ B ≤ c ∧ b ≠ c) ∧ Mp w b n s.a ∧ Mp w c n s.d
def Pk (B : Nat) (w : World) (p b c : Nat) (s : Qb) (n : Nat) : Prop := Pk0 B w p b c s n ∧ GoodQ s
/-- The blocks that a step on it may turn. -/
def Own2 (b c : Nat) (k : Nat) (_ : Obj) : Prop := k = b ∨ k = c
section
variable {B : Nat} {w w' : World} {p b c : Nat} {s : Qb} {n : Nat}
theorem Pk0.lt (k : Pk0 B w p b c s n) : p < w.heap.size := (Array.getElem?_eq_some_iff.1 k.1).1
theorem Pk0.low (k : Pk0 B w p b c s n) : B ≤ w.heap.size := by have := k.lt; have := k.2.1.1; omega
theorem Pk0.nea (k : Pk0 B w p b c s n) : b ≠ p := k.2.2.1.ne k.1
theorem Pk0.ned (k : Pk0 B w p b c s n) : c ≠ p := k.2.2.2.ne k.1
theorem Pk0.mono {n' : Nat} (k : Pk0 B w p b c s n) (hn : n ≤ n') : Pk0 B w p b c s n' := ⟨k.1, k.2.1, k.2.2.1.mono hn, k.2.2.2.mono hn⟩
theorem Pk0.kept {E : Nat → Obj → Prop} (k : Pk0 B w p b c s n) (hk : Rg.Kept E w w') (hp : ∀ o, ¬ E p o) (hb : ∀ o, ¬ E b o) (hc : ∀ o, ¬ E c o) : Pk0 B w' p b c s n :=
  ⟨hk.block _ _ k.1 (hp _), k.2.1, k.2.2.1.kept hk hb, k.2.2.2.kept hk hc⟩
theorem Pk0.on (k : Pk0 B w p b c s n) (hb : Below w.heap.size w w') : Pk0 B w' p b c s n :=
  k.kept (E := fun _ _ => False) (Rg.Kept.of_below hb) (fun _ h => h) (fun _ h => h) (fun _ h => h)
theorem Pk0.bel (k : Pk0 B w p b c s n) (hk : Rg.Kept (Own2 b c) w w') : Below B w w' :=
  hk.bel k.low (fun i _ e => by have := k.2.1; rcases e with e | e <;> omega)
theorem Pk0.cellF (k : Pk0 B w p b c s n) {i : Nat} (hi : i < 8) : w.cell? ⟨p, i, none⟩ = some (.int .i64 (s.f i)) := by
  rw [cell_of k.1, List.getElem?_toArray]; exact bcs_f _ _ _ hi
theorem Pk0.cellA (k : Pk0 B w p b c s n) : w.cell? ⟨p, 8, none⟩ = some (.map (some b)) := by
  rw [cell_of k.1, List.getElem?_toArray]; exact bcs_a _ _ _
theorem Pk0.cellD (k : Pk0 B w p b c s n) : w.cell? ⟨p, 9, none⟩ = some (.map (some c)) := by
  rw [cell_of k.1, List.getElem?_toArray]; exact bcs_d _ _ _
theorem Pk0.frozen (k : Pk0 B w p b c s n) (i : Nat) : w.frozen? ⟨p, i, none⟩ = false := frozen_of_row _ _ _ _ _ k.1
theorem Pk0.setF (k : Pk0 B w p b c s n) {i : Nat} (hi : i < 8) (v : Int) : Pk0 B (w.setCell ⟨p, i, none⟩ (.int .i64 v)) p b c ⟨upd s.f i v, s.a, s.d⟩ n := by
  have hnea := k.nea
  have hned := k.ned
  obtain ⟨h1, h2, ⟨D, h3, h4⟩, ⟨E, h5, h6⟩⟩ := k
  refine ⟨?_, h2, ⟨D, h3.setCell (a := ⟨p, i, none⟩) hnea _, h4⟩, ⟨E, h5.setCell (a := ⟨p, i, none⟩) hned _, h6⟩⟩
  rw [heap_setCell_same _ _ _ _ _ _ h1, ← bcs_set s.f b c hi v, List.setIfInBounds_toArray]
theorem Pk.good (k : Pk B w p b c s n) : GoodQ s := k.2
theorem Pk.mono {n' : Nat} (k : Pk B w p b c s n) (hn : n ≤ n') : Pk B w p b c s n' := ⟨k.1.mono hn, k.2⟩
theorem Pk.kept {E : Nat → Obj → Prop} (k : Pk B w p b c s n) (hk : Rg.Kept E w w') (hp : ∀ o, ¬ E p o) (hb : ∀ o, ¬ E b o) (hc : ∀ o, ¬ E c o) : Pk B w' p b c s n := ⟨k.1.kept hk hp hb hc, k.2⟩
theorem Pk.on (k : Pk B w p b c s n) (hb : Below w.heap.size w w') : Pk B w' p b c s n := ⟨k.1.on hb, k.2⟩
theorem Pk.bel (k : Pk B w p b c s n) (hk : Rg.Kept (Own2 b c) w w') : Below B w w' := k.1.bel hk
end
/-- A look-up in a map of deals. -/
theorem Mp.look {w : World} {b n : Nat} {r : Int → Option (Int × Int)} (k : Mp w b n r) {id : Int} (hw : (Lit.int .i64 id).wf = true) :
    (Instr.lookup 51 (.map (some b)) (.int .i64 id) true).run Try.prog w = .ok (.tuple #[pairV ((r id).getD (0, 0)), .bool (r id).isSome]) w := by
  obtain ⟨D, h5, h6⟩ := k
  exact look_pair_ok h5 Try.underlying3 Try.underlying51 (zeroD _) h6 hw

set_option maxHeartbeats 400000 in
theorem phas_any {w : World} {b n : Nat} {r : Int → Option (Int × Int)} (k : Mp w b n r) {id : Int} (hw : (Lit.int .i64 id).wf = true) :
    Calls Try.prog 28 #[.map (some b), .int .i64 id] w fun e w' => e = .returned (.bool (r id).isSome) ∧ Below w.heap.size w w' := by
  have hl := k.look hw
  obtain ⟨o, ho⟩ : ∃ o, (r id).isSome = o := ⟨_, rfl⟩
  obtain ⟨⟨x, y⟩, hc⟩ : ∃ c, (r id).getD (0, 0) = c := ⟨_, rfl⟩
  rw [ho, hc] at hl
  rw [ho]
  unfold pairV at hl
  clear k hc ho
  dsimp only at hl
  go_enter Try.func28, Try.ntmps28
  go_wp2
  go_ret
  exact ⟨rfl, by first | exact Below.refl _ _ | exact bel_al (Below.refl _ _) _⟩

set_option maxHeartbeats 400000 in
theorem ppaid_any {B : Nat} {w : World} {p b c : Nat} {s : Qb} {n : Nat} (k : Pk B w p b c s n) {id : Int} (hw : (Lit.int .i64 id).wf = true) :
    Calls Try.prog 18 #[.pointer (some ⟨p, 0, none⟩), .int .i64 id] w fun e w' => e = .returned (.tuple #[.int .i64 (alw s.d id), .bool (s.d id).isSome]) ∧ Below w.heap.size w w' := by
  have c1 := k.1.cellD
  have hl := k.1.2.2.2.look hw
  have hy : alw s.d id = ((s.d id).getD (0, 0)).2 := by
    unfold alw prc
    cases s.d id <;> rfl
  rw [hy]
  obtain ⟨o, ho⟩ : ∃ o, (s.d id).isSome = o := ⟨_, rfl⟩
  obtain ⟨⟨x, y⟩, hc⟩ : ∃ c, (s.d id).getD (0, 0) = c := ⟨_, rfl⟩
  rw [ho, hc] at hl ⊢
  unfold pairV at hl
  clear k hc ho hy
  dsimp only at hl ⊢
  go_enter Try.func18, Try.ntmps18
  go_wp2
  go_ret2
  exact ⟨rfl, by first | exact (Below.refl _ _).alloc (Nat.le_refl _) _ | exact ((Below.refl _ _).alloc (Nat.le_refl _) _).drew⟩
theorem ppaidnil_any (id : Int) (w : World) :
    Calls Try.prog 18 #[.pointer none, .int .i64 id] w fun e w' => e = .returned (.tuple #[.int .i64 0, .bool false]) ∧ w = w' := by
  go_enter Try.func18, Try.ntmps18
  go_wp2
  go_ret2
  exact ⟨rfl, rfl⟩

set_option maxHeartbeats 400000 in
theorem ptill_any {B : Nat} {w : World} {p b c : Nat} {s : Qb} {n : Nat} (k : Pk B w p b c s n) :
    Calls Try.prog 19 #[.pointer (some ⟨p, 0, none⟩)] w fun e w' => e = .returned (.int .i64 (tillQ s)) ∧ Below w.heap.size w w' := by
  have c1 := k.1.cellD
  have S := psum_any k.1.2.2.2 k.2.dd (by have := k.2.sumA; omega)
  unfold tillQ
  obtain ⟨v, hv⟩ : ∃ v, sumTo (alw s.d) 1000 = v := ⟨_, rfl⟩
  rw [hv] at S ⊢
  clear k hv
  go_enter Try.func19, Try.ntmps19
  go_wp2_with (go_at_call 31; refine S.mono ?_; rintro e w1 ⟨rfl, hb1⟩)
  go_ret
  exact ⟨rfl, hb1⟩
theorem ptillnil_any (w : World) : Calls Try.prog 19 #[.pointer none] w fun e w' => e = .returned (.int .i64 0) ∧ w = w' := by
  go_enter Try.func19, Try.ntmps19
  go_wp2
  go_ret
  exact ⟨rfl, rfl⟩
/-- What is allowed of x. -/
def alwV (s : Qb) (x : Int) : Int := sumTo (resv s.a x) 1000
set_option maxHeartbeats 400000 in
theorem pallowed_any {B : Nat} {w : World} {p b c : Nat} {s : Qb} {n : Nat} (k : Pk B w p b c s n) (x : Int) :
    Calls Try.prog 21 #[.pointer (some ⟨p, 0, none⟩), .int .i64 x] w fun e w' => e = .returned (.int .i64 (alwV s x)) ∧ Below w.heap.size w w' := by
  have c1 := k.1.cellA
  have S := psumof_any k.1.2.2.1 k.2.da (by have := k.2.sumA; omega) x
  unfold alwV
  obtain ⟨v, hv⟩ : ∃ v, sumTo (resv s.a x) 1000 = v := ⟨_, rfl⟩
  rw [hv] at S ⊢
  clear k hv
  go_enter Try.func21, Try.ntmps21
  go_wp2_with (go_at_call 35; refine S.mono ?_; rintro e w1 ⟨rfl, hb1⟩)
  go_ret
  exact ⟨rfl, hb1⟩
theorem pallowednil_any (x : Int) (w : World) : Calls Try.prog 21 #[.pointer none, .int .i64 x] w fun e w' => e = .returned (.int .i64 0) ∧ w = w' := by
  go_enter Try.func21, Try.ntmps21
  go_wp2
  go_ret
  exact ⟨rfl, rfl⟩
/-- What x has. -/
def monV (s : Qb) (x : Int) : Int := if isIt x = true then moneyK s x else 0
set_option maxHeartbeats 1000000 in
theorem pmoney_any {B : Nat} {w : World} {p b c : Nat} {s : Qb} {n : Nat} (k : Pk B w p b c s n) (x : Int) :
    Calls Try.prog 20 #[.pointer (some ⟨p, 0, none⟩), .int .i64 x] w fun e w' => e = .returned (.int .i64 (monV s x)) ∧ Below w.heap.size w w' := by
  have hi := piscl_any x w
  by_cases h : isIt x = true
  · have e : monV s x = moneyK s x := if_pos h
    rw [e]
    rw [h] at hi
    obtain ⟨h0, h1⟩ := isIt_iff.1 h
    have bd := k.2.money h0 h1
    obtain ⟨i, rfl⟩ : ∃ i : Nat, x = i := ⟨x.toNat, by omega⟩
    have c0 := k.1.cellF (i := i) (by omega)
    have c1 := k.1.cellD
    have kd := k.on (Below.refl w.heap.size w).drew
    have S := psumof_any kd.1.2.2.2 kd.2.dd (by have := kd.2.sumA; omega) i
    have HL : Hid (∀ u, Below w.drew.heap.size w.drew u → u.cell? ⟨p, i, none⟩ = some (.int .i64 (s.f i)) ∧ u.cell? ⟨p, 9, none⟩ = some (.map (some c))) := fun u hu => ⟨(kd.1.on hu).cellF (by omega), (kd.1.on hu).cellD⟩
    unfold moneyK
    unfold moneyK at bd
    obtain ⟨v, hv⟩ : ∃ v, sumTo (resv s.d i) 1000 = v := ⟨_, rfl⟩
    obtain ⟨f, hf⟩ : ∃ f, s.f i = f := ⟨_, rfl⟩
    rw [hv, hf] at bd
    rw [hv] at S
    rw [hf] at c0 HL
    rw [hv, hf]
    obtain ⟨-, -, ⟨b1, b2⟩, b3⟩ := bd
    clear e h k kd hv hf h0
    go_enter Try.func20, Try.ntmps20
    go_wp2_with (go_at_call 26; refine hi.mono ?_; rintro e w' ⟨rfl, rfl⟩)
    go_region_held3 (fun w' => w'.cell? ⟨p, i, none⟩ = some (.int .i64 f) ∧ w'.cell? ⟨p, 9, none⟩ = some (.map (some c))) (go_keep) (first
      | (go_at_call 35; refine S.mono ?_; clear S; rintro e w1 ⟨rfl, hb1⟩; clear c0 c1; obtain ⟨c0, c1⟩ := HL.out w1 hb1; have HB1 := hide hb1; clear hb1))
    all_goals go_wp2
    all_goals go_ret
    all_goals exact ⟨ret_int (by rw [IntKind.wrap_i64]; omega), bel_on' (Below.refl _ w).drew HB1.out⟩
  · have e : monV s x = 0 := if_neg h
    rw [e]
    rw [show isIt x = false by simpa using h] at hi
    clear e h k
    go_enter Try.func20, Try.ntmps20
    go_wp2_with (go_at_call 26; refine hi.mono ?_; rintro e w' ⟨rfl, rfl⟩)
    go_ret
    exact ⟨rfl, Below.refl _ _⟩
theorem pmoneynil_any (x : Int) (w : World) : Calls Try.prog 20 #[.pointer none, .int .i64 x] w fun e w' => e = .returned (.int .i64 0) ∧ w = w' := by
  go_enter Try.func20, Try.ntmps20
  go_wp2
  go_ret
  exact ⟨rfl, rfl⟩
theorem pallownil_any (id x q : Int) (w : World) : Calls Try.prog 16 #[.pointer none, .int .i64 id, .int .i64 x, .int .i64 q] w fun e w' => e = .returned (.int .i64 1) ∧ w = w' := by
  go_enter Try.func16, Try.ntmps16
  go_wp2
  go_ret
  exact ⟨rfl, rfl⟩
theorem pendnil_any (id : Int) (w : World) : Calls Try.prog 24 #[.pointer none, .int .i64 id] w fun e w' => e = .returned (.tuple #[.agg #[.int .i64 0, .int .i64 0], .int .i64 1]) ∧ Below w.heap.size w w' := by
  go_enter Try.func24, Try.ntmps24
  go_wp2
  refine bodyPost_ret (v := .tuple #[.agg #[.int .i64 0, .int .i64 0], .int .i64 1]) ?_ rfl ?_
  · rw [results_cell_tmp Try.results24]
    simp [go_sem]
  · exact ⟨rfl, (Below.refl _ _).alloc (Nat.le_refl _) _⟩
theorem pcapnil_any (id : Int) (w : World) : Calls Try.prog 12 #[.pointer none, .int .i64 id] w fun e w' => e = .returned (.int .i64 1) ∧ Below w.heap.size w w' := by
  go_enter Try.func12, Try.ntmps12
  go_wp2_with (go_at_call 24; refine (pendnil_any _ _).mono ?_; rintro e w1 ⟨rfl, hb1⟩)
  go_ret
  exact ⟨rfl, by first | exact hb1 | exact bel_on' hb1 ((Below.refl _ _).alloc (Nat.le_refl _) _)⟩
theorem pvoidnil_any (id : Int) (w : World) : Calls Try.prog 14 #[.pointer none, .int .i64 id] w fun e w' => e = .returned (.int .i64 1) ∧ Below w.heap.size w w' := by
  go_enter Try.func14, Try.ntmps14
  go_wp2_with (go_at_call 24; refine (pendnil_any _ _).mono ?_; rintro e w1 ⟨rfl, hb1⟩)
  go_ret
  exact ⟨rfl, by first | exact hb1 | exact bel_on' hb1 ((Below.refl _ _).alloc (Nat.le_refl _) _)⟩
end Go.Proofs.Ytpahgoehpkohiaa
