/-
  Own texts put together: PuB, PuT, PuU, PuN, PuR, PuW, PuY.
-/
import Derived.Test.YtepclljoiccieaaGreatDoorSgonlcng
import Derived.Deep.RegionHeld3
/-
  A book of money in memory: its block of ten cells, its two maps. Contracts of purse's has, Money, Allowed, Till, Paid; those of a nil book.
-/
namespace Go.Proofs.YtepclljoiccieaaGreatDoor.Gd.Pu
open Go.ChangeShapes Go.WideShapes Go.ChangeAt Go.RowKit Go.Maps

/-- The block's cells. -/
def bcs (f : Int → Int) (b c : Nat) : List Value := rowc f ++ [.map (some b), .map (some c)]
theorem bcs_f (f : Int → Int) (b c : Nat) {i : Nat} (hi : i < 8) : (bcs f b c)[i]? = some (.int .i64 (f i)) := by
  unfold bcs
  rw [List.getElem?_append_left (by rw [rowc_len]; exact hi), rowc_at _ hi]
theorem bcs_a (f : Int → Int) (b c : Nat) : (bcs f b c)[8]? = some (.map (some b)) := by
  unfold bcs
  rw [List.getElem?_append_right (by rw [rowc_len]; omega), rowc_len]
  rfl
theorem bcs_d (f : Int → Int) (b c : Nat) : (bcs f b c)[9]? = some (.map (some c)) := by
  unfold bcs
  rw [List.getElem?_append_right (by rw [rowc_len]; omega), rowc_len]
  rfl
theorem bcs_set (f : Int → Int) (b c : Nat) {i : Nat} (hi : i < 8) (v : Int) : (bcs f b c).set i (.int .i64 v) = bcs (upd f i v) b c := by
  unfold bcs
  rw [List.set_append_left _ _ (by rw [rowc_len]; exact hi), rowc_put _ hi]

/-- The book at p, its maps at b and c, whatever it keeps to. -/
def Pk0 (B : Nat) (w : World) (p b c : Nat) (s : Qb) (n : Nat) : Prop :=
  w.heap[p]? = some (.cells (bcs s.f b c).toArray 71 (0, 0)) ∧ (B ≤ p ∧ B ≤ b ∧ B ≤ c ∧ b ≠ c) ∧ Mp w b n s.a ∧ Mp w c n s.d
def Pk (B : Nat) (w : World) (p b c : Nat) (s : Qb) (n : Nat) : Prop := Pk0 B w p b c s n ∧ GoodQ s
/-- The blocks that a step on it may turn. -/
def Own2 (b c : Nat) (k : Nat) (_ : Obj) : Prop := k = b ∨ k = c
section
variable {B : Nat} {w w' : World} {p b c : Nat} {s : Qb} {n : Nat}
theorem Pk0.lt (k : Pk0 B w p b c s n) : p < w.heap.size := (Array.getElem?_eq_some_iff.1 k.1).1
theorem Pk0.low (k : Pk0 B w p b c s n) : B ≤ w.heap.size := by have := k.lt; have := k.2.1.1; omega
theorem Pk0.nea (k : Pk0 B w p b c s n) : b ≠ p := k.2.2.1.ne k.1
theorem Pk0.ned (k : Pk0 B w p b c s n) : c ≠ p := k.2.2.2.ne k.1
theorem Pk0.mono {n' : Nat} (k : Pk0 B w p b c s n) (hn : n ≤ n') : Pk0 B w p b c s n' := ⟨k.1, k.2.1, k.2.2.1.mono hn, k.2.2.2.mono hn⟩
theorem Pk0.kept {E : Nat → Obj → Prop} (k : Pk0 B w p b c s n) (hk : Rg.Kept E w w') (hp : ∀ o, ¬ E p o) (hb : ∀ o, ¬ E b o) (hc : ∀ o, ¬ E c o) : Pk0 B w' p b c s n :=
  ⟨hk.block _ _ k.1 (hp _), k.2.1, k.2.2.1.kept hk hb, k.2.2.2.kept hk hc⟩
theorem Pk0.on (k : Pk0 B w p b c s n) (hb : Below w.heap.size w w') : Pk0 B w' p b c s n :=
  k.kept (E := fun _ _ => False) (Rg.Kept.of_below hb) (fun _ h => h) (fun _ h => h) (fun _ h => h)
theorem Pk0.bel (k : Pk0 B w p b c s n) (hk : Rg.Kept (Own2 b c) w w') : Below B w w' :=
  hk.bel k.low (fun i _ e => by have := k.2.1; rcases e with e | e <;> omega)
theorem Pk0.cellF (k : Pk0 B w p b c s n) {i : Nat} (hi : i < 8) : w.cell? ⟨p, i, none⟩ = some (.int .i64 (s.f i)) := by
  rw [cell_of k.1, List.getElem?_toArray]; exact bcs_f _ _ _ hi
theorem Pk0.cellA (k : Pk0 B w p b c s n) : w.cell? ⟨p, 8, none⟩ = some (.map (some b)) := by
  rw [cell_of k.1, List.getElem?_toArray]; exact bcs_a _ _ _
theorem Pk0.cellD (k : Pk0 B w p b c s n) : w.cell? ⟨p, 9, none⟩ = some (.map (some c)) := by
  rw [cell_of k.1, List.getElem?_toArray]; exact bcs_d _ _ _
theorem Pk0.frozen (k : Pk0 B w p b c s n) (i : Nat) : w.frozen? ⟨p, i, none⟩ = false := frozen_of_row _ _ _ _ _ k.1
theorem Pk0.setF (k : Pk0 B w p b c s n) {i : Nat} (hi : i < 8) (v : Int) : Pk0 B (w.setCell ⟨p, i, none⟩ (.int .i64 v)) p b c ⟨upd s.f i v, s.a, s.d⟩ n := by
  have hnea := k.nea
  have hned := k.ned
  obtain ⟨h1, h2, ⟨D, h3, h4⟩, ⟨E, h5, h6⟩⟩ := k
  refine ⟨?_, h2, ⟨D, h3.setCell (a := ⟨p, i, none⟩) hnea _, h4⟩, ⟨E, h5.setCell (a := ⟨p, i, none⟩) hned _, h6⟩⟩
  rw [heap_setCell_same _ _ _ _ _ _ h1, ← bcs_set s.f b c hi v, List.setIfInBounds_toArray]
theorem Pk.good (k : Pk B w p b c s n) : GoodQ s := k.2
theorem Pk.mono {n' : Nat} (k : Pk B w p b c s n) (hn : n ≤ n') : Pk B w p b c s n' := ⟨k.1.mono hn, k.2⟩
theorem Pk.kept {E : Nat → Obj → Prop} (k : Pk B w p b c s n) (hk : Rg.Kept E w w') (hp : ∀ o, ¬ E p o) (hb : ∀ o, ¬ E b o) (hc : ∀ o, ¬ E c o) : Pk B w' p b c s n := ⟨k.1.kept hk hp hb hc, k.2⟩
theorem Pk.on (k : Pk B w p b c s n) (hb : Below w.heap.size w w') : Pk B w' p b c s n := ⟨k.1.on hb, k.2⟩
theorem Pk.bel (k : Pk B w p b c s n) (hk : Rg.Kept (Own2 b c) w w') : Below B w w' := k.1.bel hk
end
/-- A look-up in a map of deals. -/
theorem Mp.look {w : World} {b n : Nat} {r : Int → Option (Int × Int)} (k : Mp w b n r) {id : Int} (hw : (Lit.int .i64 id).wf = true) :
    (Instr.lookup 69 (.map (some b)) (.int .i64 id) true).run Tryz.prog w = .ok (.tuple #[pairV ((r id).getD (0, 0)), .bool (r id).isSome]) w := by
  obtain ⟨D, h5, h6⟩ := k
  exact look_pair_ok h5 Tryz.underlying3 Tryz.underlying69 (zeroD _) h6 hw

set_option maxHeartbeats 400000 in
theorem phas_any {w : World} {b n : Nat} {r : Int → Option (Int × Int)} (k : Mp w b n r) {id : Int} (hw : (Lit.int .i64 id).wf = true) :
    Calls Tryz.prog 131 #[.map (some b), .int .i64 id] w fun e w' => e = .returned (.bool (r id).isSome) ∧ Below w.heap.size w w' := by
  have hl := k.look hw
  obtain ⟨o, ho⟩ : ∃ o, (r id).isSome = o := ⟨_, rfl⟩
  obtain ⟨⟨x, y⟩, hc⟩ : ∃ c, (r id).getD (0, 0) = c := ⟨_, rfl⟩
  rw [ho, hc] at hl
  rw [ho]
  unfold pairV at hl
  clear k hc ho
  dsimp only at hl
  go_enter Tryz.func131, Tryz.ntmps131
  go_wp2
  go_ret
  exact ⟨rfl, by first | exact Below.refl _ _ | exact bel_al (Below.refl _ _) _⟩

set_option maxHeartbeats 400000 in
theorem ptill_any {B : Nat} {w : World} {p b c : Nat} {s : Qb} {n : Nat} (k : Pk B w p b c s n) :
    Calls Tryz.prog 62 #[.pointer (some ⟨p, 0, none⟩)] w fun e w' => e = .returned (.int .i64 (tillQ s)) ∧ Below w.heap.size w w' := by
  have c1 := k.1.cellD
  have S := psum_any k.1.2.2.2 k.2.dd (by have := k.2.sumA; omega)
  unfold tillQ
  obtain ⟨v, hv⟩ : ∃ v, sumTo (alw s.d) 1000 = v := ⟨_, rfl⟩
  rw [hv] at S ⊢
  clear k hv
  go_enter Tryz.func62, Tryz.ntmps62
  go_wp2_with (go_at_call 95; refine S.mono ?_; rintro e w1 ⟨rfl, hb1⟩)
  go_ret
  exact ⟨rfl, hb1⟩
theorem ptillnil_any (w : World) : Calls Tryz.prog 62 #[.pointer none] w fun e w' => e = .returned (.int .i64 0) ∧ w = w' := by
  go_enter Tryz.func62, Tryz.ntmps62
  go_wp2
  go_ret
  exact ⟨rfl, rfl⟩
/-- What is allowed of x. -/
def alwV (s : Qb) (x : Int) : Int := sumTo (resv s.a x) 1000
set_option maxHeartbeats 400000 in
theorem pallowed_any {B : Nat} {w : World} {p b c : Nat} {s : Qb} {n : Nat} (k : Pk B w p b c s n) (x : Int) :
    Calls Tryz.prog 60 #[.pointer (some ⟨p, 0, none⟩), .int .i64 x] w fun e w' => e = .returned (.int .i64 (alwV s x)) ∧ Below w.heap.size w w' := by
  have c1 := k.1.cellA
  have S := psumof_any k.1.2.2.1 k.2.da (by have := k.2.sumA; omega) x
  unfold alwV
  obtain ⟨v, hv⟩ : ∃ v, sumTo (resv s.a x) 1000 = v := ⟨_, rfl⟩
  rw [hv] at S ⊢
  clear k hv
  go_enter Tryz.func60, Tryz.ntmps60
  go_wp2_with (go_at_call 94; refine S.mono ?_; rintro e w1 ⟨rfl, hb1⟩)
  go_ret
  exact ⟨rfl, hb1⟩
theorem pallowednil_any (x : Int) (w : World) : Calls Tryz.prog 60 #[.pointer none, .int .i64 x] w fun e w' => e = .returned (.int .i64 0) ∧ w = w' := by
  go_enter Tryz.func60, Tryz.ntmps60
  go_wp2
  go_ret
  exact ⟨rfl, rfl⟩
/-- What x has. -/
def monV (s : Qb) (x : Int) : Int := if isIt x = true then moneyK s x else 0
set_option maxHeartbeats 1000000 in
theorem pmoney_any {B : Nat} {w : World} {p b c : Nat} {s : Qb} {n : Nat} (k : Pk B w p b c s n) (x : Int) :
    Calls Tryz.prog 59 #[.pointer (some ⟨p, 0, none⟩), .int .i64 x] w fun e w' => e = .returned (.int .i64 (monV s x)) ∧ Below w.heap.size w w' := by
  have hi := piscl_any x w
  by_cases h : isIt x = true
  · have e : monV s x = moneyK s x := if_pos h
    rw [e]
    rw [h] at hi
    obtain ⟨h0, h1⟩ := isIt_iff.1 h
    have bd := k.2.money h0 h1
    obtain ⟨i, rfl⟩ : ∃ i : Nat, x = i := ⟨x.toNat, by omega⟩
    have c0 := k.1.cellF (i := i) (by omega)
    have c1 := k.1.cellD
    have kd := k.on (Below.refl w.heap.size w).drew
    have S := psumof_any kd.1.2.2.2 kd.2.dd (by have := kd.2.sumA; omega) i
    have HL : Hid (∀ u, Below w.drew.heap.size w.drew u → u.cell? ⟨p, i, none⟩ = some (.int .i64 (s.f i)) ∧ u.cell? ⟨p, 9, none⟩ = some (.map (some c))) := fun u hu => ⟨(kd.1.on hu).cellF (by omega), (kd.1.on hu).cellD⟩
    unfold moneyK
    unfold moneyK at bd
    obtain ⟨v, hv⟩ : ∃ v, sumTo (resv s.d i) 1000 = v := ⟨_, rfl⟩
    obtain ⟨f, hf⟩ : ∃ f, s.f i = f := ⟨_, rfl⟩
    rw [hv, hf] at bd
    rw [hv] at S
    rw [hf] at c0 HL
    rw [hv, hf]
    obtain ⟨-, -, ⟨b1, b2⟩, b3⟩ := bd
    clear e h k kd hv hf h0
    go_enter Tryz.func59, Tryz.ntmps59
    go_wp2_with (go_at_call 93; refine hi.mono ?_; rintro e w' ⟨rfl, rfl⟩)
    go_region_held3 (fun w' => w'.cell? ⟨p, i, none⟩ = some (.int .i64 f) ∧ w'.cell? ⟨p, 9, none⟩ = some (.map (some c))) (go_keep) (first
      | (go_at_call 94; refine S.mono ?_; clear S; rintro e w1 ⟨rfl, hb1⟩; clear c0 c1; obtain ⟨c0, c1⟩ := HL.out w1 hb1; have HB1 := hide hb1; clear hb1))
    all_goals go_wp2
    all_goals go_ret
    all_goals exact ⟨ret_int (by rw [IntKind.wrap_i64]; omega), bel_on' (Below.refl _ w).drew HB1.out⟩
  · have e : monV s x = 0 := if_neg h
    rw [e]
    rw [show isIt x = false by simpa using h] at hi
    clear e h k
    go_enter Tryz.func59, Tryz.ntmps59
    go_wp2_with (go_at_call 93; refine hi.mono ?_; rintro e w' ⟨rfl, rfl⟩)
    go_ret
    exact ⟨rfl, Below.refl _ _⟩
theorem pmoneynil_any (x : Int) (w : World) : Calls Tryz.prog 59 #[.pointer none, .int .i64 x] w fun e w' => e = .returned (.int .i64 0) ∧ w = w' := by
  go_enter Tryz.func59, Tryz.ntmps59
  go_wp2
  go_ret
  exact ⟨rfl, rfl⟩
theorem pallownil_any (id x q : Int) (w : World) : Calls Tryz.prog 106 #[.pointer none, .int .i64 id, .int .i64 x, .int .i64 q] w fun e w' => e = .returned (.int .i64 1) ∧ w = w' := by
  go_enter Tryz.func106, Tryz.ntmps106
  go_wp2
  go_ret
  exact ⟨rfl, rfl⟩
theorem pendnil_any (id : Int) (w : World) : Calls Tryz.prog 134 #[.pointer none, .int .i64 id] w fun e w' => e = .returned (.tuple #[.agg #[.int .i64 0, .int .i64 0], .int .i64 1]) ∧ Below w.heap.size w w' := by
  go_enter Tryz.func134, Tryz.ntmps134
  go_wp2
  refine bodyPost_ret (v := .tuple #[.agg #[.int .i64 0, .int .i64 0], .int .i64 1]) ?_ rfl ?_
  · rw [results_cell_tmp Tryz.results134]
    simp [go_sem]
  · exact ⟨rfl, (Below.refl _ _).alloc (Nat.le_refl _) _⟩
theorem pcapnil_any (id : Int) (w : World) : Calls Tryz.prog 108 #[.pointer none, .int .i64 id] w fun e w' => e = .returned (.int .i64 1) ∧ Below w.heap.size w w' := by
  go_enter Tryz.func108, Tryz.ntmps108
  go_wp2_with (go_at_call 134; refine (pendnil_any _ _).mono ?_; rintro e w1 ⟨rfl, hb1⟩)
  go_ret
  exact ⟨rfl, by first | exact hb1 | exact bel_on' hb1 ((Below.refl _ _).alloc (Nat.le_refl _) _)⟩
theorem pvoidnil_any (id : Int) (w : World) : Calls Tryz.prog 110 #[.pointer none, .int .i64 id] w fun e w' => e = .returned (.int .i64 1) ∧ Below w.heap.size w w' := by
  go_enter Tryz.func110, Tryz.ntmps110
  go_wp2_with (go_at_call 134; refine (pendnil_any _ _).mono ?_; rintro e w1 ⟨rfl, hb1⟩)
  go_ret
  exact ⟨rfl, by first | exact hb1 | exact bel_on' hb1 ((Below.refl _ _).alloc (Nat.le_refl _) _)⟩
end Go.Proofs.YtepclljoiccieaaGreatDoor.Gd.Pu
/-
  Contracts of purse's end, Capture, Void.
-/
namespace Go.Proofs.YtepclljoiccieaaGreatDoor.Gd.Pu
open Go.ChangeShapes Go.WideShapes Go.ChangeAt Go.RowKit Go.Maps

set_option maxHeartbeats 1000000 in
theorem end_none {B : Nat} {w : World} {p b c : Nat} {s : Qb} {n : Nat} (k : Pk0 B w p b c s n) {id : Int} (hw : (Lit.int .i64 id).wf = true) (hz : s.a id = none) :
    Calls Tryz.prog 134 #[.pointer (some ⟨p, 0, none⟩), .int .i64 id] w fun e w' => e = .returned (.tuple #[.agg #[.int .i64 0, .int .i64 0], .int .i64 6]) ∧ Below w.heap.size w w' := by
  have k1 : Pk0 B (w.alloc (.cells #[.int .i64 0, .int .i64 0] 145)) p b c s n := k.on (bel_al (Below.refl _ _) _)
  have c1 := k.cellA
  have hl := k1.2.2.1.look hw
  rw [hz] at hl
  unfold pairV at hl
  dsimp only [Option.getD, Option.isSome] at hl
  have hlt := k.lt
  clear k hz k1
  go_enter Tryz.func134, Tryz.ntmps134
  go_wp2
  refine bodyPost_ret (v := .tuple #[.agg #[.int .i64 0, .int .i64 0], .int .i64 6]) ?_ rfl ?_
  · rw [results_cell_tmp Tryz.results134]
    simp [go_sem]
  · exact ⟨rfl, bel_al (bel_al (Below.refl _ _) _) _⟩

set_option maxHeartbeats 1000000 in
theorem end_some {B : Nat} {w : World} {p b c : Nat} {s : Qb} {n : Nat} (k : Pk0 B w p b c s n) {id : Int} (hw : (Lit.int .i64 id).wf = true) {x y : Int} (hz : s.a id = some (x, y)) :
    Calls Tryz.prog 134 #[.pointer (some ⟨p, 0, none⟩), .int .i64 id] w fun e w' => e = .returned (.tuple #[.agg #[.int .i64 x, .int .i64 y], .int .i64 0]) ∧ Pk0 B w' p b c ⟨s.f, updO s.a id none, s.d⟩ n ∧ Rg.Kept (Own2 b c) w w' := by
  have k1 : Pk0 B (w.alloc (.cells #[.int .i64 0, .int .i64 0] 145)) p b c s n := k.on (bel_al (Below.refl _ _) _)
  have k2 : Pk0 B ((w.alloc (.cells #[.int .i64 0, .int .i64 0] 145)).alloc (.cells #[.int .i64 x, .int .i64 y] 145)) p b c s n := k.on (bel_al (bel_al (Below.refl _ _) _) _)
  have c1 := k.cellA
  have hl := k1.2.2.1.look hw
  rw [hz] at hl
  unfold pairV at hl
  dsimp only [Option.getD, Option.isSome] at hl
  have hlt := k.lt
  have hltb := k.2.2.1.lt
  have hltc := k.2.2.2.lt
  have hkey := keyOf_int_mk Tryz.underlying3 hw
  have hne := k.nea
  obtain ⟨h1, h2, ⟨D, hown, h6⟩, h7⟩ := k2
  have FIN : Hid (∀ w1, w1.ownsMap Tryz.prog 3 pairElem b n (D.del (.int .i64 id)) → ((w.alloc (.cells #[.int .i64 0, .int .i64 0] 145)).alloc (.cells #[.int .i64 x, .int .i64 y] 145)).mapTurned w1 b →
      Pk0 B w1 p b c ⟨s.f, updO s.a id none, s.d⟩ n ∧ Rg.Kept (Own2 b c) w w1 ∧ w1.heap[w.heap.size]? = some (.cells #[.int .i64 0, .int .i64 0] 145 (0, 0)) ∧ w1.heap[w.heap.size + 1]? = some (.cells #[.int .i64 x, .int .i64 y] 145 (0, 0))) := fun w1 o1 t1 => by
    have kp : Rg.Kept (fun i _ => i = b) ((w.alloc (.cells #[.int .i64 0, .int .i64 0] 145)).alloc (.cells #[.int .i64 x, .int .i64 y] 145)) w1 := Rg.Kept.grown t1.grown (fun i _ e => (by cases e; rfl))
    refine ⟨⟨kp.block _ _ h1 (fun e => hne e.symm), h2, ⟨_, o1, h6.del id⟩, h7.kept kp (fun _ e => h2.2.2.2 e.symm)⟩, (Rg.Kept.of_below (bel_al (bel_al (Below.refl _ _) _) _)).trans (kp.mono (fun _ _ e => .inl e)), kp.block _ _ ?_ (by omega), kp.block _ _ ?_ (by omega)⟩
    · rw [Below.heap_alloc _ _ _ (by simp)]
      exact World.alloc_heap_new _ _
    · have := World.alloc_heap_new (w.alloc (.cells #[.int .i64 0, .int .i64 0] 145)) (.cells #[.int .i64 x, .int .i64 y] 145)
      rwa [World.size_alloc] at this
  clear h1 h2 h7 h6 k k1 hne hz
  go_enter Tryz.func134, Tryz.ntmps134
  go_wp2_with (at_delete; refine wpList_delete_own _ rfl _ _ 69 3 rfl 145 lawI Tryz.underlying69 _ b n D rfl hown _ _ rfl hkey ?_; intro w1 hown1 hturn1; obtain ⟨s1, s2, s3, s4⟩ := FIN.out w1 hown1 hturn1; have S1 := hide s1; have S2 := hide s2; have hs1 : w1.heap.size > w.heap.size := (Array.getElem?_eq_some_iff.1 s3).1; have S3 := hide s3; have d0 : w1.cell? ⟨w.heap.size, 0, none⟩ = some (.int .i64 0) := (by rw [cell_of s3]; rfl); have d1 : w1.cell? ⟨w.heap.size, 1, none⟩ = some (.int .i64 0) := (by rw [cell_of s3]; rfl); have d2 : w1.cell? ⟨w.heap.size + 1, 0, none⟩ = some (.int .i64 x) := (by rw [cell_of s4]; rfl); have d3 : w1.cell? ⟨w.heap.size + 1, 1, none⟩ = some (.int .i64 y) := (by rw [cell_of s4]; rfl); have f0 : w1.frozen? ⟨w.heap.size, 0, none⟩ = false := frozen_of_row _ _ _ _ _ s3; have f1 : w1.frozen? ⟨w.heap.size, 1, none⟩ = false := frozen_of_row _ _ _ _ _ s3; clear s1 s2 s3 s4 hown hown1 hturn1)
  refine bodyPost_ret (v := .tuple #[.agg #[.int .i64 x, .int .i64 y], .int .i64 0]) ?_ rfl ?_
  · rw [results_cell_tmp Tryz.results134]
    simp [go_sem, d0, d1]
  · have kq : Rg.Kept (fun i _ => i = w.heap.size) w1 ((w1.setCell ⟨w.heap.size, 0, none⟩ (.int .i64 x)).setCell ⟨w.heap.size, 1, none⟩ (.int .i64 y)) := (Rg.Kept.setCell _ (fun _ => rfl)).trans (Rg.Kept.setCell _ (fun _ => rfl))
    refine ⟨rfl, S1.out.kept kq (fun _ e => by omega) (fun _ e => by omega) (fun _ e => by omega), ?_⟩
    exact kept_new S2.out kq

/-- m[id] = deal{x, y} -/
theorem Mp.put {w : World} {b n : Nat} {r : Int → Option (Int × Int)} (k : Mp w b n r) {id : Int} (hw : (Lit.int .i64 id).wf = true) (hn : n < 1000000) (x y : Int) :
    ∃ w1, (Instr.mapUpdate 69 (.map (some b)) (.int .i64 id) (.agg #[.int .i64 x, .int .i64 y])).run Tryz.prog w = .ok () w1 ∧ Mp w1 b (n + 1) (updO r id (some (x, y))) ∧ Rg.Kept (fun i _ => i = b) w w1 := by
  obtain ⟨D, h5, h6⟩ := k
  obtain ⟨w1, hrun, o1, t1⟩ := h5.store lawI Tryz.underlying69 (by unfold maxLen; omega) (keyOf_int_mk Tryz.underlying3 hw) (pairElem_mk (x, y))
  exact ⟨w1, hrun, ⟨_, o1, h6.put id (x, y)⟩, Rg.Kept.grown t1.grown (fun i _ e => (by cases e; rfl))⟩

set_option maxHeartbeats 1000000 in
theorem pvoid_any {B : Nat} {w : World} {p b c : Nat} {s : Qb} {n : Nat} (k : Pk B w p b c s n) {id : Int} (hw : (Lit.int .i64 id).wf = true) :
    Calls Tryz.prog 110 #[.pointer (some ⟨p, 0, none⟩), .int .i64 id] w fun e w' => e = .returned (.int .i64 (capE (toP s) id)) ∧ Pk B w' p b c (voidQ s id) n ∧ Rg.Kept (Own2 b c) w w' := by
  cases hz : s.a id with
  | none =>
    rw [capE_none (s := toP s) hz, voidQ_none hz]
    have U := end_none k.1 hw hz
    have HK := hide k
    clear k hz
    go_enter Tryz.func110, Tryz.ntmps110
    go_wp2_with (go_at_call 134; refine U.mono ?_; rintro e w1 ⟨rfl, hb1⟩)
    go_ret
    exact ⟨rfl, by first | exact HK.out.on hb1 | exact HK.out.on (bel_al hb1 _), by first | exact Rg.Kept.of_below hb1 | exact Rg.Kept.of_below (bel_al hb1 _)⟩
  | some d =>
    obtain ⟨x, y⟩ := d
    rw [capE_some (s := toP s) hz, voidQ_some hz]
    have U := end_some k.1 hw hz
    have HG := hide (k.2.void id)
    rw [voidQ_some hz] at HG
    clear k hz
    go_enter Tryz.func110, Tryz.ntmps110
    go_wp2_with (go_at_call 134; refine U.mono ?_; rintro e w1 ⟨rfl, hk1, ho1⟩; have HK1 := hide hk1; have HO1 := hide ho1; clear hk1 ho1)
    go_ret
    exact ⟨rfl, by first | exact ⟨HK1.out, HG.out⟩ | exact ⟨HK1.out.on (bel_al (Below.refl _ _) _), HG.out⟩, by first | exact HO1.out | exact HO1.out.trans (Rg.Kept.of_below (bel_al (Below.refl _ _) _))⟩

set_option maxHeartbeats 1000000 in
theorem pcap_any {B : Nat} {w : World} {p b c : Nat} {s : Qb} {n : Nat} (k : Pk B w p b c s n) {id : Int} (hw : (Lit.int .i64 id).wf = true) (hn : n < 1000000) :
    Calls Tryz.prog 108 #[.pointer (some ⟨p, 0, none⟩), .int .i64 id] w fun e w' => e = .returned (.int .i64 (capE (toP s) id)) ∧ Pk B w' p b c (capQ s id) (n + 1) ∧ Rg.Kept (Own2 b c) w w' := by
  cases hz : s.a id with
  | none =>
    rw [capE_none (s := toP s) hz, capQ_none hz]
    have U := end_none k.1 hw hz
    have HK := hide (k.mono (Nat.le_succ _))
    clear k hz
    go_enter Tryz.func108, Tryz.ntmps108
    go_wp2_with (go_at_call 134; refine U.mono ?_; rintro e w1 ⟨rfl, hb1⟩)
    go_ret
    exact ⟨rfl, by first | exact HK.out.on hb1 | exact HK.out.on (bel_al hb1 _), by first | exact Rg.Kept.of_below hb1 | exact Rg.Kept.of_below (bel_al hb1 _)⟩
  | some d =>
    obtain ⟨x, y⟩ := d
    rw [capE_some (s := toP s) hz, capQ_some hz]
    have U := end_some k.1 hw hz
    have HG := hide (k.2.cap id)
    rw [capQ_some hz] at HG
    have FIN : Hid (∀ w1, Pk0 B w1 p b c ⟨s.f, updO s.a id none, s.d⟩ n → Rg.Kept (Own2 b c) w w1 → p < w1.heap.size ∧ w1.cell? ⟨p, 9, none⟩ = some (.map (some c)) ∧ ∃ w2, (Instr.mapUpdate 69 (.map (some c)) (.int .i64 id) (.agg #[.int .i64 x, .int .i64 y])).run Tryz.prog ((w1.alloc (.cells #[.int .i64 x, .int .i64 y] 145)).drew) = .ok () w2 ∧ Pk0 B w2 p b c ⟨s.f, updO s.a id none, updO s.d id (some (x, y))⟩ (n + 1) ∧ Rg.Kept (Own2 b c) w w2) := fun w1 k1 kk => by
      have hb : Below w1.heap.size w1 ((w1.alloc (.cells #[.int .i64 x, .int .i64 y] 145)).drew) := (bel_al (Below.refl _ _) _).drew
      have k2 := k1.on hb
      have hned := k2.ned
      obtain ⟨w2, hr, m2, kp⟩ := k2.2.2.2.put hw hn x y
      refine ⟨k1.lt, k1.cellD, w2, hr, ⟨kp.block _ _ k2.1 (fun e => hned e.symm), k2.2.1, (k2.2.2.1.mono (Nat.le_succ _)).kept kp (fun _ e => k2.2.1.2.2.2 e), m2⟩, (kk.trans (Rg.Kept.of_below hb)).trans (kp.mono (fun _ _ e => .inr e))⟩
    clear k hz
    go_enter Tryz.func108, Tryz.ntmps108
    go_wp2_with (go_at_call 134; refine U.mono ?_; rintro e w1 ⟨rfl, hk1, ho1⟩; obtain ⟨hlt1, c9, w2, hr2, hk2, ho2⟩ := FIN.out w1 hk1 ho1; have HK2 := hide hk2; have HO2 := hide ho2; clear hk1 ho1 hk2 ho2 U)
    go_region
    go_wp2
    go_ret
    exact ⟨rfl, ⟨HK2.out, HG.out⟩, HO2.out⟩
end Go.Proofs.YtepclljoiccieaaGreatDoor.Gd.Pu
/-
  Contract of purse's Allow.
-/
namespace Go.Proofs.YtepclljoiccieaaGreatDoor.Gd.Pu
open Go.ChangeShapes Go.WideShapes Go.ChangeAt Go.RowKit Go.Maps

theorem alwE_arg {s : Pb} {id k q : Int} (h : ¬ (isI id = true ∧ isIt k = true ∧ 1 ≤ q ∧ q ≤ 1000000000)) : alwE s id k q = 1 := if_neg h
theorem alwE_two {s : Pb} {id k q : Int} (h : isI id = true ∧ isIt k = true ∧ 1 ≤ q ∧ q ≤ 1000000000) (h2 : (s.a id).isSome = true ∨ s.p id ≠ 0) : alwE s id k q = 8 := by unfold alwE; rw [if_pos h, if_pos h2]
theorem alwE_less {s : Pb} {id k q : Int} (h : isI id = true ∧ isIt k = true ∧ 1 ≤ q ∧ q ≤ 1000000000) (h1 : s.a id = none) (h2 : s.p id = 0) (h3 : ¬ q ≤ s.m k - alwK s k) : alwE s id k q = 9 := by unfold alwE; rw [if_pos h, if_neg (by simp [h1, h2]), if_neg h3]
theorem alwE_over {s : Pb} {id k q : Int} (h : isI id = true ∧ isIt k = true ∧ 1 ≤ q ∧ q ≤ 1000000000) (h1 : s.a id = none) (h2 : s.p id = 0) (h3 : q ≤ s.m k - alwK s k) (h4 : ¬ s.till + allA s + q ≤ 1000000000) : alwE s id k q = 4 := by unfold alwE; rw [if_pos h, if_neg (by simp [h1, h2]), if_pos h3, if_neg h4]
theorem alwE_well {s : Pb} {id k q : Int} (h : isI id = true ∧ isIt k = true ∧ 1 ≤ q ∧ q ≤ 1000000000) (h1 : s.a id = none) (h2 : s.p id = 0) (h3 : q ≤ s.m k - alwK s k) (h4 : s.till + allA s + q ≤ 1000000000) : alwE s id k q = 0 := by unfold alwE; rw [if_pos h, if_neg (by simp [h1, h2]), if_pos h3, if_pos h4]
/-- What each call on it may count on, while memory is only added. -/
theorem allow_lay {B : Nat} {w : World} {p b c : Nat} {s : Qb} {n : Nat} (k : Pk B w p b c s n) {id x : Int} (hw : (Lit.int .i64 id).wf = true) (hx : isIt x = true) :
    ∀ u, Below w.heap.size w u → u.cell? ⟨p, 8, none⟩ = some (.map (some b)) ∧ u.cell? ⟨p, 9, none⟩ = some (.map (some c)) ∧
      (Calls Tryz.prog 131 #[.map (some b), .int .i64 id] u fun e w' => e = .returned (.bool (s.a id).isSome) ∧ Below w.heap.size w w') ∧
      (Calls Tryz.prog 131 #[.map (some c), .int .i64 id] u fun e w' => e = .returned (.bool (s.d id).isSome) ∧ Below w.heap.size w w') ∧
      (Calls Tryz.prog 59 #[.pointer (some ⟨p, 0, none⟩), .int .i64 x] u fun e w' => e = .returned (.int .i64 (moneyK s x)) ∧ Below w.heap.size w w') ∧
      (Calls Tryz.prog 60 #[.pointer (some ⟨p, 0, none⟩), .int .i64 x] u fun e w' => e = .returned (.int .i64 (alwV s x)) ∧ Below w.heap.size w w') ∧
      (Calls Tryz.prog 62 #[.pointer (some ⟨p, 0, none⟩)] u fun e w' => e = .returned (.int .i64 (tillQ s)) ∧ Below w.heap.size w w') ∧
      (Calls Tryz.prog 95 #[.map (some b)] u fun e w' => e = .returned (.int .i64 (sumTo (alw s.a) 1000)) ∧ Below w.heap.size w w') := fun u hu => by
  have k1 := k.on hu
  have M := pmoney_any k1 x
  rw [show monV s x = moneyK s x from if_pos hx] at M
  refine ⟨k1.1.cellA, k1.1.cellD, (phas_any k1.1.2.2.1 hw).mono ?_, (phas_any k1.1.2.2.2 hw).mono ?_, M.mono ?_, (pallowed_any k1 x).mono ?_, (ptill_any k1).mono ?_, (psum_any k1.1.2.2.1 k1.2.da (by have := k1.2.sumA; omega)).mono ?_⟩
  all_goals exact fun e w' h => ⟨h.1, bel_on' hu h.2⟩

set_option maxRecDepth 100000 in
set_option maxHeartbeats 2000000 in
theorem pallow_any {B : Nat} {w : World} {p b c : Nat} {s : Qb} {n : Nat} (k : Pk B w p b c s n) {id : Int} (hw : (Lit.int .i64 id).wf = true) (x q : Int) (hn : n < 1000000) :
    Calls Tryz.prog 106 #[.pointer (some ⟨p, 0, none⟩), .int .i64 id, .int .i64 x, .int .i64 q] w fun e w' => e = .returned (.int .i64 (alwE (toP s) id x q)) ∧ Pk B w' p b c (alwQ s id x q) (n + 1) ∧ Rg.Kept (Own2 b c) w w' := by
  have no : ∀ c', alwE (toP s) id x q = c' → c' ≠ 0 → ∀ w', Below w.heap.size w w' → Pk B w' p b c (alwQ s id x q) (n + 1) := fun c' e hc w' hb => by
    rw [alwQ_no (by omega)]
    exact (k.on hb).mono (by omega)
  by_cases hi : isI id = true
  · by_cases hx : isIt x = true
    · by_cases hq : 1 ≤ q ∧ q ≤ 1000000000
      · have hm : may q = true := may_iff.2 (by omega)
        have hq0 : (q == 0) = false := by simp; omega
        have hall : isI id = true ∧ isIt x = true ∧ 1 ≤ q ∧ q ≤ 1000000000 := ⟨hi, hx, hq⟩
        have LAY := hide (allow_lay k hw hx)
        obtain ⟨c8, c9, A1, -⟩ := LAY.out w (Below.refl _ _)
        obtain ⟨gx0, gx1⟩ := isIt_iff.1 hx
        obtain ⟨⟨m1, m2⟩, m3, -, -⟩ := k.2.money gx0 gx1
        obtain ⟨t1, t2, t3⟩ := k.2.sumA
        cases hz : s.a id with
        | some c1 =>
          have e0 : alwE (toP s) id x q = 8 := alwE_two hall (.inl (by show (s.a id).isSome = true; rw [hz]; rfl))
          rw [hz] at A1
          dsimp only [Option.isSome] at A1
          have NO := hide (no 8 e0 (by omega))
          rw [e0]
          clear no e0 k hz hall
          go_enter Tryz.func106, Tryz.ntmps106
          go_wp2_with (first
        | (go_at_call 130; refine (pisid_any _ _).mono ?_; rintro e w' ⟨rfl, rfl⟩)
        | (go_at_call 93; refine (piscl_any _ _).mono ?_; rintro e w' ⟨rfl, rfl⟩)
        | (go_at_call 128; refine (may_any _ _).mono ?_; rintro e w' ⟨rfl, rfl⟩)
        | (go_at_call 131; refine A1.mono ?_; clear A1; rintro e u1 ⟨rfl, b1⟩; clear c8 c9; obtain ⟨c8, c9, -⟩ := LAY.out u1 b1; have Hb1 := hide b1; clear b1))
          go_ret
          exact ⟨rfl, NO.out _ Hb1.out, Rg.Kept.of_below Hb1.out⟩
        | none =>
          rw [hz] at A1
          dsimp only [Option.isSome] at A1
          cases hy : s.d id with
          | some c1 =>
            have e0 : alwE (toP s) id x q = 8 := alwE_two hall (.inr (fun e => by have := k.2.dd.nope e; rw [hy] at this; cases this))
            rw [hy] at LAY
            dsimp only [Option.isSome] at LAY
            have NO := hide (no 8 e0 (by omega))
            rw [e0]
            clear no e0 k hz hall hy
            go_enter Tryz.func106, Tryz.ntmps106
            go_wp2_with (first
        | (go_at_call 130; refine (pisid_any _ _).mono ?_; rintro e w' ⟨rfl, rfl⟩)
        | (go_at_call 93; refine (piscl_any _ _).mono ?_; rintro e w' ⟨rfl, rfl⟩)
        | (go_at_call 128; refine (may_any _ _).mono ?_; rintro e w' ⟨rfl, rfl⟩)
        | (go_at_call 131; refine A1.mono ?_; clear A1; rintro e u1 ⟨rfl, b1⟩; clear c8 c9; obtain ⟨c8, c9, -, A2, -⟩ := LAY.out u1 b1; have Hb1 := hide b1; clear b1)
        | (go_at_call 131; refine A2.mono ?_; clear A2; rintro e u2 ⟨rfl, b2⟩; clear c8 c9; obtain ⟨c8, c9, -⟩ := LAY.out u2 b2; have Hb2 := hide b2; clear b2))
            go_ret
            exact ⟨rfl, NO.out _ Hb2.out, Rg.Kept.of_below Hb2.out⟩
          | none =>
            have hp0 : (toP s).p id = 0 := by show alw s.d id = 0; unfold alw; rw [hy]; rfl
            rw [hy] at LAY
            dsimp only [Option.isSome] at LAY
            have eK : alwK (toP s) x = alwV s x := rfl
            have eM : (toP s).m x = moneyK s x := rfl
            have eT : (toP s).till = tillQ s := rfl
            have eA : allA (toP s) = sumTo (alw s.a) 1000 := rfl
            have t2' : 0 ≤ tillQ s := t2
            have t3' : tillQ s + sumTo (alw s.a) 1000 ≤ 1000000000 := t3
            have m1' : 0 ≤ alwV s x := m1
            have m2' : alwV s x ≤ moneyK s x := m2
            clear t2 t3 m1 m2
            by_cases hle : q ≤ moneyK s x - alwV s x
            · by_cases hov : tillQ s + sumTo (alw s.a) 1000 + q ≤ 1000000000
              · have e0 : alwE (toP s) id x q = 0 := alwE_well hall hz hp0 (by rw [eM, eK]; exact hle) (by rw [eT, eA]; exact hov)
                have HG := hide (k.2.allow id x q)
                rw [alwQ_ok e0] at HG
                rw [e0, alwQ_ok e0]
                have PUT : Hid (∀ u, Below w.heap.size w u → ∃ w2, (Instr.mapUpdate 69 (.map (some b)) (.int .i64 id) (.agg #[.int .i64 x, .int .i64 q])).run Tryz.prog u = .ok () w2 ∧ Pk0 B w2 p b c ⟨s.f, updO s.a id (some (x, q)), s.d⟩ (n + 1) ∧ Rg.Kept (Own2 b c) w w2) := fun u hu => by
                  have k2 := k.1.on hu
                  have hnea := k2.nea
                  obtain ⟨w2, hr, m2, kp⟩ := k2.2.2.1.put hw hn x q
                  exact ⟨w2, hr, ⟨kp.block _ _ k2.1 (fun e => hnea e.symm), k2.2.1, m2, (k2.2.2.2.mono (Nat.le_succ _)).kept kp (fun _ e => k2.2.1.2.2.2 e.symm)⟩, (Rg.Kept.of_below hu).trans (kp.mono (fun _ _ e => .inl e))⟩
                have hml : may (moneyK s x - alwV s x) = true := may_iff.2 (by omega)
                have hmt : may (tillQ s + sumTo (alw s.a) 1000) = true := may_iff.2 (by omega)
                have hse : subE (moneyK s x - alwV s x) q = 0 := by simp [subE, hml, hm, hle]
                have hae : addE (tillQ s + sumTo (alw s.a) 1000) q = 0 := by simp [addE, hmt, hm, hov]
                obtain ⟨M, hM⟩ : ∃ M, moneyK s x = M := ⟨_, rfl⟩
                obtain ⟨V, hV⟩ : ∃ V, alwV s x = V := ⟨_, rfl⟩
                obtain ⟨Tl, hT⟩ : ∃ Tl, tillQ s = Tl := ⟨_, rfl⟩
                obtain ⟨Al, hA⟩ : ∃ Al, sumTo (alw s.a) 1000 = Al := ⟨_, rfl⟩
                rw [hM, hV, hT, hA] at LAY
                rw [hM, hV] at hse m2'
                rw [hV] at m1'
                rw [hM] at m3
                rw [hT, hA] at hae t3'
                rw [hT] at t2'
                rw [hA] at t1
                clear no e0 k hz hall hy hp0 eK eM eT eA hle hov hml hmt hM hV hT hA
                go_enter Tryz.func106, Tryz.ntmps106
                go_wp2_with (first
        | (go_at_call 130; refine (pisid_any _ _).mono ?_; rintro e w' ⟨rfl, rfl⟩)
        | (go_at_call 93; refine (piscl_any _ _).mono ?_; rintro e w' ⟨rfl, rfl⟩)
        | (go_at_call 128; refine (may_any _ _).mono ?_; rintro e w' ⟨rfl, rfl⟩)
        | (go_at_call 131; refine A1.mono ?_; clear A1; rintro e u1 ⟨rfl, b1⟩; clear c8 c9; obtain ⟨c8, c9, -, A2, -⟩ := LAY.out u1 b1; have Hb1 := hide b1; clear b1)
        | (go_at_call 131; refine A2.mono ?_; clear A2; rintro e u2 ⟨rfl, b2⟩; clear c8 c9; obtain ⟨c8, c9, -, -, A3, -⟩ := LAY.out u2 b2; have Hb2 := hide b2; clear b2)
        | (go_at_call 59; refine A3.mono ?_; clear A3; rintro e u3 ⟨rfl, b3⟩; clear c8 c9; obtain ⟨c8, c9, -, -, -, A4, -⟩ := LAY.out u3 b3; have Hb3 := hide b3; clear b3)
        | (go_at_call 60; refine A4.mono ?_; clear A4; rintro e u4 ⟨rfl, b4⟩; clear c8 c9; obtain ⟨c8, c9, -, -, -, -, A5, -⟩ := LAY.out u4 b4; have Hb4 := hide b4; clear b4)
        | (go_at_call 129; refine (sub_any _ _ _).mono ?_; rintro e w' ⟨rfl, rfl⟩))
                clear A5
                obtain ⟨-, -, -, -, -, -, A5, -⟩ := LAY.out u4.drew Hb4.out.drew
                have qw : IntKind.i64.wrap (Tl + Al) = Tl + Al := by rw [IntKind.wrap_i64]; omega
                clear c9
                go_region_held3 (fun w' => w'.cell? ⟨p, 8, none⟩ = some (.map (some b))) (go_keep) (first
        | (go_at_call 62; refine A5.mono ?_; clear A5; rintro e u5 ⟨rfl, b5⟩; clear c8; obtain ⟨c8, c9, -, -, -, -, -, A6⟩ := LAY.out u5 b5; have Hb5 := hide b5; clear b5)
        | (go_at_call 95; refine A6.mono ?_; clear A6; rintro e u6 ⟨rfl, b6⟩; clear c8 c9; obtain ⟨c8, c9, -⟩ := LAY.out u6 b6; have Hb6 := hide b6; clear b6; obtain ⟨w2, hr2, hp2⟩ := PUT.out u6 Hb6.out; have HP2 := hide hp2; clear hp2)
        | (go_at_call 132; refine (add_any _ _ _).mono ?_; rintro e w' ⟨rfl, rfl⟩))
                all_goals go_wp2
                all_goals go_ret
                all_goals exact ⟨rfl, ⟨HP2.out.1, HG.out⟩, HP2.out.2⟩
              · have e0 : alwE (toP s) id x q = 4 := alwE_over hall hz hp0 (by rw [eM, eK]; exact hle) (by rw [eT, eA]; exact hov)
                have NO := hide (no 4 e0 (by omega))
                rw [e0]
                have hml : may (moneyK s x - alwV s x) = true := may_iff.2 (by omega)
                have hmt : may (tillQ s + sumTo (alw s.a) 1000) = true := may_iff.2 (by omega)
                have hse : subE (moneyK s x - alwV s x) q = 0 := by simp [subE, hml, hm, hle]
                have hae : addE (tillQ s + sumTo (alw s.a) 1000) q = 4 := by simp [addE, hmt, hm, hov]
                obtain ⟨M, hM⟩ : ∃ M, moneyK s x = M := ⟨_, rfl⟩
                obtain ⟨V, hV⟩ : ∃ V, alwV s x = V := ⟨_, rfl⟩
                obtain ⟨Tl, hT⟩ : ∃ Tl, tillQ s = Tl := ⟨_, rfl⟩
                obtain ⟨Al, hA⟩ : ∃ Al, sumTo (alw s.a) 1000 = Al := ⟨_, rfl⟩
                rw [hM, hV, hT, hA] at LAY
                rw [hM, hV] at hse m2'
                rw [hV] at m1'
                rw [hM] at m3
                rw [hT, hA] at hae t3'
                rw [hT] at t2'
                rw [hA] at t1
                clear no e0 k hz hall hy hp0 eK eM eT eA hle hov hml hmt hM hV hT hA
                go_enter Tryz.func106, Tryz.ntmps106
                go_wp2_with (first
        | (go_at_call 130; refine (pisid_any _ _).mono ?_; rintro e w' ⟨rfl, rfl⟩)
        | (go_at_call 93; refine (piscl_any _ _).mono ?_; rintro e w' ⟨rfl, rfl⟩)
        | (go_at_call 128; refine (may_any _ _).mono ?_; rintro e w' ⟨rfl, rfl⟩)
        | (go_at_call 131; refine A1.mono ?_; clear A1; rintro e u1 ⟨rfl, b1⟩; clear c8 c9; obtain ⟨c8, c9, -, A2, -⟩ := LAY.out u1 b1; have Hb1 := hide b1; clear b1)
        | (go_at_call 131; refine A2.mono ?_; clear A2; rintro e u2 ⟨rfl, b2⟩; clear c8 c9; obtain ⟨c8, c9, -, -, A3, -⟩ := LAY.out u2 b2; have Hb2 := hide b2; clear b2)
        | (go_at_call 59; refine A3.mono ?_; clear A3; rintro e u3 ⟨rfl, b3⟩; clear c8 c9; obtain ⟨c8, c9, -, -, -, A4, -⟩ := LAY.out u3 b3; have Hb3 := hide b3; clear b3)
        | (go_at_call 60; refine A4.mono ?_; clear A4; rintro e u4 ⟨rfl, b4⟩; clear c8 c9; obtain ⟨c8, c9, -, -, -, -, A5, -⟩ := LAY.out u4 b4; have Hb4 := hide b4; clear b4)
        | (go_at_call 129; refine (sub_any _ _ _).mono ?_; rintro e w' ⟨rfl, rfl⟩))
                clear A5
                obtain ⟨-, -, -, -, -, -, A5, -⟩ := LAY.out u4.drew Hb4.out.drew
                have qw : IntKind.i64.wrap (Tl + Al) = Tl + Al := by rw [IntKind.wrap_i64]; omega
                clear c9
                go_region_held3 (fun w' => w'.cell? ⟨p, 8, none⟩ = some (.map (some b))) (go_keep) (first
        | (go_at_call 62; refine A5.mono ?_; clear A5; rintro e u5 ⟨rfl, b5⟩; clear c8; obtain ⟨c8, c9, -, -, -, -, -, A6⟩ := LAY.out u5 b5; have Hb5 := hide b5; clear b5)
        | (go_at_call 95; refine A6.mono ?_; clear A6; rintro e u6 ⟨rfl, b6⟩; clear c8 c9; obtain ⟨c8, c9, -⟩ := LAY.out u6 b6; have Hb6 := hide b6; clear b6)
        | (go_at_call 132; refine (add_any _ _ _).mono ?_; rintro e w' ⟨rfl, rfl⟩))
                all_goals go_wp2
                all_goals go_ret
                all_goals exact ⟨rfl, NO.out _ Hb6.out, Rg.Kept.of_below Hb6.out⟩
            · have e0 : alwE (toP s) id x q = 9 := alwE_less hall hz hp0 (by rw [eM, eK]; exact hle)
              have NO := hide (no 9 e0 (by omega))
              rw [e0]
              have hml : may (moneyK s x - alwV s x) = true := may_iff.2 (by omega)
              have hse : subE (moneyK s x - alwV s x) q = 9 := by simp [subE, hml, hm, hle]
              obtain ⟨M, hM⟩ : ∃ M, moneyK s x = M := ⟨_, rfl⟩
              obtain ⟨V, hV⟩ : ∃ V, alwV s x = V := ⟨_, rfl⟩
              rw [hM, hV] at LAY
              rw [hM, hV] at hse m2'
              rw [hV] at m1'
              rw [hM] at m3
              clear no e0 k hz hall hy hp0 eK eM eT eA hle hml hM hV t1 t2' t3'
              go_enter Tryz.func106, Tryz.ntmps106
              go_wp2_with (first
        | (go_at_call 130; refine (pisid_any _ _).mono ?_; rintro e w' ⟨rfl, rfl⟩)
        | (go_at_call 93; refine (piscl_any _ _).mono ?_; rintro e w' ⟨rfl, rfl⟩)
        | (go_at_call 128; refine (may_any _ _).mono ?_; rintro e w' ⟨rfl, rfl⟩)
        | (go_at_call 131; refine A1.mono ?_; clear A1; rintro e u1 ⟨rfl, b1⟩; clear c8 c9; obtain ⟨c8, c9, -, A2, -⟩ := LAY.out u1 b1; have Hb1 := hide b1; clear b1)
        | (go_at_call 131; refine A2.mono ?_; clear A2; rintro e u2 ⟨rfl, b2⟩; clear c8 c9; obtain ⟨c8, c9, -, -, A3, -⟩ := LAY.out u2 b2; have Hb2 := hide b2; clear b2)
        | (go_at_call 59; refine A3.mono ?_; clear A3; rintro e u3 ⟨rfl, b3⟩; clear c8 c9; obtain ⟨c8, c9, -, -, -, A4, -⟩ := LAY.out u3 b3; have Hb3 := hide b3; clear b3)
        | (go_at_call 60; refine A4.mono ?_; clear A4; rintro e u4 ⟨rfl, b4⟩; clear c8 c9; obtain ⟨c8, c9, -, -, -, -, A5, -⟩ := LAY.out u4 b4; have Hb4 := hide b4; clear b4)
        | (go_at_call 129; refine (sub_any _ _ _).mono ?_; rintro e w' ⟨rfl, rfl⟩))
              go_ret
              exact ⟨rfl, NO.out _ Hb4.out, Rg.Kept.of_below Hb4.out⟩
      · have e0 : alwE (toP s) id x q = 1 := alwE_arg (fun h => hq h.2.2)
        have hi0 : isI id = true := hi
        by_cases hm : may q = true
        · have hq0 : q = 0 := by have := may_iff.1 hm; omega
          subst hq0
          have NO := hide (no 1 e0 (by omega))
          rw [e0]
          clear no e0 k
          go_enter Tryz.func106, Tryz.ntmps106
          go_wp2_with (first
        | (go_at_call 130; refine (pisid_any _ _).mono ?_; rintro e w' ⟨rfl, rfl⟩)
        | (go_at_call 93; refine (piscl_any _ _).mono ?_; rintro e w' ⟨rfl, rfl⟩)
        | (go_at_call 128; refine (may_any _ _).mono ?_; rintro e w' ⟨rfl, rfl⟩))
          go_ret
          exact ⟨rfl, NO.out _ (Below.refl _ _), Rg.Kept.refl _ _⟩
        · have hm0 : may q = false := by simpa using hm
          have NO := hide (no 1 e0 (by omega))
          rw [e0]
          clear no e0 k
          go_enter Tryz.func106, Tryz.ntmps106
          go_wp2_with (first
        | (go_at_call 130; refine (pisid_any _ _).mono ?_; rintro e w' ⟨rfl, rfl⟩)
        | (go_at_call 93; refine (piscl_any _ _).mono ?_; rintro e w' ⟨rfl, rfl⟩)
        | (go_at_call 128; refine (may_any _ _).mono ?_; rintro e w' ⟨rfl, rfl⟩))
          go_ret
          exact ⟨rfl, NO.out _ (Below.refl _ _), Rg.Kept.refl _ _⟩
    · have hx0 : isIt x = false := by simpa using hx
      have e0 : alwE (toP s) id x q = 1 := alwE_arg (fun h => hx h.2.1)
      have NO := hide (no 1 e0 (by omega))
      rw [e0]
      clear no e0 k
      go_enter Tryz.func106, Tryz.ntmps106
      go_wp2_with (first
        | (go_at_call 130; refine (pisid_any _ _).mono ?_; rintro e w' ⟨rfl, rfl⟩)
        | (go_at_call 93; refine (piscl_any _ _).mono ?_; rintro e w' ⟨rfl, rfl⟩)
        | (go_at_call 128; refine (may_any _ _).mono ?_; rintro e w' ⟨rfl, rfl⟩))
      go_ret
      exact ⟨rfl, NO.out _ (Below.refl _ _), Rg.Kept.refl _ _⟩
  · have hi0 : isI id = false := by simpa using hi
    have e0 : alwE (toP s) id x q = 1 := alwE_arg (fun h => hi h.1)
    have NO := hide (no 1 e0 (by omega))
    rw [e0]
    clear no e0 k
    go_enter Tryz.func106, Tryz.ntmps106
    go_wp2_with (first
        | (go_at_call 130; refine (pisid_any _ _).mono ?_; rintro e w' ⟨rfl, rfl⟩)
        | (go_at_call 93; refine (piscl_any _ _).mono ?_; rintro e w' ⟨rfl, rfl⟩)
        | (go_at_call 128; refine (may_any _ _).mono ?_; rintro e w' ⟨rfl, rfl⟩))
    go_ret
    exact ⟨rfl, NO.out _ (Below.refl _ _), Rg.Kept.refl _ _⟩
end Go.Proofs.YtepclljoiccieaaGreatDoor.Gd.Pu
/-
  Contract of purse's New.
-/
namespace Go.Proofs.YtepclljoiccieaaGreatDoor.Gd.Pu
open Go.ChangeShapes Go.WideShapes Go.ChangeAt Go.RowKit Go.Maps

theorem Pk0.congr {B : Nat} {w : World} {p b c : Nat} {s s' : Qb} {n : Nat} (k : Pk0 B w p b c s n) (h1 : ∀ k : Nat, k < 8 → s.f k = s'.f k) (h2 : s.a = s'.a) (h3 : s.d = s'.d) : Pk0 B w p b c s' n := by
  unfold Pk0 bcs at *
  rw [← rowc_congr h1, ← h2, ← h3]
  exact k
theorem pk_start (w : World) (l : List Int) : Pk0 w.heap.size (((w.alloc (.map #[] 0)).alloc (.map #[] 0)).alloc (.cells #[.int .i64 0, .int .i64 0, .int .i64 0, .int .i64 0, .int .i64 0, .int .i64 0, .int .i64 0, .int .i64 0, .map (some w.heap.size), .map (some (w.heap.size + 1))] 71)) (w.heap.size + 2) w.heap.size (w.heap.size + 1) ⟨onJ l 0, fun _ => none, fun _ => none⟩ 0 := by
  have h2 := World.alloc_heap_new ((w.alloc (.map #[] 0)).alloc (.map #[] 0)) (.cells #[.int .i64 0, .int .i64 0, .int .i64 0, .int .i64 0, .int .i64 0, .int .i64 0, .int .i64 0, .int .i64 0, .map (some w.heap.size), .map (some (w.heap.size + 1))] 71)
  rw [World.size_alloc, World.size_alloc] at h2
  have m1 : Mp (((w.alloc (.map #[] 0)).alloc (.map #[] 0)).alloc (.cells #[.int .i64 0, .int .i64 0, .int .i64 0, .int .i64 0, .int .i64 0, .int .i64 0, .int .i64 0, .int .i64 0, .map (some w.heap.size), .map (some (w.heap.size + 1))] 71)) w.heap.size 0 (fun _ => none) := ⟨.map [], ((World.ownsMap_made _ _ _ _).alloc _).alloc _, FitsG.new _⟩
  have m2 : Mp (((w.alloc (.map #[] 0)).alloc (.map #[] 0)).alloc (.cells #[.int .i64 0, .int .i64 0, .int .i64 0, .int .i64 0, .int .i64 0, .int .i64 0, .int .i64 0, .int .i64 0, .map (some w.heap.size), .map (some (w.heap.size + 1))] 71)) (w.heap.size + 1) 0 (fun _ => none) := ⟨.map [], by
    have := (World.ownsMap_made (w.alloc (.map #[] 0)) Tryz.prog 3 pairElem).alloc (.cells #[.int .i64 0, .int .i64 0, .int .i64 0, .int .i64 0, .int .i64 0, .int .i64 0, .int .i64 0, .int .i64 0, .map (some w.heap.size), .map (some (w.heap.size + 1))] 71)
    rw [World.size_alloc] at this
    exact this, FitsG.new _⟩
  refine Pk0.congr (s := ⟨fun _ => 0, fun _ => none, fun _ => none⟩) ⟨h2, ⟨by omega, by omega, by omega, by omega⟩, m1, m2⟩ (fun k _ => ?_) rfl rfl
  show 0 = onJ l 0 k
  unfold onJ
  rw [if_neg (by omega)]
def NRel (w : World) (l : List Int) (m : Nat) (i : Value) (wr : World) : Prop :=
  ∃ j : Nat, i = .int .i64 j ∧ j ≤ m ∧ Hid (Pk0 w.heap.size wr (w.heap.size + 2) w.heap.size (w.heap.size + 1) ⟨onJ l j, fun _ => none, fun _ => none⟩ 0) ∧ Hid (Below w.heap.size w wr)
theorem onJ_endP {l : List Int} {m : Nat} (hm : m = min l.length 8) {k : Nat} (hk : k < 8) : onJ l m k = (newQ l).f k := by
  show onJ l m k = clampA (l.getD (k : Int).toNat 0)
  unfold onJ
  by_cases h : k < m
  · rw [if_pos (by omega)]
  · rw [if_neg (by omega)]
    have : l.length ≤ k := by omega
    rw [List.getD_eq_getElem?_getD, show ((k : Int).toNat) = k by simp, List.getElem?_eq_none this]
    rfl

set_option maxRecDepth 100000 in
set_option maxHeartbeats 2000000 in
theorem pnew_any (a : Option Addr) (l : List Int) (cap : Nat) (w : World) (ha : Ints w a l) (hcap : l.length ≤ cap) (hl : l.length ≤ 9223372036854775807) (hnil : a = none → cap = 0) :
    Calls Tryz.prog 66 #[.slice a l.length cap] w fun e w' => ∃ p b c, e = .returned (.pointer (some ⟨p, 0, none⟩)) ∧ Pk w.heap.size w' p b c (newQ l) 0 ∧ Below w.heap.size w w' := by
  have hmm := @run_makeMap Tryz.prog
  have HS := hide (pk_start w l)
  have HA := hide ha
  clear ha
  by_cases h8 : ¬ (8 : Int) < (l.length : Int)
  · skip
    go_enter Tryz.func66, Tryz.ntmps66
    go_wp2
    go_loopw [16] (fun i wr => NRel w l l.length i wr) (fun i _ => l.length - (Go.RowKit.intOf i).toNat)
    case atStart => exact ⟨0, rfl, Nat.zero_le _, HS, bel_al (bel_al (bel_al (Below.refl _ _) _) _) _⟩
    case round =>
      obtain ⟨j, rfl, hj, HK, HB⟩ := hrel
      clear HS
      by_cases hlt : j < l.length
      · have q1 : (j : Int) < ((l.length : Nat) : Int) := by omega
        have hjl : j < l.length := by omega
        have hj8 : (j : Int) < 8 := by omega
        rcases HA.out.below HB.out with h0 | ⟨ab, off, rfl, hca⟩
        · rw [h0] at hjl; simp at hjl
        have c0 := hca j hjl
        obtain ⟨x, hx⟩ : ∃ x, l.getD j 0 = x := ⟨_, rfl⟩
        rw [hx] at c0
        have c1 := HK.out.cellF (i := j) (by omega)
        have f1 := HK.out.frozen j
        have KEY : Hid (∀ v, v = clampA x → Pk0 w.heap.size (wr.setCell ⟨w.heap.size + 2, j, none⟩ (.int .i64 v)) (w.heap.size + 2) w.heap.size (w.heap.size + 1) ⟨onJ l (j + 1), fun _ => none, fun _ => none⟩ 0 ∧ Below w.heap.size w (wr.setCell ⟨w.heap.size + 2, j, none⟩ (.int .i64 v))) := fun v hv => by
          have := HK.out.setF (i := j) (by omega) v
          rw [hv, ← hx, onJ_step] at this
          rw [hv, ← hx]
          exact ⟨this, HB.out.setCell (p := ⟨w.heap.size + 2, j, none⟩) (by show w.heap.size ≤ w.heap.size + 2; omega) _⟩
        obtain ⟨y, hy⟩ : ∃ y, onJ l j j = y := ⟨_, rfl⟩
        dsimp only at c1
        rw [hy] at c1
        clear hca hx hy HA
        by_cases x0 : ¬ x < 0
        · by_cases x1 : ¬ 1000000000 < x
          · have HC : Hid (x = clampA x) := by show _ = _; unfold clampA; rw [if_neg (by omega), if_pos (by omega)]
            go_wp2
            go_roundw
            case rel => exact ⟨j + 1, by go_num, by omega, (KEY.out _ HC.out).1, (KEY.out _ HC.out).2⟩
            case measure => simp [Go.RowKit.intOf]; omega
          · have x2 : 1000000000 < x := by omega
            clear x1
            have HC : Hid (1000000000 = clampA x) := by show _ = _; unfold clampA; rw [if_neg (by omega)]; split <;> omega
            go_wp2
            go_roundw
            case rel => exact ⟨j + 1, by go_num, by omega, (KEY.out _ HC.out).1, (KEY.out _ HC.out).2⟩
            case measure => simp [Go.RowKit.intOf]; omega
        · have x2 : x < 0 := by omega
          clear x0
          have HC : Hid (0 = clampA x) := by show _ = _; unfold clampA; split <;> (try split) <;> omega
          go_wp2
          go_roundw
          case rel => exact ⟨j + 1, by go_num, by omega, (KEY.out _ HC.out).1, (KEY.out _ HC.out).2⟩
          case measure => simp [Go.RowKit.intOf]; omega
      · have q1 : ¬ (j : Int) < ((l.length : Nat) : Int) := by omega
        have hjm : j = l.length := by omega
        subst hjm
        have HE : Hid (∀ k : Nat, k < 8 → onJ l l.length k = (newQ l).f k) := fun k hk => onJ_endP (by omega) hk
        clear HA
        go_wp2
        go_ret
        first | exact ⟨_, rfl, ⟨_, _, ⟨HK.out.congr HE.out rfl rfl, GoodQ.new l⟩⟩, HB.out⟩ | exact ⟨_, _, _, rfl, ⟨HK.out.congr HE.out rfl rfl, GoodQ.new l⟩, HB.out⟩
  · have h9 : (8 : Int) < (l.length : Int) := by omega
    have hc8 : (8 : Int) ≤ (cap : Int) := by omega
    clear h8
    go_enter Tryz.func66, Tryz.ntmps66
    go_wp2
    go_loopw [16] (fun i wr => NRel w l 8 i wr) (fun i _ => 8 - (Go.RowKit.intOf i).toNat)
    case atStart => exact ⟨0, rfl, Nat.zero_le _, HS, bel_al (bel_al (bel_al (Below.refl _ _) _) _) _⟩
    case round =>
      obtain ⟨j, rfl, hj, HK, HB⟩ := hrel
      clear HS
      by_cases hlt : j < 8
      · have q1 : (j : Int) < ((8 : Nat) : Int) := by omega
        have hjl : j < l.length := by omega
        have hj8 : (j : Int) < 8 := by omega
        rcases HA.out.below HB.out with h0 | ⟨ab, off, rfl, hca⟩
        · rw [h0] at hjl; simp at hjl
        have c0 := hca j hjl
        obtain ⟨x, hx⟩ : ∃ x, l.getD j 0 = x := ⟨_, rfl⟩
        rw [hx] at c0
        have c1 := HK.out.cellF (i := j) (by omega)
        have f1 := HK.out.frozen j
        have KEY : Hid (∀ v, v = clampA x → Pk0 w.heap.size (wr.setCell ⟨w.heap.size + 2, j, none⟩ (.int .i64 v)) (w.heap.size + 2) w.heap.size (w.heap.size + 1) ⟨onJ l (j + 1), fun _ => none, fun _ => none⟩ 0 ∧ Below w.heap.size w (wr.setCell ⟨w.heap.size + 2, j, none⟩ (.int .i64 v))) := fun v hv => by
          have := HK.out.setF (i := j) (by omega) v
          rw [hv, ← hx, onJ_step] at this
          rw [hv, ← hx]
          exact ⟨this, HB.out.setCell (p := ⟨w.heap.size + 2, j, none⟩) (by show w.heap.size ≤ w.heap.size + 2; omega) _⟩
        obtain ⟨y, hy⟩ : ∃ y, onJ l j j = y := ⟨_, rfl⟩
        dsimp only at c1
        rw [hy] at c1
        clear hca hx hy HA
        by_cases x0 : ¬ x < 0
        · by_cases x1 : ¬ 1000000000 < x
          · have HC : Hid (x = clampA x) := by show _ = _; unfold clampA; rw [if_neg (by omega), if_pos (by omega)]
            go_wp2
            go_roundw
            case rel => exact ⟨j + 1, by go_num, by omega, (KEY.out _ HC.out).1, (KEY.out _ HC.out).2⟩
            case measure => simp [Go.RowKit.intOf]; omega
          · have x2 : 1000000000 < x := by omega
            clear x1
            have HC : Hid (1000000000 = clampA x) := by show _ = _; unfold clampA; rw [if_neg (by omega)]; split <;> omega
            go_wp2
            go_roundw
            case rel => exact ⟨j + 1, by go_num, by omega, (KEY.out _ HC.out).1, (KEY.out _ HC.out).2⟩
            case measure => simp [Go.RowKit.intOf]; omega
        · have x2 : x < 0 := by omega
          clear x0
          have HC : Hid (0 = clampA x) := by show _ = _; unfold clampA; split <;> (try split) <;> omega
          go_wp2
          go_roundw
          case rel => exact ⟨j + 1, by go_num, by omega, (KEY.out _ HC.out).1, (KEY.out _ HC.out).2⟩
          case measure => simp [Go.RowKit.intOf]; omega
      · have q1 : ¬ (j : Int) < ((8 : Nat) : Int) := by omega
        have hjm : j = 8 := by omega
        subst hjm
        have HE : Hid (∀ k : Nat, k < 8 → onJ l 8 k = (newQ l).f k) := fun k hk => onJ_endP (by omega) hk
        clear HA
        go_wp2
        go_ret
        first | exact ⟨_, rfl, ⟨_, _, ⟨HK.out.congr HE.out rfl rfl, GoodQ.new l⟩⟩, HB.out⟩ | exact ⟨_, _, _, rfl, ⟨HK.out.congr HE.out rfl rfl, GoodQ.new l⟩, HB.out⟩
end Go.Proofs.YtepclljoiccieaaGreatDoor.Gd.Pu
/-
  The reference's book of money: its block of eleven cells, its maps. Contracts of NewPurse, Allowed, Void, Capture.
-/
namespace Go.Proofs.YtepclljoiccieaaGreatDoor.Gd.Pu
open Go.ChangeShapes Go.WideShapes Go.ChangeAt Go.RowKit Go.Maps

theorem zeroC (w : World) : (zeroValue 128).run Tryz.prog w = .ok (pairV (0, 0)) w := by kernel_rfl
theorem claimAt (x y : Int) (W : World) : (Instr.field 128 (.agg #[.int .i64 x, .int .i64 y]) 0).run Tryz.prog W = .ok (.int .i64 x) W := by kernel_rfl
theorem claimN (x y : Int) (W : World) : (Instr.field 128 (.agg #[.int .i64 x, .int .i64 y]) 1).run Tryz.prog W = .ok (.int .i64 y) W := by kernel_rfl
def pcs (m : Int → Int) (b : Nat) (t : Int) (c : Nat) : List Value := rowc m ++ [.map (some b), .int .i64 t, .map (some c)]
section
variable (m : Int → Int) (b : Nat) (t : Int) (c : Nat)
theorem pcs_m {i : Nat} (hi : i < 8) : (pcs m b t c)[i]? = some (.int .i64 (m i)) := by
  unfold pcs
  rw [List.getElem?_append_left (by rw [rowc_len]; exact hi), rowc_at _ hi]
theorem pcs_8 : (pcs m b t c)[8]? = some (.map (some b)) := by
  unfold pcs
  rw [List.getElem?_append_right (by rw [rowc_len]; omega), rowc_len]
  rfl
theorem pcs_9 : (pcs m b t c)[9]? = some (.int .i64 t) := by
  unfold pcs
  rw [List.getElem?_append_right (by rw [rowc_len]; omega), rowc_len]
  rfl
theorem pcs_10 : (pcs m b t c)[10]? = some (.map (some c)) := by
  unfold pcs
  rw [List.getElem?_append_right (by rw [rowc_len]; omega), rowc_len]
  rfl
theorem pcs_setm {i : Nat} (hi : i < 8) (v : Int) : (pcs m b t c).set i (.int .i64 v) = pcs (upd m i v) b t c := by
  unfold pcs
  rw [List.set_append_left _ _ (by rw [rowc_len]; exact hi), rowc_put _ hi]
theorem pcs_sett (v : Int) : (pcs m b t c).set 9 (.int .i64 v) = pcs m b v c := by
  unfold pcs
  rw [List.set_append_right _ _ (by rw [rowc_len]; omega), rowc_len]
  rfl
end
/-- The reference's book at q, its maps at b and c. -/
def Rp (B : Nat) (w : World) (q b c : Nat) (s : Pb) (n : Nat) : Prop :=
  w.heap[q]? = some (.cells (pcs s.m b s.till c).toArray 102 (0, 0)) ∧ (B ≤ q ∧ B ≤ b ∧ B ≤ c ∧ b ≠ c) ∧ Mp w b n s.a ∧ Mi w c n s.p
/-- The blocks that a step on it may turn. -/
def Own3 (q b c : Nat) (k : Nat) (_ : Obj) : Prop := k = q ∨ k = b ∨ k = c
section
variable {B : Nat} {w w' : World} {q b c : Nat} {s : Pb} {n : Nat}
theorem Rp.lt (k : Rp B w q b c s n) : q < w.heap.size := (Array.getElem?_eq_some_iff.1 k.1).1
theorem Rp.low (k : Rp B w q b c s n) : B ≤ w.heap.size := by have := k.lt; have := k.2.1.1; omega
theorem Rp.nea (k : Rp B w q b c s n) : b ≠ q := k.2.2.1.ne k.1
theorem Rp.ned (k : Rp B w q b c s n) : c ≠ q := k.2.2.2.ne k.1
theorem Rp.mono {n' : Nat} (k : Rp B w q b c s n) (hn : n ≤ n') : Rp B w q b c s n' := ⟨k.1, k.2.1, k.2.2.1.mono hn, k.2.2.2.mono hn⟩
theorem Rp.kept {E : Nat → Obj → Prop} (k : Rp B w q b c s n) (hk : Rg.Kept E w w') (hp : ∀ o, ¬ E q o) (hb : ∀ o, ¬ E b o) (hc : ∀ o, ¬ E c o) : Rp B w' q b c s n :=
  ⟨hk.block _ _ k.1 (hp _), k.2.1, k.2.2.1.kept hk hb, k.2.2.2.kept hk hc⟩
theorem Rp.on (k : Rp B w q b c s n) (hb : Below w.heap.size w w') : Rp B w' q b c s n :=
  k.kept (E := fun _ _ => False) (Rg.Kept.of_below hb) (fun _ h => h) (fun _ h => h) (fun _ h => h)
theorem Rp.bel (k : Rp B w q b c s n) (hk : Rg.Kept (Own3 q b c) w w') : Below B w w' :=
  hk.bel k.low (fun i _ e => by have := k.2.1; rcases e with e | e | e <;> omega)
theorem Rp.cellM (k : Rp B w q b c s n) {i : Nat} (hi : i < 8) : w.cell? ⟨q, i, none⟩ = some (.int .i64 (s.m i)) := by
  rw [cell_of k.1, List.getElem?_toArray]; exact pcs_m _ _ _ _ hi
theorem Rp.cellA (k : Rp B w q b c s n) : w.cell? ⟨q, 8, none⟩ = some (.map (some b)) := by
  rw [cell_of k.1, List.getElem?_toArray]; exact pcs_8 _ _ _ _
theorem Rp.cellT (k : Rp B w q b c s n) : w.cell? ⟨q, 9, none⟩ = some (.int .i64 s.till) := by
  rw [cell_of k.1, List.getElem?_toArray]; exact pcs_9 _ _ _ _
theorem Rp.cellP (k : Rp B w q b c s n) : w.cell? ⟨q, 10, none⟩ = some (.map (some c)) := by
  rw [cell_of k.1, List.getElem?_toArray]; exact pcs_10 _ _ _ _
theorem Rp.frozen (k : Rp B w q b c s n) (i : Nat) : w.frozen? ⟨q, i, none⟩ = false := frozen_of_row _ _ _ _ _ k.1
theorem Mp.set {r : Int → Option (Int × Int)} {a : Addr} (k : Mp w b n r) (h : b ≠ a.block) (v : Value) : Mp (w.setCell a v) b n r := by obtain ⟨D, h1, h2⟩ := k; exact ⟨D, h1.setCell h _, h2⟩
theorem Mi.set {r : Int → Int} {a : Addr} (k : Mi w b n r) (h : b ≠ a.block) (v : Value) : Mi (w.setCell a v) b n r := by obtain ⟨D, h1, h2⟩ := k; exact ⟨D, h1.setCell h _, h2⟩
theorem Rp.setM (k : Rp B w q b c s n) {i : Nat} (hi : i < 8) (v : Int) : Rp B (w.setCell ⟨q, i, none⟩ (.int .i64 v)) q b c ⟨upd s.m i v, s.a, s.till, s.p⟩ n := by
  have hnea := k.nea
  have hned := k.ned
  obtain ⟨h1, h2, h3, h4⟩ := k
  refine ⟨?_, h2, h3.set hnea _, h4.set hned _⟩
  rw [heap_setCell_same _ _ _ _ _ _ h1, ← pcs_setm s.m b s.till c hi v, List.setIfInBounds_toArray]
theorem Rp.setT (k : Rp B w q b c s n) (v : Int) : Rp B (w.setCell ⟨q, 9, none⟩ (.int .i64 v)) q b c ⟨s.m, s.a, v, s.p⟩ n := by
  have hnea := k.nea
  have hned := k.ned
  obtain ⟨h1, h2, h3, h4⟩ := k
  refine ⟨?_, h2, h3.set hnea _, h4.set hned _⟩
  rw [heap_setCell_same _ _ _ _ _ _ h1, ← pcs_sett s.m b s.till c v, List.setIfInBounds_toArray]
end
/-- A look-up in a map of claims. -/
theorem Mp.lookC {w : World} {b n : Nat} {r : Int → Option (Int × Int)} (k : Mp w b n r) {id : Int} (hw : (Lit.int .i64 id).wf = true) :
    (Instr.lookup 98 (.map (some b)) (.int .i64 id) false).run Tryz.prog w = .ok (pairV ((r id).getD (0, 0))) w := by
  obtain ⟨D, h5, h6⟩ := k
  exact look_pair h5 Tryz.underlying3 Tryz.underlying98 (zeroC _) h6 hw
/-- m[id] = Claim{x, y} -/
theorem Mp.putC {w : World} {b n : Nat} {r : Int → Option (Int × Int)} (k : Mp w b n r) {id : Int} (hw : (Lit.int .i64 id).wf = true) (hn : n < 1000000) (x y : Int) :
    ∃ w1, (Instr.mapUpdate 98 (.map (some b)) (.int .i64 id) (.agg #[.int .i64 x, .int .i64 y])).run Tryz.prog w = .ok () w1 ∧ Mp w1 b (n + 1) (updO r id (some (x, y))) ∧ Rg.Kept (fun i _ => i = b) w w1 := by
  obtain ⟨D, h5, h6⟩ := k
  obtain ⟨w1, hrun, o1, t1⟩ := h5.store lawI Tryz.underlying98 (by unfold maxLen; omega) (keyOf_int_mk Tryz.underlying3 hw) (pairElem_mk (x, y))
  exact ⟨w1, hrun, ⟨_, o1, h6.put id (x, y)⟩, Rg.Kept.grown t1.grown (fun i _ e => (by cases e; rfl))⟩
/-- delete(m, id) -/
theorem Rp.gone {B : Nat} {w0 w w1 : World} {q b c : Nat} {s : Pb} {n : Nat} {id : Int} (k : Rp B w q b c s n) (kk : Rg.Kept (Own3 q b c) w0 w) {D : DataW Unit} (hf : FitsG encP D s.a) (o1 : w1.ownsMap Tryz.prog 3 pairElem b n (D.del (.int .i64 id))) (t1 : w.mapTurned w1 b) :
    Rp B w1 q b c ⟨s.m, updO s.a id none, s.till, s.p⟩ n ∧ Rg.Kept (Own3 q b c) w0 w1 := by
  have hnea := k.nea
  have kp : Rg.Kept (fun i _ => i = b) w w1 := Rg.Kept.grown t1.grown (fun i _ e => (by cases e; rfl))
  exact ⟨⟨kp.block _ _ k.1 (fun e => hnea e.symm), k.2.1, ⟨_, o1, hf.del id⟩, k.2.2.2.kept kp (fun _ e => k.2.1.2.2.2 e.symm)⟩, kk.trans (kp.mono (fun _ _ e => .inr (.inl e)))⟩

theorem rp_start (u : World) (l : List Int) : Rp u.heap.size (((u.alloc (.map #[] 0)).alloc (.map #[] 0)).alloc (.cells #[.int .i64 ((newS l).on 0), .int .i64 ((newS l).on 1), .int .i64 ((newS l).on 2), .int .i64 ((newS l).on 3), .int .i64 ((newS l).on 4), .int .i64 ((newS l).on 5), .int .i64 ((newS l).on 6), .int .i64 ((newS l).on 7), .map (some u.heap.size), .int .i64 0, .map (some (u.heap.size + 1))] 102)) (u.heap.size + 2) u.heap.size (u.heap.size + 1) (newP l) 0 := by
  generalize hO : (Obj.cells #[.int .i64 ((newS l).on 0), .int .i64 ((newS l).on 1), .int .i64 ((newS l).on 2), .int .i64 ((newS l).on 3), .int .i64 ((newS l).on 4), .int .i64 ((newS l).on 5), .int .i64 ((newS l).on 6), .int .i64 ((newS l).on 7), .map (some u.heap.size), .int .i64 0, .map (some (u.heap.size + 1))] 102) = O
  have h2 := World.alloc_heap_new ((u.alloc (.map #[] 0)).alloc (.map #[] 0)) O
  rw [World.size_alloc, World.size_alloc] at h2
  have m1 : Mp (((u.alloc (.map #[] 0)).alloc (.map #[] 0)).alloc O) u.heap.size 0 (fun _ => none) := ⟨.map [], ((World.ownsMap_made _ _ _ _).alloc _).alloc _, FitsG.new _⟩
  have m2 : Mi (((u.alloc (.map #[] 0)).alloc (.map #[] 0)).alloc O) (u.heap.size + 1) 0 (fun _ => 0) := by
    have := (Mi.new (u.alloc (.map #[] 0))).on (bel_al (Below.refl _ _) O)
    rw [World.size_alloc] at this
    exact this
  refine ⟨?_, ⟨by omega, by omega, by omega, by omega⟩, m1, m2⟩
  rw [h2, ← hO]
  rfl
set_option maxRecDepth 100000 in
set_option maxHeartbeats 1000000 in
theorem rnewp_any (a : Option Addr) (l : List Int) (cap : Nat) (w : World) (ha : Ints w a l) (hl : l.length ≤ 9223372036854775807) :
    Calls Tryz.prog 68 #[.slice a l.length cap] w fun e w' => ∃ q b c, e = .returned (.pointer (some ⟨q, 0, none⟩)) ∧ Rp w.heap.size w' q b c (newP l) 0 ∧ Below w.heap.size w w' := by
  have hmm := @run_makeMap Tryz.prog
  have R := rrow_any a l cap w ha hl
  go_enter Tryz.func68, Tryz.ntmps68
  go_wp2_with (go_at_call 99; refine R.mono ?_; rintro e u ⟨rfl, hb⟩; have HB := hide hb; clear hb)
  go_ret
  obtain ⟨h1, h2, h3⟩ := rp_start u l
  have hs := HB.out.size
  exact ⟨_, _, _, rfl, ⟨h1, ⟨by omega, by omega, by omega, by omega⟩, h3⟩, bel_al (bel_al (bel_al HB.out _) _) _⟩

set_option maxRecDepth 100000 in
set_option maxRecDepth 100000 in
set_option maxHeartbeats 1000000 in
theorem rallowed_any {w : World} {b n : Nat} {r : Int → Option (Int × Int)} {q : Nat} (c8 : w.cell? ⟨q, 8, none⟩ = some (.map (some b))) (k : Mp w b n r) (g : GoodD r) (ht : sumTo (alw r) 1000 ≤ 1000000000) (x : Int) :
    Calls Tryz.prog 61 #[.pointer (some ⟨q, 0, none⟩), .int .i64 x] w fun e w' => e = .returned (.int .i64 (sumTo (resv r x) 1000)) ∧ Below w.heap.size w w' := by
  have HP : Hid (∀ y, 0 ≤ (resv r x) y) := g.posK x
  have HT : Hid (sumTo (resv r x) 1000 ≤ 1000000000) := Int.le_trans (sumTo_le (g.le x) 1000) ht
  have HG := hide g
  obtain ⟨D, hown, hfit⟩ := k
  have HFT := hide hfit
  clear hfit g ht
  go_enter Tryz.func61, Tryz.ntmps61
  go_wp2_with (first
    | (at_range; refine wpList_range_own _ rfl _ 98 rfl 3 128 lawI Tryz.underlying98 _ b n _ rfl hown ?_; intro w0 hrg0 hg0 hs0)
    | go_in)
  go_frame
  have HB0 : Hid (Below w.heap.size w w0) := (Below.refl _ _).grown hg0 (Nat.le_refl _) (fun k e => by cases e)
  clear hown hg0 hs0 c8
  go_loopw [5] (fun nv wr => SRel w D b n 0 (resv r x) nv wr) (fun _ wr => wr.rangeLeft b w.heap.size)
  case atStart => exact ⟨_, _, [], by simp, hrg0, CollectedI.start D, HB0⟩
  case round =>
    obtain ⟨left, cnt, ss, rfl, hrg, hC, HB⟩ := hrel
    clear hrg0 HB0
    have HC := hide hC
    have HRG := hide hrg
    obtain ⟨S, hS⟩ : ∃ S, (ss.map (resv r x)).sum = S := ⟨_, rfl⟩
    have HMEM : Hid (∀ y ∈ ss, 0 ≤ y ∧ y < 1000) := fun y hy => by
      have h1 := ((hC.2 y).1 hy).1
      rw [(HFT.out.2 y).2] at h1
      cases hr : r y with
      | none => rw [hr] at h1; cases h1
      | some c => have := (HG.out y c hr).1; omega
    have bS : 0 ≤ S ∧ S ≤ 1000000000 := by
      rw [← hS]
      have h1 := sum_nonneg (l := ss) HP.out
      have h2 := sum_some hC.1 HMEM.out HP.out
      have h3 := HT.out
      omega
    obtain ⟨bS1, bS2⟩ := bS
    have HS := hide hS
    rw [hS, Int.zero_add]
    clear hS
    go_wp2_with (first
      | (at_next; refine next_pair rfl _ rfl Tryz.underlying3 rfl hrg HFT.out hC ?_ ?_)
      | go_in)
    · intro hall
      have HALL := hide hall
      clear hall hrg hC
      go_wp2
      go_ret
      refine ⟨ret_int ?_, HB.out⟩
      have h1 := sum_nodup (N := 1000) ss (resv r x) HC.out.1 (fun x hx => by have := HMEM.out x hx; omega) (fun y hx => by
        unfold resv
        cases hr : r y with
        | none => rfl
        | some c => exact absurd ((HALL.out y).2 (by rw [hr]; rfl)) hx)
      have h3 := HS.out
      omega
    · intro y cx cy w1 left1 cnt1 hgy hny hrg1 hC1 hlt hg1 hs1 hen
      unfold pairV at hen
      have HB1 : Hid (Below w.heap.size w w1) := HB.out.grown hg1 HB.out.size (fun k e => by cases e; exact Nat.le_refl _)
      have HR1 := hide hrg1
      have HC1 := hide hC1
      have HLT := hide hlt
      have HSS : Hid (((ss ++ [y]).map (resv r x)).sum = S + (if cx = x then cy else 0)) := by
        show _ = _
        rw [List.map_append, List.sum_append, HS.out, List.map_singleton, List.sum_singleton]
        have e : (resv r x) y = if cx = x then cy else 0 := by unfold resv; rw [hgy]; rfl
        rw [e]
      have bT : S + (if cx = x then cy else 0) ≤ 1000000000 := by
        rw [← HSS.out]
        have h2 := sum_some (l := ss ++ [y]) hC1.1 (fun z hz => by
          rcases List.mem_append.1 hz with h | h
          · exact HMEM.out z h
          · rw [List.mem_singleton] at h; subst h; have := (HG.out _ _ hgy).1; omega) HP.out
        have h3 := HT.out
        omega
      have hcy : 1 ≤ cy := (HG.out _ _ hgy).2.2
      have NXT : Hid (∀ nv : Value, nv = .int .i64 (S + (if cx = x then cy else 0)) → SRel w D b n 0 (resv r x) nv (w1.alloc (.cells #[.int .i64 cx, .int .i64 cy] 128)) ∧ (w1.alloc (.cells #[.int .i64 cx, .int .i64 cy] 128)).rangeLeft b w.heap.size < wr.rangeLeft b w.heap.size) := fun nv hnv => by
        refine ⟨⟨left1, cnt1, ss ++ [y], ?_, HR1.out.alloc _, HC1.out, bel_al HB1.out _⟩, ?_⟩
        · rw [hnv, HSS.out, Int.zero_add]
        · rw [(HR1.out.alloc _).left_eq, ← HR1.out.left_eq]
          exact HLT.out
      clear hrg hC hrg1 hC1 hlt hgy hny hg1 hs1
      by_cases hcx : cx = x
      · rw [if_pos hcx] at bT NXT
        subst hcx
        go_wp2
        go_roundw
        case rel => exact (NXT.out _ rfl).1
        case measure => exact (NXT.out _ rfl).2
      · rw [if_neg hcx] at bT NXT
        have qc : (cx == x) = false := by simp [hcx]
        clear hcx
        go_wp2
        go_roundw
        case rel => exact (NXT.out _ (by rw [Int.add_zero])).1
        case measure => exact (NXT.out _ rfl).2
end Go.Proofs.YtepclljoiccieaaGreatDoor.Gd.Pu
/-
  Contracts of the reference's Void, Capture, Allow.
-/
namespace Go.Proofs.YtepclljoiccieaaGreatDoor.Gd.Pu
open Go.ChangeShapes Go.WideShapes Go.ChangeAt Go.RowKit Go.Maps

set_option maxRecDepth 100000 in
set_option maxHeartbeats 1000000 in
theorem rvoid_any {B : Nat} {w : World} {q b c : Nat} {s : Pb} {n : Nat} (k : Rp B w q b c s n) (g : GoodP s) {id : Int} (hw : (Lit.int .i64 id).wf = true) :
    Calls Tryz.prog 83 #[.pointer (some ⟨q, 0, none⟩), .int .i64 id] w fun e w' => e = .returned (.int .i64 (capE s id)) ∧ Rp B w' q b c (voidS s id) n ∧ Rg.Kept (Own3 q b c) w w' := by
  have c8 := k.cellA
  have hcn := claimN
  have hl := k.2.2.1.lookC hw
  cases hz : s.a id with
  | none =>
    rw [capE_none hz, voidS_none hz]
    rw [hz] at hl
    unfold pairV at hl
    dsimp only [Option.getD] at hl
    have HK := hide k
    clear k hz g
    go_enter Tryz.func83, Tryz.ntmps83
    go_wp2
    go_ret
    exact ⟨rfl, HK.out, Rg.Kept.refl _ _⟩
  | some d =>
    obtain ⟨x, y⟩ := d
    rw [capE_some hz, voidS_some hz]
    rw [hz] at hl
    unfold pairV at hl
    dsimp only [Option.getD] at hl ⊢
    have hy : 1 ≤ y := (g.at_ _ _ hz).2.2.1
    have qy : (y == 0) = false := by simp; omega
    have hkey := keyOf_int_mk Tryz.underlying3 hw
    have HK := hide k
    obtain ⟨-, -, ⟨D, hown, hfit⟩, -⟩ := k
    have HF := hide hfit
    clear hz g hfit
    go_enter Tryz.func83, Tryz.ntmps83
    go_wp2_with (first
      | (at_delete; refine wpList_delete_own _ rfl _ _ 98 3 rfl 128 lawI Tryz.underlying98 _ b n D rfl hown _ _ rfl hkey ?_; intro w1 hown1 hturn1; have H1 := hide (HK.out.gone (Rg.Kept.refl _ _) HF.out hown1 hturn1); clear hown hown1 hturn1)
      | go_in)
    go_ret
    exact ⟨rfl, H1.out⟩

set_option maxRecDepth 100000 in
set_option maxHeartbeats 1000000 in
theorem rcap_any {B : Nat} {w : World} {q b c : Nat} {s : Pb} {n : Nat} (k : Rp B w q b c s n) (g : GoodP s) {id : Int} (hw : (Lit.int .i64 id).wf = true) (hn : n < 1000000) :
    Calls Tryz.prog 82 #[.pointer (some ⟨q, 0, none⟩), .int .i64 id] w fun e w' => e = .returned (.int .i64 (capE s id)) ∧ Rp B w' q b c (capS s id) (n + 1) ∧ Rg.Kept (Own3 q b c) w w' := by
  have c8 := k.cellA
  have hl := k.2.2.1.lookC hw
  cases hz : s.a id with
  | none =>
    rw [capE_none hz, capS_none hz]
    rw [hz] at hl
    unfold pairV at hl
    dsimp only [Option.getD] at hl
    have HK := hide (k.mono (Nat.le_succ _))
    clear k hz g
    go_enter Tryz.func82, Tryz.ntmps82
    go_wp2
    go_ret
    exact ⟨rfl, HK.out.on (bel_al (Below.refl _ _) _), Rg.Kept.of_below (bel_al (Below.refl _ _) _)⟩
  | some d =>
    obtain ⟨x, y⟩ := d
    rw [capE_some hz, capS_some hz]
    rw [hz] at hl
    unfold pairV at hl
    dsimp only [Option.getD] at hl ⊢
    obtain ⟨a1, a2, a3, a4⟩ := g.at_ id _ hz
    have a5 := g.le hz
    dsimp only at a2 a3 a5
    have a6 := g.low x a2.1 a2.2
    have a7 := g.top x a2.1 a2.2
    have a8 := g.over
    have a9 := g.tnn
    have qy : (y == 0) = false := by simp; omega
    obtain ⟨i, rfl⟩ : ∃ i : Nat, x = i := ⟨x.toNat, by omega⟩
    have hi : (i : Int) < 8 := a2.2
    have hi8 : i < 8 := by omega
    have c0 := k.cellM hi8
    have f0 := k.frozen i
    have hlt := k.lt
    have hkey := keyOf_int_mk Tryz.underlying3 hw
    obtain ⟨v, hv⟩ : ∃ v, s.m i = v := ⟨_, rfl⟩
    obtain ⟨t, ht⟩ : ∃ t, s.till = t := ⟨_, rfl⟩
    rw [hv] at c0 a6 a7
    rw [ht] at a8 a9
    have bv1 : 1 ≤ v := by omega
    have bv2 : y ≤ v := by omega
    have bt2 : t + y ≤ 1000000000 := by omega
    -- behind the first store
    have k1 : Rp B (((w.setCell ⟨q, i, none⟩ (.int .i64 (v - y))).alloc (.cells #[.int .i64 i, .int .i64 y] 128)).drew) q b c ⟨upd s.m i (v - y), s.a, s.till, s.p⟩ n := (k.setM hi8 (v - y)).on (bel_al (Below.refl _ _) _).drew
    have kk1 : Rg.Kept (Own3 q b c) w (((w.setCell ⟨q, i, none⟩ (.int .i64 (v - y))).alloc (.cells #[.int .i64 i, .int .i64 y] 128)).drew) := (Rg.Kept.setCell _ (fun _ => .inl rfl)).trans (Rg.Kept.of_below (bel_al (Below.refl _ _) _).drew)
    have hx1 : (((w.setCell ⟨q, i, none⟩ (.int .i64 (v - y))).alloc (.cells #[.int .i64 i, .int .i64 y] 128)).drew).cell? ⟨w.heap.size, 1, none⟩ = some (.int .i64 y) := by
      have := World.alloc_heap_new (w.setCell ⟨q, i, none⟩ (.int .i64 (v - y))) (.cells #[.int .i64 i, .int .i64 y] 128)
      rw [show (w.setCell ⟨q, i, none⟩ (.int .i64 (v - y))).heap.size = w.heap.size by simp] at this
      exact (cell_of this).trans rfl
    obtain ⟨W1, hW1⟩ : ∃ W1, ((w.setCell ⟨q, i, none⟩ (.int .i64 (v - y))).alloc (.cells #[.int .i64 i, .int .i64 y] 128)).drew = W1 := ⟨_, rfl⟩
    rw [hW1] at k1 kk1 hx1
    have hsz : w.heap.size < W1.heap.size := World.block_lt_of_cell? _ _ hx1
    have d9 := k1.cellT
    have e9 := k1.frozen 9
    have hltq := k1.lt
    rw [show (⟨upd s.m i (v - y), s.a, s.till, s.p⟩ : Pb).till = t from ht] at d9
    -- behind the second one, and what was paid
    have hqw : q ≠ w.heap.size := by omega
    have k2 : Rp B ((W1.setCell ⟨q, 9, none⟩ (.int .i64 (t + y))).drew) q b c ⟨upd s.m i (v - y), s.a, t + y, s.p⟩ n := (k1.setT (t + y)).on (Below.refl _ _).drew
    have kk2 : Rg.Kept (Own3 q b c) w ((W1.setCell ⟨q, 9, none⟩ (.int .i64 (t + y))).drew) := kk1.trans ((Rg.Kept.setCell _ (fun _ => .inl rfl)).trans (Rg.Kept.of_below (Below.refl _ _).drew))
    have hx2 : ((W1.setCell ⟨q, 9, none⟩ (.int .i64 (t + y))).drew).cell? ⟨w.heap.size, 1, none⟩ = some (.int .i64 y) := by
      have e : ((W1.setCell ⟨q, 9, none⟩ (.int .i64 (t + y))).drew).heap[w.heap.size]? = W1.heap[w.heap.size]? := Below.heap_setCell _ _ _ _ (fun e => hqw e.symm)
      rw [World.cell?_of_block (a := ⟨w.heap.size, 1, none⟩) e]
      exact hx1
    obtain ⟨W2, hW2⟩ : ∃ W2, (W1.setCell ⟨q, 9, none⟩ (.int .i64 (t + y))).drew = W2 := ⟨_, rfl⟩
    rw [hW2] at k2 kk2 hx2
    have d10 := k2.cellP
    have k2d : Rp B W2.drew q b c ⟨upd s.m i (v - y), s.a, t + y, s.p⟩ n := k2.on (Below.refl _ _).drew
    have kk2d : Rg.Kept (Own3 q b c) w W2.drew := kk2.trans (Rg.Kept.of_below (Below.refl _ _).drew)
    obtain ⟨W3, hr3, hm3, hk3⟩ := k2d.2.2.2.put hw (v := y) (wf_of (by omega) (by omega)) (by omega) hn
    have hned := k2d.ned
    have k3 : Rp B W3 q b c ⟨upd s.m i (v - y), s.a, t + y, upd s.p id y⟩ (n + 1) := ⟨hk3.block _ _ k2d.1 (fun e => hned e.symm), k2d.2.1, (k2d.2.2.1.mono (Nat.le_succ _)).kept hk3 (fun _ e => k2d.2.1.2.2.2 e), hm3⟩
    have kk3 : Rg.Kept (Own3 q b c) w W3 := kk2d.trans (hk3.mono (fun _ _ e => .inr (.inr e)))
    have d8 := k3.cellA
    have HK3 := hide k3
    have HKK3 := hide kk3
    obtain ⟨-, -, ⟨D, hown, hfit⟩, -⟩ := k3
    have HF := hide hfit
    rw [show s.m i - y = v - y by rw [hv], show s.till + y = t + y by rw [ht]]
    clear k hz g kk1 k1 a1 a2 a5 a6 a8 hv k2 kk2 k2d kk2d hm3 hk3 hned hfit kk3 ht
    go_enter Tryz.func82, Tryz.ntmps82
    go_wp2
    go_region
    clear c8 hl c0 f0 hW1
    go_wp2
    go_region
    clear hW2
    go_wp2
    go_region
    go_wp2_with (first
      | (at_delete; refine wpList_delete_own _ rfl _ _ 98 3 rfl 128 lawI Tryz.underlying98 _ b (n + 1) D rfl hown _ _ rfl hkey ?_; intro w1 hown1 hturn1; have H1 := hide (HK3.out.gone HKK3.out HF.out hown1 hturn1); clear hown hown1 hturn1)
      | go_in)
    go_ret
    exact ⟨rfl, H1.out⟩
end Go.Proofs.YtepclljoiccieaaGreatDoor.Gd.Pu
/-
  Contract of the reference's Allow.
-/
namespace Go.Proofs.YtepclljoiccieaaGreatDoor.Gd.Pu
open Go.ChangeShapes Go.WideShapes Go.ChangeAt Go.RowKit Go.Maps

set_option maxRecDepth 100000 in
set_option maxRecDepth 100000 in
set_option maxHeartbeats 2000000 in
theorem ralw_any {B : Nat} {w : World} {q b c : Nat} {s : Pb} {n : Nat} (k : Rp B w q b c s n) (g : GoodP s) {id : Int} (hw : (Lit.int .i64 id).wf = true) (x p : Int) (hn : n < 1000000) :
    Calls Tryz.prog 79 #[.pointer (some ⟨q, 0, none⟩), .int .i64 id, .int .i64 x, .int .i64 p] w fun e w' => e = .returned (.int .i64 (alwE s id x p)) ∧ Rp B w' q b c (alwS s id x p) (n + 1) ∧ Rg.Kept (Own3 q b c) w w' := by
  have no : ∀ c', alwE s id x p = c' → c' ≠ 0 → ∀ w', Below w.heap.size w w' → Rp B w' q b c (alwS s id x p) (n + 1) := fun c' e hc w' hb => by
    rw [alwS_no (by omega)]
    exact (k.on hb).mono (by omega)
  have hcn := claimN
  have gd : GoodD s.a := fun y d h => ⟨(g.at_ y d h).1, (g.at_ y d h).2.1, (g.at_ y d h).2.2.1⟩
  cases hi : isI id
  · have e0 : alwE s id x p = 1 := alwE_arg (fun h => by rw [hi] at h; cases h.1)
    have NO := hide (no 1 e0 (by omega))
    rw [e0]
    clear no e0 k
    go_enter Tryz.func79, Tryz.ntmps79
    go_wp2_with (first
        | (go_at_call 45; refine (rid_any _ _).mono ?_; rintro e w' ⟨rfl, rfl⟩)
        | (go_at_call 92; refine (rplace_any _ _).mono ?_; rintro e w' ⟨rfl, rfl⟩)
        | (go_at_call 115; refine (rabove_any _ _).mono ?_; rintro e w' ⟨rfl, rfl⟩))
    go_ret
    exact ⟨rfl, NO.out _ (Below.refl _ _), Rg.Kept.refl _ _⟩
  · cases hx : isIt x
    · have e0 : alwE s id x p = 1 := alwE_arg (fun h => by rw [hx] at h; cases h.2.1)
      have NO := hide (no 1 e0 (by omega))
      rw [e0]
      clear no e0 k
      go_enter Tryz.func79, Tryz.ntmps79
      go_wp2_with (first
        | (go_at_call 45; refine (rid_any _ _).mono ?_; rintro e w' ⟨rfl, rfl⟩)
        | (go_at_call 92; refine (rplace_any _ _).mono ?_; rintro e w' ⟨rfl, rfl⟩)
        | (go_at_call 115; refine (rabove_any _ _).mono ?_; rintro e w' ⟨rfl, rfl⟩))
      go_ret
      exact ⟨rfl, NO.out _ (Below.refl _ _), Rg.Kept.refl _ _⟩
    · cases hq : aboveB p
      · have e0 : alwE s id x p = 1 := alwE_arg (fun h => by unfold aboveB at hq; simp at hq; omega)
        have NO := hide (no 1 e0 (by omega))
        rw [e0]
        clear no e0 k
        go_enter Tryz.func79, Tryz.ntmps79
        go_wp2_with (first
        | (go_at_call 45; refine (rid_any _ _).mono ?_; rintro e w' ⟨rfl, rfl⟩)
        | (go_at_call 92; refine (rplace_any _ _).mono ?_; rintro e w' ⟨rfl, rfl⟩)
        | (go_at_call 115; refine (rabove_any _ _).mono ?_; rintro e w' ⟨rfl, rfl⟩))
        go_ret
        exact ⟨rfl, NO.out _ (Below.refl _ _), Rg.Kept.refl _ _⟩
      · have hq2 : 1 ≤ p ∧ p ≤ 1000000000 := by unfold aboveB at hq; simpa using hq
        have hall : isI id = true ∧ isIt x = true ∧ 1 ≤ p ∧ p ≤ 1000000000 := ⟨hi, hx, hq2⟩
        have c8 := k.cellA
        have c10 := k.cellP
        have hl := k.2.2.1.lookC hw
        have hl2 := k.2.2.2.look hw
        cases hz : s.a id with
        | some d =>
          obtain ⟨x1, y1⟩ := d
          rw [hz] at hl
          unfold pairV at hl
          dsimp only [Option.getD] at hl
          have hy : y1 > 0 := by have := (g.at_ _ _ hz).2.2.1; dsimp only at this; omega
          have hsome : (s.a id).isSome = true ∨ s.p id ≠ 0 := .inl (by rw [hz]; rfl)
          clear gd hl2
          have e0 : alwE s id x p = 8 := alwE_two hall hsome
          have NO := hide (no 8 e0 (by omega))
          rw [e0]
          clear no e0 k hz g hall hsome
          go_enter Tryz.func79, Tryz.ntmps79
          go_wp2_with (first
        | (go_at_call 45; refine (rid_any _ _).mono ?_; rintro e w' ⟨rfl, rfl⟩)
        | (go_at_call 92; refine (rplace_any _ _).mono ?_; rintro e w' ⟨rfl, rfl⟩)
        | (go_at_call 115; refine (rabove_any _ _).mono ?_; rintro e w' ⟨rfl, rfl⟩))
          go_ret
          exact ⟨rfl, NO.out _ (Below.refl _ _), Rg.Kept.refl _ _⟩
        | none =>
          rw [hz] at hl
          unfold pairV at hl
          dsimp only [Option.getD] at hl
          have hpn := g.pnn id
          by_cases hp : s.p id ≠ 0
          · have hp2 : s.p id > 0 := by omega
            obtain ⟨pv, hpv⟩ : ∃ pv, s.p id = pv := ⟨_, rfl⟩
            rw [hpv] at hl2 hp2
            clear gd
            have e0 : alwE s id x p = 8 := alwE_two hall (.inr hp)
            have NO := hide (no 8 e0 (by omega))
            rw [e0]
            clear no e0 k hz g hall hp hpv hpn
            go_enter Tryz.func79, Tryz.ntmps79
            go_wp2_with (first
        | (go_at_call 45; refine (rid_any _ _).mono ?_; rintro e w' ⟨rfl, rfl⟩)
        | (go_at_call 92; refine (rplace_any _ _).mono ?_; rintro e w' ⟨rfl, rfl⟩)
        | (go_at_call 115; refine (rabove_any _ _).mono ?_; rintro e w' ⟨rfl, rfl⟩))
            go_ret
            exact ⟨rfl, NO.out _ (Below.refl _ _), Rg.Kept.refl _ _⟩
          · have hp0 : s.p id = 0 := by omega
            rw [hp0] at hl2
            obtain ⟨g0, g1⟩ := isIt_iff.1 hx
            have b1 := g.low x g0 g1
            have b2 := g.alwK_nn x
            have b3 := g.top x g0 g1
            have b4 := g.over
            have b5 := g.allA_nn
            have b6 := g.tnn
            obtain ⟨i, rfl⟩ : ∃ i : Nat, x = i := ⟨x.toNat, by omega⟩
            have hi8 : i < 8 := by omega
            have hiI : (i : Int) < 8 := g1
            have kd := k.on (Below.refl w.heap.size w).drew
            have cm := k.cellM hi8
            have hta : sumTo (alw s.a) 1000 ≤ 1000000000 := by have h : allA s = sumTo (alw s.a) 1000 := rfl; omega
            have AL := rallowed_any kd.cellA kd.2.2.1 gd hta (i : Int)
            rw [show sumTo (resv s.a (i : Int)) 1000 = alwK s i from rfl] at AL
            have LAY : Hid (∀ u, Below w.drew.heap.size w.drew u → u.cell? ⟨q, i, none⟩ = some (.int .i64 (s.m i)) ∧ u.cell? ⟨q, 8, none⟩ = some (.map (some b)) ∧ u.cell? ⟨q, 9, none⟩ = some (.int .i64 s.till) ∧ Mp u b n s.a ∧ Below w.heap.size w u) := fun u hu => ⟨(kd.on hu).cellM hi8, (kd.on hu).cellA, (kd.on hu).cellT, (kd.on hu).2.2.1, bel_on' (Below.refl _ w).drew hu⟩
            obtain ⟨M, hM⟩ : ∃ M, s.m i = M := ⟨_, rfl⟩
            obtain ⟨V, hV⟩ : ∃ V, alwK s i = V := ⟨_, rfl⟩
            obtain ⟨Tl, hT⟩ : ∃ Tl, s.till = Tl := ⟨_, rfl⟩
            obtain ⟨Al, hA⟩ : ∃ Al, allA s = Al := ⟨_, rfl⟩
            rw [hM] at b1 b3 cm
            rw [hV] at b1 b2 AL
            rw [hT] at b4 b6
            rw [hA] at b4 b5
            rw [hM, hT] at LAY
            have qw : IntKind.i64.wrap (M - V) = M - V := by rw [IntKind.wrap_i64]; omega
            by_cases hle : p ≤ M - V
            · have NOV : ¬ Tl + Al + p ≤ 1000000000 → ∀ w', Below w.heap.size w w' → alwE s id i p = 4 ∧ Rp B w' q b c (alwS s id i p) (n + 1) ∧ Rg.Kept (Own3 q b c) w w' := fun h w' hb => by
                have e0 : alwE s id i p = 4 := alwE_over hall hz hp0 (by rw [hM, hV]; exact hle) (by rw [hT, hA]; exact h)
                exact ⟨e0, no 4 e0 (by omega) w' hb, Rg.Kept.of_below hb⟩
              have PUT : Tl + Al + p ≤ 1000000000 → ∀ u, Below w.heap.size w u → u.cell? ⟨q, 8, none⟩ = some (.map (some b)) ∧ ∃ w2, (Instr.mapUpdate 98 (.map (some b)) (.int .i64 id) (.agg #[.int .i64 i, .int .i64 p])).run Tryz.prog u = .ok () w2 ∧ alwE s id i p = 0 ∧ Rp B w2 q b c (alwS s id i p) (n + 1) ∧ Rg.Kept (Own3 q b c) w w2 := fun h u hu => by
                have e0 : alwE s id i p = 0 := alwE_well hall hz hp0 (by rw [hM, hV]; exact hle) (by rw [hT, hA]; exact h)
                have k2 := k.on hu
                have hnea := k2.nea
                obtain ⟨w2, hr, m2, kp⟩ := k2.2.2.1.putC hw hn (i : Int) p
                refine ⟨k2.cellA, w2, hr, e0, ?_, (Rg.Kept.of_below hu).trans (kp.mono (fun _ _ e => .inr (.inl e)))⟩
                rw [alwS_ok e0]
                exact ⟨kp.block _ _ k2.1 (fun e => hnea e.symm), k2.2.1, m2, (k2.2.2.2.mono (Nat.le_succ _)).kept kp (fun _ e => k2.2.1.2.2.2 e.symm)⟩
              have HNOV := hide NOV
              have HPUT := hide PUT
              have HPO : Hid (∀ y, 0 ≤ alw s.a y) := gd.pos
              have HSA : Hid (sumTo (alw s.a) 1000 = Al) := hA
              have HGD := hide gd
              have qle : ¬ p > M - V := by omega
              clear no NOV PUT k kd hz hp hp0 hall hpn g gd hta hM hV hT hA hi8 g0 hle
              go_enter Tryz.func79, Tryz.ntmps79
              go_wp2_with (first
        | (go_at_call 45; refine (rid_any _ _).mono ?_; rintro e w' ⟨rfl, rfl⟩)
        | (go_at_call 92; refine (rplace_any _ _).mono ?_; rintro e w' ⟨rfl, rfl⟩)
        | (go_at_call 115; refine (rabove_any _ _).mono ?_; rintro e w' ⟨rfl, rfl⟩))
              go_region_held3 (fun w' => w'.cell? ⟨q, i, none⟩ = some (.int .i64 M)) (go_keep) (first
                | (go_at_call 61; refine AL.mono ?_; clear AL; rintro e u ⟨rfl, hbu⟩; clear cm c8 c10; obtain ⟨cm, d8, d9, hmp, hbw⟩ := LAY.out u hbu; have HBW := hide hbw; have HMP := hide hmp; clear hbu hbw hmp))
              obtain ⟨D, hown, hfit⟩ := HMP.out
              have HFT := hide hfit
              clear hfit HMP hl hl2 cm
              go_wp2_with (first
                | (at_range; refine wpList_range_own _ rfl _ 98 rfl 3 128 lawI Tryz.underlying98 _ b n _ rfl hown ?_; intro w0 hrg0 hg0 hs0)
                | go_in)
              go_frame
              have HB0 : Hid (Below u.heap.size u w0) := (Below.refl _ _).grown hg0 (Nat.le_refl _) (fun k e => by cases e)
              clear hown hg0 hs0 d8 d9
              go_loopw [9] (fun nv wr => SRel u D b n (Tl + p) (alw s.a) nv wr) (fun _ wr => wr.rangeLeft b u.heap.size)
              case atStart => exact ⟨_, _, [], by simp, hrg0, CollectedI.start D, HB0⟩
              case round =>
                obtain ⟨left, cnt, ss, rfl, hrg, hC, HB⟩ := hrel
                clear hrg0 HB0
                have HC := hide hC
                have HRG := hide hrg
                obtain ⟨S, hS⟩ : ∃ S, (ss.map (alw s.a)).sum = S := ⟨_, rfl⟩
                have HMEM : Hid (∀ y ∈ ss, 0 ≤ y ∧ y < 1000) := fun y hy => by
                  have h1 := ((hC.2 y).1 hy).1
                  rw [(HFT.out.2 y).2] at h1
                  cases hr : s.a y with
                  | none => rw [hr] at h1; cases h1
                  | some d => have := (HGD.out y d hr).1; omega
                have bS : 0 ≤ S ∧ S ≤ 1000000000 := by
                  rw [← hS]
                  have h1 := sum_nonneg (l := ss) HPO.out
                  have h2 := sum_some hC.1 HMEM.out HPO.out
                  have h3 := HSA.out
                  omega
                obtain ⟨bS1, bS2⟩ := bS
                have HS := hide hS
                rw [hS]
                clear hS
                go_wp2_with (first
                  | (at_next; refine next_pair rfl _ rfl Tryz.underlying3 rfl hrg HFT.out hC ?_ ?_)
                  | go_in)
                · intro hallk
                  have HSU : Hid (S = Al) := by
                    have h1 := sum_nodup (N := 1000) ss (alw s.a) HC.out.1 (fun x hx => by have := HMEM.out x hx; omega) (fun y hx => by
                      unfold alw
                      cases hr : s.a y with
                      | none => rfl
                      | some d => exact absurd ((hallk y).2 (by rw [hr]; rfl)) hx)
                    have h2 := HS.out
                    have h3 := HSA.out
                    show _ = _
                    omega
                  clear hallk hrg hC
                  by_cases hov : Tl + p + S > 1000000000
                  · have FIN := HNOV.out (by have := HSU.out; omega) wr (bel_on' HBW.out HB.out)
                    have HFE := hide FIN.1
                    have HFIN := hide FIN.2
                    clear FIN HNOV HPUT
                    go_wp2
                    go_ret
                    exact ⟨ret_int HFE.out.symm, HFIN.out⟩
                  · obtain ⟨d8, w2, hr2, FIN⟩ := HPUT.out (by have := HSU.out; omega) wr (bel_on' HBW.out HB.out)
                    have HFE := hide FIN.1
                    have HFIN := hide FIN.2
                    clear FIN HNOV HPUT
                    go_wp2
                    go_ret
                    exact ⟨ret_int HFE.out.symm, HFIN.out⟩
                · intro y cx cy w1 left1 cnt1 hgy hny hrg1 hC1 hlt hg1 hs1 hen
                  unfold pairV at hen
                  have HB1 : Hid (Below u.heap.size u w1) := HB.out.grown hg1 HB.out.size (fun k e => by cases e; exact Nat.le_refl _)
                  have HR1 := hide hrg1
                  have HC1 := hide hC1
                  have HLT := hide hlt
                  have HSS : Hid (((ss ++ [y]).map (alw s.a)).sum = S + cy) := by
                    show _ = _
                    rw [List.map_append, List.sum_append, HS.out, List.map_singleton, List.sum_singleton]
                    have e : (alw s.a) y = cy := by unfold alw; rw [hgy]; rfl
                    rw [e]
                  have bT : S + cy ≤ 1000000000 := by
                    rw [← HSS.out]
                    have h2 := sum_some (l := ss ++ [y]) hC1.1 (fun z hz => by
                      rcases List.mem_append.1 hz with h | h
                      · exact HMEM.out z h
                      · rw [List.mem_singleton] at h; subst h; have := (HGD.out _ _ hgy).1; omega) HPO.out
                    have h3 := HSA.out
                    omega
                  have hcy : 1 ≤ cy := (HGD.out _ _ hgy).2.2
                  have NXT : Hid (∀ nv : Value, nv = .int .i64 (Tl + p + (S + cy)) → SRel u D b n (Tl + p) (alw s.a) nv (w1.alloc (.cells #[.int .i64 cx, .int .i64 cy] 128)) ∧ (w1.alloc (.cells #[.int .i64 cx, .int .i64 cy] 128)).rangeLeft b u.heap.size < wr.rangeLeft b u.heap.size) := fun nv hnv => by
                    refine ⟨⟨left1, cnt1, ss ++ [y], ?_, HR1.out.alloc _, HC1.out, bel_al HB1.out _⟩, ?_⟩
                    · rw [hnv, HSS.out]
                    · rw [(HR1.out.alloc _).left_eq, ← HR1.out.left_eq]
                      exact HLT.out
                  clear hrg hC hrg1 hC1 hlt hgy hny hg1 hs1 HNOV HPUT
                  go_wp2
                  go_roundw
                  case rel => exact (NXT.out _ (by rw [Int.add_assoc])).1
                  case measure => exact (NXT.out _ rfl).2
            · have e0 : alwE s id i p = 9 := alwE_less hall hz hp0 (by rw [hM, hV]; exact hle)
              have NO := hide (no 9 e0 (by omega))
              rw [e0]
              have qle : p > M - V := by omega
              clear no k kd hz hp hp0 hall hpn g gd hta hM hV hT hA hi8 g0 hle e0
              go_enter Tryz.func79, Tryz.ntmps79
              go_wp2_with (first
        | (go_at_call 45; refine (rid_any _ _).mono ?_; rintro e w' ⟨rfl, rfl⟩)
        | (go_at_call 92; refine (rplace_any _ _).mono ?_; rintro e w' ⟨rfl, rfl⟩)
        | (go_at_call 115; refine (rabove_any _ _).mono ?_; rintro e w' ⟨rfl, rfl⟩))
              go_region_held3 (fun w' => w'.cell? ⟨q, i, none⟩ = some (.int .i64 M)) (go_keep) (first
                | (go_at_call 61; refine AL.mono ?_; clear AL; rintro e u ⟨rfl, hbu⟩; clear cm c8 c10; obtain ⟨cm, d8, d9, -, hbw⟩ := LAY.out u hbu; have HBW := hide hbw; clear hbu hbw))
              all_goals go_wp2
              all_goals go_ret
              all_goals exact ⟨rfl, NO.out _ HBW.out, Rg.Kept.of_below HBW.out⟩
end Go.Proofs.YtepclljoiccieaaGreatDoor.Gd.Pu
